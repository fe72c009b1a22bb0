/- VALUES OF THE CALL'S OWN: each block of such a value is its alone. -/
import Derived.Test.YtmhlipncelgmlaaRows
import Derived.Test.YtmhlipncelgmlaaVal
import Derived.Test.YtmhlipncelgmlaaValCmp
import Derived.WalkKit
import Derived.Lib.Hide
namespace Go.Proofs.Ytmhlipncelgmlaa
open Go.RowKit
set_option linter.unusedVariables false
namespace Val
/-- Block b holds the texts, and some room. -/
def StrBlock (w : World) (b : Nat) (ks : List ByteArray) : Prop := ∃ cs : Array Value, w.heap[b]? = some (.cells cs 9 (0, 0)) ∧ ks.length ≤ cs.size ∧ ∀ i, i < ks.length → cs[i]? = some (.string (ks.getD i default))
namespace VT
mutual
/-- The value v reads as the tree; its blocks are in S, each there once. -/
def Own (w : World) : VT → (Nat → Prop) → Value → Prop
  | mk k b n s l ks, S, v => ∃ (pl : Option Addr) (cl : Nat) (pk : Option Addr) (ck : Nat),
      v = .agg #[.int .i64 k, .bool b, .int .i64 n, .string s, .slice pl l.length cl, .slice pk ks.length ck] ∧
      l.length ≤ cl ∧ cl ≤ maxLen ∧ ks.length ≤ ck ∧ ck ≤ maxLen ∧
      (0 < ks.length → ∃ kb, pk = some ⟨kb, 0, none⟩ ∧ S kb ∧ StrBlock w kb ks) ∧
      (0 < l.length → ∃ lb S', pl = some ⟨lb, 0, none⟩ ∧ S lb ∧ (∃ cs, w.heap[lb]? = some (.cells cs 25 (0, 0)) ∧ l.length * 6 ≤ cs.size) ∧ (∀ k, S' k → S k ∧ k ≠ lb ∧ pk ≠ some ⟨k, 0, none⟩) ∧ OwnL w lb l 0 S')
def OwnL (w : World) (lb : Nat) : List VT → Nat → (Nat → Prop) → Prop
  | [], _, _ => True
  | t :: ts, o, S => ∃ S1 S2 : Nat → Prop, (∀ k, S1 k → S k) ∧ (∀ k, S2 k → S k ∧ ¬ S1 k) ∧
      (∃ c0 c1 c2 c3 c4 c5 : Value, w.cell? ⟨lb, o, none⟩ = some c0 ∧ w.cell? ⟨lb, o + 1, none⟩ = some c1 ∧ w.cell? ⟨lb, o + 2, none⟩ = some c2 ∧ w.cell? ⟨lb, o + 3, none⟩ = some c3 ∧ w.cell? ⟨lb, o + 4, none⟩ = some c4 ∧ w.cell? ⟨lb, o + 5, none⟩ = some c5 ∧
        Own w t S1 (.agg #[c0, c1, c2, c3, c4, c5])) ∧ OwnL w lb ts (o + 6) S2
end
theorem cell_of {w : World} {b i : Nat} {cs : Array Value} {t : TypeId} {v : Value} (h : w.heap[b]? = some (.cells cs t (0, 0))) (hi : cs[i]? = some v) : w.cell? ⟨b, i, none⟩ = some v := by
  simp [World.cell?, h, hi]
mutual
/-- It reads as the tree. -/
theorem Own.toIn {w : World} {B : Nat} : ∀ {t : VT} {S : Nat → Prop} {v : Value}, Own w t S v → (∀ k, S k → k < B) → In w B t v
  | mk k b n s l ks, S, v, h, hS => by
    unfold Own at h
    unfold In
    obtain ⟨pl, cl, pk, ck, e, h1, h2, h3, h4, hk, hl⟩ := h
    refine ⟨pl, cl, pk, ck, e, h1, h2, h3, h4, fun h0 => ?_, fun h0 => ?_⟩
    · obtain ⟨kb, ep, hkb, cs, hb, hsz, hc⟩ := hk h0
      exact ⟨kb, 0, ep, hS kb hkb, fun i hi => by rw [Nat.zero_add]; exact cell_of hb (hc i hi)⟩
    · obtain ⟨lb, S', ep, hlb, -, hS', hL⟩ := hl h0
      exact ⟨lb, 0, ep, hS lb hlb, OwnL.toIn hL (fun k hk => hS k (hS' k hk).1)⟩
theorem OwnL.toIn {w : World} {B lb : Nat} : ∀ {l : List VT} {o : Nat} {S : Nat → Prop}, OwnL w lb l o S → (∀ k, S k → k < B) → InL w B lb o l
  | [], _, _, _, _ => by unfold InL; trivial
  | t :: ts, o, S, h, hS => by
    unfold OwnL at h
    unfold InL
    obtain ⟨S1, S2, h1, h2, ⟨c0, c1, c2, c3, c4, c5, e0, e1, e2, e3, e4, e5, ht⟩, hts⟩ := h
    exact ⟨⟨c0, c1, c2, c3, c4, c5, e0, e1, e2, e3, e4, e5, Own.toIn ht (fun k hk => hS k (h1 k hk))⟩, OwnL.toIn hts (fun k hk => hS k (h2 k hk).1)⟩
end
mutual
/-- What keeps its blocks keeps it. -/
theorem Own.keeps {X : Nat → Prop} {w w' : World} (hk : Keeps X w w') : ∀ {t : VT} {S : Nat → Prop} {v : Value}, Own w t S v → (∀ k, S k → k < w.heap.size ∧ ¬ X k) → Own w' t S v
  | mk k b n s l ks, S, v, h, hS => by
    unfold Own at h ⊢
    obtain ⟨pl, cl, pk, ck, e, h1, h2, h3, h4, hks, hl⟩ := h
    refine ⟨pl, cl, pk, ck, e, h1, h2, h3, h4, fun h0 => ?_, fun h0 => ?_⟩
    · obtain ⟨kb, ep, hkb, cs, hb, hsz, hc⟩ := hks h0
      exact ⟨kb, ep, hkb, cs, (hk.block kb (hS kb hkb).1 (hS kb hkb).2).trans hb, hsz, hc⟩
    · obtain ⟨lb, S', ep, hlb, ⟨cs, hb, hsz⟩, hS', hL⟩ := hl h0
      exact ⟨lb, S', ep, hlb, ⟨cs, (hk.block lb (hS lb hlb).1 (hS lb hlb).2).trans hb, hsz⟩, hS', OwnL.keeps hk (fun i _ => hk.cell (p := ⟨lb, i, none⟩) (hS lb hlb).1 (hS lb hlb).2) hL (fun k hk' => hS k (hS' k hk').1)⟩
theorem OwnL.keeps {X : Nat → Prop} {w w' : World} {lb : Nat} (hk : Keeps X w w') : ∀ {l : List VT} {o : Nat} {S : Nat → Prop}, (∀ i, i < o + l.length * 6 → w'.cell? ⟨lb, i, none⟩ = w.cell? ⟨lb, i, none⟩) → OwnL w lb l o S → (∀ k, S k → k < w.heap.size ∧ ¬ X k) → OwnL w' lb l o S
  | [], _, _, _, _, _ => by unfold OwnL; trivial
  | t :: ts, o, S, hc, h, hS => by
    unfold OwnL at h ⊢
    rw [List.length_cons] at hc
    obtain ⟨S1, S2, h1, h2, ⟨c0, c1, c2, c3, c4, c5, e0, e1, e2, e3, e4, e5, ht⟩, hts⟩ := h
    exact ⟨S1, S2, h1, h2, ⟨c0, c1, c2, c3, c4, c5, (hc _ (by omega)).trans e0, (hc _ (by omega)).trans e1, (hc _ (by omega)).trans e2, (hc _ (by omega)).trans e3, (hc _ (by omega)).trans e4, (hc _ (by omega)).trans e5, Own.keeps hk ht (fun k hk' => hS k (h1 k hk'))⟩, OwnL.keeps hk (fun i hi => hc i (by omega)) hts (fun k hk' => hS k (h2 k hk').1)⟩
end
theorem Own.shape {w : World} : ∀ {t : VT} {S : Nat → Prop} {v : Value}, Own w t S v → ∃ (k : Int) (b : Bool) (n : Int) (s : ByteArray) (pl : Option Addr) (nl cl : Nat) (pk : Option Addr) (nk ck : Nat), v = .agg #[.int .i64 k, .bool b, .int .i64 n, .string s, .slice pl nl cl, .slice pk nk ck]
  | mk k b n s l ks, _, _, h => by
    unfold Own at h
    obtain ⟨pl, cl, pk, ck, e, _⟩ := h
    exact ⟨k, b, n, s, pl, _, cl, pk, _, ck, e⟩
theorem OwnL.more {w : World} {lb : Nat} : ∀ {l : List VT} {o : Nat} {S S' : Nat → Prop}, (∀ k, S k → S' k) → OwnL w lb l o S → OwnL w lb l o S'
  | [], _, _, _, _, _ => by unfold OwnL; trivial
  | t :: ts, o, S, S', hS, h => by
    unfold OwnL at h ⊢
    obtain ⟨S1, S2, h1, h2, ht, hts⟩ := h
    exact ⟨S1, S2, fun k hk => hS k (h1 k hk), fun k hk => ⟨hS k (h2 k hk).1, (h2 k hk).2⟩, ht, hts⟩
mutual
theorem Own.more {w : World} {S S' : Nat → Prop} (hS : ∀ k, S k → S' k) : ∀ {t : VT} {v : Value}, Own w t S v → Own w t S' v
  | mk k b n s l ks, v, h => by
    unfold Own at h ⊢
    obtain ⟨pl, cl, pk, ck, e, h1, h2, h3, h4, hks, hl⟩ := h
    exact ⟨pl, cl, pk, ck, e, h1, h2, h3, h4, (fun h0 => by obtain ⟨kb, ep, hkb, hb⟩ := hks h0; exact ⟨kb, ep, hS kb hkb, hb⟩), fun h0 => by
      obtain ⟨lb, S1, ep, hlb, hb, hS1, hL⟩ := hl h0
      exact ⟨lb, S1, ep, hS lb hlb, hb, (fun k hk => ⟨hS k (hS1 k hk).1, (hS1 k hk).2⟩), hL⟩⟩
end
/-- One more at the end of a row. -/
theorem OwnL.snoc {w : World} {lb : Nat} {x : VT} {c0 c1 c2 c3 c4 c5 : Value} : ∀ {l : List VT} {o : Nat} {S Sx : Nat → Prop}, OwnL w lb l o S → (∀ k, Sx k → ¬ S k) →
    w.cell? ⟨lb, o + l.length * 6, none⟩ = some c0 → w.cell? ⟨lb, o + l.length * 6 + 1, none⟩ = some c1 → w.cell? ⟨lb, o + l.length * 6 + 2, none⟩ = some c2 → w.cell? ⟨lb, o + l.length * 6 + 3, none⟩ = some c3 → w.cell? ⟨lb, o + l.length * 6 + 4, none⟩ = some c4 → w.cell? ⟨lb, o + l.length * 6 + 5, none⟩ = some c5 →
    Own w x Sx (.agg #[c0, c1, c2, c3, c4, c5]) → OwnL w lb (l ++ [x]) o (fun k => S k ∨ Sx k)
  | [], o, S, Sx, _, hd, e0, e1, e2, e3, e4, e5, hx => by
    show OwnL w lb [x] o _
    unfold OwnL
    exact ⟨Sx, fun _ => False, fun k h => .inr h, fun k h => h.elim, ⟨c0, c1, c2, c3, c4, c5, by simpa using e0, by simpa using e1, by simpa using e2, by simpa using e3, by simpa using e4, by simpa using e5, hx⟩, by unfold OwnL; trivial⟩
  | t :: ts, o, S, Sx, h, hd, e0, e1, e2, e3, e4, e5, hx => by
    show OwnL w lb (t :: (ts ++ [x])) o _
    unfold OwnL at h ⊢
    obtain ⟨S1, S2, h1, h2, ht, hts⟩ := h
    have e : o + (t :: ts).length * 6 = o + 6 + ts.length * 6 := by rw [List.length_cons]; omega
    rw [e] at e0 e1 e2 e3 e4 e5
    refine ⟨S1, fun k => S2 k ∨ Sx k, fun k hk => .inl (h1 k hk), fun k hk => ?_, ht, OwnL.snoc hts (fun k hk hk2 => hd k hk (h2 k hk2).1) e0 e1 e2 e3 e4 e5 hx⟩
    rcases hk with hk | hk
    · exact ⟨.inl (h2 k hk).1, (h2 k hk).2⟩
    · exact ⟨.inr hk, fun h => hd k hk (h1 k h)⟩
end VT
end Val
end Go.Proofs.Ytmhlipncelgmlaa
