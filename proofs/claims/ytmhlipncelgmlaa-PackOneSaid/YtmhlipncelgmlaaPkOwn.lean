/- Values of the call's own that a reader makes: rows of them, of names beside them. -/
import Derived.Test.YtmhlipncelgmlaaPkRdT
import Derived.Test.YtmhlipncelgmlaaSeqE
import Derived.Test.YtmhlipncelgmlaaValOwn
import Derived.Laws.OwnMore
import Derived.Deep.AppendLies
namespace Go.Proofs.Ytmhlipncelgmlaa
open Go.RowKit
set_option linter.unusedVariables false
set_option linter.unusedSimpArgs false
namespace Pk
open Val (VT Keeps Box StrBlock)
open Rk (info_parts)
theorem box_free {w : World} {b : Nat} {cs : Array Value} (h : Box w b cs) (i : Nat) : w.frozen? ⟨b, i, none⟩ = false := by
  unfold Box at h
  simp [World.frozen?, h]
/-- A whole value is stored. -/
def six (w : World) (A : Nat) (d0 d1 d2 d3 d4 d5 : Value) : World := ((((((w.setCell ⟨A, 0, none⟩ d0).setCell ⟨A, 1, none⟩ d1).setCell ⟨A, 2, none⟩ d2).setCell ⟨A, 3, none⟩ d3).setCell ⟨A, 4, none⟩ d4).setCell ⟨A, 5, none⟩ d5)
theorem box_six {w : World} {A : Nat} {c0 c1 c2 c3 c4 c5 : Value} (h : Box w A #[c0, c1, c2, c3, c4, c5]) (d0 d1 d2 d3 d4 d5 : Value) : Box (six w A d0 d1 d2 d3 d4 d5) A #[d0, d1, d2, d3, d4, d5] := by
  unfold Box at h ⊢
  unfold six
  simp [World.setCell, Array.getElem?_modify, h]
theorem keeps_six {X : Nat → Prop} {a w : World} {A : Nat} (h : Keeps X a w) (hA : X A ∨ a.heap.size ≤ A) (d0 d1 d2 d3 d4 d5 : Value) : Keeps X a (six w A d0 d1 d2 d3 d4 d5) :=
  (((((h.setCell (p := ⟨A, 0, none⟩) hA d0).setCell (p := ⟨A, 1, none⟩) hA d1).setCell (p := ⟨A, 2, none⟩) hA d2).setCell (p := ⟨A, 3, none⟩) hA d3).setCell (p := ⟨A, 4, none⟩) hA d4).setCell (p := ⟨A, 5, none⟩) hA d5
theorem six_heap {w : World} {A k : Nat} (h : k ≠ A) (d0 d1 d2 d3 d4 d5 : Value) : (six w A d0 d1 d2 d3 d4 d5).heap[k]? = w.heap[k]? := by
  unfold six
  rw [Below.heap_setCell _ _ _ k h, Below.heap_setCell _ _ _ k h, Below.heap_setCell _ _ _ k h, Below.heap_setCell _ _ _ k h, Below.heap_setCell _ _ _ k h, Below.heap_setCell _ _ _ k h]
theorem below_six {B : Nat} {a w : World} {A : Nat} (h : Below B a w) (hA : B ≤ A) (d0 d1 d2 d3 d4 d5 : Value) : Below B a (six w A d0 d1 d2 d3 d4 d5) :=
  (((((h.setCell (p := ⟨A, 0, none⟩) hA d0).setCell (p := ⟨A, 1, none⟩) hA d1).setCell (p := ⟨A, 2, none⟩) hA d2).setCell (p := ⟨A, 3, none⟩) hA d3).setCell (p := ⟨A, 4, none⟩) hA d4).setCell (p := ⟨A, 5, none⟩) hA d5
theorem ownL_move {X : Nat → Prop} {w w' : World} {lb lb' : Nat} (hk : Keeps X w w') : ∀ {l : List VT} {o : Nat} {S : Nat → Prop}, (∀ i, i < o + l.length * 6 → w'.cell? ⟨lb', i, none⟩ = w.cell? ⟨lb, i, none⟩) → VT.OwnL w lb l o S → (∀ k, S k → k < w.heap.size ∧ ¬ X k) → VT.OwnL w' lb' l o S
  | [], _, _, _, _, _ => by unfold VT.OwnL; trivial
  | t :: ts, o, S, hc, h, hS => by
    unfold VT.OwnL at h ⊢
    rw [List.length_cons] at hc
    obtain ⟨S1, S2, h1, h2, ⟨c0, c1, c2, c3, c4, c5, e0, e1, e2, e3, e4, e5, ht⟩, hts⟩ := h
    exact ⟨S1, S2, h1, h2, ⟨c0, c1, c2, c3, c4, c5, (hc _ (by omega)).trans e0, (hc _ (by omega)).trans e1, (hc _ (by omega)).trans e2, (hc _ (by omega)).trans e3, (hc _ (by omega)).trans e4, (hc _ (by omega)).trans e5, VT.Own.keeps hk ht (fun k hk' => hS k (h1 k hk'))⟩, ownL_move hk (fun i hi => hc i (by omega)) hts (fun k hk' => hS k (h2 k hk').1)⟩
/-- A row of values of the call's own, made since block b, apart from the blocks N. -/
def RowW (b : Nat) (N : Nat → Prop) (l : List VT) (w : World) (lv : Value) (xs : List Value) : Prop :=
  w.ownsRow b 25 6 lv l.length xs ∧ ∀ g cap, lv = .slice (some ⟨g, 0, none⟩) l.length cap → ¬ N g ∧ VT.OwnL w g l 0 (fun k => b ≤ k ∧ k < w.heap.size ∧ k ≠ g ∧ ¬ N k)
theorem RowW.nil (b : Nat) (N : Nat → Prop) (w : World) : RowW b N [] w (.slice none 0 0) [] := ⟨World.ownsRow_nil _ _ _ _, fun g cap e => by cases e⟩
theorem own_keeps {b : Nat} {t : TypeId} {z : Nat} {w w' : World} {v : Value} {n : Nat} {xs : List Value} {X : Nat → Prop} (h : w.ownsRow b t z v n xs) (hk : Keeps X w w') (hX : ∀ k, X k → k < b ∨ v.ownBlock ≠ some k) : w'.ownsRow b t z v n xs := by
  refine ⟨h.1, ?_⟩
  rcases h.2 with hn | ⟨g, cap, cur, hv, hg0, hg, rest⟩
  · exact .inl hn
  · refine .inr ⟨g, cap, cur, hv, hg0, (hk.block g (Array.getElem?_eq_some_iff.1 hg).1 (fun hx => ?_)).trans hg, rest⟩
    rcases hX g hx with h1 | h1
    · omega
    · exact h1 (by rw [hv]; rfl)
theorem RowW.block {b : Nat} {N : Nat → Prop} {l : List VT} {w : World} {lv : Value} {xs : List Value} (h : RowW b N l w lv xs) : ∀ g, lv.ownBlock = some g → ¬ N g ∧ b ≤ g ∧ g < w.heap.size := fun g e => by
  have hl := h.1.lt g e
  rcases h.1.2 with ⟨rfl, -⟩ | ⟨g', cap, cur, rfl, -⟩
  · cases e
  · simp only [Value.ownBlock, Option.some.injEq] at e
    subst e
    exact ⟨(h.2 g' cap rfl).1, hl.1, hl.2⟩
theorem RowW.keeps {b : Nat} {N X : Nat → Prop} {l : List VT} {w w' : World} {lv : Value} {xs : List Value} (h : RowW b N l w lv xs) (hk : Keeps X w w') (hX : ∀ k, X k → k < b ∨ N k ∨ w.heap.size ≤ k) : RowW b N l w' lv xs := by
  refine ⟨own_keeps h.1 hk (fun k hx => ?_), fun g cap e => ?_⟩
  · rcases hX k hx with h1 | h1 | h1
    · exact .inl h1
    · exact .inr fun e => (h.block k e).1 h1
    · exact .inr fun e => by have := (h.block k e).2.2; omega
  · obtain ⟨hN, h2⟩ := h.2 g cap e
    have hb := h.block g (by rw [e]; rfl)
    have hgX : ¬ X g := fun hx => by
      rcases hX g hx with h1 | h1 | h1
      · omega
      · exact hN h1
      · omega
    refine ⟨hN, VT.OwnL.more (fun k hk' => ⟨hk'.1, Nat.lt_of_lt_of_le hk'.2.1 hk.size, hk'.2.2⟩) (ownL_move hk (fun i _ => hk.cell (p := ⟨g, i, none⟩) hb.2.2 hgX) h2 (fun k hk' => ⟨hk'.2.1, fun hx => ?_⟩))⟩
    rcases hX k hx with h1 | h1 | h1
    · omega
    · exact hk'.2.2.2 h1
    · omega
/-- Another row beside it. -/
theorem RowW.beside {b : Nat} {N N' : Nat → Prop} {l : List VT} {w : World} {lv : Value} {xs : List Value} (h : RowW b N l w lv xs) (hN : ∀ k, N' k → N k ∨ w.heap.size ≤ k) : RowW b N' l w lv xs := by
  refine ⟨h.1, fun g cap e => ?_⟩
  obtain ⟨h1, h2⟩ := h.2 g cap e
  have hb := h.block g (by rw [e]; rfl)
  refine ⟨fun hn => ?_, VT.OwnL.more (fun k hk => ⟨hk.1, hk.2.1, hk.2.2.1, fun hn => ?_⟩) h2⟩
  · rcases hN g hn with h3 | h3
    · exact h1 h3
    · omega
  · rcases hN k hn with h3 | h3
    · exact hk.2.2.2 h3
    · omega
/-- One more behind it: its blocks Sx, made since. -/
theorem RowW.snoc {b H g' cap' : Nat} {N0 N Sx X : Nat → Prop} {l : List VT} {w w1 w5 : World} {lv : Value} {xs : List Value} {x : VT} {v0 v1 v2 v3 v4 v5 : Value} (h0 : RowW b N0 l w lv xs) (hk0 : Keeps X w w1) (hX : ∀ k, X k → k < b ∨ N0 k ∨ w.heap.size ≤ k)
    (hown5 : w5.ownsRow b 25 6 (.slice (some ⟨g', 0, none⟩) (l.length + 1) cap') (l.length + 1) (xs ++ [v0, v1, v2, v3, v4, v5])) (hg : w1.grownBy w5 lv.ownBlock) (hl : lv.ownBlock = some g' ∨ g' = H) (hH : w1.heap.size = H) (hN : ∀ k, N k → N0 k ∨ w.heap.size ≤ k) (hNs : ∀ k, N k → k < w1.heap.size) (hbd : b ≤ w.heap.size)
    (hSx : ∀ k, Sx k → w.heap.size ≤ k ∧ k < w1.heap.size ∧ ¬ N k) (hXo : VT.Own w1 x Sx (.agg #[v0, v1, v2, v3, v4, v5])) :
    RowW b N (l ++ [x]) w5 (.slice (some ⟨g', 0, none⟩) (l.length + 1) cap') (xs ++ [v0, v1, v2, v3, v4, v5]) := by
  have hlen : (l ++ [x]).length = l.length + 1 := by simp
  have hs01 := hk0.size
  refine ⟨by rw [hlen]; exact hown5, fun g cap e => ?_⟩
  injection e with e
  injection e with e
  injection e with e
  subst e
  have hxl : xs.length = l.length * 6 := h0.1.1
  have hk : Keeps (fun k => lv.ownBlock = some k) w1 w5 := ⟨hg.os, hg.tape, hg.output, hg.size, fun k hk hn => hg.block k hk (fun e => hn e.symm)⟩
  have hgo : w1.heap.size ≤ g' ∨ lv.ownBlock = some g' := by
    rcases hl with hl | hl
    · exact .inr hl
    · exact .inl (by omega)
  have hcell : ∀ i, i < (l.length + 1) * 6 → w5.cell? ⟨g', i, none⟩ = (xs ++ [v0, v1, v2, v3, v4, v5])[i]? := fun i hi => hown5.cellAt i hi
  have hXX : VT.Own w5 x Sx (.agg #[v0, v1, v2, v3, v4, v5]) := hXo.keeps hk (fun k hk => ⟨(hSx k hk).2.1, fun e => by have := (h0.block k e).2.2; have := (hSx k hk).1; omega⟩)
  have hnew : ∀ e v, e < 6 → [v0, v1, v2, v3, v4, v5][e]? = some v → w5.cell? ⟨g', l.length * 6 + e, none⟩ = some v := fun e v he hv => by
    rw [hcell _ (by omega), List.getElem?_append_right (by omega), hxl, show l.length * 6 + e - l.length * 6 = e by omega]
    exact hv
  have hNg : ¬ N g' := by
    rcases hgo with hgo | hgo
    · exact fun hn => by have := hNs _ hn; omega
    · intro hn
      have h3 := h0.block g' hgo
      rcases hN g' hn with h4 | h4
      · exact h3.1 h4
      · omega
  have hold : VT.OwnL w5 g' l 0 (fun k => b ≤ k ∧ k < w.heap.size ∧ k ≠ g' ∧ ¬ N0 k) := by
    rcases h0.1.2 with ⟨rfl, hn0⟩ | ⟨g0, cap0, cur, rfl, hb0, -⟩
    · rw [List.length_eq_zero_iff.1 hn0]
      unfold VT.OwnL
      trivial
    · have hb := h0.block g0 rfl
      obtain ⟨hng0, h2⟩ := h0.2 g0 cap0 rfl
      have hkk : Keeps (fun k => X k ∨ k = g0) w w5 := (hk0.mono (fun k hx _ => Or.inl hx)).trans (hk.mono (fun k hx _ => by simp [Value.ownBlock] at hx; exact .inr hx.symm))
      have hg0X : ¬ X g0 := fun hx => by
        rcases hX g0 hx with h3 | h3 | h3
        · omega
        · exact hng0 h3
        · omega
      refine VT.OwnL.more (fun k hk => ⟨hk.1, hk.2.1, fun e => ?_, hk.2.2.2⟩) (ownL_move hkk (fun i hi => ?_) h2 (fun k hk => ⟨hk.2.1, fun e => ?_⟩))
      · rcases hgo with hgo | hgo
        · have := hk.2.1; omega
        · simp [Value.ownBlock] at hgo
          exact hk.2.2.1 (e.trans hgo.symm)
      · rw [Nat.zero_add] at hi
        rw [hcell i (by omega), List.getElem?_append_left (by omega), h0.1.cellAt i (by omega)]
      · rcases e with e | e
        · rcases hX k e with h3 | h3 | h3
          · omega
          · exact hk.2.2.2 h3
          · omega
        · exact hk.2.2.1 e
  have := VT.OwnL.snoc (x := x) hold (Sx := Sx) (fun k hk hk2 => by have := (hSx k hk).1; omega) (by rw [Nat.zero_add]; exact hnew 0 v0 (by omega) rfl) (by rw [Nat.zero_add]; exact hnew 1 v1 (by omega) rfl) (by rw [Nat.zero_add]; exact hnew 2 v2 (by omega) rfl) (by rw [Nat.zero_add]; exact hnew 3 v3 (by omega) rfl) (by rw [Nat.zero_add]; exact hnew 4 v4 (by omega) rfl) (by rw [Nat.zero_add]; exact hnew 5 v5 (by omega) rfl) hXX
  refine ⟨hNg, VT.OwnL.more (fun k hk' => ?_) this⟩
  have hs := hg.size
  rcases hk' with hk' | hk'
  · refine ⟨hk'.1, by omega, hk'.2.2.1, fun hn => ?_⟩
    rcases hN k hn with h4 | h4
    · exact hk'.2.2.2 h4
    · omega
  · have h5 := hSx k hk'
    refine ⟨by omega, by omega, fun e => ?_, h5.2.2⟩
    rcases hgo with hgo | hgo
    · omega
    · have := (h0.block g' hgo).2.2; omega
/-- The row as a list's or a map's values. -/
theorem RowW.slice {b : Nat} {N : Nat → Prop} {l : List VT} {w : World} {lv : Value} {xs : List Value} (h : RowW b N l w lv xs) : ∃ (pl : Option Addr) (cl : Nat), lv = .slice pl l.length cl ∧ l.length ≤ cl ∧ cl ≤ maxLen ∧ (0 < l.length → ∃ g cs, pl = some ⟨g, 0, none⟩ ∧ b ≤ g ∧ g < w.heap.size ∧ ¬ N g ∧ w.heap[g]? = some (.cells cs 25 (0, 0)) ∧ l.length * 6 ≤ cs.size ∧ VT.OwnL w g l 0 (fun k => b ≤ k ∧ k < w.heap.size ∧ k ≠ g ∧ ¬ N k)) := by
  have hbl := h.block
  rcases h.1.2 with ⟨rfl, hn⟩ | ⟨g, cap, cur, rfl, hb, hg, hn, hm, hs, -⟩
  · exact ⟨none, 0, by rw [hn], by omega, by unfold maxLen; omega, fun h => absurd h (by omega)⟩
  · have := hbl g rfl
    exact ⟨some ⟨g, 0, none⟩, cap, rfl, hn, hm, fun _ => ⟨g, cur, rfl, hb, this.2.2, this.1, hg, by rw [hs]; exact Nat.mul_le_mul_right _ hn, (h.2 g cap rfl).2⟩⟩
theorem box_set4 {w : World} {A : Nat} {c0 c1 c2 c3 c4 c5 : Value} (h : Box w A #[c0, c1, c2, c3, c4, c5]) (v : Value) : Box (w.setCell ⟨A, 4, none⟩ v) A #[c0, c1, c2, c3, v, c5] := by
  unfold Box at h ⊢
  simp [World.setCell, Array.getElem?_modify, h]
theorem box_set5 {w : World} {A : Nat} {c0 c1 c2 c3 c4 c5 : Value} (h : Box w A #[c0, c1, c2, c3, c4, c5]) (v : Value) : Box (w.setCell ⟨A, 5, none⟩ v) A #[c0, c1, c2, c3, c4, v] := by
  unfold Box at h ⊢
  simp [World.setCell, Array.getElem?_modify, h]
def ZV : Value := .agg #[.int .i64 0, .bool false, .int .i64 0, .string ⟨#[]⟩, .slice none 0 0, .slice none 0 0]
/-- The blocks that a call has made. -/
def Made (w w' : World) : Nat → Prop := fun k => w.heap.size ≤ k ∧ k < w'.heap.size
theorem box_keeps {w w' : World} {R A : Nat} {cs : Array Value} (h : Box w A cs) (hk : Keeps (· = R) w w') (hA : A ≠ R) : Box w' A cs := (hk.block _ h.lt hA).trans h
theorem info26 : (Try.prog.info? 25).map (fun i => (i.zero, i.size, i.bytes)) = some (some (.agg #[.int .i64 0, .bool false, .int .i64 0, .string ⟨#[]⟩, .slice none 0 0, .slice none 0 0]), 6, 88) := by kernel_rfl
theorem six_cells (V : World) (v0 v1 v2 v3 v4 v5 : Value) : ∀ q u, ([v0, v1, v2, v3, v4, v5] : List Value)[q]? = some u → (V.alloc (.cells #[v0, v1, v2, v3, v4, v5] 25)).cell? ((⟨V.heap.size, 0, none⟩ : Addr).add q) = some u := fun q u hu => by
  rw [Go.WideShapes.add_plain, Nat.zero_add]
  exact VT.cell_of (World.alloc_heap_new V _) (by simpa using hu)
theorem six_one (k n : Int) (b : Bool) (x : ByteArray) (pl pk : Option Addr) (nl cl nk ck : Nat) : ∀ u ∈ ([.int .i64 k, .bool b, .int .i64 n, .string x, .slice pl nl cl, .slice pk nk ck] : List Value), u.oneCell' = true := by
  intro u hu
  simp only [List.mem_cons, List.not_mem_nil, or_false] at hu
  rcases hu with rfl | rfl | rfl | rfl | rfl | rfl <;> rfl
theorem own_list {R b : Nat} {w w1 w2 : World} {k : Int} {ts : List VT} {lv : Value} {xs : List Value} (hrow : RowW b (fun _ => False) ts w1 lv xs) (hb : w.heap.size ≤ b) (hk : Keeps (· = w.heap.size) w1 w2) (hbb : w.heap.size < b) :
    VT.Own w2 (.mk k false 0 ⟨#[]⟩ ts []) (Made w w2) (.agg #[.int .i64 k, .bool false, .int .i64 0, .string ⟨#[]⟩, lv, .slice none 0 0]) := by
  obtain ⟨pl, cl, rfl, h1, h2, h3⟩ := hrow.slice
  have hsz := hk.size
  unfold VT.Own
  refine ⟨pl, cl, none, 0, rfl, h1, h2, Nat.le_refl _, by unfold maxLen; omega, fun h => absurd h (by simp), fun h0 => ?_⟩
  obtain ⟨g, cs, e, hg, hlt, _, hc, hz, hL⟩ := h3 h0
  have hX : ¬ (g = w.heap.size) := by omega
  refine ⟨g, fun j => b ≤ j ∧ j < w1.heap.size ∧ j ≠ g, e, ⟨by omega, by omega⟩, ⟨cs, (hk.block g hlt hX).trans hc, hz⟩, fun j hj => ⟨⟨by omega, by omega⟩, hj.2.2, fun ep => by cases ep⟩, ?_⟩
  exact VT.OwnL.keeps hk (fun i _ => hk.cell (p := ⟨g, i, none⟩) hlt hX) (VT.OwnL.more (fun j hj => ⟨hj.1, hj.2.1, hj.2.2.1⟩) hL) (fun j hj => ⟨hj.2.1, by omega⟩)
theorem infoS : (Try.prog.info? 9).map (fun i => (i.zero, i.size, i.bytes)) = some (some (.string ⟨#[]⟩), 1, 16) := by kernel_rfl
theorem lit_str (V : World) (x : ByteArray) : ∀ j u, ([.string x] : List Value)[j]? = some u → (V.alloc (.cells #[.string x] 9)).cell? ((⟨V.heap.size, 0, none⟩ : Addr).add j) = some u := by
  intro j u hj
  match j, hj with
  | 0, hj => simp at hj; subst hj; simp [Addr.add]
  | (j + 1), hj => simp at hj
theorem str_one (x : ByteArray) : ∀ u ∈ ([.string x] : List Value), u.oneCell' = true := by
  intro u hu; simp at hu; subst hu; rfl
theorem keys_form {w : World} {b n : Nat} {kv : Value} {ks : List ByteArray} (h : w.ownsRow b 9 1 kv n (ks.map Value.string)) (hn : ks.length = n) : ∃ (pk : Option Addr) (ck : Nat), kv = .slice pk n ck ∧ n ≤ ck ∧ ck ≤ maxLen ∧ (0 < n → ∃ kb, pk = some ⟨kb, 0, none⟩ ∧ b ≤ kb ∧ kb < w.heap.size ∧ StrBlock w kb ks) ∧ (n = 0 ∨ ∃ kb, pk = some ⟨kb, 0, none⟩) := by
  have hlt := h.lt
  rcases h.2 with ⟨rfl, h0⟩ | ⟨g, cap, cur, rfl, hb, hg, hnc, hm, hs, ht⟩
  · exact ⟨none, 0, by rw [h0], by omega, by unfold maxLen; omega, fun h => absurd h (by omega), .inl h0⟩
  · refine ⟨some ⟨g, 0, none⟩, cap, rfl, hnc, hm, fun _ => ⟨g, rfl, hb, (hlt g rfl).2, cur, hg, by omega, fun i hi => ?_⟩, .inr ⟨g, rfl⟩⟩
    have h1 : (cur.toList.take (n * 1))[i]? = (ks.map Value.string)[i]? := by rw [ht]
    rw [List.getElem?_take, if_pos (by omega), List.getElem?_map] at h1
    rw [← Array.getElem?_toList, h1, List.getD_eq_getElem?_getD, List.getElem?_eq_getElem hi]
    rfl
theorem own_map {b : Nat} {w w1 w2 : World} {ts : List VT} {ks : List ByteArray} {lv kv : Value} {xs : List Value} (hrow : RowW b (fun k => kv.ownBlock = some k) ts w1 lv xs) (hkey : w1.ownsRow b 9 1 kv ks.length (ks.map Value.string)) (hk : Keeps (· = w.heap.size) w1 w2) (hbb : w.heap.size < b) :
    VT.Own w2 (.mk 5 false 0 ⟨#[]⟩ ts ks) (Made w w2) (.agg #[.int .i64 5, .bool false, .int .i64 0, .string ⟨#[]⟩, lv, kv]) := by
  obtain ⟨pl, cl, rfl, h1, h2, h3⟩ := hrow.slice
  obtain ⟨pk, ck, rfl, h4, h5, h6, h7⟩ := keys_form hkey rfl
  have hsz := hk.size
  unfold VT.Own
  refine ⟨pl, cl, pk, ck, rfl, h1, h2, h4, h5, fun h0 => ?_, fun h0 => ?_⟩
  · obtain ⟨kb, e, hb, hlt, cs, hc, hz, hat⟩ := h6 h0
    exact ⟨kb, e, ⟨by omega, by omega⟩, cs, (hk.block kb hlt (by omega)).trans hc, hz, hat⟩
  · obtain ⟨g, cs, e, hg, hlt, _, hc, hz, hL⟩ := h3 h0
    have hX : ¬ (g = w.heap.size) := by omega
    refine ⟨g, fun j => b ≤ j ∧ j < w1.heap.size ∧ j ≠ g ∧ ¬ (Value.slice pk ks.length ck).ownBlock = some j, e, ⟨by omega, by omega⟩, ⟨cs, (hk.block g hlt hX).trans hc, hz⟩, fun j hj => ⟨⟨by omega, by omega⟩, hj.2.2.1, fun ep => hj.2.2.2 (by rw [ep]; rfl)⟩, ?_⟩
    exact VT.OwnL.keeps hk (fun i _ => hk.cell (p := ⟨g, i, none⟩) hlt hX) hL (fun j hj => ⟨hj.2.1, by omega⟩)
theorem six_rb {w : World} {R B A : Nat} {l : List UInt8} {p : Int} (h : Rb w R B l p) (hA : A ≠ R) (hB : B ≤ A) (d0 d1 d2 d3 d4 d5 : Value) : Rb (six w A d0 d1 d2 d3 d4 d5) R B l p :=
  h.keeps (keeps_six (Keeps.refl (· = A) w) (.inl rfl) d0 d1 d2 d3 d4 d5) (fun k e _ => by subst e; exact ⟨hA, hB⟩)
/-- What a call that reads a value comes to. -/
def ValPost (R B : Nat) (w : World) (x : Except Int (VT × Nat × List UInt8)) (e : Ending) (w' : World) : Prop :=
  match x with
  | .error c => e = thrown c ∧ Keeps (· = R) w w'
  | .ok a => ∃ v, e = .returned v ∧ VT.Own w' a.1 (Made w w') v ∧ Got R B (a.2.1 : Int) w a.2.2 w'
def ValIH (d : Nat) : Prop := ∀ (R B : Nat) (l : List UInt8) (p : Nat) (w : World), Rb w R B l (p : Int) → B ≤ w.heap.size → p ≤ 4096 → Calls Try.prog 40 #[.pointer (some ⟨R, 0, none⟩), .int .i64 (33 - (d : Int))] w (ValPost R B w (parseV d p l))
theorem own_leaf (k : Int) (b : Bool) (n : Int) (s : ByteArray) (w : World) (S : Nat → Prop) : VT.Own w (.mk k b n s [] []) S (.agg #[.int .i64 k, .bool b, .int .i64 n, .string s, .slice none 0 0, .slice none 0 0]) := by
  unfold VT.Own
  exact ⟨none, 0, none, 0, rfl, Nat.le_refl _, by unfold maxLen; omega, Nat.le_refl _, by unfold maxLen; omega, fun h => absurd h (by simp), fun h => absurd h (by simp)⟩
theorem seqE_take2 {F : Fence} {n : Nat} {P : Program} {ops : Array Oper} {Q : Exit → Act → World → Prop} {S : World → Prop} {i : Nat} {rest : List Nat} {a : Act} {w : World} {o : Oper} (v : Value) (ho : ops[i]? = some o) (hc : isSeqOp o = false) (hw : Region.wanted o (yielded ops a.tmps) = true) (hv : ∀ w, S w → (execOp a.eval o).run P w = .ok (.value v) w) (hb : ∀ w, o.about P w a.eval = none)
    (h : seqE F n P ops Q S rest (a.put o.dst v) w) : seqE F n P ops Q S (i :: rest) a w := seqE_take v ho hc hw hv hb rfl h
end Pk
end Go.Proofs.Ytmhlipncelgmlaa
