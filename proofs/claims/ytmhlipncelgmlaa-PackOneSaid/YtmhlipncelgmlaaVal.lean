/- VALUES AS TREES: what lies in memory reads as a tree; what a call keeps. Of no program but for the numbers of its types. -/
import Derived.Test.YtmhlipncelgmlaaRows
import Derived.WalkKit
import Derived.Lib.Hide
import Derived.Below
import Derived.Laws.OwnMore
import Derived.Deep.Draws
namespace Go.Proofs.Ytmhlipncelgmlaa
open Go.RowKit
set_option linter.unusedVariables false
namespace Val
/-- A value: its kind, truth, number, text, values, keys. -/
inductive VT where
  | mk (k : Int) (b : Bool) (n : Int) (s : ByteArray) (l : List VT) (ks : List ByteArray)
namespace VT
def kind : VT → Int | mk k _ _ _ _ _ => k
def bool : VT → Bool | mk _ b _ _ _ _ => b
def num : VT → Int | mk _ _ n _ _ _ => n
def str : VT → ByteArray | mk _ _ _ s _ _ => s
def list : VT → List VT | mk _ _ _ _ l _ => l
def keys : VT → List ByteArray | mk _ _ _ _ _ ks => ks
mutual
/-- How many values there are in it, itself too. -/
def parts : VT → Nat
  | mk _ _ _ _ l _ => partsL l + 1
def partsL : List VT → Nat
  | [] => 0
  | t :: ts => parts t + partsL ts
end
theorem parts_pos (t : VT) : 0 < t.parts := by cases t; unfold parts; omega
theorem parts_mem : ∀ {l : List VT} {t : VT}, t ∈ l → t.parts ≤ partsL l
  | [], _, h => by cases h
  | x :: l, t, h => by
    unfold partsL
    rcases List.mem_cons.1 h with rfl | h
    · omega
    · have := parts_mem h; omega
/-- The texts lie at p. -/
def KeysIn (w : World) (B : Nat) (p : Option Addr) (ks : List ByteArray) : Prop :=
  0 < ks.length → ∃ b o, p = some ⟨b, o, none⟩ ∧ b < B ∧ ∀ i, i < ks.length → w.cell? ⟨b, o + i, none⟩ = some (.string (ks.getD i default))
mutual
/-- The value v reads as the tree, all that it leads to in blocks below B. -/
def In (w : World) (B : Nat) : VT → Value → Prop
  | mk k b n s l ks, v => ∃ (pl : Option Addr) (cl : Nat) (pk : Option Addr) (ck : Nat),
      v = .agg #[.int .i64 k, .bool b, .int .i64 n, .string s, .slice pl l.length cl, .slice pk ks.length ck] ∧
      l.length ≤ cl ∧ cl ≤ maxLen ∧ ks.length ≤ ck ∧ ck ≤ maxLen ∧
      KeysIn w B pk ks ∧ (0 < l.length → ∃ bl ol, pl = some ⟨bl, ol, none⟩ ∧ bl < B ∧ InL w B bl ol l)
def InL (w : World) (B : Nat) (bl : Nat) : Nat → List VT → Prop
  | _, [] => True
  | o, t :: ts => (∃ c0 c1 c2 c3 c4 c5 : Value, w.cell? ⟨bl, o, none⟩ = some c0 ∧ w.cell? ⟨bl, o + 1, none⟩ = some c1 ∧ w.cell? ⟨bl, o + 2, none⟩ = some c2 ∧ w.cell? ⟨bl, o + 3, none⟩ = some c3 ∧ w.cell? ⟨bl, o + 4, none⟩ = some c4 ∧ w.cell? ⟨bl, o + 5, none⟩ = some c5 ∧
      In w B t (.agg #[c0, c1, c2, c3, c4, c5])) ∧ InL w B bl (o + 6) ts
end
end VT
/-- What a call keeps: all that lay but for the blocks X. -/
structure Keeps (X : Nat → Prop) (w w' : World) : Prop where
  os : w'.os = w.os
  tape : w'.tape = w.tape
  output : w'.output = w.output
  size : w.heap.size ≤ w'.heap.size
  block : ∀ k, k < w.heap.size → ¬ X k → w'.heap[k]? = w.heap[k]?
namespace Keeps
variable {X Y : Nat → Prop} {a b c w w' : World}
theorem refl (X : Nat → Prop) (w : World) : Keeps X w w := ⟨rfl, rfl, rfl, Nat.le_refl _, fun _ _ _ => rfl⟩
theorem trans (h : Keeps X a b) (k : Keeps X b c) : Keeps X a c :=
  ⟨k.os.trans h.os, k.tape.trans h.tape, k.output.trans h.output, Nat.le_trans h.size k.size, fun i hi hx => (k.block i (Nat.lt_of_lt_of_le hi h.size) hx).trans (h.block i hi hx)⟩
theorem mono (h : Keeps X a b) (hx : ∀ k, X k → k < a.heap.size → Y k) : Keeps Y a b := ⟨h.os, h.tape, h.output, h.size, fun k hk hy => h.block k hk fun x => hy (hx k x hk)⟩
theorem below {B : Nat} (h : Keeps X a b) (hx : ∀ k, X k → B ≤ k) (hB : B ≤ a.heap.size) : Below B a b :=
  ⟨h.os, h.tape, h.output, h.size, fun k hk => h.block k (Nat.lt_of_lt_of_le hk hB) fun x => by have := hx k x; omega⟩
theorem of_below (h : Below a.heap.size a b) : Keeps X a b := ⟨h.os, h.tape, h.output, h.size, fun k hk _ => h.block k hk⟩
theorem alloc (h : Keeps X a b) (o : Obj) : Keeps X a (b.alloc o) := h.trans (of_below ((Below.refl _ _).alloc (Nat.le_refl _) _))
theorem drew (h : Keeps X a b) : Keeps X a b.drew := ⟨h.os, h.tape, h.output, h.size, h.block⟩
theorem drewN (h : Keeps X a b) (n : Nat) : Keeps X a (b.drewN n) := ⟨h.os, h.tape, h.output, h.size, h.block⟩
theorem setCell (h : Keeps X a b) {p : Addr} (hp : X p.block ∨ a.heap.size ≤ p.block) (v : Value) : Keeps X a (b.setCell p v) :=
  ⟨h.os, h.tape, h.output, by simpa [World.setCell] using h.size, fun k hk hx => (Below.heap_setCell b p v k (by rintro rfl; rcases hp with hp | hp; exact hx hp; omega)).trans (h.block k hk hx)⟩
theorem grown {row : Option Nat} (h : Keeps X a b) (hg : b.grownBy c row) (hr : ∀ k, row = some k → X k ∨ a.heap.size ≤ k) : Keeps X a c :=
  ⟨hg.os.trans h.os, hg.tape.trans h.tape, hg.output.trans h.output, Nat.le_trans h.size hg.size, fun k hk hx => (hg.block k (Nat.lt_of_lt_of_le hk h.size) (fun e => by rcases hr k e.symm with hp | hp; exact hx hp; omega)).trans (h.block k hk hx)⟩
theorem cell {p : Addr} (h : Keeps X a b) (hp : p.block < a.heap.size) (hx : ¬ X p.block) : b.cell? p = a.cell? p := World.cell?_of_block (h.block _ hp hx)
end Keeps
namespace VT
/-- In a world in which what lies below B is as it was the value reads as it did. -/
theorem KeysIn.keep {w w' : World} {B : Nat} {p : Option Addr} {ks : List ByteArray} (h : KeysIn w B p ks) (hk : ∀ q : Addr, q.block < B → w'.cell? q = w.cell? q) : KeysIn w' B p ks := fun hl => by
  obtain ⟨b, o, hp, hb, hc⟩ := h hl
  exact ⟨b, o, hp, hb, fun i hi => (hk ⟨b, o + i, none⟩ hb).trans (hc i hi)⟩
mutual
theorem In.keep {w w' : World} {B : Nat} (hk : ∀ q : Addr, q.block < B → w'.cell? q = w.cell? q) : ∀ {t : VT} {v : Value}, In w B t v → In w' B t v
  | mk _ _ _ _ l _, _, h => by
    unfold In at h ⊢
    obtain ⟨pl, cl, pk, ck, e, h1, h2, h3, h4, hks, hl⟩ := h
    exact ⟨pl, cl, pk, ck, e, h1, h2, h3, h4, hks.keep hk, fun h0 => by
      obtain ⟨bl, ol, ep, hb, hL⟩ := hl h0
      exact ⟨bl, ol, ep, hb, InL.keep hk hb hL⟩⟩
theorem InL.keep {w w' : World} {B bl : Nat} (hk : ∀ q : Addr, q.block < B → w'.cell? q = w.cell? q) (hb : bl < B) : ∀ {o : Nat} {l : List VT}, InL w B bl o l → InL w' B bl o l
  | _, [], _ => by unfold InL; trivial
  | o, t :: ts, h => by
    unfold InL at h ⊢
    obtain ⟨⟨c0, c1, c2, c3, c4, c5, h0, h1, h2, h3, h4, h5, ht⟩, hts⟩ := h
    exact ⟨⟨c0, c1, c2, c3, c4, c5, (hk ⟨bl, _, none⟩ hb).trans h0, (hk ⟨bl, _, none⟩ hb).trans h1, (hk ⟨bl, _, none⟩ hb).trans h2, (hk ⟨bl, _, none⟩ hb).trans h3, (hk ⟨bl, _, none⟩ hb).trans h4, (hk ⟨bl, _, none⟩ hb).trans h5, In.keep hk ht⟩, InL.keep hk hb hts⟩
end
theorem In.below {w w' : World} {B : Nat} {t : VT} {v : Value} (h : In w B t v) (hb : Below B w w') : In w' B t v := h.keep fun q hq => hb.cell hq
theorem In.keeps {X : Nat → Prop} {w w' : World} {B : Nat} {t : VT} {v : Value} (h : In w B t v) (hk : Keeps X w w') (hB : B ≤ w.heap.size) (hx : ∀ k, X k → B ≤ k) : In w' B t v := h.below (hk.below hx hB)
mutual
theorem In.more {w : World} {B B' : Nat} (hB : B ≤ B') : ∀ {t : VT} {v : Value}, In w B t v → In w B' t v
  | mk _ _ _ _ l ks, _, h => by
    unfold In at h ⊢
    obtain ⟨pl, cl, pk, ck, e, h1, h2, h3, h4, hks, hl⟩ := h
    exact ⟨pl, cl, pk, ck, e, h1, h2, h3, h4, (fun h0 => by obtain ⟨b, o, e, hb, hc⟩ := hks h0; exact ⟨b, o, e, by omega, hc⟩), fun h0 => by
      obtain ⟨bl, ol, ep, hb, hL⟩ := hl h0
      exact ⟨bl, ol, ep, by omega, InL.more hB hL⟩⟩
theorem InL.more {w : World} {B B' bl : Nat} (hB : B ≤ B') : ∀ {o : Nat} {l : List VT}, InL w B bl o l → InL w B' bl o l
  | _, [], _ => by unfold InL; trivial
  | o, t :: ts, h => by
    unfold InL at h ⊢
    obtain ⟨⟨c0, c1, c2, c3, c4, c5, h0, h1, h2, h3, h4, h5, ht⟩, hts⟩ := h
    exact ⟨⟨c0, c1, c2, c3, c4, c5, h0, h1, h2, h3, h4, h5, In.more hB ht⟩, InL.more hB hts⟩
end
theorem In.shape {w : World} {B : Nat} : ∀ {t : VT} {c0 c1 c2 c3 c4 c5 : Value}, In w B t (.agg #[c0, c1, c2, c3, c4, c5]) → ∃ (k : Int) (b : Bool) (n : Int) (s : ByteArray) (pl : Option Addr) (nl cl : Nat) (pk : Option Addr) (nk ck : Nat), c0 = .int .i64 k ∧ c1 = .bool b ∧ c2 = .int .i64 n ∧ c3 = .string s ∧ c4 = .slice pl nl cl ∧ c5 = .slice pk nk ck
  | mk k b n s l ks, _, _, _, _, _, _, h => by
    unfold In at h
    obtain ⟨pl, cl, pk, ck, e, _⟩ := h
    injection e with e
    injection e with e
    injection e with e0 e
    injection e with e1 e
    injection e with e2 e
    injection e with e3 e
    injection e with e4 e
    injection e with e5 e
    exact ⟨k, b, n, s, pl, l.length, cl, pk, ks.length, ck, e0, e1, e2, e3, e4, e5⟩
/-- The value at place i. -/
theorem InL.at {w : World} {B bl : Nat} : ∀ {l : List VT} {o i : Nat} {t : VT}, InL w B bl o l → l[i]? = some t → ∃ c0 c1 c2 c3 c4 c5 : Value, w.cell? ⟨bl, o + i * 6, none⟩ = some c0 ∧ w.cell? ⟨bl, o + i * 6 + 1, none⟩ = some c1 ∧ w.cell? ⟨bl, o + i * 6 + 2, none⟩ = some c2 ∧ w.cell? ⟨bl, o + i * 6 + 3, none⟩ = some c3 ∧ w.cell? ⟨bl, o + i * 6 + 4, none⟩ = some c4 ∧ w.cell? ⟨bl, o + i * 6 + 5, none⟩ = some c5 ∧
      In w B t (.agg #[c0, c1, c2, c3, c4, c5])
  | [], _, _, _, _, h => by cases h
  | x :: l, o, 0, t, hl, h => by
    unfold InL at hl
    obtain rfl : x = t := by simpa using h
    simpa using hl.1
  | x :: l, o, i + 1, t, hl, h => by
    unfold InL at hl
    have := InL.at hl.2 (i := i) (by simpa using h)
    rw [show o + (i + 1) * 6 = o + 6 + i * 6 by omega]
    exact this
end VT
end Val
end Go.Proofs.Ytmhlipncelgmlaa
