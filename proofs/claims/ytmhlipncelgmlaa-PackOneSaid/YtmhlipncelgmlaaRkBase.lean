/- Keys: the call's own row of bytes, and the small functions that write behind it. -/
import Derived.Test.YtmhlipncelgmlaaRows
import Derived.Test.YtmhlipncelgmlaaRkPlain
import Derived.Test.YtmhlipncelgmlaaValCmp
import Derived.WalkKit
import Derived.Lib.Hide
import Derived.Lib.OthersKept
import Derived.Lib.AppendStr
import Derived.WalkSpells
import Derived.WalkLawsBesides
import Derived.Outline
import Derived.Deep.AppendLies
import Derived.Deep.QuietTactic
import Derived.BigQuiet
import Derived.Lib.BufferWrite
import Derived.Laws.BytesArg
import Derived.Laws.AppendOwnNone
namespace Go.Proofs.Ytmhlipncelgmlaa
open Go.RowKit
set_option linter.unusedVariables false
set_option linter.unusedSimpArgs false
namespace Rk
open Val (VT Keeps Box)
theorem infoB : (Try.prog.info? 5).map (fun i => (i.zero, i.size, i.bytes)) = some (some (.int .u8 0), 1, 1) := by kernel_rfl
theorem info_parts {e : TypeId} {z : Value} {a b : Nat} (h : (Try.prog.info? e).map (fun i => (i.zero, i.size, i.bytes)) = some (some z, a, b)) : ∃ i, Try.prog.info? e = some i ∧ i.zero = some z ∧ i.size = a ∧ i.bytes = b := by
  cases hi : Try.prog.info? e with
  | none => rw [hi] at h; cases h
  | some i => rw [hi] at h; simp at h; exact ⟨i, rfl, h.1, h.2.1, h.2.2⟩
/-- The call's own row of bytes. -/
def Buf (B : Nat) (w : World) (v : Value) (bs : List UInt8) : Prop := w.ownsRow B 5 1 v bs.length (Lib.byteCells bs)
theorem Buf.nil (B : Nat) (w : World) : Buf B w (.slice none 0 0) [] := World.ownsRow_nil _ _ _ _
theorem Buf.kind {B : Nat} {w : World} {v : Value} {bs : List UInt8} (h : Buf B w v bs) : ∀ g, v.ownBlock = some g → ∃ c fz, w.heap[g]? = some (.cells c 5 fz) := by
  intro g hg
  rcases h.2 with ⟨rfl, _⟩ | ⟨g', cap, cur, rfl, _, hgg, _⟩
  · simp [Value.ownBlock] at hg
  · simp [Value.ownBlock] at hg
    subst hg
    exact ⟨cur, _, hgg⟩
theorem Buf.append {B : Nat} {w : World} {v : Value} {bs new : List UInt8} {n : Nat} {xs : List Value} (h : w.ownsRow B 5 1 v n xs) (hn : n = (bs ++ new).length) (hx : xs = Lib.byteCells (bs ++ new)) : Buf B w v (bs ++ new) := by
  unfold Buf; rw [← hn, ← hx]; exact h
theorem Buf.far {B : Nat} {w w' : World} {v : Value} {bs : List UInt8} (h : Buf B w v bs) (hb : Below w.heap.size w w') : Buf B w' v bs := by
  refine ⟨h.1, ?_⟩
  rcases h.2 with hn | ⟨g, cap, cur, hv, hg0, hg, rest⟩
  · exact .inl hn
  · exact .inr ⟨g, cap, cur, hv, hg0, (hb.block g (Array.getElem?_eq_some_iff.1 hg).1).trans hg, rest⟩
/-- Where a call stands that writes behind such a row. -/
structure Sk (C : Nat) (w V : World) (u : Value) (acc : List UInt8) : Prop where
  buf : Buf C V u acc
  low : Below C w V
  kept : Lib.OthersKept 5 none w V
/-- What a call that writes behind such a row comes to. -/
def RkPost (C : Nat) (w : World) (bs : List UInt8) (e : Ending) (w' : World) : Prop := ∃ v', e = .returned v' ∧ Sk C w w' v' bs
theorem box_kept {w w' : World} {A : Nat} {cs : Array Value} (h : Box w A cs) (hk : Lib.OthersKept 5 none w w') : Box w' A cs :=
  hk A _ h (by simp) (fun c fz e => by injection e with _ e2 _; revert e2; decide)
section
variable {C : Nat} {w V V' : World} {u u' : Value} {acc : List UInt8}
theorem Sk.start (h : Buf C w u acc) : Sk C w w u acc := ⟨h, Below.refl _ _, Lib.OthersKept.refl _ _ _⟩
theorem Sk.hC (h : Sk C w V u acc) (hC : C ≤ w.heap.size) : C ≤ V.heap.size := Nat.le_trans hC h.low.size
theorem kept_of_below (hb : Below V.heap.size V V') : Lib.OthersKept 5 none V V' := fun k o hk _ _ => (hb.block k (Array.getElem?_eq_some_iff.1 hk).1).trans hk
theorem Sk.far (h : Sk C w V u acc) (hC : C ≤ w.heap.size) (hb : Below V.heap.size V V') : Sk C w V' u acc :=
  ⟨h.buf.far hb, h.low.trans (hb.mono (h.hC hC)), h.kept.trans (kept_of_below hb)⟩
theorem Sk.alloc (h : Sk C w V u acc) (hC : C ≤ w.heap.size) (o : Obj) : Sk C w (V.alloc o) u acc := h.far hC ((Below.refl _ _).alloc (Nat.le_refl _) _)
theorem Sk.drew (h : Sk C w V u acc) (hC : C ≤ w.heap.size) : Sk C w V.drew u acc := h.far hC (Below.refl _ _).drew
theorem Sk.trans (h : Sk C w V u acc) {bs : List UInt8} (h2 : Sk C V V' u' bs) : Sk C w V' u' bs := ⟨h2.buf, h.low.trans h2.low, h.kept.trans h2.kept⟩
/-- Cells are written behind. -/
theorem Sk.cells (h : Sk C w V u acc) (hC : C ≤ w.heap.size) {new : List UInt8} {n : Nat} {xs : List Value} (ho : V'.ownsRow C 5 1 u' n xs) (hg : V.grownBy V' u.ownBlock) (hn : n = (acc ++ new).length) (hx : xs = Lib.byteCells (acc ++ new)) : Sk C w V' u' (acc ++ new) :=
  ⟨Buf.append ho hn hx, h.low.trans ((Below.refl C V).grown hg (h.hC hC) (fun k hk => (World.ownsRow.lt h.buf k hk).1)), h.kept.trans ((Lib.OthersKept.refl _ _ V).grown hg h.buf.kind)⟩
theorem Sk.text (h : Sk C w V u acc) (hC : C ≤ w.heap.size) {s : ByteArray} (ho : V'.ownsRow C 5 1 u' (acc.length + s.size) (Lib.byteCells acc ++ Lib.strCells s)) (hg : V.grownBy V' u.ownBlock) : Sk C w V' u' (acc ++ s.data.toList) :=
  h.cells hC ho hg (by rw [List.length_append, ba_len]) (by rw [Lib.byteCells_append]; rfl)
theorem Sk.byte (h : Sk C w V u acc) (hC : C ≤ w.heap.size) {c : UInt8} (ho : V'.ownsRow C 5 1 u' (acc.length + 1) (Lib.byteCells acc ++ [.int .u8 (c.toNat : Int)])) (hg : V.grownBy V' u.ownBlock) : Sk C w V' u' (acc ++ [c]) :=
  h.text hC (s := ⟨#[c]⟩) ho hg
theorem Sk.post (h : Sk C w V u acc) : RkPost C w acc (.returned u) V := ⟨u, rfl, h⟩
theorem lit_one (V : World) (x : Value) : ∀ j u, ([x] : List Value)[j]? = some u → (V.alloc (.cells #[x] 5)).cell? ((⟨V.heap.size, 0, none⟩ : Addr).add j) = some u := by
  intro j u hj
  match j, hj with
  | 0, hj => simp at hj; subst hj; simp [Addr.add]
  | (j + 1), hj => simp at hj
theorem one_one (x : Int) : ∀ u ∈ ([Value.int .u8 x] : List Value), u.oneCell' = true := by
  intro u hu; simp at hu; subst hu; rfl
end
theorem be8_take (n j : Nat) (h : j < 8) : (be8 n).take (j + 1) = (be8 n).take j ++ [dig n (7 - j)] := by
  have h8 : j = 0 ∨ j = 1 ∨ j = 2 ∨ j = 3 ∨ j = 4 ∨ j = 5 ∨ j = 6 ∨ j = 7 := by omega
  rcases h8 with rfl | rfl | rfl | rfl | rfl | rfl | rfl | rfl <;> rfl
theorem dig_toNat (n k : Nat) : ((dig n k).toNat : Int) = ((n / 256 ^ k % 256 : Nat) : Int) := by
  unfold dig
  simp
def truthB (b : Bool) : List UInt8 := [if b then 1 else 0]
theorem esc_string (s : ByteArray) : (⟨(Lib.replaceAll s.data.toList [0] [0, 255]).toArray⟩ : ByteArray).data.toList = escZ s.data.toList := by
  rw [replaceAll_esc]
end Rk
end Go.Proofs.Ytmhlipncelgmlaa
