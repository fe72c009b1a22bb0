/- THE WALKS over the small functions of layer value: how far a walk may go, where a kind stands, comparisons of two numbers. -/
import Derived.Test.YtmhlipncelgmlaaRows
import Derived.WalkKit
import Derived.Lib.Hide
import Derived.WalkSpells
import Derived.WalkLawsBesides
import Derived.Below
import Derived.IntWalk
import Derived.Laws.OwnMore
import Derived.RangeFuncRecord
namespace Go.Proofs.Ytmhlipncelgmlaa
open Go.RowKit
set_option linter.unusedVariables false
set_option linter.unusedSimpArgs false
namespace Val
/-- Of two numbers: below, the same, above. -/
def cmpV (a b : Int) : Int := if a < b then -1 else if b < a then 1 else 0
def placesL : List Int := [7, 5, 6, 4, 3, 0, 1, 2]
/-- Where a kind stands. -/
def placeV (k : Int) : Int := if k < 0 then k else if 8 ≤ k then k else placesL.getD k.toNat 0
theorem ret_int {k : IntKind} {a b : Int} (h : a = b) : Ending.returned (.int k a) = .returned (.int k b) := by rw [h]
def ofV (b : Bool) : Int := if b then 1 else 0
/-! ### How far a walk may go -/
/-- Block R holds how deep, and over how many parts, a walk may yet go. -/
def Reach (w : World) (R : Nat) (d m : Int) : Prop := w.heap[R]? = some (.cells #[.int .i64 d, .int .i64 m] 115 (0, 0))
theorem Reach.lt {w : World} {R : Nat} {d m : Int} (h : Reach w R d m) : R < w.heap.size := by
  rcases Nat.lt_or_ge R w.heap.size with hlt | hge
  · exact hlt
  · unfold Reach at h; rw [Array.getElem?_eq_none hge] at h; cases h
theorem Reach.cell {w : World} {R : Nat} {d m : Int} (h : Reach w R d m) : w.cell? ⟨R, 0, none⟩ = some (.int .i64 d) ∧ w.cell? ⟨R, 1, none⟩ = some (.int .i64 m) ∧ w.frozen? ⟨R, 0, none⟩ = false ∧ w.frozen? ⟨R, 1, none⟩ = false := by
  unfold Reach at h
  simp [World.cell?, World.frozen?, h]
theorem Reach.drew {w : World} {R : Nat} {d m : Int} (h : Reach w R d m) : Reach w.drew R d m := h
theorem Reach.drewN {w : World} {R : Nat} {d m : Int} (h : Reach w R d m) (n : Nat) : Reach (w.drewN n) R d m := h
theorem Reach.alloc {w : World} {R : Nat} {d m : Int} (h : Reach w R d m) (o : Obj) : Reach (w.alloc o) R d m := (Below.heap_alloc w o R h.lt).trans h
theorem Reach.far {w : World} {R : Nat} {d m : Int} (h : Reach w R d m) {p : Addr} (hp : R ≠ p.block) (u : Value) : Reach (w.setCell p u) R d m := (Below.heap_setCell w p u R hp).trans h
theorem Reach.below {w w' : World} {R B : Nat} {d m : Int} (h : Reach w R d m) (hb : Below B w w') (hB : R < B) : Reach w' R d m := (hb.block R hB).trans h
theorem Reach.new (w : World) (d m : Int) : Reach (w.alloc (.cells #[.int .i64 d, .int .i64 m] 115)) w.heap.size d m := World.alloc_heap_new w _
theorem Reach.set {w : World} {R : Nat} {d m : Int} (h : Reach w R d m) (d' m' : Int) : Reach ((w.setCell ⟨R, 0, none⟩ (.int .i64 d')).setCell ⟨R, 1, none⟩ (.int .i64 m')) R d' m' := by
  unfold Reach at h ⊢
  simp [World.setCell, Array.getElem?_modify, h]
theorem Reach.set0 {w : World} {R : Nat} {d m : Int} (h : Reach w R d m) (d' : Int) : Reach (w.setCell ⟨R, 0, none⟩ (.int .i64 d')) R d' m := by
  unfold Reach at h ⊢
  simp [World.setCell, Array.getElem?_modify, h]
/-- What a step of a walk leaves: all but block R's two cells as it was. -/
def Stepped (w : World) (R : Nat) (d m : Int) (w' : World) : Prop := w' = (w.setCell ⟨R, 0, none⟩ (.int .i64 d)).setCell ⟨R, 1, none⟩ (.int .i64 m)
theorem enter_no (R : Nat) (d m : Int) (w : World) (h : Reach w R d m) (h0 : d = 0 ∨ m = 0) : Calls Try.prog 83 #[.pointer (some ⟨R, 0, none⟩)] w fun e w' => e = .returned (.bool false) ∧ w = w' := by
  obtain ⟨c0, c1, -, -⟩ := h.cell
  by_cases hd : d = 0
  · subst hd
    go_enter Try.func83, Try.ntmps83
    go_wp2
    go_ret
    exact ⟨rfl, rfl⟩
  · obtain rfl : m = 0 := by omega
    have hd' : (d == 0) = false := by simpa using hd
    clear h0 hd
    go_enter Try.func83, Try.ntmps83
    go_wp2
    go_ret
    exact ⟨rfl, rfl⟩
theorem enter_yes (R : Nat) (d m : Int) (w : World) (h : Reach w R d m) (h0 : 0 < d) (h1 : 0 < m) (h2 : d ≤ 65536) (h3 : m ≤ 4194304) : Calls Try.prog 83 #[.pointer (some ⟨R, 0, none⟩)] w fun e w' => e = .returned (.bool true) ∧ w' = (w.setCell ⟨R, 0, none⟩ (.int .i64 (d - 1))).setCell ⟨R, 1, none⟩ (.int .i64 (m - 1)) := by
  obtain ⟨c0, c1, f0, f1⟩ := h.cell
  have hd' : (d == 0) = false := by simp; omega
  have hm' : (m == 0) = false := by simp; omega
  go_enter Try.func83, Try.ntmps83
  go_wp2
  go_ret
  exact ⟨rfl, rfl⟩
theorem leave_any (R : Nat) (d m : Int) (w : World) (h : Reach w R d m) (h0 : 0 ≤ d) (h2 : d ≤ 65536) : Calls Try.prog 84 #[.pointer (some ⟨R, 0, none⟩)] w fun e w' => (∃ v, e = .returned v) ∧ w' = w.setCell ⟨R, 0, none⟩ (.int .i64 (d + 1)) := by
  obtain ⟨c0, c1, f0, f1⟩ := h.cell
  go_enter Try.func84, Try.ntmps84
  go_wp2
  go_end0
  exact ⟨⟨_, rfl⟩, rfl⟩
theorem far_any (w : World) : Calls Try.prog 78 #[] w fun e w' => e = .returned (.pointer (some ⟨w.heap.size, 0, none⟩)) ∧ w' = w.alloc (.cells #[.int .i64 65536, .int .i64 4194304] 115) := by
  go_enter Try.func78, Try.ntmps78
  go_wp2
  go_ret
  exact ⟨rfl, rfl⟩
theorem allowed_any (w : World) : Calls Try.prog 51 #[] w fun e w' => e = .returned (.pointer (some ⟨w.heap.size, 0, none⟩)) ∧ w' = w.alloc (.cells #[.int .i64 32, .int .i64 4096] 115) := by
  go_enter Try.func51, Try.ntmps51
  go_wp2
  go_ret
  exact ⟨rfl, rfl⟩
end Val
end Go.Proofs.Ytmhlipncelgmlaa
