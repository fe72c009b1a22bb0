/- THE WALKS over the small functions of layer value: how far a walk may go, where a kind stands, comparisons of two numbers. -/
import Derived.Test.YtepfihanhdinfaaDoorRows
import Derived.WalkKit
import Derived.Lib.Hide
import Derived.WalkSpells
import Derived.WalkLawsBesides
import Derived.Below
import Derived.IntWalk
import Derived.Laws.OwnMore
import Derived.RangeFuncRecord
namespace Go.Proofs.YtepfihanhdinfaaDoor
open Go.RowKit
set_option linter.unusedVariables false
set_option linter.unusedSimpArgs false
namespace Val
/-- Of two numbers: below, the same, above. -/
def cmpV (a b : Int) : Int := if a < b then -1 else if b < a then 1 else 0
def placesL : List Int := [7, 5, 6, 4, 3, 0, 1, 2]
/-- Where a kind stands. -/
def placeV (k : Int) : Int := if k < 0 then k else if 8 ≤ k then k else placesL.getD k.toNat 0
/-- The table of places lies. -/
def Places (w : World) : Prop := ∀ i, i < 8 → w.cell? ⟨1, i, none⟩ = some (.int .i64 (placesL.getD i 0))
theorem ret_int {k : IntKind} {a b : Int} (h : a = b) : Ending.returned (.int k a) = .returned (.int k b) := by rw [h]
theorem Places.keep {w w' : World} (h : Places w) (hk : ∀ i, w'.cell? ⟨1, i, none⟩ = w.cell? ⟨1, i, none⟩) : Places w' := fun i hi => (hk i).trans (h i hi)
theorem Places.drew {w : World} (h : Places w) : Places w.drew := h
theorem Places.drewN {w : World} (h : Places w) (n : Nat) : Places (w.drewN n) := h
theorem Places.lt {w : World} (h : Places w) : 1 < w.heap.size := World.block_lt_of_cell? _ _ (h 0 (by decide))
theorem Places.below {w w' : World} {B : Nat} (h : Places w) (hb : Below B w w') (hB : 1 < B) : Places w' := h.keep fun i => hb.cell (p := ⟨1, i, none⟩) hB
theorem cmp_int (a b : Int) (w : World) : Calls Tryd.prog 41 #[.int .i64 a, .int .i64 b] w fun e w' => e = .returned (.int .i64 (cmpV a b)) ∧ w = w' := by
  by_cases h : a < b
  · have e : cmpV a b = -1 := by unfold cmpV; rw [if_pos h]
    rw [e]
    clear e
    have hd : decide (a < b) = true := by simpa using h
    go_enter Tryd.func41, Tryd.ntmps41
    go_wp2
    go_ret
    exact ⟨rfl, rfl⟩
  · by_cases h' : b < a
    · have e : cmpV a b = 1 := by unfold cmpV; rw [if_neg h, if_pos h']
      rw [e]
      clear e
      have hd : decide (a < b) = false := by simpa using h
      have hd' : decide (b < a) = true := by simpa using h'
      go_enter Tryd.func41, Tryd.ntmps41
      go_wp2
      go_ret
      exact ⟨rfl, rfl⟩
    · have e : cmpV a b = 0 := by unfold cmpV; rw [if_neg h, if_neg h']
      rw [e]
      clear e
      have hd : decide (a < b) = false := by simpa using h
      have hd' : decide (b < a) = false := by simpa using h'
      go_enter Tryd.func41, Tryd.ntmps41
      go_wp2
      go_ret
      exact ⟨rfl, rfl⟩
theorem cmp_i64 (a b : Int) (w : World) : Calls Tryd.prog 75 #[.int .i64 a, .int .i64 b] w fun e w' => e = .returned (.int .i64 (cmpV a b)) ∧ w = w' := by
  by_cases h : a < b
  · have e : cmpV a b = -1 := by unfold cmpV; rw [if_pos h]
    rw [e]
    clear e
    have hd : decide (a < b) = true := by simpa using h
    go_enter Tryd.func75, Tryd.ntmps75
    go_wp2
    go_ret
    exact ⟨rfl, rfl⟩
  · by_cases h' : b < a
    · have e : cmpV a b = 1 := by unfold cmpV; rw [if_neg h, if_pos h']
      rw [e]
      clear e
      have hd : decide (a < b) = false := by simpa using h
      have hd' : decide (b < a) = true := by simpa using h'
      go_enter Tryd.func75, Tryd.ntmps75
      go_wp2
      go_ret
      exact ⟨rfl, rfl⟩
    · have e : cmpV a b = 0 := by unfold cmpV; rw [if_neg h, if_neg h']
      rw [e]
      clear e
      have hd : decide (a < b) = false := by simpa using h
      have hd' : decide (b < a) = false := by simpa using h'
      go_enter Tryd.func75, Tryd.ntmps75
      go_wp2
      go_ret
      exact ⟨rfl, rfl⟩
theorem cmp_truth (a b : Int) (w : World) : Calls Tryd.prog 73 #[.int .i64 a, .int .i64 b] w fun e w' => e = .returned (.int .i64 (cmpV a b)) ∧ w = w' := by
  by_cases h : a < b
  · have e : cmpV a b = -1 := by unfold cmpV; rw [if_pos h]
    rw [e]
    clear e
    have hd : decide (a < b) = true := by simpa using h
    go_enter Tryd.func73, Tryd.ntmps73
    go_wp2
    go_ret
    exact ⟨rfl, rfl⟩
  · by_cases h' : b < a
    · have e : cmpV a b = 1 := by unfold cmpV; rw [if_neg h, if_pos h']
      rw [e]
      clear e
      have hd : decide (a < b) = false := by simpa using h
      have hd' : decide (b < a) = true := by simpa using h'
      go_enter Tryd.func73, Tryd.ntmps73
      go_wp2
      go_ret
      exact ⟨rfl, rfl⟩
    · have e : cmpV a b = 0 := by unfold cmpV; rw [if_neg h, if_neg h']
      rw [e]
      clear e
      have hd : decide (a < b) = false := by simpa using h
      have hd' : decide (b < a) = false := by simpa using h'
      go_enter Tryd.func73, Tryd.ntmps73
      go_wp2
      go_ret
      exact ⟨rfl, rfl⟩
def ofV (b : Bool) : Int := if b then 1 else 0
theorem of_any (b : Bool) (w : World) : Calls Tryd.prog 74 #[.bool b] w fun e w' => e = .returned (.int .i64 (ofV b)) ∧ w = w' := by
  cases b
  · go_enter Tryd.func74, Tryd.ntmps74
    go_wp2
    go_ret
    exact ⟨rfl, rfl⟩
  · go_enter Tryd.func74, Tryd.ntmps74
    go_wp2
    go_ret
    exact ⟨rfl, rfl⟩
theorem place_in (k : Nat) (x : Int) (w : World) (hk : k < 8) (hx : w.cell? ⟨1, k, none⟩ = some (.int .i64 x)) : Calls Tryd.prog 72 #[.int .i64 k] w fun e w' => e = .returned (.int .i64 x) ∧ w = w' := by
  have h1 : decide ((k : Int) < 0) = false := by simp
  have h2 : decide (8 ≤ (k : Int)) = false := by simp; omega
  go_enter Tryd.func72, Tryd.ntmps72
  go_wp2
  go_ret
  exact ⟨rfl, rfl⟩
theorem place_any (k : Int) (w : World) (ht : Places w) : Calls Tryd.prog 72 #[.int .i64 k] w fun e w' => e = .returned (.int .i64 (placeV k)) ∧ w = w' := by
  by_cases h : k < 0
  · have e : placeV k = k := by unfold placeV; rw [if_pos h]
    rw [e]
    clear e
    have hd : decide (k < 0) = true := by simpa using h
    go_enter Tryd.func72, Tryd.ntmps72
    go_wp2
    go_ret
    exact ⟨rfl, rfl⟩
  · by_cases h' : 8 ≤ k
    · have e : placeV k = k := by unfold placeV; rw [if_neg h, if_pos h']
      rw [e]
      clear e
      have hd : decide (k < 0) = false := by simpa using h
      have hd' : decide (8 ≤ k) = true := by simpa using h'
      go_enter Tryd.func72, Tryd.ntmps72
      go_wp2
      go_ret
      exact ⟨rfl, rfl⟩
    · have e : placeV k = placesL.getD k.toNat 0 := by unfold placeV; rw [if_neg h, if_neg h']
      rw [e]
      obtain ⟨n, rfl⟩ : ∃ n : Nat, k = n := ⟨k.toNat, by omega⟩
      have hn : n < 8 := by omega
      have := place_in n _ w hn (ht n hn)
      simpa using this
/-! ### How far a walk may go -/
/-- Block R holds how deep, and over how many parts, a walk may yet go. -/
def Reach (w : World) (R : Nat) (d m : Int) : Prop := w.heap[R]? = some (.cells #[.int .i64 d, .int .i64 m] 89 (0, 0))
theorem Reach.lt {w : World} {R : Nat} {d m : Int} (h : Reach w R d m) : R < w.heap.size := by
  rcases Nat.lt_or_ge R w.heap.size with hlt | hge
  · exact hlt
  · unfold Reach at h; rw [Array.getElem?_eq_none hge] at h; cases h
theorem Reach.cell {w : World} {R : Nat} {d m : Int} (h : Reach w R d m) : w.cell? ⟨R, 0, none⟩ = some (.int .i64 d) ∧ w.cell? ⟨R, 1, none⟩ = some (.int .i64 m) ∧ w.frozen? ⟨R, 0, none⟩ = false ∧ w.frozen? ⟨R, 1, none⟩ = false := by
  unfold Reach at h
  simp [World.cell?, World.frozen?, h]
theorem Reach.drew {w : World} {R : Nat} {d m : Int} (h : Reach w R d m) : Reach w.drew R d m := h
theorem Reach.drewN {w : World} {R : Nat} {d m : Int} (h : Reach w R d m) (n : Nat) : Reach (w.drewN n) R d m := h
theorem Reach.alloc {w : World} {R : Nat} {d m : Int} (h : Reach w R d m) (o : Obj) : Reach (w.alloc o) R d m := (Below.heap_alloc w o R h.lt).trans h
theorem Reach.far {w : World} {R : Nat} {d m : Int} (h : Reach w R d m) {p : Addr} (hp : R ≠ p.block) (u : Value) : Reach (w.setCell p u) R d m := (Below.heap_setCell w p u R hp).trans h
theorem Reach.below {w w' : World} {R B : Nat} {d m : Int} (h : Reach w R d m) (hb : Below B w w') (hB : R < B) : Reach w' R d m := (hb.block R hB).trans h
theorem Reach.new (w : World) (d m : Int) : Reach (w.alloc (.cells #[.int .i64 d, .int .i64 m] 89)) w.heap.size d m := World.alloc_heap_new w _
theorem Reach.set {w : World} {R : Nat} {d m : Int} (h : Reach w R d m) (d' m' : Int) : Reach ((w.setCell ⟨R, 0, none⟩ (.int .i64 d')).setCell ⟨R, 1, none⟩ (.int .i64 m')) R d' m' := by
  unfold Reach at h ⊢
  simp [World.setCell, Array.getElem?_modify, h]
theorem Reach.set0 {w : World} {R : Nat} {d m : Int} (h : Reach w R d m) (d' : Int) : Reach (w.setCell ⟨R, 0, none⟩ (.int .i64 d')) R d' m := by
  unfold Reach at h ⊢
  simp [World.setCell, Array.getElem?_modify, h]
/-- What a step of a walk leaves: all but block R's two cells as it was. -/
def Stepped (w : World) (R : Nat) (d m : Int) (w' : World) : Prop := w' = (w.setCell ⟨R, 0, none⟩ (.int .i64 d)).setCell ⟨R, 1, none⟩ (.int .i64 m)
theorem enter_no (R : Nat) (d m : Int) (w : World) (h : Reach w R d m) (h0 : d = 0 ∨ m = 0) : Calls Tryd.prog 60 #[.pointer (some ⟨R, 0, none⟩)] w fun e w' => e = .returned (.bool false) ∧ w = w' := by
  obtain ⟨c0, c1, -, -⟩ := h.cell
  by_cases hd : d = 0
  · subst hd
    go_enter Tryd.func60, Tryd.ntmps60
    go_wp2
    go_ret
    exact ⟨rfl, rfl⟩
  · obtain rfl : m = 0 := by omega
    have hd' : (d == 0) = false := by simpa using hd
    clear h0 hd
    go_enter Tryd.func60, Tryd.ntmps60
    go_wp2
    go_ret
    exact ⟨rfl, rfl⟩
theorem enter_yes (R : Nat) (d m : Int) (w : World) (h : Reach w R d m) (h0 : 0 < d) (h1 : 0 < m) (h2 : d ≤ 65536) (h3 : m ≤ 4194304) : Calls Tryd.prog 60 #[.pointer (some ⟨R, 0, none⟩)] w fun e w' => e = .returned (.bool true) ∧ w' = (w.setCell ⟨R, 0, none⟩ (.int .i64 (d - 1))).setCell ⟨R, 1, none⟩ (.int .i64 (m - 1)) := by
  obtain ⟨c0, c1, f0, f1⟩ := h.cell
  have hd' : (d == 0) = false := by simp; omega
  have hm' : (m == 0) = false := by simp; omega
  go_enter Tryd.func60, Tryd.ntmps60
  go_wp2
  go_ret
  exact ⟨rfl, rfl⟩
theorem leave_any (R : Nat) (d m : Int) (w : World) (h : Reach w R d m) (h0 : 0 ≤ d) (h2 : d ≤ 65536) : Calls Tryd.prog 61 #[.pointer (some ⟨R, 0, none⟩)] w fun e w' => (∃ v, e = .returned v) ∧ w' = w.setCell ⟨R, 0, none⟩ (.int .i64 (d + 1)) := by
  obtain ⟨c0, c1, f0, f1⟩ := h.cell
  go_enter Tryd.func61, Tryd.ntmps61
  go_wp2
  go_end0
  exact ⟨⟨_, rfl⟩, rfl⟩
theorem far_any (w : World) : Calls Tryd.prog 42 #[] w fun e w' => e = .returned (.pointer (some ⟨w.heap.size, 0, none⟩)) ∧ w' = w.alloc (.cells #[.int .i64 65536, .int .i64 4194304] 89) := by
  go_enter Tryd.func42, Tryd.ntmps42
  go_wp2
  go_ret
  exact ⟨rfl, rfl⟩
theorem allowed_any (w : World) : Calls Tryd.prog 34 #[] w fun e w' => e = .returned (.pointer (some ⟨w.heap.size, 0, none⟩)) ∧ w' = w.alloc (.cells #[.int .i64 32, .int .i64 4096] 89) := by
  go_enter Tryd.func34, Tryd.ntmps34
  go_wp2
  go_ret
  exact ⟨rfl, rfl⟩
end Val
end Go.Proofs.YtepfihanhdinfaaDoor
