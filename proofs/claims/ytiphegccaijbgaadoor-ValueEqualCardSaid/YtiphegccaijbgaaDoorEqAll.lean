/- logic.All of any list of truths (out of layer 2's texts). -/
import Derived.Test.YtiphegccaijbgaaDoorRows
import Derived.Test.YtiphegccaijbgaaDoorLogicPlain
import Derived.WalkKit
import Derived.Lib.Hide
import Derived.WalkSpells
import Derived.WalkLawsBesides
import Derived.Deep.QuietTactic
import Derived.BigQuiet
import Derived.Deep.RegionWith
namespace Go.Proofs.YtiphegccaijbgaaDoor
open Go.RowKit
set_option linter.unusedVariables false
set_option linter.unusedSimpArgs false
namespace Logic
theorem _root_.Go.RowKit.Below.drewN {B : Nat} {a : World} (n : Nat) (w : World) (h : Below B a w) : Below B a (w.drewN n) := ⟨h.os, h.tape, h.output, h.size, h.block⟩
def ands : List Int := [0, 0, 0, 0, 1, 2, 0, 2, 2]
/-- A block holds a table from its head on. -/
def Tab (w : World) (g : Nat) (zs : List Int) : Prop := ∀ i : Nat, i < zs.length → w.cell? ⟨g, i, none⟩ = some (.int .i64 (zs.getD i 0))
theorem Tab.pos {w : World} {g : Nat} {zs : List Int} (h : Tab w g zs) (hz : 0 < zs.length) : g < w.heap.size := by
  have h0 := h 0 hz
  unfold World.cell? at h0
  by_cases k : g < w.heap.size
  · exact k
  · rw [Array.getElem?_eq_none (by simpa using k)] at h0
    simp at h0
theorem Tab.below {w w' : World} {g B : Nat} {zs : List Int} (h : Tab w g zs) (hz : g < B) (hb : Below B w w') : Tab w' g zs := fun i hi => by
  rw [hb.cell (p := ⟨g, i, none⟩) hz]; exact h i hi
/-- The three, and what one truth counts as. -/
theorem plain_zero (w : World) : Calls Tryd.prog 87 #[.int .i64 0] w fun e w' => e = .returned (.int .i64 0) ∧ w = w' := by
  go_enter Tryd.func87, Tryd.ntmps87
  go_wp2
  go_ret
  exact ⟨rfl, rfl⟩
theorem plain_one (w : World) : Calls Tryd.prog 87 #[.int .i64 1] w fun e w' => e = .returned (.int .i64 1) ∧ w = w' := by
  go_enter Tryd.func87, Tryd.ntmps87
  go_wp2
  go_ret
  exact ⟨rfl, rfl⟩
theorem plain_two (n : Int) (w : World) (h0 : (n == 0) = false) (h1 : (n == 1) = false) : Calls Tryd.prog 87 #[.int .i64 n] w fun e w' => e = .returned (.int .i64 2) ∧ w = w' := by
  go_enter Tryd.func87, Tryd.ntmps87
  go_wp2
  go_ret
  exact ⟨rfl, rfl⟩
theorem plain_any (n : Int) (w : World) : Calls Tryd.prog 87 #[.int .i64 n] w fun e w' => e = .returned (.int .i64 (cnt n)) ∧ w = w' := by
  rcases cases3 n with rfl | rfl | ⟨h, h'⟩
  · exact plain_zero w
  · exact plain_one w
  · rw [show cnt n = 2 by unfold cnt; rw [if_neg h, if_neg h']]
    exact plain_two n w (by simpa using h) (by simpa using h')
theorem plain_is (n c : Int) (w : World) (h : cnt n = c) : Calls Tryd.prog 87 #[.int .i64 n] w fun e w' => e = .returned (.int .i64 c) ∧ w' = w :=
  (plain_any n w).mono fun e w' ⟨he, hw⟩ => ⟨by rw [he, h], hw.symm⟩
theorem Tab.drewN {w : World} {g : Nat} {zs : List Int} (n : Nat) (h : Tab w g zs) : Tab (w.drewN n) g zs := fun i hi => h i hi
/-- A number is 0, is 1, or neither, as a walk's tests say it. -/
theorem cases3b (n : Int) : n = 0 ∨ n = 1 ∨ ((n == 0) = false ∧ (n == 1) = false) := by
  rcases cases3 n with h | h | ⟨h, h'⟩
  · exact .inl h
  · exact .inr (.inl h)
  · exact .inr (.inr ⟨by simpa using h, by simpa using h'⟩)
theorem cnt_two {n : Int} (h : (n == 0) = false) (h' : (n == 1) = false) : cnt n = 2 := by
  unfold cnt
  rw [if_neg (by simpa using h), if_neg (by simpa using h')]
set_option maxHeartbeats 1600000 in
theorem and_cell (a b v : Int) (i j : Nat) (w : World) (hi : cnt a = (i : Int)) (hj : cnt b = (j : Int)) (hi2 : i ≤ 2) (hj2 : j ≤ 2) (hcell : w.cell? ⟨2, i * 3 + j, none⟩ = some (.int .i64 v)) :
    Calls Tryd.prog 72 #[.int .i64 a, .int .i64 b] w fun e w' => e = .returned (.int .i64 v) ∧ ∃ n, w' = w.drewN n := by
  have HI := Lib.hid hi
  have HJ := Lib.hid hj
  clear hi hj
  go_enter Tryd.func72, Tryd.ntmps72
  go_wp2_with fail
  go_quiet (first | (go_at_call_of 87 (Value.int .i64 a); exact Calls.quiet_of_same (plain_is a _ _ HI.out)) | (go_at_call_of 87 (Value.int .i64 b); exact Calls.quiet_of_same (plain_is b _ _ HJ.out)))
  go_wp2_with fail
  go_ret
  exact ⟨rfl, _, rfl⟩
theorem and_any (a b : Int) (w : World) (ht : Tab w 2 ands) :
    Calls Tryd.prog 72 #[.int .i64 a, .int .i64 b] w fun e w' => e = .returned (.int .i64 (andV a b)) ∧ ∃ n, w' = w.drewN n := by
  rcases cases3b a with rfl | rfl | ⟨h, h'⟩ <;> rcases cases3b b with rfl | rfl | ⟨k, k'⟩
  · have e : andV 0 0 = 0 := rfl
    rw [e]
    exact and_cell 0 0 0 0 0 w rfl rfl (by omega) (by omega) (ht 0 (by decide))
  · have e : andV 0 1 = 0 := rfl
    rw [e]
    exact and_cell 0 1 0 0 1 w rfl rfl (by omega) (by omega) (ht 1 (by decide))
  · have e : andV 0 b = 0 := (by simp at *; simp [andV, *])
    rw [e]
    exact and_cell 0 b 0 0 2 w rfl (cnt_two k k') (by omega) (by omega) (ht 2 (by decide))
  · have e : andV 1 0 = 0 := rfl
    rw [e]
    exact and_cell 1 0 0 1 0 w rfl rfl (by omega) (by omega) (ht 3 (by decide))
  · have e : andV 1 1 = 1 := rfl
    rw [e]
    exact and_cell 1 1 1 1 1 w rfl rfl (by omega) (by omega) (ht 4 (by decide))
  · have e : andV 1 b = 2 := (by simp at *; simp [andV, *])
    rw [e]
    exact and_cell 1 b 2 1 2 w rfl (cnt_two k k') (by omega) (by omega) (ht 5 (by decide))
  · have e : andV a 0 = 0 := (by simp at *; simp [andV, *])
    rw [e]
    exact and_cell a 0 0 2 0 w (cnt_two h h') rfl (by omega) (by omega) (ht 6 (by decide))
  · have e : andV a 1 = 2 := (by simp at *; simp [andV, *])
    rw [e]
    exact and_cell a 1 2 2 1 w (cnt_two h h') rfl (by omega) (by omega) (ht 7 (by decide))
  · have e : andV a b = 2 := (by simp at *; simp [andV, *])
    rw [e]
    exact and_cell a b 2 2 2 w (cnt_two h h') (cnt_two k k') (by omega) (by omega) (ht 8 (by decide))
/-- Numbers that stand one by one from an address on. -/
def Row (w : World) (a : Addr) (zs : List Int) : Prop := ∀ i, i < zs.length → w.cell? (a.add i) = some (.int .i64 (zs.getD i 0))
theorem Row.drewN {w : World} {a : Addr} {zs : List Int} (n : Nat) (h : Row w a zs) : Row (w.drewN n) a zs := fun i hi => h i hi
/-- A slice of numbers: nil, or at an address. -/
def Lst (w : World) (v : Value) (zs : List Int) : Prop :=
  (v = .slice none 0 0 ∧ zs = []) ∨ ∃ a cap, v = .slice (some a) zs.length cap ∧ Row w a zs ∧ zs.length ≤ maxLen
theorem Lst.drewN {w : World} {v : Value} {zs : List Int} (n : Nat) (h : Lst w v zs) : Lst (w.drewN n) v zs :=
  h.imp id fun ⟨a, c, e, hr, hm⟩ => ⟨a, c, e, hr.drewN n, hm⟩
theorem foldAnd_nil (z : Int) (w : World) :
    Calls Tryd.prog 71 #[.func (.func 72) #[] #[], .int .i64 z, .slice none 0 0] w fun e w' => e = .returned (.int .i64 z) ∧ ∃ n, w' = w.drewN n := by
  go_enter Tryd.func71, Tryd.ntmps71
  go_wp2
  go_loop [7, 13] (fun out i => out = .int .i64 z ∧ i = .int .i64 0) (fun _ _ => 0)
  case atStart => exact ⟨rfl, rfl⟩
  case round =>
    obtain ⟨rfl, rfl⟩ := hrel
    go_wp2
    go_ret
    exact ⟨rfl, 0, rfl⟩
set_option maxHeartbeats 800000 in
theorem foldAnd_some (z : Int) (a : Addr) (cap : Nat) (zs : List Int) (w : World) (hr : Row w a zs) (hm : zs.length ≤ maxLen) (ht : Tab w 2 ands) :
    Calls Tryd.prog 71 #[.func (.func 72) #[] #[], .int .i64 z, .slice (some a) zs.length cap] w fun e w' => e = .returned (.int .i64 (zs.foldl andV z)) ∧ ∃ n, w' = w.drewN n := by
  unfold maxLen at hm
  have HT := Lib.hid ht
  have HR := Lib.hid hr
  clear ht hr
  generalize hL : zs.length = L at hm
  have HL := Lib.hid hL
  clear hL
  go_enter Tryd.func71, Tryd.ntmps71
  go_wp2
  go_loopw [7, 9, 13] (fun out t i wr => ∃ k n : Nat, k ≤ L ∧ i = .int .i64 k ∧ out = .int .i64 ((zs.take k).foldl andV z) ∧ wr = w.drewN n) (fun _ _ i _ => L - (intOf i).toNat)
  case atStart => exact ⟨0, 0, by omega, rfl, rfl, rfl⟩
  case round =>
    obtain ⟨k, n, hk, rfl, rfl, rfl⟩ := hrel
    by_cases hlt : k < L
    · have hc := HR.out k (by rw [HL.out]; exact hlt)
      go_wp2_with (go_at_call 72; refine (and_any _ _ _ (HT.out.drewN _)).mono ?_; rintro e w1 ⟨rfl, n1, rfl⟩)
      go_roundw
      case rel => exact ⟨k + 1, _, by omega, by go_num, by rw [take_succ_getD zs (by rw [HL.out]; exact hlt), List.foldl_append]; rfl, rfl⟩
      case measure => simp [intOf]; omega
    · obtain rfl : k = L := by omega
      go_wp2
      go_ret
      exact ⟨by rw [List.take_of_length_le (by rw [HL.out]; exact Nat.le_refl _)]; rfl, _, rfl⟩
theorem foldAnd_any (z : Int) (v : Value) (zs : List Int) (w : World) (h : Lst w v zs) (ht : Tab w 2 ands) :
    Calls Tryd.prog 71 #[.func (.func 72) #[] #[], .int .i64 z, v] w fun e w' => e = .returned (.int .i64 (zs.foldl andV z)) ∧ ∃ n, w' = w.drewN n := by
  rcases h with ⟨rfl, rfl⟩ | ⟨a, cap, rfl, hr, hm⟩
  · exact foldAnd_nil z w
  · exact foldAnd_some z a cap zs w hr hm ht
theorem all_any (v : Value) (zs : List Int) (w : World) (h : Lst w v zs) (ht : Tab w 2 ands) :
    Calls Tryd.prog 59 #[v] w fun e w' => e = .returned (.int .i64 (allV zs)) ∧ ∃ n, w' = w.drewN n := by
  have HT := Lib.hid ht
  have HS := Lib.hid h
  clear ht h
  go_enter Tryd.func59, Tryd.ntmps59
  go_wp2_with (go_at_call 71; refine (foldAnd_any _ _ _ _ HS.out HT.out).mono ?_; rintro e w1 ⟨rfl, n1, rfl⟩)
  go_ret
  exact ⟨rfl, _, rfl⟩
end Logic
end Go.Proofs.YtiphegccaijbgaaDoor
