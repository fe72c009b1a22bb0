/- THE WALKS over the functions of two truths of layer logic, and over the document's own answers of one and two. -/
import Derived.Test.YtpkokofjniiagaaDoorRows
import Derived.Test.YtpkokofjniiagaaDoorLogicPlain
import Derived.Test.YtpkokofjniiagaaDoorLogicWalks
import Derived.WalkKit
import Derived.Lib.Hide
import Derived.WalkSpells
import Derived.WalkLawsBesides
import Derived.Deep.QuietTactic
import Derived.BigQuiet
import Derived.Deep.RegionWith
namespace Go.Proofs.YtpkokofjniiagaaDoor
open Go.RowKit
set_option linter.unusedVariables false
set_option linter.unusedSimpArgs false
namespace Logic
theorem Tab.drewN {w : World} {g : Nat} {zs : List Int} (n : Nat) (h : Tab w g zs) : Tab (w.drewN n) g zs := fun i hi => h i hi
theorem Tabs.drewN {w : World} (n : Nat) (h : Tabs w) : Tabs (w.drewN n) := ⟨h.nots.drewN n, h.ands.drewN n, h.ors.drewN n⟩
/-- A number is 0, is 1, or neither, as a walk's tests say it. -/
theorem cases3b (n : Int) : n = 0 ∨ n = 1 ∨ ((n == 0) = false ∧ (n == 1) = false) := by
  rcases cases3 n with h | h | ⟨h, h'⟩
  · exact .inl h
  · exact .inr (.inl h)
  · exact .inr (.inr ⟨by simpa using h, by simpa using h'⟩)
theorem cnt_two {n : Int} (h : (n == 0) = false) (h' : (n == 1) = false) : cnt n = 2 := by
  unfold cnt
  rw [if_neg (by simpa using h), if_neg (by simpa using h')]
set_option maxHeartbeats 1600000 in
theorem and_cell (a b v : Int) (i j : Nat) (w : World) (hi : cnt a = (i : Int)) (hj : cnt b = (j : Int)) (hi2 : i ≤ 2) (hj2 : j ≤ 2) (hcell : w.cell? ⟨1, i * 3 + j, none⟩ = some (.int .i64 v)) :
    Calls Tryd.prog 13 #[.int .i64 a, .int .i64 b] w fun e w' => e = .returned (.int .i64 v) ∧ ∃ n, w' = w.drewN n := by
  have HI := Lib.hid hi
  have HJ := Lib.hid hj
  clear hi hj
  go_enter Tryd.func13, Tryd.ntmps13
  go_wp2_with fail
  go_quiet (first | (go_at_call_of 24 (Value.int .i64 a); exact Calls.quiet_of_same (plain_is a _ _ HI.out)) | (go_at_call_of 24 (Value.int .i64 b); exact Calls.quiet_of_same (plain_is b _ _ HJ.out)))
  go_wp2_with fail
  go_ret
  exact ⟨rfl, _, rfl⟩
theorem and_any (a b : Int) (w : World) (ht : Tab w 1 ands) :
    Calls Tryd.prog 13 #[.int .i64 a, .int .i64 b] w fun e w' => e = .returned (.int .i64 (andV a b)) ∧ ∃ n, w' = w.drewN n := by
  rcases cases3b a with rfl | rfl | ⟨h, h'⟩ <;> rcases cases3b b with rfl | rfl | ⟨k, k'⟩
  · have e : andV 0 0 = 0 := rfl
    rw [e]
    exact and_cell 0 0 0 0 0 w rfl rfl (by omega) (by omega) (ht 0 (by decide))
  · have e : andV 0 1 = 0 := rfl
    rw [e]
    exact and_cell 0 1 0 0 1 w rfl rfl (by omega) (by omega) (ht 1 (by decide))
  · have e : andV 0 b = 0 := (by simp at *; simp [andV, *])
    rw [e]
    exact and_cell 0 b 0 0 2 w rfl (cnt_two k k') (by omega) (by omega) (ht 2 (by decide))
  · have e : andV 1 0 = 0 := rfl
    rw [e]
    exact and_cell 1 0 0 1 0 w rfl rfl (by omega) (by omega) (ht 3 (by decide))
  · have e : andV 1 1 = 1 := rfl
    rw [e]
    exact and_cell 1 1 1 1 1 w rfl rfl (by omega) (by omega) (ht 4 (by decide))
  · have e : andV 1 b = 2 := (by simp at *; simp [andV, *])
    rw [e]
    exact and_cell 1 b 2 1 2 w rfl (cnt_two k k') (by omega) (by omega) (ht 5 (by decide))
  · have e : andV a 0 = 0 := (by simp at *; simp [andV, *])
    rw [e]
    exact and_cell a 0 0 2 0 w (cnt_two h h') rfl (by omega) (by omega) (ht 6 (by decide))
  · have e : andV a 1 = 2 := (by simp at *; simp [andV, *])
    rw [e]
    exact and_cell a 1 2 2 1 w (cnt_two h h') rfl (by omega) (by omega) (ht 7 (by decide))
  · have e : andV a b = 2 := (by simp at *; simp [andV, *])
    rw [e]
    exact and_cell a b 2 2 2 w (cnt_two h h') (cnt_two k k') (by omega) (by omega) (ht 8 (by decide))
set_option maxHeartbeats 1600000 in
theorem or_cell (a b v : Int) (i j : Nat) (w : World) (hi : cnt a = (i : Int)) (hj : cnt b = (j : Int)) (hi2 : i ≤ 2) (hj2 : j ≤ 2) (hcell : w.cell? ⟨2, i * 3 + j, none⟩ = some (.int .i64 v)) :
    Calls Tryd.prog 15 #[.int .i64 a, .int .i64 b] w fun e w' => e = .returned (.int .i64 v) ∧ ∃ n, w' = w.drewN n := by
  have HI := Lib.hid hi
  have HJ := Lib.hid hj
  clear hi hj
  go_enter Tryd.func15, Tryd.ntmps15
  go_wp2_with fail
  go_quiet (first | (go_at_call_of 24 (Value.int .i64 a); exact Calls.quiet_of_same (plain_is a _ _ HI.out)) | (go_at_call_of 24 (Value.int .i64 b); exact Calls.quiet_of_same (plain_is b _ _ HJ.out)))
  go_wp2_with fail
  go_ret
  exact ⟨rfl, _, rfl⟩
theorem or_any (a b : Int) (w : World) (ht : Tab w 2 ors) :
    Calls Tryd.prog 15 #[.int .i64 a, .int .i64 b] w fun e w' => e = .returned (.int .i64 (orV a b)) ∧ ∃ n, w' = w.drewN n := by
  rcases cases3b a with rfl | rfl | ⟨h, h'⟩ <;> rcases cases3b b with rfl | rfl | ⟨k, k'⟩
  · have e : orV 0 0 = 0 := rfl
    rw [e]
    exact or_cell 0 0 0 0 0 w rfl rfl (by omega) (by omega) (ht 0 (by decide))
  · have e : orV 0 1 = 1 := rfl
    rw [e]
    exact or_cell 0 1 1 0 1 w rfl rfl (by omega) (by omega) (ht 1 (by decide))
  · have e : orV 0 b = 2 := (by simp at *; simp [orV, *])
    rw [e]
    exact or_cell 0 b 2 0 2 w rfl (cnt_two k k') (by omega) (by omega) (ht 2 (by decide))
  · have e : orV 1 0 = 1 := rfl
    rw [e]
    exact or_cell 1 0 1 1 0 w rfl rfl (by omega) (by omega) (ht 3 (by decide))
  · have e : orV 1 1 = 1 := rfl
    rw [e]
    exact or_cell 1 1 1 1 1 w rfl rfl (by omega) (by omega) (ht 4 (by decide))
  · have e : orV 1 b = 1 := (by simp at *; simp [orV, *])
    rw [e]
    exact or_cell 1 b 1 1 2 w rfl (cnt_two k k') (by omega) (by omega) (ht 5 (by decide))
  · have e : orV a 0 = 2 := (by simp at *; simp [orV, *])
    rw [e]
    exact or_cell a 0 2 2 0 w (cnt_two h h') rfl (by omega) (by omega) (ht 6 (by decide))
  · have e : orV a 1 = 1 := (by simp at *; simp [orV, *])
    rw [e]
    exact or_cell a 1 1 2 1 w (cnt_two h h') rfl (by omega) (by omega) (ht 7 (by decide))
  · have e : orV a b = 2 := (by simp at *; simp [orV, *])
    rw [e]
    exact or_cell a b 2 2 2 w (cnt_two h h') (cnt_two k k') (by omega) (by omega) (ht 8 (by decide))
set_option maxHeartbeats 1600000 in
theorem xor_cell (a b v : Int) (i j : Nat) (w : World) (hi : cnt a = (i : Int)) (hj : cnt b = (j : Int)) (hi2 : i ≤ 2) (hj2 : j ≤ 2) (hcell : w.cell? ⟨3, i * 3 + j, none⟩ = some (.int .i64 v)) :
    Calls Tryd.prog 17 #[.int .i64 a, .int .i64 b] w fun e w' => e = .returned (.int .i64 v) ∧ ∃ n, w' = w.drewN n := by
  have HI := Lib.hid hi
  have HJ := Lib.hid hj
  clear hi hj
  go_enter Tryd.func17, Tryd.ntmps17
  go_wp2_with fail
  go_quiet (first | (go_at_call_of 24 (Value.int .i64 a); exact Calls.quiet_of_same (plain_is a _ _ HI.out)) | (go_at_call_of 24 (Value.int .i64 b); exact Calls.quiet_of_same (plain_is b _ _ HJ.out)))
  go_wp2_with fail
  go_ret
  exact ⟨rfl, _, rfl⟩
theorem xor_any (a b : Int) (w : World) (ht : Tab w 3 xors) :
    Calls Tryd.prog 17 #[.int .i64 a, .int .i64 b] w fun e w' => e = .returned (.int .i64 (xorV a b)) ∧ ∃ n, w' = w.drewN n := by
  rcases cases3b a with rfl | rfl | ⟨h, h'⟩ <;> rcases cases3b b with rfl | rfl | ⟨k, k'⟩
  · have e : xorV 0 0 = 0 := rfl
    rw [e]
    exact xor_cell 0 0 0 0 0 w rfl rfl (by omega) (by omega) (ht 0 (by decide))
  · have e : xorV 0 1 = 1 := rfl
    rw [e]
    exact xor_cell 0 1 1 0 1 w rfl rfl (by omega) (by omega) (ht 1 (by decide))
  · have e : xorV 0 b = 2 := (by simp at *; simp [xorV, *])
    rw [e]
    exact xor_cell 0 b 2 0 2 w rfl (cnt_two k k') (by omega) (by omega) (ht 2 (by decide))
  · have e : xorV 1 0 = 1 := rfl
    rw [e]
    exact xor_cell 1 0 1 1 0 w rfl rfl (by omega) (by omega) (ht 3 (by decide))
  · have e : xorV 1 1 = 0 := rfl
    rw [e]
    exact xor_cell 1 1 0 1 1 w rfl rfl (by omega) (by omega) (ht 4 (by decide))
  · have e : xorV 1 b = 2 := (by simp at *; simp [xorV, *])
    rw [e]
    exact xor_cell 1 b 2 1 2 w rfl (cnt_two k k') (by omega) (by omega) (ht 5 (by decide))
  · have e : xorV a 0 = 2 := (by simp at *; simp [xorV, *])
    rw [e]
    exact xor_cell a 0 2 2 0 w (cnt_two h h') rfl (by omega) (by omega) (ht 6 (by decide))
  · have e : xorV a 1 = 2 := (by simp at *; simp [xorV, *])
    rw [e]
    exact xor_cell a 1 2 2 1 w (cnt_two h h') rfl (by omega) (by omega) (ht 7 (by decide))
  · have e : xorV a b = 2 := (by simp at *; simp [xorV, *])
    rw [e]
    exact xor_cell a b 2 2 2 w (cnt_two h h') (cnt_two k k') (by omega) (by omega) (ht 8 (by decide))
end Logic
end Go.Proofs.YtpkokofjniiagaaDoor
