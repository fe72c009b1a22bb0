/- THE WALKS over the functions of two truths of layer logic, and over the document's own answers of one and two. -/
import Derived.Test.YtpkokofjniiagaaDoorRows
import Derived.Test.YtpkokofjniiagaaDoorLogicPlain
import Derived.Test.YtpkokofjniiagaaDoorLogicWalks
import Derived.Test.YtpkokofjniiagaaDoorLogicWalks2
import Derived.WalkKit
import Derived.Lib.Hide
import Derived.WalkSpells
import Derived.WalkLawsBesides
import Derived.Deep.QuietTactic
import Derived.BigQuiet
import Derived.Deep.RegionWith
namespace Go.Proofs.YtpkokofjniiagaaDoor
open Go.RowKit
set_option linter.unusedVariables false
set_option linter.unusedSimpArgs false
namespace Logic
/-- Is a number True or False? -/
def knownV (n : Int) : Bool := if n = 0 then true else if n = 1 then true else false
theorem knownV_two {n : Int} (h : (n == 0) = false) (h' : (n == 1) = false) : knownV n = false := by
  unfold knownV
  rw [if_neg (by simpa using h), if_neg (by simpa using h')]
theorem known_zero (w : World) : Calls Tryd.prog 25 #[.int .i64 0] w fun e w' => e = .returned (.bool true) ∧ w = w' := by
  go_enter Tryd.func25, Tryd.ntmps25
  go_wp2
  go_ret
  exact ⟨rfl, rfl⟩
theorem known_one (w : World) : Calls Tryd.prog 25 #[.int .i64 1] w fun e w' => e = .returned (.bool true) ∧ w = w' := by
  go_enter Tryd.func25, Tryd.ntmps25
  go_wp2
  go_ret
  exact ⟨rfl, rfl⟩
theorem known_two (n : Int) (w : World) (h : (n == 0) = false) (h1 : (n == 1) = false) : Calls Tryd.prog 25 #[.int .i64 n] w fun e w' => e = .returned (.bool false) ∧ w = w' := by
  go_enter Tryd.func25, Tryd.ntmps25
  go_wp2
  go_ret
  exact ⟨rfl, rfl⟩
theorem known_any (n : Int) (w : World) : Calls Tryd.prog 25 #[.int .i64 n] w fun e w' => e = .returned (.bool (knownV n)) ∧ w = w' := by
  rcases cases3b n with rfl | rfl | ⟨h, h'⟩
  · exact known_zero w
  · exact known_one w
  · rw [knownV_two h h']
    exact known_two n w h h'
theorem of_any (b : Bool) (w : World) : Calls Tryd.prog 8 #[.bool b] w fun e w' => e = .returned (.int .i64 (ofV b)) ∧ w = w' := by
  cases b
  all_goals go_enter Tryd.func8, Tryd.ntmps8
  all_goals go_wp2
  all_goals go_ret
  all_goals exact ⟨rfl, rfl⟩
theorem rof_any (b : Bool) (w : World) : Calls Tryd.prog 9 #[.bool b] w fun e w' => e = .returned (.int .i64 (ofV b)) ∧ w = w' := by
  cases b
  all_goals go_enter Tryd.func9, Tryd.ntmps9
  all_goals go_wp2
  all_goals go_ret
  all_goals exact ⟨rfl, rfl⟩
theorem rnot_any (a : Int) (w : World) : Calls Tryd.prog 12 #[.int .i64 a] w fun e w' => e = .returned (.int .i64 (notV a)) ∧ w = w' := by
  have hk0 : knownV 0 = true := rfl
  have hk1 : knownV 1 = true := rfl
  rcases cases3b a with rfl | rfl | ⟨h, h'⟩
  all_goals try have hka := knownV_two h h'
  all_goals go_enter Tryd.func12, Tryd.ntmps12
  all_goals go_wp2_with (first | (go_at_call 25; refine (known_any _ _).mono ?_; rintro e w' ⟨rfl, rfl⟩) | (go_at_call 9; refine (rof_any _ _).mono ?_; rintro e w' ⟨rfl, rfl⟩))
  all_goals go_ret
  all_goals first | exact ⟨rfl, rfl⟩ | (refine ⟨ret_int ?_, rfl⟩; simp at h h'; simp [notV, *])
set_option maxHeartbeats 1600000 in
theorem rand_any (a b : Int) (w : World) : Calls Tryd.prog 14 #[.int .i64 a, .int .i64 b] w fun e w' => e = .returned (.int .i64 (andV a b)) ∧ w = w' := by
  have hk0 : knownV 0 = true := rfl
  have hk1 : knownV 1 = true := rfl
  rcases cases3b a with rfl | rfl | ⟨h, h'⟩ <;> rcases cases3b b with rfl | rfl | ⟨k, k'⟩
  all_goals try have hka := knownV_two h h'
  all_goals try have hkb := knownV_two k k'
  all_goals go_enter Tryd.func14, Tryd.ntmps14
  all_goals go_wp2_with (first | (go_at_call 25; refine (known_any _ _).mono ?_; rintro e w' ⟨rfl, rfl⟩))
  all_goals go_ret
  all_goals first | exact ⟨rfl, rfl⟩ | (refine ⟨ret_int ?_, rfl⟩; simp at *; simp [andV, *])
set_option maxHeartbeats 1600000 in
theorem ror_any (a b : Int) (w : World) : Calls Tryd.prog 16 #[.int .i64 a, .int .i64 b] w fun e w' => e = .returned (.int .i64 (orV a b)) ∧ w = w' := by
  have hk0 : knownV 0 = true := rfl
  have hk1 : knownV 1 = true := rfl
  rcases cases3b a with rfl | rfl | ⟨h, h'⟩ <;> rcases cases3b b with rfl | rfl | ⟨k, k'⟩
  all_goals try have hka := knownV_two h h'
  all_goals try have hkb := knownV_two k k'
  all_goals go_enter Tryd.func16, Tryd.ntmps16
  all_goals go_wp2_with (first | (go_at_call 25; refine (known_any _ _).mono ?_; rintro e w' ⟨rfl, rfl⟩))
  all_goals go_ret
  all_goals first | exact ⟨rfl, rfl⟩ | (refine ⟨ret_int ?_, rfl⟩; simp at *; simp [orV, *])
set_option maxHeartbeats 1600000 in
theorem rxor_any (a b : Int) (w : World) : Calls Tryd.prog 18 #[.int .i64 a, .int .i64 b] w fun e w' => e = .returned (.int .i64 (xorV a b)) ∧ w = w' := by
  have hk0 : knownV 0 = true := rfl
  have hk1 : knownV 1 = true := rfl
  rcases cases3b a with rfl | rfl | ⟨h, h'⟩ <;> rcases cases3b b with rfl | rfl | ⟨k, k'⟩
  all_goals try have hka := knownV_two h h'
  all_goals try have hkb := knownV_two k k'
  all_goals go_enter Tryd.func18, Tryd.ntmps18
  all_goals go_wp2_with (first | (go_at_call 25; refine (known_any _ _).mono ?_; rintro e w' ⟨rfl, rfl⟩) | (go_at_call 9; refine (rof_any _ _).mono ?_; rintro e w' ⟨rfl, rfl⟩))
  all_goals go_ret
  all_goals first | exact ⟨rfl, rfl⟩ | (refine ⟨ret_int ?_, rfl⟩; simp at *; simp [xorV, *])
theorem is_any (a : Int) (w : World) : Calls Tryd.prog 10 #[.int .i64 a] w fun e w' => e = .returned (.bool (a == 1)) ∧ w = w' := by
  go_enter Tryd.func10, Tryd.ntmps10
  go_wp2
  go_ret
  exact ⟨rfl, rfl⟩
end Logic
end Go.Proofs.YtpkokofjniiagaaDoor
