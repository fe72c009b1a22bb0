/- THE WALKS over package num's quotients and rests, and over the document's answers for them: each answers 'fit' of the whole number. -/
import Derived.Test.YtbefjenenciflaaDoorRows
import Derived.Test.YtbefjenenciflaaDoorNumPlain
import Derived.Test.YtbefjenenciflaaDoorNumWalks
import Derived.Test.YtbefjenenciflaaDoorShelf
import Derived.WalkKit
import Derived.Lib.Hide
import Derived.WalkSpells
import Derived.WalkLawsBesides
namespace Go.Proofs.YtbefjenenciflaaDoor
open Go.RowKit
set_option linter.unusedVariables false
set_option linter.unusedSimpArgs false
namespace Num
set_option maxHeartbeats 400000 in
theorem div_pp (a b : Int) (w : World) (ha1 : -9223372036854775808 ≤ a) (ha2 : a ≤ 9223372036854775807) (hb1 : -9223372036854775808 ≤ b) (hb2 : b ≤ 9223372036854775807) (hb0 : (b == 0) = false) (ha : decide (a < 0) = false) (hb : decide (b < 0) = false):
    Calls Tryd.prog 18 #[.int .i64 a, .int .i64 b] w fun e w' => e = .returned (.tuple #[.int .i64 (fitV (a.tdiv b)), .int .i64 (fitE (a.tdiv b))]) ∧ w = w' := by
  have HB := absN_pos hb0
  have HA := Lib.hid (show absN a < 18446744073709551616 from absN_lt ha1 ha2)
  have HW : IntKind.u64.wrap ((absN a : Int) / (absN b : Int)) = (absN a : Int) / (absN b : Int) := IntWalk.u64_in _ ⟨quo_nn _ _, by have := quo_lt (y := absN b) HA.out; omega⟩
  rw [div_pos (.inr ⟨of_decide_eq_false ha, of_decide_eq_false hb⟩)]
  go_enter Tryd.func18, Tryd.ntmps18
  go_wp2_with (first | (go_at_call 27; refine (size_any _ _ (by omega) (by omega)).mono ?_; rintro e w' ⟨rfl, rfl⟩) | (go_at_call 28; refine (signed_pos _ _ (quo_nn _ _) (quo_lt HA.out)).mono ?_; rintro e w' ⟨rfl, rfl⟩))
  go_ret2
  exact ⟨rfl, rfl⟩
set_option maxHeartbeats 400000 in
theorem div_nn (a b : Int) (w : World) (ha1 : -9223372036854775808 ≤ a) (ha2 : a ≤ 9223372036854775807) (hb1 : -9223372036854775808 ≤ b) (hb2 : b ≤ 9223372036854775807) (hb0 : (b == 0) = false) (ha : a < 0) (hb : b < 0):
    Calls Tryd.prog 18 #[.int .i64 a, .int .i64 b] w fun e w' => e = .returned (.tuple #[.int .i64 (fitV (a.tdiv b)), .int .i64 (fitE (a.tdiv b))]) ∧ w = w' := by
  have HB := absN_pos hb0
  have HA := Lib.hid (show absN a < 18446744073709551616 from absN_lt ha1 ha2)
  have HW : IntKind.u64.wrap ((absN a : Int) / (absN b : Int)) = (absN a : Int) / (absN b : Int) := IntWalk.u64_in _ ⟨quo_nn _ _, by have := quo_lt (y := absN b) HA.out; omega⟩
  rw [div_pos (.inl ⟨ha, hb⟩)]
  go_enter Tryd.func18, Tryd.ntmps18
  go_wp2_with (first | (go_at_call 27; refine (size_any _ _ (by omega) (by omega)).mono ?_; rintro e w' ⟨rfl, rfl⟩) | (go_at_call 28; refine (signed_pos _ _ (quo_nn _ _) (quo_lt HA.out)).mono ?_; rintro e w' ⟨rfl, rfl⟩))
  go_ret2
  exact ⟨rfl, rfl⟩
set_option maxHeartbeats 400000 in
theorem div_pn (a b : Int) (w : World) (ha1 : -9223372036854775808 ≤ a) (ha2 : a ≤ 9223372036854775807) (hb1 : -9223372036854775808 ≤ b) (hb2 : b ≤ 9223372036854775807) (hb0 : (b == 0) = false) (ha : decide (a < 0) = false) (hb : b < 0):
    Calls Tryd.prog 18 #[.int .i64 a, .int .i64 b] w fun e w' => e = .returned (.tuple #[.int .i64 (fitV (a.tdiv b)), .int .i64 (fitE (a.tdiv b))]) ∧ w = w' := by
  have HB := absN_pos hb0
  have HA := Lib.hid (show absN a < 18446744073709551616 from absN_lt ha1 ha2)
  have HW : IntKind.u64.wrap ((absN a : Int) / (absN b : Int)) = (absN a : Int) / (absN b : Int) := IntWalk.u64_in _ ⟨quo_nn _ _, by have := quo_lt (y := absN b) HA.out; omega⟩
  rw [div_neg (.inr ⟨of_decide_eq_false ha, hb⟩)]
  go_enter Tryd.func18, Tryd.ntmps18
  go_wp2_with (first | (go_at_call 27; refine (size_any _ _ (by omega) (by omega)).mono ?_; rintro e w' ⟨rfl, rfl⟩) | (go_at_call 28; refine (signed_neg _ _ (quo_nn _ _) (quo_lt HA.out)).mono ?_; rintro e w' ⟨rfl, rfl⟩))
  go_ret2
  exact ⟨rfl, rfl⟩
set_option maxHeartbeats 400000 in
theorem div_np (a b : Int) (w : World) (ha1 : -9223372036854775808 ≤ a) (ha2 : a ≤ 9223372036854775807) (hb1 : -9223372036854775808 ≤ b) (hb2 : b ≤ 9223372036854775807) (hb0 : (b == 0) = false) (ha : a < 0) (hb : decide (b < 0) = false):
    Calls Tryd.prog 18 #[.int .i64 a, .int .i64 b] w fun e w' => e = .returned (.tuple #[.int .i64 (fitV (a.tdiv b)), .int .i64 (fitE (a.tdiv b))]) ∧ w = w' := by
  have HB := absN_pos hb0
  have HA := Lib.hid (show absN a < 18446744073709551616 from absN_lt ha1 ha2)
  have HW : IntKind.u64.wrap ((absN a : Int) / (absN b : Int)) = (absN a : Int) / (absN b : Int) := IntWalk.u64_in _ ⟨quo_nn _ _, by have := quo_lt (y := absN b) HA.out; omega⟩
  rw [div_neg (.inl ⟨ha, of_decide_eq_false hb⟩)]
  go_enter Tryd.func18, Tryd.ntmps18
  go_wp2_with (first | (go_at_call 27; refine (size_any _ _ (by omega) (by omega)).mono ?_; rintro e w' ⟨rfl, rfl⟩) | (go_at_call 28; refine (signed_neg _ _ (quo_nn _ _) (quo_lt HA.out)).mono ?_; rintro e w' ⟨rfl, rfl⟩))
  go_ret2
  exact ⟨rfl, rfl⟩
set_option maxHeartbeats 400000 in
theorem mod_p (a b : Int) (w : World) (ha1 : -9223372036854775808 ≤ a) (ha2 : a ≤ 9223372036854775807) (hb1 : -9223372036854775808 ≤ b) (hb2 : b ≤ 9223372036854775807) (hb0 : (b == 0) = false) (ha : decide (a < 0) = false):
    Calls Tryd.prog 20 #[.int .i64 a, .int .i64 b] w fun e w' => e = .returned (.tuple #[.int .i64 (fitV (a.tmod b)), .int .i64 (fitE (a.tmod b))]) ∧ w = w' := by
  have HB := absN_pos hb0
  have HA := Lib.hid (show absN a < 18446744073709551616 from absN_lt ha1 ha2)
  have HW : IntKind.u64.wrap ((absN a : Int) % (absN b : Int)) = (absN a : Int) % (absN b : Int) := IntWalk.u64_in _ ⟨rem_nn _ _, by have := rem_lt (y := absN b) HA.out; omega⟩
  rw [mod_pos (of_decide_eq_false ha)]
  go_enter Tryd.func20, Tryd.ntmps20
  go_wp2_with (first | (go_at_call 27; refine (size_any _ _ (by omega) (by omega)).mono ?_; rintro e w' ⟨rfl, rfl⟩) | (go_at_call 28; refine (signed_pos _ _ (rem_nn _ _) (rem_lt HA.out)).mono ?_; rintro e w' ⟨rfl, rfl⟩))
  go_ret2
  exact ⟨rfl, rfl⟩
set_option maxHeartbeats 400000 in
theorem mod_n (a b : Int) (w : World) (ha1 : -9223372036854775808 ≤ a) (ha2 : a ≤ 9223372036854775807) (hb1 : -9223372036854775808 ≤ b) (hb2 : b ≤ 9223372036854775807) (hb0 : (b == 0) = false) (ha : a < 0):
    Calls Tryd.prog 20 #[.int .i64 a, .int .i64 b] w fun e w' => e = .returned (.tuple #[.int .i64 (fitV (a.tmod b)), .int .i64 (fitE (a.tmod b))]) ∧ w = w' := by
  have HB := absN_pos hb0
  have HA := Lib.hid (show absN a < 18446744073709551616 from absN_lt ha1 ha2)
  have HW : IntKind.u64.wrap ((absN a : Int) % (absN b : Int)) = (absN a : Int) % (absN b : Int) := IntWalk.u64_in _ ⟨rem_nn _ _, by have := rem_lt (y := absN b) HA.out; omega⟩
  rw [mod_neg (ha)]
  go_enter Tryd.func20, Tryd.ntmps20
  go_wp2_with (first | (go_at_call 27; refine (size_any _ _ (by omega) (by omega)).mono ?_; rintro e w' ⟨rfl, rfl⟩) | (go_at_call 28; refine (signed_neg _ _ (rem_nn _ _) (rem_lt HA.out)).mono ?_; rintro e w' ⟨rfl, rfl⟩))
  go_ret2
  exact ⟨rfl, rfl⟩
set_option maxHeartbeats 400000 in
theorem div_any (a b : Int) (w : World) (ha1 : -9223372036854775808 ≤ a) (ha2 : a ≤ 9223372036854775807) (hb1 : -9223372036854775808 ≤ b) (hb2 : b ≤ 9223372036854775807) (hb0 : (b == 0) = false) :
    Calls Tryd.prog 18 #[.int .i64 a, .int .i64 b] w fun e w' => e = .returned (.tuple #[.int .i64 (fitV (a.tdiv b)), .int .i64 (fitE (a.tdiv b))]) ∧ w = w' := by
  have na : ¬ a < 0 → decide (a < 0) = false := fun h => decide_eq_false h
  have nb : ¬ b < 0 → decide (b < 0) = false := fun h => decide_eq_false h
  by_cases ha : a < 0 <;> by_cases hb : b < 0
  · exact div_nn a b w ha1 ha2 hb1 hb2 hb0 ha hb
  · exact div_np a b w ha1 ha2 hb1 hb2 hb0 ha (nb hb)
  · exact div_pn a b w ha1 ha2 hb1 hb2 hb0 (na ha) hb
  · exact div_pp a b w ha1 ha2 hb1 hb2 hb0 (na ha) (nb hb)
set_option maxHeartbeats 400000 in
theorem mod_any (a b : Int) (w : World) (ha1 : -9223372036854775808 ≤ a) (ha2 : a ≤ 9223372036854775807) (hb1 : -9223372036854775808 ≤ b) (hb2 : b ≤ 9223372036854775807) (hb0 : (b == 0) = false) :
    Calls Tryd.prog 20 #[.int .i64 a, .int .i64 b] w fun e w' => e = .returned (.tuple #[.int .i64 (fitV (a.tmod b)), .int .i64 (fitE (a.tmod b))]) ∧ w = w' := by
  by_cases ha : a < 0
  · exact mod_n a b w ha1 ha2 hb1 hb2 hb0 ha
  · exact mod_p a b w ha1 ha2 hb1 hb2 hb0 (decide_eq_false ha)
set_option maxHeartbeats 400000 in
theorem div_zero (a : Int) (w : World) :
    Calls Tryd.prog 18 #[.int .i64 a, .int .i64 0] w fun e w' => e = .returned (.tuple #[.int .i64 0, .int .i64 4]) ∧ w = w' := by
  go_enter Tryd.func18, Tryd.ntmps18
  go_wp2
  go_ret2
  exact ⟨rfl, rfl⟩
set_option maxHeartbeats 400000 in
theorem mod_zero (a : Int) (w : World) :
    Calls Tryd.prog 20 #[.int .i64 a, .int .i64 0] w fun e w' => e = .returned (.tuple #[.int .i64 0, .int .i64 4]) ∧ w = w' := by
  go_enter Tryd.func20, Tryd.ntmps20
  go_wp2
  go_ret2
  exact ⟨rfl, rfl⟩
set_option maxHeartbeats 400000 in
theorem rdiv_zero (a : Int) (w : World) :
    Calls Tryd.prog 19 #[.int .i64 a, .int .i64 0] w fun e w' => e = .returned (.tuple #[.int .i64 0, .int .i64 4]) ∧ w = w' := by
  go_enter Tryd.func19, Tryd.ntmps19
  go_wp2
  go_ret2
  exact ⟨rfl, rfl⟩
set_option maxHeartbeats 400000 in
theorem rmod_zero (a : Int) (w : World) :
    Calls Tryd.prog 21 #[.int .i64 a, .int .i64 0] w fun e w' => e = .returned (.tuple #[.int .i64 0, .int .i64 4]) ∧ w = w' := by
  go_enter Tryd.func21, Tryd.ntmps21
  go_wp2
  go_ret2
  exact ⟨rfl, rfl⟩
set_option maxHeartbeats 400000 in
theorem rdiv_over (w : World) :
    Calls Tryd.prog 19 #[.int .i64 (-9223372036854775808), .int .i64 (-1)] w fun e w' => e = .returned (.tuple #[.int .i64 0, .int .i64 4]) ∧ w = w' := by
  go_enter Tryd.func19, Tryd.ntmps19
  go_wp2
  go_ret2
  exact ⟨rfl, rfl⟩
set_option maxHeartbeats 400000 in
theorem rdiv_a (a b : Int) (w : World) (ha1 : -9223372036854775808 ≤ a) (ha2 : a ≤ 9223372036854775807) (hb1 : -9223372036854775808 ≤ b) (hb2 : b ≤ 9223372036854775807) (hb0 : (b == 0) = false) (hc : (a == -9223372036854775808) = false) :
    Calls Tryd.prog 19 #[.int .i64 a, .int .i64 b] w fun e w' => e = .returned (.tuple #[.int .i64 (fitV (a.tdiv b)), .int .i64 (fitE (a.tdiv b))]) ∧ w = w' := by
  have nb : ¬ b = 0 := by simpa using hb0
  have na : a ≠ -9223372036854775808 := by simpa using hc
  have HD := Lib.hid (quo_in ha1 ha2 nb (.inl na))
  clear na
  go_enter Tryd.func19, Tryd.ntmps19
  go_wp2
  all_goals go_ret2
  all_goals exact ⟨ret_in HD.out (IntWalk.wrap64_in _ HD.out), rfl⟩
set_option maxHeartbeats 400000 in
theorem rdiv_b (b : Int) (w : World) (hb1 : -9223372036854775808 ≤ b) (hb2 : b ≤ 9223372036854775807) (hb0 : (b == 0) = false) (hc : (b == -1) = false) :
    Calls Tryd.prog 19 #[.int .i64 (-9223372036854775808), .int .i64 b] w fun e w' => e = .returned (.tuple #[.int .i64 (fitV ((-9223372036854775808 : Int).tdiv b)), .int .i64 (fitE ((-9223372036854775808 : Int).tdiv b))]) ∧ w = w' := by
  have nb : ¬ b = 0 := by simpa using hb0
  have na : b ≠ -1 := by simpa using hc
  have HD := Lib.hid (quo_in (a := -9223372036854775808) (by omega) (by omega) nb (.inr na))
  clear na
  go_enter Tryd.func19, Tryd.ntmps19
  go_wp2
  all_goals go_ret2
  all_goals exact ⟨ret_in HD.out (by rw [← Int.neg_tdiv]; exact IntWalk.wrap64_in _ HD.out), rfl⟩
set_option maxHeartbeats 400000 in
theorem rdiv_any (a b : Int) (w : World) (ha1 : -9223372036854775808 ≤ a) (ha2 : a ≤ 9223372036854775807) (hb1 : -9223372036854775808 ≤ b) (hb2 : b ≤ 9223372036854775807) (hb0 : (b == 0) = false) :
    Calls Tryd.prog 19 #[.int .i64 a, .int .i64 b] w fun e w' => e = .returned (.tuple #[.int .i64 (fitV (a.tdiv b)), .int .i64 (fitE (a.tdiv b))]) ∧ w = w' := by
  by_cases h : a = -9223372036854775808
  · by_cases h' : b = -1
    · subst h h'
      refine (rdiv_over w).mono fun e w' ⟨he, hw⟩ => ⟨?_, hw⟩
      rw [he]
      exact ret_out (by decide)
    · subst h
      exact rdiv_b b w hb1 hb2 hb0 (by simpa using h')
  · exact rdiv_a a b w ha1 ha2 hb1 hb2 hb0 (by simpa using h)
set_option maxHeartbeats 400000 in
theorem rmod_one (a : Int) (w : World) :
    Calls Tryd.prog 21 #[.int .i64 a, .int .i64 (-1)] w fun e w' => e = .returned (.tuple #[.int .i64 0, .int .i64 0]) ∧ w = w' := by
  go_enter Tryd.func21, Tryd.ntmps21
  go_wp2
  go_ret2
  exact ⟨rfl, rfl⟩
set_option maxHeartbeats 400000 in
theorem rmod_b (a b : Int) (w : World) (ha1 : -9223372036854775808 ≤ a) (ha2 : a ≤ 9223372036854775807) (hb1 : -9223372036854775808 ≤ b) (hb2 : b ≤ 9223372036854775807) (hb0 : (b == 0) = false) (hc : (b == -1) = false) :
    Calls Tryd.prog 21 #[.int .i64 a, .int .i64 b] w fun e w' => e = .returned (.tuple #[.int .i64 (fitV (a.tmod b)), .int .i64 (fitE (a.tmod b))]) ∧ w = w' := by
  have HD := Lib.hid (rem_in ha1 ha2 (b := b))
  have nb : ¬ b = 0 := by simpa using hb0
  go_enter Tryd.func21, Tryd.ntmps21
  go_wp2
  all_goals go_ret2
  all_goals exact ⟨ret_in HD.out rfl, rfl⟩
set_option maxHeartbeats 400000 in
theorem rmod_any (a b : Int) (w : World) (ha1 : -9223372036854775808 ≤ a) (ha2 : a ≤ 9223372036854775807) (hb1 : -9223372036854775808 ≤ b) (hb2 : b ≤ 9223372036854775807) (hb0 : (b == 0) = false) :
    Calls Tryd.prog 21 #[.int .i64 a, .int .i64 b] w fun e w' => e = .returned (.tuple #[.int .i64 (fitV (a.tmod b)), .int .i64 (fitE (a.tmod b))]) ∧ w = w' := by
  by_cases h' : b = -1
  · subst h'
    refine (rmod_one a w).mono fun e w' ⟨he, hw⟩ => ⟨?_, hw⟩
    rw [he]
    exact ret_in (rem_in ha1 ha2) (by rw [Int.tmod_neg, Int.tmod_one])
  · exact rmod_b a b w ha1 ha2 hb1 hb2 hb0 (by simpa using h')
set_option maxHeartbeats 400000 in
theorem rmul_za (b : Int) (w : World) :
    Calls Tryd.prog 17 #[.int .i64 0, .int .i64 b] w fun e w' => e = .returned (.tuple #[.int .i64 0, .int .i64 0]) ∧ w = w' := by
  go_enter Tryd.func17, Tryd.ntmps17
  go_wp2
  all_goals go_ret2
  all_goals exact ⟨rfl, rfl⟩
set_option maxHeartbeats 400000 in
theorem rmul_zb (a : Int) (w : World) (ha : (a == 0) = false) :
    Calls Tryd.prog 17 #[.int .i64 a, .int .i64 0] w fun e w' => e = .returned (.tuple #[.int .i64 0, .int .i64 0]) ∧ w = w' := by
  go_enter Tryd.func17, Tryd.ntmps17
  go_wp2
  all_goals go_ret2
  all_goals exact ⟨rfl, rfl⟩
set_option maxHeartbeats 400000 in
theorem rmul_l  (w : World) :
    Calls Tryd.prog 17 #[.int .i64 (-1), .int .i64 (-9223372036854775808)] w fun e w' => e = .returned (.tuple #[.int .i64 0, .int .i64 4]) ∧ w = w' := by
  go_enter Tryd.func17, Tryd.ntmps17
  go_wp2
  all_goals go_ret2
  all_goals exact ⟨rfl, rfl⟩
set_option maxHeartbeats 400000 in
theorem rmul_r  (w : World) :
    Calls Tryd.prog 17 #[.int .i64 (-9223372036854775808), .int .i64 (-1)] w fun e w' => e = .returned (.tuple #[.int .i64 0, .int .i64 4]) ∧ w = w' := by
  go_enter Tryd.func17, Tryd.ntmps17
  go_wp2
  all_goals go_ret2
  all_goals exact ⟨rfl, rfl⟩
set_option maxHeartbeats 400000 in
theorem rmul_in (a b : Int) (w : World) (ha1 : -9223372036854775808 ≤ a) (ha2 : a ≤ 9223372036854775807) (hb1 : -9223372036854775808 ≤ b) (hb2 : b ≤ 9223372036854775807) (ha0 : (a == 0) = false) (hb0 : (b == 0) = false) (h : Hid (-9223372036854775808 ≤ a * b ∧ a * b ≤ 9223372036854775807)) (hc : (a == -1) = false) (hd : (b == -1) = false) :
    Calls Tryd.prog 17 #[.int .i64 a, .int .i64 b] w fun e w' => e = .returned (.tuple #[.int .i64 (fitV (a * b)), .int .i64 (fitE (a * b))]) ∧ w = w' := by
  have nb : ¬ b = 0 := by simpa using hb0
  have HW : wrap64 (a * b) = a * b := IntWalk.wrap64_in _ h.out
  have HQ : (a * b).tdiv b = a := Int.mul_tdiv_cancel a nb
  go_enter Tryd.func17, Tryd.ntmps17
  go_wp2
  all_goals go_ret2
  all_goals exact ⟨ret_in h.out (IntWalk.wrap64_in _ h.out), rfl⟩
set_option maxHeartbeats 400000 in
theorem rmul_inl (b : Int) (w : World) (hb1 : -9223372036854775807 ≤ b) (hb2 : b ≤ 9223372036854775807) (hb0 : (b == 0) = false) (hb3 : (b == -1) = false) (hc : (b == -9223372036854775808) = false) :
    Calls Tryd.prog 17 #[.int .i64 (-1), .int .i64 b] w fun e w' => e = .returned (.tuple #[.int .i64 (-b), .int .i64 0]) ∧ w = w' := by
  have nb : ¬ b = 0 := by simpa using hb0
  have HQ : b.tdiv b = 1 := Int.tdiv_self nb
  go_enter Tryd.func17, Tryd.ntmps17
  go_wp2
  all_goals go_ret2
  all_goals exact ⟨rfl, rfl⟩
set_option maxHeartbeats 400000 in
theorem rmul_inr (a : Int) (w : World) (ha1 : -9223372036854775807 ≤ a) (ha2 : a ≤ 9223372036854775807) (ha0 : (a == 0) = false) (ha3 : (a == -1) = false) (hc : (a == -9223372036854775808) = false) :
    Calls Tryd.prog 17 #[.int .i64 a, .int .i64 (-1)] w fun e w' => e = .returned (.tuple #[.int .i64 (-a), .int .i64 0]) ∧ w = w' := by
  have HQ : (-a).tdiv (-1) = a := by rw [Int.neg_tdiv, Int.tdiv_neg, Int.neg_neg, Int.tdiv_one]
  have HW : wrap64 a = a := IntWalk.wrap64_in _ (by omega)
  go_enter Tryd.func17, Tryd.ntmps17
  go_wp2
  all_goals go_ret2
  all_goals exact ⟨rfl, rfl⟩
set_option maxHeartbeats 400000 in
theorem rmul_out (a b : Int) (w : World) (ha1 : -9223372036854775808 ≤ a) (ha2 : a ≤ 9223372036854775807) (hb1 : -9223372036854775808 ≤ b) (hb2 : b ≤ 9223372036854775807) (ha0 : (a == 0) = false) (hb0 : (b == 0) = false) (h : Hid (¬ (-9223372036854775808 ≤ a * b ∧ a * b ≤ 9223372036854775807))) (hc : (a == -1) = false) (hd : (b == -1) = false) :
    Calls Tryd.prog 17 #[.int .i64 a, .int .i64 b] w fun e w' => e = .returned (.tuple #[.int .i64 0, .int .i64 4]) ∧ w = w' := by
  have nb : ¬ b = 0 := by simpa using hb0
  have hq := mul_wraps h.out nb (by simpa using hd) hb1 hb2
  go_enter Tryd.func17, Tryd.ntmps17
  go_wp2
  all_goals go_ret2
  all_goals exact ⟨rfl, rfl⟩
set_option maxHeartbeats 400000 in
theorem rmul_mm (w : World) :
    Calls Tryd.prog 17 #[.int .i64 (-1), .int .i64 (-1)] w fun e w' => e = .returned (.tuple #[.int .i64 1, .int .i64 0]) ∧ w = w' := by
  go_enter Tryd.func17, Tryd.ntmps17
  go_wp2
  go_ret2
  exact ⟨rfl, rfl⟩
set_option maxHeartbeats 400000 in
theorem rmul_any (a b : Int) (w : World) (ha1 : -9223372036854775808 ≤ a) (ha2 : a ≤ 9223372036854775807) (hb1 : -9223372036854775808 ≤ b) (hb2 : b ≤ 9223372036854775807) :
    Calls Tryd.prog 17 #[.int .i64 a, .int .i64 b] w fun e w' => e = .returned (.tuple #[.int .i64 (fitV (a * b)), .int .i64 (fitE (a * b))]) ∧ w = w' := by
  have fx : ∀ {x y v k : Int}, (e0 : Calls Tryd.prog 17 #[.int .i64 x, .int .i64 y] w fun e w' => e = .returned (.tuple #[.int .i64 v, .int .i64 k]) ∧ w = w') → v = fitV (x * y) → k = fitE (x * y) →
      Calls Tryd.prog 17 #[.int .i64 x, .int .i64 y] w fun e w' => e = .returned (.tuple #[.int .i64 (fitV (x * y)), .int .i64 (fitE (x * y))]) ∧ w = w' := by
    intro x y v k e0 h1 h2
    rw [← h1, ← h2]; exact e0
  by_cases a0 : a = 0
  · subst a0
    exact fx (rmul_za b w) (by rw [Int.zero_mul]; decide) (by rw [Int.zero_mul]; decide)
  by_cases b0 : b = 0
  · subst b0
    exact fx (rmul_zb a w (by simpa using a0)) (by rw [Int.mul_zero]; decide) (by rw [Int.mul_zero]; decide)
  by_cases am : a = -1
  · subst am
    by_cases bl : b = -9223372036854775808
    · subst bl; exact fx (rmul_l w) (by decide) (by decide)
    by_cases bm : b = -1
    · subst bm; exact fx (rmul_mm w) (by decide) (by decide)
    have e : -1 * b = -b := by omega
    have hi : -9223372036854775808 ≤ -1 * b ∧ -1 * b ≤ 9223372036854775807 := by omega
    exact fx (rmul_inl b w (by omega) hb2 (by simpa using b0) (by simpa using bm) (by simpa using bl)) (by rw [(fit_in hi).1, e]) (by rw [(fit_in hi).2])
  by_cases bm : b = -1
  · subst bm
    by_cases al : a = -9223372036854775808
    · subst al; exact fx (rmul_r w) (by decide) (by decide)
    have e : a * -1 = -a := by omega
    have hi : -9223372036854775808 ≤ a * -1 ∧ a * -1 ≤ 9223372036854775807 := by omega
    exact fx (rmul_inr a w (by omega) ha2 (by simpa using a0) (by simpa using am) (by simpa using al)) (by rw [(fit_in hi).1, e]) (by rw [(fit_in hi).2])
  by_cases h : -9223372036854775808 ≤ a * b ∧ a * b ≤ 9223372036854775807
  · exact rmul_in a b w ha1 ha2 hb1 hb2 (by simpa using a0) (by simpa using b0) (Lib.hid h) (by simpa using am) (by simpa using bm)
  · exact fx (rmul_out a b w ha1 ha2 hb1 hb2 (by simpa using a0) (by simpa using b0) (Lib.hid h) (by simpa using am) (by simpa using bm)) (fit_out h).1.symm (fit_out h).2.symm
end Num
end Go.Proofs.YtbefjenenciflaaDoor
