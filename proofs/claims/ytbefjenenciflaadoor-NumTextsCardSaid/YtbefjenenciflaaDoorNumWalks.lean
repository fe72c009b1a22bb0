/- THE WALKS over package num's sums, products, quotients, and over the document's answers for them: each answers 'fit' of the whole number. -/
import Derived.Test.YtbefjenenciflaaDoorRows
import Derived.Test.YtbefjenenciflaaDoorNumPlain
import Derived.Test.YtbefjenenciflaaDoorShelf
import Derived.WalkKit
import Derived.Lib.Hide
import Derived.WalkSpells
import Derived.WalkLawsBesides
namespace Go.Proofs.YtbefjenenciflaaDoor
open Go.RowKit
set_option linter.unusedVariables false
set_option linter.unusedSimpArgs false
namespace Num
set_option maxHeartbeats 400000 in
theorem add_any (a b : Int) (w : World) (ha1 : -9223372036854775808 ≤ a) (ha2 : a ≤ 9223372036854775807) (hb1 : -9223372036854775808 ≤ b) (hb2 : b ≤ 9223372036854775807) :
    Calls Tryd.prog 9 #[.int .i64 a, .int .i64 b] w fun e w' => e = .returned (.tuple #[.int .i64 (fitV (a + b)), .int .i64 (fitE (a + b))]) ∧ w = w' := by
  go_enter Tryd.func9, Tryd.ntmps9
  go_wp2
  all_goals go_ret2
  · refine ⟨ret_out ?_, rfl⟩
    rename_i h
    revert h; unfold wrap64; simp; omega
  · refine ⟨ret_in ?_ ?_, rfl⟩
    · rename_i h; revert h; unfold wrap64; simp; omega
    · rename_i h; revert h; unfold wrap64; simp; omega
set_option maxHeartbeats 400000 in
theorem sub_any (a b : Int) (w : World) (ha1 : -9223372036854775808 ≤ a) (ha2 : a ≤ 9223372036854775807) (hb1 : -9223372036854775808 ≤ b) (hb2 : b ≤ 9223372036854775807) :
    Calls Tryd.prog 11 #[.int .i64 a, .int .i64 b] w fun e w' => e = .returned (.tuple #[.int .i64 (fitV (a - b)), .int .i64 (fitE (a - b))]) ∧ w = w' := by
  go_enter Tryd.func11, Tryd.ntmps11
  go_wp2
  all_goals go_ret2
  · refine ⟨ret_out ?_, rfl⟩
    rename_i h
    revert h; unfold wrap64; simp; omega
  · refine ⟨ret_in ?_ ?_, rfl⟩
    · rename_i h; revert h; unfold wrap64; simp; omega
    · rename_i h; revert h; unfold wrap64; simp; omega
set_option maxHeartbeats 400000 in
theorem radd_any (a b : Int) (w : World) (ha1 : -9223372036854775808 ≤ a) (ha2 : a ≤ 9223372036854775807) (hb1 : -9223372036854775808 ≤ b) (hb2 : b ≤ 9223372036854775807) :
    Calls Tryd.prog 10 #[.int .i64 a, .int .i64 b] w fun e w' => e = .returned (.tuple #[.int .i64 (fitV (a + b)), .int .i64 (fitE (a + b))]) ∧ w = w' := by
  go_enter Tryd.func10, Tryd.ntmps10
  go_wp2
  all_goals go_ret2
  all_goals first | exact ⟨ret_out (by omega), rfl⟩ | exact ⟨ret_in (by omega) (by first | rfl | omega), rfl⟩
set_option maxHeartbeats 400000 in
theorem rsub_any (a b : Int) (w : World) (ha1 : -9223372036854775808 ≤ a) (ha2 : a ≤ 9223372036854775807) (hb1 : -9223372036854775808 ≤ b) (hb2 : b ≤ 9223372036854775807) :
    Calls Tryd.prog 12 #[.int .i64 a, .int .i64 b] w fun e w' => e = .returned (.tuple #[.int .i64 (fitV (a - b)), .int .i64 (fitE (a - b))]) ∧ w = w' := by
  go_enter Tryd.func12, Tryd.ntmps12
  go_wp2
  all_goals go_ret2
  all_goals first | exact ⟨ret_out (by omega), rfl⟩ | exact ⟨ret_in (by omega) (by first | rfl | omega), rfl⟩
set_option maxHeartbeats 400000 in
theorem neg_any (a : Int) (w : World) (ha1 : -9223372036854775808 ≤ a) (ha2 : a ≤ 9223372036854775807) :
    Calls Tryd.prog 13 #[.int .i64 a] w fun e w' => e = .returned (.tuple #[.int .i64 (fitV (-a)), .int .i64 (fitE (-a))]) ∧ w = w' := by
  go_enter Tryd.func13, Tryd.ntmps13
  go_wp2_with (go_at_call 11; refine (sub_any _ _ _ (by omega) (by omega) (by omega) (by omega)).mono ?_; rintro e w' ⟨rfl, rfl⟩)
  go_ret2
  exact ⟨rfl, rfl⟩
set_option maxHeartbeats 400000 in
theorem rneg_any (a : Int) (w : World) (ha1 : -9223372036854775808 ≤ a) (ha2 : a ≤ 9223372036854775807) :
    Calls Tryd.prog 14 #[.int .i64 a] w fun e w' => e = .returned (.tuple #[.int .i64 (fitV (-a)), .int .i64 (fitE (-a))]) ∧ w = w' := by
  go_enter Tryd.func14, Tryd.ntmps14
  go_wp2_with (go_at_call 12; refine (rsub_any _ _ _ (by omega) (by omega) (by omega) (by omega)).mono ?_; rintro e w' ⟨rfl, rfl⟩)
  go_ret2
  exact ⟨rfl, rfl⟩
set_option maxHeartbeats 400000 in
theorem size_any (a : Int) (w : World) (ha1 : -9223372036854775808 ≤ a) (ha2 : a ≤ 9223372036854775807) :
    Calls Tryd.prog 27 #[.int .i64 a] w fun e w' => e = .returned (.int .u64 (absN a : Int)) ∧ w = w' := by
  go_enter Tryd.func27, Tryd.ntmps27
  go_wp2
  all_goals go_ret
  all_goals refine ⟨ret_int ?_, rfl⟩
  · unfold absN; rw [IntKind.wrap_u64, IntKind.wrap_u64]; omega
  · unfold absN; omega
set_option maxHeartbeats 400000 in
theorem signed_neg (n : Int) (w : World) (hn0 : 0 ≤ n) (hn : n < 18446744073709551616) :
    Calls Tryd.prog 28 #[.int .u64 n, .bool true] w fun e w' => e = .returned (.tuple #[.int .i64 (fitV (-n)), .int .i64 (fitE (-n))]) ∧ w = w' := by
  go_enter Tryd.func28, Tryd.ntmps28
  go_wp2
  all_goals go_ret2
  all_goals first | exact ⟨ret_out (by omega), rfl⟩ | exact ⟨ret_in (by omega) (by rw [IntKind.wrap_u64]; unfold wrap64; omega), rfl⟩
set_option maxHeartbeats 400000 in
theorem signed_pos (n : Int) (w : World) (hn0 : 0 ≤ n) (hn : n < 18446744073709551616) :
    Calls Tryd.prog 28 #[.int .u64 n, .bool false] w fun e w' => e = .returned (.tuple #[.int .i64 (fitV n), .int .i64 (fitE n)]) ∧ w = w' := by
  go_enter Tryd.func28, Tryd.ntmps28
  go_wp2
  all_goals go_ret2
  all_goals first | exact ⟨ret_out (by omega), rfl⟩ | exact ⟨ret_in (by omega) (by first | rfl | (unfold wrap64; omega)), rfl⟩
set_option maxHeartbeats 400000 in
theorem mul64_small (x y : Nat) (w : World) (h : x * y < 18446744073709551616 ∧ x < 18446744073709551616 ∧ y < 18446744073709551616) :
    Calls Tryd.prog 26 #[.int .u64 (x : Int), .int .u64 (y : Int)] w fun e w' => e = .returned (.tuple #[.int .u64 0, .int .u64 ((x : Int) * (y : Int))]) ∧ w = w' := by
  refine (Tryd.bits_Mul64 x y h.2.1 h.2.2 w).mono fun e w' ⟨he, hw⟩ => ⟨?_, hw.symm⟩
  rw [he, Nat.div_eq_of_lt h.1, Nat.mod_eq_of_lt h.1, Int.natCast_mul]; rfl
def BigHi (e : Ending) : Prop := ∃ hi lo : Int, 1 ≤ hi ∧ e = .returned (.tuple #[.int .u64 hi, .int .u64 lo])
theorem mul64_big (x y : Nat) (w : World) (hx : x < 18446744073709551616) (hy : y < 18446744073709551616) (h : 18446744073709551616 ≤ x * y) :
    Calls Tryd.prog 26 #[.int .u64 (x : Int), .int .u64 (y : Int)] w fun e w' => BigHi e ∧ w = w' := by
  refine (Tryd.bits_Mul64 x y hx hy w).mono fun e w' ⟨he, hw⟩ => ⟨⟨_, _, ?_, he⟩, hw.symm⟩
  have := Nat.div_pos h (by omega)
  omega
set_option maxHeartbeats 400000 in
theorem mul_pp (a b : Int) (w : World) (ha1 : -9223372036854775808 ≤ a) (ha2 : a ≤ 9223372036854775807) (hb1 : -9223372036854775808 ≤ b) (hb2 : b ≤ 9223372036854775807) (ha : decide (a < 0) = false) (hb : decide (b < 0) = false):
    Calls Tryd.prog 16 #[.int .i64 a, .int .i64 b] w fun e w' => e = .returned (.tuple #[.int .i64 (fitV (a * b)), .int .i64 (fitE (a * b))]) ∧ w = w' := by
  by_cases h : absN a * absN b < 18446744073709551616
  · have HS := Lib.hid (show _ ∧ absN a < 18446744073709551616 ∧ absN b < 18446744073709551616 from ⟨h, absN_lt (by omega) (by omega), absN_lt (by omega) (by omega)⟩)
    rw [mul_pos (.inr ⟨of_decide_eq_false ha, of_decide_eq_false hb⟩)]
    clear h
    go_enter Tryd.func16, Tryd.ntmps16
    go_wp2_with (first | (go_at_call 27; refine (size_any _ _ (by omega) (by omega)).mono ?_; rintro e w' ⟨rfl, rfl⟩) | (go_at_call 26; refine (mul64_small _ _ _ HS.out).mono ?_; rintro e w' ⟨rfl, rfl⟩) | (go_at_call 28; refine (signed_pos _ _ (cast_nn _ _) (cast_lt HS.out.1)).mono ?_; rintro e w' ⟨rfl, rfl⟩))
    go_ret2
    exact ⟨rfl, rfl⟩
  · have HS := Lib.hid (show 18446744073709551616 ≤ absN a * absN b by omega)
    have HX := Lib.hid (show absN a < 18446744073709551616 from absN_lt (by omega) (by omega))
    have HY := Lib.hid (show absN b < 18446744073709551616 from absN_lt (by omega) (by omega))
    clear h
    go_enter Tryd.func16, Tryd.ntmps16
    go_wp2_with (first | (go_at_call 27; refine (size_any _ _ (by omega) (by omega)).mono ?_; rintro e w' ⟨rfl, rfl⟩) | (go_at_call 26; refine (mul64_big _ _ _ HX.out HY.out HS.out).mono ?_; rintro e w' ⟨⟨hi, lo, hhi, he⟩, rfl⟩; subst he))
    go_ret2
    exact ⟨ret_out (by rw [mul_pos (.inr ⟨of_decide_eq_false ha, of_decide_eq_false hb⟩)]; have := HS.out; omega), rfl⟩
set_option maxHeartbeats 400000 in
theorem mul_nn (a b : Int) (w : World) (ha1 : -9223372036854775808 ≤ a) (ha2 : a ≤ 9223372036854775807) (hb1 : -9223372036854775808 ≤ b) (hb2 : b ≤ 9223372036854775807) (ha : a < 0) (hb : b < 0):
    Calls Tryd.prog 16 #[.int .i64 a, .int .i64 b] w fun e w' => e = .returned (.tuple #[.int .i64 (fitV (a * b)), .int .i64 (fitE (a * b))]) ∧ w = w' := by
  by_cases h : absN a * absN b < 18446744073709551616
  · have HS := Lib.hid (show _ ∧ absN a < 18446744073709551616 ∧ absN b < 18446744073709551616 from ⟨h, absN_lt (by omega) (by omega), absN_lt (by omega) (by omega)⟩)
    rw [mul_pos (.inl ⟨ha, hb⟩)]
    clear h
    go_enter Tryd.func16, Tryd.ntmps16
    go_wp2_with (first | (go_at_call 27; refine (size_any _ _ (by omega) (by omega)).mono ?_; rintro e w' ⟨rfl, rfl⟩) | (go_at_call 26; refine (mul64_small _ _ _ HS.out).mono ?_; rintro e w' ⟨rfl, rfl⟩) | (go_at_call 28; refine (signed_pos _ _ (cast_nn _ _) (cast_lt HS.out.1)).mono ?_; rintro e w' ⟨rfl, rfl⟩))
    go_ret2
    exact ⟨rfl, rfl⟩
  · have HS := Lib.hid (show 18446744073709551616 ≤ absN a * absN b by omega)
    have HX := Lib.hid (show absN a < 18446744073709551616 from absN_lt (by omega) (by omega))
    have HY := Lib.hid (show absN b < 18446744073709551616 from absN_lt (by omega) (by omega))
    clear h
    go_enter Tryd.func16, Tryd.ntmps16
    go_wp2_with (first | (go_at_call 27; refine (size_any _ _ (by omega) (by omega)).mono ?_; rintro e w' ⟨rfl, rfl⟩) | (go_at_call 26; refine (mul64_big _ _ _ HX.out HY.out HS.out).mono ?_; rintro e w' ⟨⟨hi, lo, hhi, he⟩, rfl⟩; subst he))
    go_ret2
    exact ⟨ret_out (by rw [mul_pos (.inl ⟨ha, hb⟩)]; have := HS.out; omega), rfl⟩
set_option maxHeartbeats 400000 in
theorem mul_pn (a b : Int) (w : World) (ha1 : -9223372036854775808 ≤ a) (ha2 : a ≤ 9223372036854775807) (hb1 : -9223372036854775808 ≤ b) (hb2 : b ≤ 9223372036854775807) (ha : decide (a < 0) = false) (hb : b < 0):
    Calls Tryd.prog 16 #[.int .i64 a, .int .i64 b] w fun e w' => e = .returned (.tuple #[.int .i64 (fitV (a * b)), .int .i64 (fitE (a * b))]) ∧ w = w' := by
  by_cases h : absN a * absN b < 18446744073709551616
  · have HS := Lib.hid (show _ ∧ absN a < 18446744073709551616 ∧ absN b < 18446744073709551616 from ⟨h, absN_lt (by omega) (by omega), absN_lt (by omega) (by omega)⟩)
    rw [mul_neg (.inr ⟨of_decide_eq_false ha, hb⟩)]
    clear h
    go_enter Tryd.func16, Tryd.ntmps16
    go_wp2_with (first | (go_at_call 27; refine (size_any _ _ (by omega) (by omega)).mono ?_; rintro e w' ⟨rfl, rfl⟩) | (go_at_call 26; refine (mul64_small _ _ _ HS.out).mono ?_; rintro e w' ⟨rfl, rfl⟩) | (go_at_call 28; refine (signed_neg _ _ (cast_nn _ _) (cast_lt HS.out.1)).mono ?_; rintro e w' ⟨rfl, rfl⟩))
    go_ret2
    exact ⟨rfl, rfl⟩
  · have HS := Lib.hid (show 18446744073709551616 ≤ absN a * absN b by omega)
    have HX := Lib.hid (show absN a < 18446744073709551616 from absN_lt (by omega) (by omega))
    have HY := Lib.hid (show absN b < 18446744073709551616 from absN_lt (by omega) (by omega))
    clear h
    go_enter Tryd.func16, Tryd.ntmps16
    go_wp2_with (first | (go_at_call 27; refine (size_any _ _ (by omega) (by omega)).mono ?_; rintro e w' ⟨rfl, rfl⟩) | (go_at_call 26; refine (mul64_big _ _ _ HX.out HY.out HS.out).mono ?_; rintro e w' ⟨⟨hi, lo, hhi, he⟩, rfl⟩; subst he))
    go_ret2
    exact ⟨ret_out (by rw [mul_neg (.inr ⟨of_decide_eq_false ha, hb⟩)]; have := HS.out; omega), rfl⟩
set_option maxHeartbeats 400000 in
theorem mul_np (a b : Int) (w : World) (ha1 : -9223372036854775808 ≤ a) (ha2 : a ≤ 9223372036854775807) (hb1 : -9223372036854775808 ≤ b) (hb2 : b ≤ 9223372036854775807) (ha : a < 0) (hb : decide (b < 0) = false):
    Calls Tryd.prog 16 #[.int .i64 a, .int .i64 b] w fun e w' => e = .returned (.tuple #[.int .i64 (fitV (a * b)), .int .i64 (fitE (a * b))]) ∧ w = w' := by
  by_cases h : absN a * absN b < 18446744073709551616
  · have HS := Lib.hid (show _ ∧ absN a < 18446744073709551616 ∧ absN b < 18446744073709551616 from ⟨h, absN_lt (by omega) (by omega), absN_lt (by omega) (by omega)⟩)
    rw [mul_neg (.inl ⟨ha, of_decide_eq_false hb⟩)]
    clear h
    go_enter Tryd.func16, Tryd.ntmps16
    go_wp2_with (first | (go_at_call 27; refine (size_any _ _ (by omega) (by omega)).mono ?_; rintro e w' ⟨rfl, rfl⟩) | (go_at_call 26; refine (mul64_small _ _ _ HS.out).mono ?_; rintro e w' ⟨rfl, rfl⟩) | (go_at_call 28; refine (signed_neg _ _ (cast_nn _ _) (cast_lt HS.out.1)).mono ?_; rintro e w' ⟨rfl, rfl⟩))
    go_ret2
    exact ⟨rfl, rfl⟩
  · have HS := Lib.hid (show 18446744073709551616 ≤ absN a * absN b by omega)
    have HX := Lib.hid (show absN a < 18446744073709551616 from absN_lt (by omega) (by omega))
    have HY := Lib.hid (show absN b < 18446744073709551616 from absN_lt (by omega) (by omega))
    clear h
    go_enter Tryd.func16, Tryd.ntmps16
    go_wp2_with (first | (go_at_call 27; refine (size_any _ _ (by omega) (by omega)).mono ?_; rintro e w' ⟨rfl, rfl⟩) | (go_at_call 26; refine (mul64_big _ _ _ HX.out HY.out HS.out).mono ?_; rintro e w' ⟨⟨hi, lo, hhi, he⟩, rfl⟩; subst he))
    go_ret2
    exact ⟨ret_out (by rw [mul_neg (.inl ⟨ha, of_decide_eq_false hb⟩)]; have := HS.out; omega), rfl⟩
set_option maxHeartbeats 400000 in
theorem mul_any (a b : Int) (w : World) (ha1 : -9223372036854775808 ≤ a) (ha2 : a ≤ 9223372036854775807) (hb1 : -9223372036854775808 ≤ b) (hb2 : b ≤ 9223372036854775807) :
    Calls Tryd.prog 16 #[.int .i64 a, .int .i64 b] w fun e w' => e = .returned (.tuple #[.int .i64 (fitV (a * b)), .int .i64 (fitE (a * b))]) ∧ w = w' := by
  have na : ¬ a < 0 → decide (a < 0) = false := fun h => decide_eq_false h
  have nb : ¬ b < 0 → decide (b < 0) = false := fun h => decide_eq_false h
  by_cases ha : a < 0 <;> by_cases hb : b < 0
  · exact mul_nn a b w ha1 ha2 hb1 hb2 ha hb
  · exact mul_np a b w ha1 ha2 hb1 hb2 ha (nb hb)
  · exact mul_pn a b w ha1 ha2 hb1 hb2 (na ha) hb
  · exact mul_pp a b w ha1 ha2 hb1 hb2 (na ha) (nb hb)
end Num
end Go.Proofs.YtbefjenenciflaaDoor
