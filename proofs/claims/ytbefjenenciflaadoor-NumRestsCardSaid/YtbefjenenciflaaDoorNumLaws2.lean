/- THE WALKS over the laws NumProducts, NumRing, NumRests. -/
import Derived.Test.YtbefjenenciflaaDoorRows
import Derived.Test.YtbefjenenciflaaDoorNumPlain
import Derived.Test.YtbefjenenciflaaDoorNumWalks
import Derived.Test.YtbefjenenciflaaDoorNumWalks2
import Derived.Test.YtbefjenenciflaaDoorNumText
import Derived.Test.YtbefjenenciflaaDoorNumLaws
import Derived.WalkKit
import Derived.Lib.Hide
import Derived.WalkSpells
import Derived.WalkLawsBesides
namespace Go.Proofs.YtbefjenenciflaaDoor
open Go.RowKit
set_option linter.unusedVariables false
set_option linter.unusedSimpArgs false
namespace Num
theorem add_is (a b z : Int) (w : World) (ha1 : -9223372036854775808 ≤ a) (ha2 : a ≤ 9223372036854775807) (hb1 : -9223372036854775808 ≤ b) (hb2 : b ≤ 9223372036854775807) (h : a + b = z ∧ -9223372036854775808 ≤ z ∧ z ≤ 9223372036854775807) :
    Calls Tryd.prog 9 #[.int .i64 a, .int .i64 b] w fun e w' => e = .returned (.tuple #[.int .i64 z, .int .i64 0]) ∧ w = w' :=
  (add_any a b w ha1 ha2 hb1 hb2).mono fun e w' ⟨he, hw⟩ => ⟨by rw [he, h.1, (fit_in h.2).1, (fit_in h.2).2], hw⟩
theorem add_no (a b : Int) (w : World) (ha1 : -9223372036854775808 ≤ a) (ha2 : a ≤ 9223372036854775807) (hb1 : -9223372036854775808 ≤ b) (hb2 : b ≤ 9223372036854775807) (h : ¬ (-9223372036854775808 ≤ a + b ∧ a + b ≤ 9223372036854775807)) :
    Calls Tryd.prog 9 #[.int .i64 a, .int .i64 b] w fun e w' => e = .returned (.tuple #[.int .i64 0, .int .i64 4]) ∧ w = w' :=
  (add_any a b w ha1 ha2 hb1 hb2).mono fun e w' ⟨he, hw⟩ => ⟨by rw [he, (fit_out h).1, (fit_out h).2], hw⟩
theorem sub_is (a b z : Int) (w : World) (ha1 : -9223372036854775808 ≤ a) (ha2 : a ≤ 9223372036854775807) (hb1 : -9223372036854775808 ≤ b) (hb2 : b ≤ 9223372036854775807) (h : a - b = z ∧ -9223372036854775808 ≤ z ∧ z ≤ 9223372036854775807) :
    Calls Tryd.prog 11 #[.int .i64 a, .int .i64 b] w fun e w' => e = .returned (.tuple #[.int .i64 z, .int .i64 0]) ∧ w = w' :=
  (sub_any a b w ha1 ha2 hb1 hb2).mono fun e w' ⟨he, hw⟩ => ⟨by rw [he, h.1, (fit_in h.2).1, (fit_in h.2).2], hw⟩
theorem sub_no (a b : Int) (w : World) (ha1 : -9223372036854775808 ≤ a) (ha2 : a ≤ 9223372036854775807) (hb1 : -9223372036854775808 ≤ b) (hb2 : b ≤ 9223372036854775807) (h : ¬ (-9223372036854775808 ≤ a - b ∧ a - b ≤ 9223372036854775807)) :
    Calls Tryd.prog 11 #[.int .i64 a, .int .i64 b] w fun e w' => e = .returned (.tuple #[.int .i64 0, .int .i64 4]) ∧ w = w' :=
  (sub_any a b w ha1 ha2 hb1 hb2).mono fun e w' ⟨he, hw⟩ => ⟨by rw [he, (fit_out h).1, (fit_out h).2], hw⟩
theorem mul_is (a b z : Int) (w : World) (ha1 : -9223372036854775808 ≤ a) (ha2 : a ≤ 9223372036854775807) (hb1 : -9223372036854775808 ≤ b) (hb2 : b ≤ 9223372036854775807) (h : a * b = z ∧ -9223372036854775808 ≤ z ∧ z ≤ 9223372036854775807) :
    Calls Tryd.prog 16 #[.int .i64 a, .int .i64 b] w fun e w' => e = .returned (.tuple #[.int .i64 z, .int .i64 0]) ∧ w = w' :=
  (mul_any a b w ha1 ha2 hb1 hb2).mono fun e w' ⟨he, hw⟩ => ⟨by rw [he, h.1, (fit_in h.2).1, (fit_in h.2).2], hw⟩
theorem mul_no (a b : Int) (w : World) (ha1 : -9223372036854775808 ≤ a) (ha2 : a ≤ 9223372036854775807) (hb1 : -9223372036854775808 ≤ b) (hb2 : b ≤ 9223372036854775807) (h : ¬ (-9223372036854775808 ≤ a * b ∧ a * b ≤ 9223372036854775807)) :
    Calls Tryd.prog 16 #[.int .i64 a, .int .i64 b] w fun e w' => e = .returned (.tuple #[.int .i64 0, .int .i64 4]) ∧ w = w' :=
  (mul_any a b w ha1 ha2 hb1 hb2).mono fun e w' ⟨he, hw⟩ => ⟨by rw [he, (fit_out h).1, (fit_out h).2], hw⟩
theorem div_is (a b z : Int) (w : World) (ha1 : -9223372036854775808 ≤ a) (ha2 : a ≤ 9223372036854775807) (hb1 : -9223372036854775808 ≤ b) (hb2 : b ≤ 9223372036854775807) (hb0 : (b == 0) = false) (h : a.tdiv b = z ∧ -9223372036854775808 ≤ z ∧ z ≤ 9223372036854775807) :
    Calls Tryd.prog 18 #[.int .i64 a, .int .i64 b] w fun e w' => e = .returned (.tuple #[.int .i64 z, .int .i64 0]) ∧ w = w' :=
  (div_any a b w ha1 ha2 hb1 hb2 hb0).mono fun e w' ⟨he, hw⟩ => ⟨by rw [he, h.1, (fit_in h.2).1, (fit_in h.2).2], hw⟩
theorem div_no (a b : Int) (w : World) (ha1 : -9223372036854775808 ≤ a) (ha2 : a ≤ 9223372036854775807) (hb1 : -9223372036854775808 ≤ b) (hb2 : b ≤ 9223372036854775807) (hb0 : (b == 0) = false) (h : ¬ (-9223372036854775808 ≤ a.tdiv b ∧ a.tdiv b ≤ 9223372036854775807)) :
    Calls Tryd.prog 18 #[.int .i64 a, .int .i64 b] w fun e w' => e = .returned (.tuple #[.int .i64 0, .int .i64 4]) ∧ w = w' :=
  (div_any a b w ha1 ha2 hb1 hb2 hb0).mono fun e w' ⟨he, hw⟩ => ⟨by rw [he, (fit_out h).1, (fit_out h).2], hw⟩
theorem mod_is (a b z : Int) (w : World) (ha1 : -9223372036854775808 ≤ a) (ha2 : a ≤ 9223372036854775807) (hb1 : -9223372036854775808 ≤ b) (hb2 : b ≤ 9223372036854775807) (hb0 : (b == 0) = false) (h : a.tmod b = z ∧ -9223372036854775808 ≤ z ∧ z ≤ 9223372036854775807) :
    Calls Tryd.prog 20 #[.int .i64 a, .int .i64 b] w fun e w' => e = .returned (.tuple #[.int .i64 z, .int .i64 0]) ∧ w = w' :=
  (mod_any a b w ha1 ha2 hb1 hb2 hb0).mono fun e w' ⟨he, hw⟩ => ⟨by rw [he, h.1, (fit_in h.2).1, (fit_in h.2).2], hw⟩
theorem mod_no (a b : Int) (w : World) (ha1 : -9223372036854775808 ≤ a) (ha2 : a ≤ 9223372036854775807) (hb1 : -9223372036854775808 ≤ b) (hb2 : b ≤ 9223372036854775807) (hb0 : (b == 0) = false) (h : ¬ (-9223372036854775808 ≤ a.tmod b ∧ a.tmod b ≤ 9223372036854775807)) :
    Calls Tryd.prog 20 #[.int .i64 a, .int .i64 b] w fun e w' => e = .returned (.tuple #[.int .i64 0, .int .i64 4]) ∧ w = w' :=
  (mod_any a b w ha1 ha2 hb1 hb2 hb0).mono fun e w' ⟨he, hw⟩ => ⟨by rw [he, (fit_out h).1, (fit_out h).2], hw⟩
set_option maxHeartbeats 1000000 in
theorem products_nz (a b : Int) (w : World) (ha1 : -9223372036854775808 ≤ a) (ha2 : a ≤ 9223372036854775807) (hb1 : -9223372036854775808 ≤ b) (hb2 : b ≤ 9223372036854775807) (hd : Digs w) (hb0 : (b == 0) = false) :
    Calls Tryd.prog 4 #[.int .i64 a, .int .i64 b] w fun e w' => e = .returned (.bool true) ∧ Below w.heap.size w w' := by
  have HD := Lib.hid hd
  clear hd
  go_enter Tryd.func4, Tryd.ntmps4
  go_wp2_with (first | (go_at_call 16; refine (mul_any _ _ _ (by omega) (by omega) (by omega) (by omega)).mono ?_; rintro e w' ⟨rfl, rfl⟩) | (go_at_call 17; refine (rmul_any _ _ _ (by omega) (by omega) (by omega) (by omega)).mono ?_; rintro e w' ⟨rfl, rfl⟩) | (go_at_call 18; refine (div_any _ _ _ (by omega) (by omega) (by omega) (by omega) hb0).mono ?_; rintro e w' ⟨rfl, rfl⟩) | (go_at_call 19; refine (rdiv_any _ _ _ (by omega) (by omega) (by omega) (by omega) hb0).mono ?_; rintro e w' ⟨rfl, rfl⟩) | (go_at_call 20; refine (mod_any _ _ _ (by omega) (by omega) (by omega) (by omega) hb0).mono ?_; rintro e w' ⟨rfl, rfl⟩) | (go_at_call 21; refine (rmod_any _ _ _ (by omega) (by omega) (by omega) (by omega) hb0).mono ?_; rintro e w' ⟨rfl, rfl⟩) | (go_at_call 15; refine (works_any _ HD.out).mono ?_; rintro e w' ⟨rfl, hb⟩))
  go_ret
  exact ⟨rfl, hb⟩
set_option maxHeartbeats 1000000 in
theorem products_z (a : Int) (w : World) (ha1 : -9223372036854775808 ≤ a) (ha2 : a ≤ 9223372036854775807) (hd : Digs w) :
    Calls Tryd.prog 4 #[.int .i64 a, .int .i64 0] w fun e w' => e = .returned (.bool true) ∧ Below w.heap.size w w' := by
  have HD := Lib.hid hd
  clear hd
  go_enter Tryd.func4, Tryd.ntmps4
  go_wp2_with (first | (go_at_call 16; refine (mul_any _ _ _ (by omega) (by omega) (by omega) (by omega)).mono ?_; rintro e w' ⟨rfl, rfl⟩) | (go_at_call 17; refine (rmul_any _ _ _ (by omega) (by omega) (by omega) (by omega)).mono ?_; rintro e w' ⟨rfl, rfl⟩) | (go_at_call 18; refine (div_zero _ _).mono ?_; rintro e w' ⟨rfl, rfl⟩) | (go_at_call 19; refine (rdiv_zero _ _).mono ?_; rintro e w' ⟨rfl, rfl⟩) | (go_at_call 20; refine (mod_zero _ _).mono ?_; rintro e w' ⟨rfl, rfl⟩) | (go_at_call 21; refine (rmod_zero _ _).mono ?_; rintro e w' ⟨rfl, rfl⟩) | (go_at_call 15; refine (works_any _ HD.out).mono ?_; rintro e w' ⟨rfl, hb⟩))
  go_ret
  exact ⟨rfl, hb⟩
theorem numProducts_any (a b : Int) (w : World) (ha1 : -9223372036854775808 ≤ a) (ha2 : a ≤ 9223372036854775807) (hb1 : -9223372036854775808 ≤ b) (hb2 : b ≤ 9223372036854775807) (hd : Digs w) :
    Calls Tryd.prog 4 #[.int .i64 a, .int .i64 b] w fun e w' => e = .returned (.bool true) ∧ Below w.heap.size w w' := by
  by_cases h : b = 0
  · subst h; exact products_z a w ha1 ha2 hd
  · exact products_nz a b w ha1 ha2 hb1 hb2 hd (by simpa using h)
set_option maxHeartbeats 1000000 in
theorem ring_111 (a b : Int) (w : World) (ha1 : -9223372036854775808 ≤ a) (ha2 : a ≤ 9223372036854775807) (hb1 : -9223372036854775808 ≤ b) (hb2 : b ≤ 9223372036854775807) (hd : Digs w) (s : Int) (HS : Hid (a + b = s)) (hs1 : -9223372036854775808 ≤ s) (hs2 : s ≤ 9223372036854775807) (p : Int) (HP : Hid (a * b = p)) (hp1 : -9223372036854775808 ≤ p) (hp2 : p ≤ 9223372036854775807) (hb0 : (b != 0) = false) :
    Calls Tryd.prog 7 #[.int .i64 a, .int .i64 b] w fun e w' => e = .returned (.bool true) ∧ Below w.heap.size w w' := by
  have HD := Lib.hid hd
  clear hd
  go_enter Tryd.func7, Tryd.ntmps7
  go_wp2_with (first | (go_at_call 9; refine (add_is _ _ s _ (by omega) (by omega) (by omega) (by omega) ⟨by have := HS.out; omega, by omega, by omega⟩).mono ?_; rintro e w' ⟨rfl, rfl⟩) | (go_at_call 11; refine (sub_is _ _ a _ (by omega) (by omega) (by omega) (by omega) ⟨by have := HS.out; omega, by omega, by omega⟩).mono ?_; rintro e w' ⟨rfl, rfl⟩) | (go_at_call 16; refine (mul_is _ _ p _ (by omega) (by omega) (by omega) (by omega) ⟨by first | exact HP.out | (rw [Int.mul_comm]; exact HP.out), by omega, by omega⟩).mono ?_; rintro e w' ⟨rfl, rfl⟩) | (go_at_call 15; refine (works_any _ HD.out).mono ?_; rintro e w' ⟨rfl, hb⟩))
  go_ret
  exact ⟨rfl, hb⟩
set_option maxHeartbeats 1000000 in
theorem ring_110 (a b : Int) (w : World) (ha1 : -9223372036854775808 ≤ a) (ha2 : a ≤ 9223372036854775807) (hb1 : -9223372036854775808 ≤ b) (hb2 : b ≤ 9223372036854775807) (hd : Digs w) (s : Int) (HS : Hid (a + b = s)) (hs1 : -9223372036854775808 ≤ s) (hs2 : s ≤ 9223372036854775807) (p : Int) (HP : Hid (a * b = p)) (hp1 : -9223372036854775808 ≤ p) (hp2 : p ≤ 9223372036854775807) (hb0 : (b == 0) = false) (hb3 : (b != 0) = true) :
    Calls Tryd.prog 7 #[.int .i64 a, .int .i64 b] w fun e w' => e = .returned (.bool true) ∧ Below w.heap.size w w' := by
  have HD := Lib.hid hd
  clear hd
  go_enter Tryd.func7, Tryd.ntmps7
  go_wp2_with (first | (go_at_call 9; refine (add_is _ _ s _ (by omega) (by omega) (by omega) (by omega) ⟨by have := HS.out; omega, by omega, by omega⟩).mono ?_; rintro e w' ⟨rfl, rfl⟩) | (go_at_call 11; refine (sub_is _ _ a _ (by omega) (by omega) (by omega) (by omega) ⟨by have := HS.out; omega, by omega, by omega⟩).mono ?_; rintro e w' ⟨rfl, rfl⟩) | (go_at_call 16; refine (mul_is _ _ p _ (by omega) (by omega) (by omega) (by omega) ⟨by first | exact HP.out | (rw [Int.mul_comm]; exact HP.out), by omega, by omega⟩).mono ?_; rintro e w' ⟨rfl, rfl⟩) | (go_at_call 18; refine (div_is _ _ a _ (by omega) (by omega) (by omega) (by omega) hb0 ⟨ring_div HP.out hb0, by omega, by omega⟩).mono ?_; rintro e w' ⟨rfl, rfl⟩) | (go_at_call 20; refine (mod_is _ _ 0 _ (by omega) (by omega) (by omega) (by omega) hb0 ⟨ring_mod HP.out, by omega, by omega⟩).mono ?_; rintro e w' ⟨rfl, rfl⟩) | (go_at_call 15; refine (works_any _ HD.out).mono ?_; rintro e w' ⟨rfl, hb⟩))
  go_ret
  exact ⟨rfl, hb⟩
set_option maxHeartbeats 1000000 in
theorem ring_100 (a b : Int) (w : World) (ha1 : -9223372036854775808 ≤ a) (ha2 : a ≤ 9223372036854775807) (hb1 : -9223372036854775808 ≤ b) (hb2 : b ≤ 9223372036854775807) (hd : Digs w) (s : Int) (HS : Hid (a + b = s)) (hs1 : -9223372036854775808 ≤ s) (hs2 : s ≤ 9223372036854775807) (HP : Hid (¬ (-9223372036854775808 ≤ (a * b) ∧ (a * b) ≤ 9223372036854775807))) :
    Calls Tryd.prog 7 #[.int .i64 a, .int .i64 b] w fun e w' => e = .returned (.bool true) ∧ Below w.heap.size w w' := by
  have HD := Lib.hid hd
  clear hd
  go_enter Tryd.func7, Tryd.ntmps7
  go_wp2_with (first | (go_at_call 9; refine (add_is _ _ s _ (by omega) (by omega) (by omega) (by omega) ⟨by have := HS.out; omega, by omega, by omega⟩).mono ?_; rintro e w' ⟨rfl, rfl⟩) | (go_at_call 11; refine (sub_is _ _ a _ (by omega) (by omega) (by omega) (by omega) ⟨by have := HS.out; omega, by omega, by omega⟩).mono ?_; rintro e w' ⟨rfl, rfl⟩) | (go_at_call 16; refine (mul_no _ _ _ (by omega) (by omega) (by omega) (by omega) (by first | exact HP.out | (rw [Int.mul_comm]; exact HP.out))).mono ?_; rintro e w' ⟨rfl, rfl⟩) | (go_at_call 15; refine (works_any _ HD.out).mono ?_; rintro e w' ⟨rfl, hb⟩))
  go_ret
  exact ⟨rfl, hb⟩
set_option maxHeartbeats 1000000 in
theorem ring_011 (a b : Int) (w : World) (ha1 : -9223372036854775808 ≤ a) (ha2 : a ≤ 9223372036854775807) (hb1 : -9223372036854775808 ≤ b) (hb2 : b ≤ 9223372036854775807) (hd : Digs w) (HS : Hid (¬ (-9223372036854775808 ≤ (a + b) ∧ (a + b) ≤ 9223372036854775807))) (p : Int) (HP : Hid (a * b = p)) (hp1 : -9223372036854775808 ≤ p) (hp2 : p ≤ 9223372036854775807) (hb0 : (b != 0) = false) :
    Calls Tryd.prog 7 #[.int .i64 a, .int .i64 b] w fun e w' => e = .returned (.bool true) ∧ Below w.heap.size w w' := by
  have HD := Lib.hid hd
  clear hd
  go_enter Tryd.func7, Tryd.ntmps7
  go_wp2_with (first | (go_at_call 9; refine (add_no _ _ _ (by omega) (by omega) (by omega) (by omega) (by have := HS.out; omega)).mono ?_; rintro e w' ⟨rfl, rfl⟩) | (go_at_call 16; refine (mul_is _ _ p _ (by omega) (by omega) (by omega) (by omega) ⟨by first | exact HP.out | (rw [Int.mul_comm]; exact HP.out), by omega, by omega⟩).mono ?_; rintro e w' ⟨rfl, rfl⟩) | (go_at_call 15; refine (works_any _ HD.out).mono ?_; rintro e w' ⟨rfl, hb⟩))
  go_ret
  exact ⟨rfl, hb⟩
set_option maxHeartbeats 1000000 in
theorem ring_010 (a b : Int) (w : World) (ha1 : -9223372036854775808 ≤ a) (ha2 : a ≤ 9223372036854775807) (hb1 : -9223372036854775808 ≤ b) (hb2 : b ≤ 9223372036854775807) (hd : Digs w) (HS : Hid (¬ (-9223372036854775808 ≤ (a + b) ∧ (a + b) ≤ 9223372036854775807))) (p : Int) (HP : Hid (a * b = p)) (hp1 : -9223372036854775808 ≤ p) (hp2 : p ≤ 9223372036854775807) (hb0 : (b == 0) = false) (hb3 : (b != 0) = true) :
    Calls Tryd.prog 7 #[.int .i64 a, .int .i64 b] w fun e w' => e = .returned (.bool true) ∧ Below w.heap.size w w' := by
  have HD := Lib.hid hd
  clear hd
  go_enter Tryd.func7, Tryd.ntmps7
  go_wp2_with (first | (go_at_call 9; refine (add_no _ _ _ (by omega) (by omega) (by omega) (by omega) (by have := HS.out; omega)).mono ?_; rintro e w' ⟨rfl, rfl⟩) | (go_at_call 16; refine (mul_is _ _ p _ (by omega) (by omega) (by omega) (by omega) ⟨by first | exact HP.out | (rw [Int.mul_comm]; exact HP.out), by omega, by omega⟩).mono ?_; rintro e w' ⟨rfl, rfl⟩) | (go_at_call 18; refine (div_is _ _ a _ (by omega) (by omega) (by omega) (by omega) hb0 ⟨ring_div HP.out hb0, by omega, by omega⟩).mono ?_; rintro e w' ⟨rfl, rfl⟩) | (go_at_call 20; refine (mod_is _ _ 0 _ (by omega) (by omega) (by omega) (by omega) hb0 ⟨ring_mod HP.out, by omega, by omega⟩).mono ?_; rintro e w' ⟨rfl, rfl⟩) | (go_at_call 15; refine (works_any _ HD.out).mono ?_; rintro e w' ⟨rfl, hb⟩))
  go_ret
  exact ⟨rfl, hb⟩
set_option maxHeartbeats 1000000 in
theorem ring_000 (a b : Int) (w : World) (ha1 : -9223372036854775808 ≤ a) (ha2 : a ≤ 9223372036854775807) (hb1 : -9223372036854775808 ≤ b) (hb2 : b ≤ 9223372036854775807) (hd : Digs w) (HS : Hid (¬ (-9223372036854775808 ≤ (a + b) ∧ (a + b) ≤ 9223372036854775807))) (HP : Hid (¬ (-9223372036854775808 ≤ (a * b) ∧ (a * b) ≤ 9223372036854775807))) :
    Calls Tryd.prog 7 #[.int .i64 a, .int .i64 b] w fun e w' => e = .returned (.bool true) ∧ Below w.heap.size w w' := by
  have HD := Lib.hid hd
  clear hd
  go_enter Tryd.func7, Tryd.ntmps7
  go_wp2_with (first | (go_at_call 9; refine (add_no _ _ _ (by omega) (by omega) (by omega) (by omega) (by have := HS.out; omega)).mono ?_; rintro e w' ⟨rfl, rfl⟩) | (go_at_call 16; refine (mul_no _ _ _ (by omega) (by omega) (by omega) (by omega) (by first | exact HP.out | (rw [Int.mul_comm]; exact HP.out))).mono ?_; rintro e w' ⟨rfl, rfl⟩) | (go_at_call 15; refine (works_any _ HD.out).mono ?_; rintro e w' ⟨rfl, hb⟩))
  go_ret
  exact ⟨rfl, hb⟩
theorem numRing_any (a b : Int) (w : World) (ha1 : -9223372036854775808 ≤ a) (ha2 : a ≤ 9223372036854775807) (hb1 : -9223372036854775808 ≤ b) (hb2 : b ≤ 9223372036854775807) (hd : Digs w) :
    Calls Tryd.prog 7 #[.int .i64 a, .int .i64 b] w fun e w' => e = .returned (.bool true) ∧ Below w.heap.size w w' := by
  by_cases hs : -9223372036854775808 ≤ (a + b) ∧ (a + b) ≤ 9223372036854775807 <;> by_cases hm : -9223372036854775808 ≤ (a * b) ∧ (a * b) ≤ 9223372036854775807
  · by_cases hz : b = 0
    · exact ring_111 a b w ha1 ha2 hb1 hb2 hd _ rfl hs.1 hs.2 _ rfl hm.1 hm.2 (by simpa using hz)
    · exact ring_110 a b w ha1 ha2 hb1 hb2 hd _ rfl hs.1 hs.2 _ rfl hm.1 hm.2 (by simpa using hz) (by simpa using hz)
  · exact ring_100 a b w ha1 ha2 hb1 hb2 hd _ rfl hs.1 hs.2 hm
  · by_cases hz : b = 0
    · exact ring_011 a b w ha1 ha2 hb1 hb2 hd hs _ rfl hm.1 hm.2 (by simpa using hz)
    · exact ring_010 a b w ha1 ha2 hb1 hb2 hd hs _ rfl hm.1 hm.2 (by simpa using hz) (by simpa using hz)
  · exact ring_000 a b w ha1 ha2 hb1 hb2 hd hs hm
set_option maxHeartbeats 1000000 in
theorem rests_z (a : Int) (w : World)  (hd : Digs w) :
    Calls Tryd.prog 8 #[.int .i64 a, .int .i64 0] w fun e w' => e = .returned (.bool true) ∧ Below w.heap.size w w' := by
  have HD := Lib.hid hd
  clear hd
  go_enter Tryd.func8, Tryd.ntmps8
  go_wp2_with (first | (go_at_call 18; refine (div_zero _ _).mono ?_; rintro e w' ⟨rfl, rfl⟩) | (go_at_call 20; refine (mod_zero _ _).mono ?_; rintro e w' ⟨rfl, rfl⟩) | (go_at_call 15; refine (works_any _ HD.out).mono ?_; rintro e w' ⟨rfl, hb⟩))
  go_ret
  exact ⟨rfl, hb⟩
set_option maxHeartbeats 1000000 in
theorem rests_o  (w : World)  (hd : Digs w) :
    Calls Tryd.prog 8 #[.int .i64 (-9223372036854775808), .int .i64 (-1)] w fun e w' => e = .returned (.bool true) ∧ Below w.heap.size w w' := by
  have HD := Lib.hid hd
  clear hd
  go_enter Tryd.func8, Tryd.ntmps8
  go_wp2_with (first | (go_at_call 18; refine (div_no _ _ _ (by omega) (by omega) (by omega) (by omega) rfl (by decide)).mono ?_; rintro e w' ⟨rfl, rfl⟩) | (go_at_call 20; refine (mod_is _ _ 0 _ (by omega) (by omega) (by omega) (by omega) rfl (by decide)).mono ?_; rintro e w' ⟨rfl, rfl⟩) | (go_at_call 15; refine (works_any _ HD.out).mono ?_; rintro e w' ⟨rfl, hb⟩))
  go_ret
  exact ⟨rfl, hb⟩
set_option maxHeartbeats 1000000 in
theorem rests_pz (a b q p : Int) (w : World) (ha1 : -9223372036854775808 ≤ a) (ha2 : a ≤ 9223372036854775807) (hb1 : -9223372036854775808 ≤ b) (hb2 : b ≤ 9223372036854775807) (hd : Digs w) (hb0 : (b == 0) = false) (hbp : 0 < b) (hbd : decide (b < 0) = false) (HQ : Hid (Int.tdiv a b = q ∧ Int.tmod a b = 0 ∧ q * b = p ∧ p + 0 = a)) (hq1 : -9223372036854775808 ≤ q) (hq2 : q ≤ 9223372036854775807) (hp1 : -9223372036854775808 ≤ p) (hp2 : p ≤ 9223372036854775807) :
    Calls Tryd.prog 8 #[.int .i64 a, .int .i64 b] w fun e w' => e = .returned (.bool true) ∧ Below w.heap.size w w' := by
  have HD := Lib.hid hd
  clear hd
  go_enter Tryd.func8, Tryd.ntmps8
  go_wp2_with (first | (go_at_call 18; refine (div_is _ _ q _ (by omega) (by omega) (by omega) (by omega) hb0 ⟨HQ.out.1, by omega, by omega⟩).mono ?_; rintro e w' ⟨rfl, rfl⟩) | (go_at_call 20; refine (mod_is _ _ 0 _ (by omega) (by omega) (by omega) (by omega) hb0 ⟨HQ.out.2.1, by omega, by omega⟩).mono ?_; rintro e w' ⟨rfl, rfl⟩) | (go_at_call 16; refine (mul_is _ _ p _ (by omega) (by omega) (by omega) (by omega) ⟨HQ.out.2.2.1, by omega, by omega⟩).mono ?_; rintro e w' ⟨rfl, rfl⟩) | (go_at_call 9; refine (add_is _ _ a _ (by omega) (by omega) (by omega) (by omega) ⟨by have := HQ.out.2.2.2; omega, by omega, by omega⟩).mono ?_; rintro e w' ⟨rfl, rfl⟩) | (go_at_call 15; refine (works_any _ HD.out).mono ?_; rintro e w' ⟨rfl, hb⟩))
  go_ret
  exact ⟨rfl, hb⟩
set_option maxHeartbeats 1000000 in
theorem rests_pp (a b q m p : Int) (w : World) (ha1 : -9223372036854775808 ≤ a) (ha2 : a ≤ 9223372036854775807) (hb1 : -9223372036854775808 ≤ b) (hb2 : b ≤ 9223372036854775807) (hd : Digs w) (hb0 : (b == 0) = false) (hbp : 0 < b) (hbd : decide (b < 0) = false) (HQ : Hid (Int.tdiv a b = q ∧ Int.tmod a b = m ∧ q * b = p ∧ p + m = a)) (hq1 : -9223372036854775808 ≤ q) (hq2 : q ≤ 9223372036854775807) (hp1 : -9223372036854775808 ≤ p) (hp2 : p ≤ 9223372036854775807) (hm1 : -b < m) (hm2 : m < b) (hm0 : (m != 0) = true) (hms : decide (m < 0) = false) (has : decide (a < 0) = false) :
    Calls Tryd.prog 8 #[.int .i64 a, .int .i64 b] w fun e w' => e = .returned (.bool true) ∧ Below w.heap.size w w' := by
  have HD := Lib.hid hd
  clear hd
  go_enter Tryd.func8, Tryd.ntmps8
  go_wp2_with (first | (go_at_call 18; refine (div_is _ _ q _ (by omega) (by omega) (by omega) (by omega) hb0 ⟨HQ.out.1, by omega, by omega⟩).mono ?_; rintro e w' ⟨rfl, rfl⟩) | (go_at_call 20; refine (mod_is _ _ m _ (by omega) (by omega) (by omega) (by omega) hb0 ⟨HQ.out.2.1, by omega, by omega⟩).mono ?_; rintro e w' ⟨rfl, rfl⟩) | (go_at_call 16; refine (mul_is _ _ p _ (by omega) (by omega) (by omega) (by omega) ⟨HQ.out.2.2.1, by omega, by omega⟩).mono ?_; rintro e w' ⟨rfl, rfl⟩) | (go_at_call 9; refine (add_is _ _ a _ (by omega) (by omega) (by omega) (by omega) ⟨by have := HQ.out.2.2.2; omega, by omega, by omega⟩).mono ?_; rintro e w' ⟨rfl, rfl⟩) | (go_at_call 15; refine (works_any _ HD.out).mono ?_; rintro e w' ⟨rfl, hb⟩))
  go_ret
  exact ⟨rfl, hb⟩
set_option maxHeartbeats 1000000 in
theorem rests_pn (a b q m p : Int) (w : World) (ha1 : -9223372036854775808 ≤ a) (ha2 : a ≤ 9223372036854775807) (hb1 : -9223372036854775808 ≤ b) (hb2 : b ≤ 9223372036854775807) (hd : Digs w) (hb0 : (b == 0) = false) (hbp : 0 < b) (hbd : decide (b < 0) = false) (HQ : Hid (Int.tdiv a b = q ∧ Int.tmod a b = m ∧ q * b = p ∧ p + m = a)) (hq1 : -9223372036854775808 ≤ q) (hq2 : q ≤ 9223372036854775807) (hp1 : -9223372036854775808 ≤ p) (hp2 : p ≤ 9223372036854775807) (hm1 : -b < m) (hm2 : m < b) (hm0 : (m != 0) = true) (hms : decide (m < 0) = true) (has : decide (a < 0) = true) :
    Calls Tryd.prog 8 #[.int .i64 a, .int .i64 b] w fun e w' => e = .returned (.bool true) ∧ Below w.heap.size w w' := by
  have HD := Lib.hid hd
  clear hd
  go_enter Tryd.func8, Tryd.ntmps8
  go_wp2_with (first | (go_at_call 18; refine (div_is _ _ q _ (by omega) (by omega) (by omega) (by omega) hb0 ⟨HQ.out.1, by omega, by omega⟩).mono ?_; rintro e w' ⟨rfl, rfl⟩) | (go_at_call 20; refine (mod_is _ _ m _ (by omega) (by omega) (by omega) (by omega) hb0 ⟨HQ.out.2.1, by omega, by omega⟩).mono ?_; rintro e w' ⟨rfl, rfl⟩) | (go_at_call 16; refine (mul_is _ _ p _ (by omega) (by omega) (by omega) (by omega) ⟨HQ.out.2.2.1, by omega, by omega⟩).mono ?_; rintro e w' ⟨rfl, rfl⟩) | (go_at_call 9; refine (add_is _ _ a _ (by omega) (by omega) (by omega) (by omega) ⟨by have := HQ.out.2.2.2; omega, by omega, by omega⟩).mono ?_; rintro e w' ⟨rfl, rfl⟩) | (go_at_call 15; refine (works_any _ HD.out).mono ?_; rintro e w' ⟨rfl, hb⟩))
  go_ret
  exact ⟨rfl, hb⟩
set_option maxHeartbeats 1000000 in
theorem rests_nz (a b q p : Int) (w : World) (ha1 : -9223372036854775808 ≤ a) (ha2 : a ≤ 9223372036854775807) (hb1 : -9223372036854775808 ≤ b) (hb2 : b ≤ 9223372036854775807) (hd : Digs w) (hb0 : (b == 0) = false) (hbn : b < 0) (hbl : -9223372036854775808 < b) (hbd : decide (0 < b) = false) (HQ : Hid (Int.tdiv a b = q ∧ Int.tmod a b = 0 ∧ q * b = p ∧ p + 0 = a)) (hq1 : -9223372036854775808 ≤ q) (hq2 : q ≤ 9223372036854775807) (hp1 : -9223372036854775808 ≤ p) (hp2 : p ≤ 9223372036854775807) :
    Calls Tryd.prog 8 #[.int .i64 a, .int .i64 b] w fun e w' => e = .returned (.bool true) ∧ Below w.heap.size w w' := by
  have HD := Lib.hid hd
  clear hd
  go_enter Tryd.func8, Tryd.ntmps8
  go_wp2_with (first | (go_at_call 18; refine (div_is _ _ q _ (by omega) (by omega) (by omega) (by omega) hb0 ⟨HQ.out.1, by omega, by omega⟩).mono ?_; rintro e w' ⟨rfl, rfl⟩) | (go_at_call 20; refine (mod_is _ _ 0 _ (by omega) (by omega) (by omega) (by omega) hb0 ⟨HQ.out.2.1, by omega, by omega⟩).mono ?_; rintro e w' ⟨rfl, rfl⟩) | (go_at_call 16; refine (mul_is _ _ p _ (by omega) (by omega) (by omega) (by omega) ⟨HQ.out.2.2.1, by omega, by omega⟩).mono ?_; rintro e w' ⟨rfl, rfl⟩) | (go_at_call 9; refine (add_is _ _ a _ (by omega) (by omega) (by omega) (by omega) ⟨by have := HQ.out.2.2.2; omega, by omega, by omega⟩).mono ?_; rintro e w' ⟨rfl, rfl⟩) | (go_at_call 15; refine (works_any _ HD.out).mono ?_; rintro e w' ⟨rfl, hb⟩))
  go_ret
  exact ⟨rfl, hb⟩
set_option maxHeartbeats 1000000 in
theorem rests_np (a b q m p : Int) (w : World) (ha1 : -9223372036854775808 ≤ a) (ha2 : a ≤ 9223372036854775807) (hb1 : -9223372036854775808 ≤ b) (hb2 : b ≤ 9223372036854775807) (hd : Digs w) (hb0 : (b == 0) = false) (hbn : b < 0) (hbl : -9223372036854775808 < b) (hbd : decide (0 < b) = false) (HQ : Hid (Int.tdiv a b = q ∧ Int.tmod a b = m ∧ q * b = p ∧ p + m = a)) (hq1 : -9223372036854775808 ≤ q) (hq2 : q ≤ 9223372036854775807) (hp1 : -9223372036854775808 ≤ p) (hp2 : p ≤ 9223372036854775807) (hm1 : b < m) (hm2 : m < -b) (hm0 : (m != 0) = true) (hms : decide (m < 0) = false) (has : decide (a < 0) = false) :
    Calls Tryd.prog 8 #[.int .i64 a, .int .i64 b] w fun e w' => e = .returned (.bool true) ∧ Below w.heap.size w w' := by
  have HD := Lib.hid hd
  clear hd
  go_enter Tryd.func8, Tryd.ntmps8
  go_wp2_with (first | (go_at_call 18; refine (div_is _ _ q _ (by omega) (by omega) (by omega) (by omega) hb0 ⟨HQ.out.1, by omega, by omega⟩).mono ?_; rintro e w' ⟨rfl, rfl⟩) | (go_at_call 20; refine (mod_is _ _ m _ (by omega) (by omega) (by omega) (by omega) hb0 ⟨HQ.out.2.1, by omega, by omega⟩).mono ?_; rintro e w' ⟨rfl, rfl⟩) | (go_at_call 16; refine (mul_is _ _ p _ (by omega) (by omega) (by omega) (by omega) ⟨HQ.out.2.2.1, by omega, by omega⟩).mono ?_; rintro e w' ⟨rfl, rfl⟩) | (go_at_call 9; refine (add_is _ _ a _ (by omega) (by omega) (by omega) (by omega) ⟨by have := HQ.out.2.2.2; omega, by omega, by omega⟩).mono ?_; rintro e w' ⟨rfl, rfl⟩) | (go_at_call 15; refine (works_any _ HD.out).mono ?_; rintro e w' ⟨rfl, hb⟩))
  go_ret
  exact ⟨rfl, hb⟩
set_option maxHeartbeats 1000000 in
theorem rests_nn (a b q m p : Int) (w : World) (ha1 : -9223372036854775808 ≤ a) (ha2 : a ≤ 9223372036854775807) (hb1 : -9223372036854775808 ≤ b) (hb2 : b ≤ 9223372036854775807) (hd : Digs w) (hb0 : (b == 0) = false) (hbn : b < 0) (hbl : -9223372036854775808 < b) (hbd : decide (0 < b) = false) (HQ : Hid (Int.tdiv a b = q ∧ Int.tmod a b = m ∧ q * b = p ∧ p + m = a)) (hq1 : -9223372036854775808 ≤ q) (hq2 : q ≤ 9223372036854775807) (hp1 : -9223372036854775808 ≤ p) (hp2 : p ≤ 9223372036854775807) (hm1 : b < m) (hm2 : m < -b) (hm0 : (m != 0) = true) (hms : decide (m < 0) = true) (has : decide (a < 0) = true) :
    Calls Tryd.prog 8 #[.int .i64 a, .int .i64 b] w fun e w' => e = .returned (.bool true) ∧ Below w.heap.size w w' := by
  have HD := Lib.hid hd
  clear hd
  go_enter Tryd.func8, Tryd.ntmps8
  go_wp2_with (first | (go_at_call 18; refine (div_is _ _ q _ (by omega) (by omega) (by omega) (by omega) hb0 ⟨HQ.out.1, by omega, by omega⟩).mono ?_; rintro e w' ⟨rfl, rfl⟩) | (go_at_call 20; refine (mod_is _ _ m _ (by omega) (by omega) (by omega) (by omega) hb0 ⟨HQ.out.2.1, by omega, by omega⟩).mono ?_; rintro e w' ⟨rfl, rfl⟩) | (go_at_call 16; refine (mul_is _ _ p _ (by omega) (by omega) (by omega) (by omega) ⟨HQ.out.2.2.1, by omega, by omega⟩).mono ?_; rintro e w' ⟨rfl, rfl⟩) | (go_at_call 9; refine (add_is _ _ a _ (by omega) (by omega) (by omega) (by omega) ⟨by have := HQ.out.2.2.2; omega, by omega, by omega⟩).mono ?_; rintro e w' ⟨rfl, rfl⟩) | (go_at_call 15; refine (works_any _ HD.out).mono ?_; rintro e w' ⟨rfl, hb⟩))
  go_ret
  exact ⟨rfl, hb⟩
set_option maxHeartbeats 1000000 in
theorem rests_lz (a q p : Int) (w : World) (ha1 : -9223372036854775808 ≤ a) (ha2 : a ≤ 9223372036854775807)  (hd : Digs w) (HQ : Hid (Int.tdiv a (-9223372036854775808) = q ∧ Int.tmod a (-9223372036854775808) = 0 ∧ q * (-9223372036854775808) = p ∧ p + 0 = a)) (hq1 : -9223372036854775808 ≤ q) (hq2 : q ≤ 9223372036854775807) (hp1 : -9223372036854775808 ≤ p) (hp2 : p ≤ 9223372036854775807) :
    Calls Tryd.prog 8 #[.int .i64 a, .int .i64 (-9223372036854775808)] w fun e w' => e = .returned (.bool true) ∧ Below w.heap.size w w' := by
  have HD := Lib.hid hd
  clear hd
  go_enter Tryd.func8, Tryd.ntmps8
  go_wp2_with (first | (go_at_call 18; refine (div_is _ _ q _ (by omega) (by omega) (by omega) (by omega) rfl ⟨HQ.out.1, by omega, by omega⟩).mono ?_; rintro e w' ⟨rfl, rfl⟩) | (go_at_call 20; refine (mod_is _ _ 0 _ (by omega) (by omega) (by omega) (by omega) rfl ⟨HQ.out.2.1, by omega, by omega⟩).mono ?_; rintro e w' ⟨rfl, rfl⟩) | (go_at_call 16; refine (mul_is _ _ p _ (by omega) (by omega) (by omega) (by omega) ⟨HQ.out.2.2.1, by omega, by omega⟩).mono ?_; rintro e w' ⟨rfl, rfl⟩) | (go_at_call 9; refine (add_is _ _ a _ (by omega) (by omega) (by omega) (by omega) ⟨by have := HQ.out.2.2.2; omega, by omega, by omega⟩).mono ?_; rintro e w' ⟨rfl, rfl⟩) | (go_at_call 15; refine (works_any _ HD.out).mono ?_; rintro e w' ⟨rfl, hb⟩))
  go_ret
  exact ⟨rfl, hb⟩
set_option maxHeartbeats 1000000 in
theorem rests_lp (a q m p : Int) (w : World) (ha1 : -9223372036854775808 ≤ a) (ha2 : a ≤ 9223372036854775807)  (hd : Digs w) (HQ : Hid (Int.tdiv a (-9223372036854775808) = q ∧ Int.tmod a (-9223372036854775808) = m ∧ q * (-9223372036854775808) = p ∧ p + m = a)) (hq1 : -9223372036854775808 ≤ q) (hq2 : q ≤ 9223372036854775807) (hp1 : -9223372036854775808 ≤ p) (hp2 : p ≤ 9223372036854775807) (hm1 : -9223372036854775808 < m) (hm2 : m ≤ 9223372036854775807) (hm0 : (m != 0) = true) (hms : decide (m < 0) = false) (has : decide (a < 0) = false) :
    Calls Tryd.prog 8 #[.int .i64 a, .int .i64 (-9223372036854775808)] w fun e w' => e = .returned (.bool true) ∧ Below w.heap.size w w' := by
  have HD := Lib.hid hd
  clear hd
  go_enter Tryd.func8, Tryd.ntmps8
  go_wp2_with (first | (go_at_call 18; refine (div_is _ _ q _ (by omega) (by omega) (by omega) (by omega) rfl ⟨HQ.out.1, by omega, by omega⟩).mono ?_; rintro e w' ⟨rfl, rfl⟩) | (go_at_call 20; refine (mod_is _ _ m _ (by omega) (by omega) (by omega) (by omega) rfl ⟨HQ.out.2.1, by omega, by omega⟩).mono ?_; rintro e w' ⟨rfl, rfl⟩) | (go_at_call 16; refine (mul_is _ _ p _ (by omega) (by omega) (by omega) (by omega) ⟨HQ.out.2.2.1, by omega, by omega⟩).mono ?_; rintro e w' ⟨rfl, rfl⟩) | (go_at_call 9; refine (add_is _ _ a _ (by omega) (by omega) (by omega) (by omega) ⟨by have := HQ.out.2.2.2; omega, by omega, by omega⟩).mono ?_; rintro e w' ⟨rfl, rfl⟩) | (go_at_call 15; refine (works_any _ HD.out).mono ?_; rintro e w' ⟨rfl, hb⟩))
  go_ret
  exact ⟨rfl, hb⟩
set_option maxHeartbeats 1000000 in
theorem rests_ln (a q m p : Int) (w : World) (ha1 : -9223372036854775808 ≤ a) (ha2 : a ≤ 9223372036854775807)  (hd : Digs w) (HQ : Hid (Int.tdiv a (-9223372036854775808) = q ∧ Int.tmod a (-9223372036854775808) = m ∧ q * (-9223372036854775808) = p ∧ p + m = a)) (hq1 : -9223372036854775808 ≤ q) (hq2 : q ≤ 9223372036854775807) (hp1 : -9223372036854775808 ≤ p) (hp2 : p ≤ 9223372036854775807) (hm1 : -9223372036854775808 < m) (hm2 : m ≤ 9223372036854775807) (hm0 : (m != 0) = true) (hms : decide (m < 0) = true) (has : decide (a < 0) = true) :
    Calls Tryd.prog 8 #[.int .i64 a, .int .i64 (-9223372036854775808)] w fun e w' => e = .returned (.bool true) ∧ Below w.heap.size w w' := by
  have HD := Lib.hid hd
  clear hd
  go_enter Tryd.func8, Tryd.ntmps8
  go_wp2_with (first | (go_at_call 18; refine (div_is _ _ q _ (by omega) (by omega) (by omega) (by omega) rfl ⟨HQ.out.1, by omega, by omega⟩).mono ?_; rintro e w' ⟨rfl, rfl⟩) | (go_at_call 20; refine (mod_is _ _ m _ (by omega) (by omega) (by omega) (by omega) rfl ⟨HQ.out.2.1, by omega, by omega⟩).mono ?_; rintro e w' ⟨rfl, rfl⟩) | (go_at_call 16; refine (mul_is _ _ p _ (by omega) (by omega) (by omega) (by omega) ⟨HQ.out.2.2.1, by omega, by omega⟩).mono ?_; rintro e w' ⟨rfl, rfl⟩) | (go_at_call 9; refine (add_is _ _ a _ (by omega) (by omega) (by omega) (by omega) ⟨by have := HQ.out.2.2.2; omega, by omega, by omega⟩).mono ?_; rintro e w' ⟨rfl, rfl⟩) | (go_at_call 15; refine (works_any _ HD.out).mono ?_; rintro e w' ⟨rfl, hb⟩))
  go_ret
  exact ⟨rfl, hb⟩
theorem numRests_any (a b : Int) (w : World) (ha1 : -9223372036854775808 ≤ a) (ha2 : a ≤ 9223372036854775807) (hb1 : -9223372036854775808 ≤ b) (hb2 : b ≤ 9223372036854775807) (hd : Digs w) :
    Calls Tryd.prog 8 #[.int .i64 a, .int .i64 b] w fun e w' => e = .returned (.bool true) ∧ Below w.heap.size w w' := by
  by_cases h0 : b = 0
  · subst h0; exact rests_z a w hd
  by_cases ho : a = -9223372036854775808 ∧ b = -1
  · obtain ⟨rfl, rfl⟩ := ho; exact rests_o w hd
  have z0 : (b == 0) = false := by simpa using h0
  have hq := quo_in ha1 ha2 h0 (by omega : a ≠ -9223372036854775808 ∨ b ≠ -1)
  have ma : (a.tmod b).natAbs = a.natAbs % b.natAbs := Int.natAbs_tmod a b
  have ml : a.natAbs % b.natAbs < b.natAbs := Nat.mod_lt _ (by omega)
  have mk : a.natAbs % b.natAbs ≤ a.natAbs := Nat.mod_le _ _
  have ms1 : 0 ≤ a → 0 ≤ a.tmod b := fun h => Int.tmod_nonneg b h
  have ms2 : a < 0 → a.tmod b ≤ 0 := fun h => by
    have := Int.tmod_nonneg b (a := -a) (by omega)
    rw [Int.neg_tmod] at this
    omega
  have e := Int.mul_tdiv_add_tmod a b
  rw [Int.mul_comm] at e
  rw [← ma] at ml mk
  clear ma
  generalize hqq : a.tdiv b = q at *
  generalize hmm : a.tmod b = m at *
  generalize hpp : q * b = p at *
  have hp : -9223372036854775808 ≤ p ∧ p ≤ 9223372036854775807 := by omega
  rcases (show m = 0 ∨ 0 < m ∨ m < 0 by omega) with hm | hm | hm
  · subst hm
    rcases (show 0 < b ∨ (b < 0 ∧ -9223372036854775808 < b) ∨ b = -9223372036854775808 by omega) with hb | hb | hb
    · exact rests_pz a b q p w ha1 ha2 hb1 hb2 hd z0 hb (decide_eq_false (by omega)) ⟨hqq, hmm, hpp, e⟩ hq.1 hq.2 hp.1 hp.2
    · exact rests_nz a b q p w ha1 ha2 hb1 hb2 hd z0 hb.1 hb.2 (decide_eq_false (by omega)) ⟨hqq, hmm, hpp, e⟩ hq.1 hq.2 hp.1 hp.2
    · subst hb; exact rests_lz a q p w ha1 ha2 hd ⟨hqq, hmm, hpp, e⟩ hq.1 hq.2 hp.1 hp.2
  · have hm0 : (m != 0) = true := by simp; omega
    have hms : decide (m < 0) = false := decide_eq_false (by omega)
    have has : decide (a < 0) = false := decide_eq_false (by omega)
    rcases (show 0 < b ∨ (b < 0 ∧ -9223372036854775808 < b) ∨ b = -9223372036854775808 by omega) with hb | hb | hb
    · exact rests_pp a b q m p w ha1 ha2 hb1 hb2 hd z0 hb (decide_eq_false (by omega)) ⟨hqq, hmm, hpp, e⟩ hq.1 hq.2 hp.1 hp.2 (by omega) (by omega) hm0 hms has
    · exact rests_np a b q m p w ha1 ha2 hb1 hb2 hd z0 hb.1 hb.2 (decide_eq_false (by omega)) ⟨hqq, hmm, hpp, e⟩ hq.1 hq.2 hp.1 hp.2 (by omega) (by omega) hm0 hms has
    · subst hb; exact rests_lp a q m p w ha1 ha2 hd ⟨hqq, hmm, hpp, e⟩ hq.1 hq.2 hp.1 hp.2 (by omega) (by omega) hm0 hms has
  · have hm0 : (m != 0) = true := by simp; omega
    have hms : decide (m < 0) = true := decide_eq_true (by omega)
    have has : decide (a < 0) = true := decide_eq_true (by omega)
    rcases (show 0 < b ∨ (b < 0 ∧ -9223372036854775808 < b) ∨ b = -9223372036854775808 by omega) with hb | hb | hb
    · exact rests_pn a b q m p w ha1 ha2 hb1 hb2 hd z0 hb (decide_eq_false (by omega)) ⟨hqq, hmm, hpp, e⟩ hq.1 hq.2 hp.1 hp.2 (by omega) (by omega) hm0 hms has
    · exact rests_nn a b q m p w ha1 ha2 hb1 hb2 hd z0 hb.1 hb.2 (decide_eq_false (by omega)) ⟨hqq, hmm, hpp, e⟩ hq.1 hq.2 hp.1 hp.2 (by omega) (by omega) hm0 hms has
    · subst hb; exact rests_ln a q m p w ha1 ha2 hd ⟨hqq, hmm, hpp, e⟩ hq.1 hq.2 hp.1 hp.2 (by omega) (by omega) hm0 hms has
end Num
end Go.Proofs.YtbefjenenciflaaDoor
