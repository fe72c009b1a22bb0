/- THE WALKS over the laws of layer num that need no more than sums, products, digits of one small number. -/
import Derived.Test.YtbefjenenciflaaDoorRows
import Derived.Test.YtbefjenenciflaaDoorNumPlain
import Derived.Test.YtbefjenenciflaaDoorNumTextPlain
import Derived.Test.YtbefjenenciflaaDoorNumWalks
import Derived.Test.YtbefjenenciflaaDoorNumWalks2
import Derived.Test.YtbefjenenciflaaDoorNumText
import Derived.WalkKit
import Derived.Lib.Hide
import Derived.WalkSpells
import Derived.WalkLawsBesides
namespace Go.Proofs.YtbefjenenciflaaDoor
open Go.RowKit
set_option linter.unusedVariables false
set_option linter.unusedSimpArgs false
namespace Num
theorem text_seven (w : World) (hd : Digs w) :
    Calls Tryd.prog 24 #[.int .i64 (-7)] w fun e w' => e = .returned (.string ⟨#[45, 55]⟩) ∧ Below w.heap.size w w' :=
  (text_any (-7) w (by omega) (by omega) hd).mono fun e w' ⟨he, hb⟩ => ⟨by
    rw [he, textN_neg (by omega), show absN (-7) = 7 from rfl, digs_lt (by omega)]; rfl, hb⟩
theorem add_two (w : World) : Calls Tryd.prog 9 #[.int .i64 2, .int .i64 3] w fun e w' => e = .returned (.tuple #[.int .i64 5, .int .i64 0]) ∧ w = w' :=
  (add_any 2 3 w (by omega) (by omega) (by omega) (by omega)).mono fun e w' ⟨he, hw⟩ => ⟨by rw [he]; rfl, hw⟩
theorem mul_six (w : World) : Calls Tryd.prog 16 #[.int .i64 6, .int .i64 (-7)] w fun e w' => e = .returned (.tuple #[.int .i64 (-42), .int .i64 0]) ∧ w = w' :=
  (mul_any 6 (-7) w (by omega) (by omega) (by omega) (by omega)).mono fun e w' ⟨he, hw⟩ => ⟨by rw [he]; rfl, hw⟩
set_option maxHeartbeats 400000 in
theorem works_any (w : World) (hd : Digs w) :
    Calls Tryd.prog 15 #[] w fun e w' => e = .returned (.bool true) ∧ Below w.heap.size w w' := by
  have HD := Lib.hid hd
  clear hd
  go_enter Tryd.func15, Tryd.ntmps15
  go_wp2_with (first | (go_at_call 9; refine (add_two _).mono ?_; rintro e w' ⟨rfl, rfl⟩) | (go_at_call 16; refine (mul_six _).mono ?_; rintro e w' ⟨rfl, rfl⟩) | (go_at_call 24; refine (text_seven _ HD.out).mono ?_; rintro e w' ⟨rfl, hb⟩))
  go_ret
  exact ⟨rfl, hb⟩
set_option maxHeartbeats 400000 in
theorem numSums_any (a b : Int) (w : World) (ha1 : -9223372036854775808 ≤ a) (ha2 : a ≤ 9223372036854775807) (hb1 : -9223372036854775808 ≤ b) (hb2 : b ≤ 9223372036854775807) (hd : Digs w) :
    Calls Tryd.prog 3 #[.int .i64 a, .int .i64 b] w fun e w' => e = .returned (.bool true) ∧ Below w.heap.size w w' := by
  have HD := Lib.hid hd
  clear hd
  go_enter Tryd.func3, Tryd.ntmps3
  go_wp2_with (first | (go_at_call 9; refine (add_any _ _ _ (by omega) (by omega) (by omega) (by omega)).mono ?_; rintro e w' ⟨rfl, rfl⟩) | (go_at_call 10; refine (radd_any _ _ _ (by omega) (by omega) (by omega) (by omega)).mono ?_; rintro e w' ⟨rfl, rfl⟩) | (go_at_call 11; refine (sub_any _ _ _ (by omega) (by omega) (by omega) (by omega)).mono ?_; rintro e w' ⟨rfl, rfl⟩) | (go_at_call 12; refine (rsub_any _ _ _ (by omega) (by omega) (by omega) (by omega)).mono ?_; rintro e w' ⟨rfl, rfl⟩) | (go_at_call 13; refine (neg_any _ _ (by omega) (by omega)).mono ?_; rintro e w' ⟨rfl, rfl⟩) | (go_at_call 14; refine (rneg_any _ _ (by omega) (by omega)).mono ?_; rintro e w' ⟨rfl, rfl⟩) | (go_at_call 15; refine (works_any _ HD.out).mono ?_; rintro e w' ⟨rfl, hb⟩))
  go_ret
  exact ⟨rfl, hb⟩
end Num
end Go.Proofs.YtbefjenenciflaaDoor
