/- THE WALK over the document's own Text. -/
import Derived.Test.YtoaliaohbpdibaaDoorNumTextPlain
import Derived.Test.YtoaliaohbpdibaaDoorNumParsePlain
import Derived.Test.YtoaliaohbpdibaaDoorRows
import Derived.WalkKit
import Derived.Lib.Hide
import Derived.Laws.BytesArg
import Derived.WalkSpells
import Derived.WalkLawsBesides
namespace Go.Proofs.YtoaliaohbpdibaaDoor
open Go.RowKit
set_option linter.unusedVariables false
set_option linter.unusedSimpArgs false
namespace Num
set_option maxHeartbeats 400000 in
theorem rtext_least (w : World) :
    Calls Tryd.prog 35 #[.int .i64 (-9223372036854775808)] w fun e w' => e = .returned (.string ⟨#[45, 57, 50, 50, 51, 51, 55, 50, 48, 51, 54, 56, 53, 52, 55, 55, 53, 56, 48, 56]⟩) ∧ w = w' := by
  go_enter Tryd.func35, Tryd.ntmps35
  go_wp2_with fail
  go_ret
  exact ⟨rfl, rfl⟩
theorem one_byte (x : Int) (w : World) :
    (convert 36 9 (.slice (some ⟨w.heap.size, 0, none⟩) 1 1)).run Tryd.prog (w.alloc (.cells #[.int .u8 x] 5)) = .ok (.string (strOfNums [x])) (w.alloc (.cells #[.int .u8 x] 5)) := by
  refine run_convert_bytes_arg _ _ 5 (by kernel_rfl) (by kernel_rfl) _ _ _ _ [x] rfl ?_ _ (by kernel_rfl)
  intro i hi
  obtain rfl : i = 0 := by simp at hi; omega
  rw [World.cell?_alloc_new]; rfl
theorem strOfNums_append (a b : List Int) : strOfNums (a ++ b) = strOfNums a ++ strOfNums b := by
  apply WideShapes.bytes_inj
  simp [strOfNums]
theorem text_nonneg {n : Int} (h : 10 ≤ n) : textN n = textN (n / 10) ++ [48 + n % 10] := by
  rw [textN_pos (by omega), textN_pos (by omega), digs_ge (by unfold absN; omega)]
  have e1 : absN n / 10 = absN (n / 10) := by unfold absN; omega
  have e2 : ((absN n % 10 : Nat) : Int) = n % 10 := by unfold absN; omega
  rw [e1, e2]
theorem text_digit {n : Int} (h0 : 0 ≤ n) (h : n < 10) : textN n = [48 + n % 10] := by
  rw [textN_pos (by omega), digs_lt (by unfold absN; omega)]
  have e2 : ((absN n : Nat) : Int) = n % 10 := by unfold absN; omega
  rw [e2]
theorem text_minus {n : Int} (h : n < 0) : textN n = 45 :: textN (-n) := by
  rw [textN_neg h, textN_pos (by omega)]
  have e : absN (-n) = absN n := by unfold absN; omega
  rw [e]
theorem text_len (n : Int) (h1 : -9223372036854775808 ≤ n) (h2 : n ≤ 9223372036854775807) : (strOfNums (textN n)).size ≤ 1844674407370955163 := by
  rw [strOfNums_size]
  have hN := absN_le h1 h2
  have hl : (digs (absN n)).length ≤ absN n / 10 + 2 := by
    by_cases h : absN n < 10
    · rw [digs_lt h]; simp
    · rw [digs_ge (by omega), List.length_append]
      have := digs_length (absN n / 10)
      simp; omega
  unfold textN
  split <;> simp <;> omega
theorem minus_bytes (l : List Int) : Ending.returned (.string (ByteArray.mk #[45] ++ strOfNums l)) = .returned (.string (strOfNums (45 :: l))) := by
  rw [show (45 :: l) = [45] ++ l from rfl, strOfNums_append]; rfl
theorem text_least : Ending.returned (.string ⟨#[45, 57, 50, 50, 51, 51, 55, 50, 48, 51, 54, 56, 53, 52, 55, 55, 53, 56, 48, 56]⟩) = .returned (.string (strOfNums (textN (-9223372036854775808)))) := by
  have e : textN (-9223372036854775808) = [45, 57, 50, 50, 51, 51, 55, 50, 48, 51, 54, 56, 53, 52, 55, 55, 53, 56, 48, 56] := by
    rw [textN_neg (by omega), show absN (-9223372036854775808) = 9223372036854775808 from rfl]
    simp [digs_ge, digs_lt]
  rw [e]; rfl
set_option maxHeartbeats 400000 in
theorem rtext_nonneg (k : Nat) : ∀ (n : Int) (w : World), n ≤ k → 0 ≤ n → n ≤ 9223372036854775807 →
    Calls Tryd.prog 35 #[.int .i64 n] w fun e w' => e = .returned (.string (strOfNums (textN n))) ∧ Below w.heap.size w w' := by
  induction k with
  | zero =>
    intro n w hk h0 h1
    have hne : (n == -9223372036854775808) = false := by simp; omega
    have hng : decide (n < 0) = false := decide_eq_false (by omega)
    have hl : n < 10 := by omega
    have hcv := one_byte (48 + n % 10) w
    have HT := Lib.hid (text_digit h0 hl)
    go_enter Tryd.func35, Tryd.ntmps35
    go_wp2_with fail
    go_ret
    exact ⟨by rw [HT.out]; rfl, (Below.refl _ _).alloc (Nat.le_refl _) _⟩
  | succ k ih =>
    intro n w hk h0 h1
    have hne : (n == -9223372036854775808) = false := by simp; omega
    have hng : decide (n < 0) = false := decide_eq_false (by omega)
    have hcv := one_byte (48 + n % 10) w
    by_cases hl : n < 10
    · have HT := Lib.hid (text_digit h0 hl)
      go_enter Tryd.func35, Tryd.ntmps35
      go_wp2_with fail
      go_ret
      exact ⟨by rw [HT.out]; rfl, (Below.refl _ _).alloc (Nat.le_refl _) _⟩
    · have HT := Lib.hid (text_nonneg (n := n) (by omega))
      go_enter Tryd.func35, Tryd.ntmps35
      go_wp2_with fail
      refine (ih (n / 10) _ (by omega) (by omega) (by omega)).mono ?_
      rintro e w' ⟨rfl, hb⟩
      have hsz := Lib.hid (text_size (n / 10) (by omega) (by omega))
      have hsum : (strOfNums (textN (n / 10))).size + (strOfNums [48 + n % 10]).size ≤ 9223372036854775807 := by
        have h1 : (strOfNums (textN (n / 10))).size ≤ 1844674407370955163 := text_len _ (by omega) (by omega)
        have h2 : (strOfNums [48 + n % 10]).size = 1 := rfl
        omega
      go_wp2_with fail
      go_ret
      exact ⟨by rw [HT.out, strOfNums_append]; rfl, ((Below.refl _ _).alloc (Nat.le_refl _) _).trans (hb.mono (by simp))⟩
set_option maxHeartbeats 400000 in
theorem rtext_neg (n : Int) (w : World) (h0 : n < 0) (h1 : -9223372036854775808 < n) :
    Calls Tryd.prog 35 #[.int .i64 n] w fun e w' => e = .returned (.string (strOfNums (textN n))) ∧ Below w.heap.size w w' := by
  have hne : (n == -9223372036854775808) = false := by simp; omega
  have HT := Lib.hid (text_minus h0)
  have hsum : (ByteArray.mk #[45]).size + (strOfNums (textN (-n))).size ≤ 9223372036854775807 := by
    have h1 : (strOfNums (textN (-n))).size ≤ 1844674407370955163 := text_len _ (by omega) (by omega)
    have h2 : (ByteArray.mk #[45]).size = 1 := rfl
    omega
  go_enter Tryd.func35, Tryd.ntmps35
  go_wp2_with fail
  refine (rtext_nonneg (-n).toNat (-n) _ (by omega) (by omega) (by omega)).mono ?_
  rintro e w' ⟨rfl, hb⟩
  go_wp2_with fail
  go_ret
  exact ⟨by rw [HT.out]; exact minus_bytes _, hb⟩
theorem rtext_any (n : Int) (w : World) (h1 : -9223372036854775808 ≤ n) (h2 : n ≤ 9223372036854775807) :
    Calls Tryd.prog 35 #[.int .i64 n] w fun e w' => e = .returned (.string (strOfNums (textN n))) ∧ Below w.heap.size w w' := by
  by_cases hl : n = -9223372036854775808
  · subst hl
    refine (rtext_least w).mono fun e w' ⟨he, hw⟩ => ⟨?_, hw ▸ Below.refl _ _⟩
    rw [he, text_least]
  · by_cases h0 : n < 0
    · exact rtext_neg n w h0 (by omega)
    · exact rtext_nonneg n.toNat n w (by omega) (by omega) h2
end Num
end Go.Proofs.YtoaliaohbpdibaaDoor
