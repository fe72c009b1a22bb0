/- THE WALK over the document's own Parse. -/
import Derived.Test.YtbefjenenciflaaDoorNumRefParse
import Derived.Test.YtbefjenenciflaaDoorNumParse2
import Derived.WalkKit
import Derived.Lib.Hide
import Derived.WalkSpells
import Derived.WalkLawsBesides
namespace Go.Proofs.YtbefjenenciflaaDoor
open Go.RowKit
set_option linter.unusedVariables false
set_option linter.unusedSimpArgs false
namespace Num
theorem radd_is (a b z : Int) (w : World) (ha1 : -9223372036854775808 ≤ a) (ha2 : a ≤ 9223372036854775807) (hb1 : -9223372036854775808 ≤ b) (hb2 : b ≤ 9223372036854775807) (h : a + b = z ∧ -9223372036854775808 ≤ z ∧ z ≤ 9223372036854775807) :
    Calls Tryd.prog 10 #[.int .i64 a, .int .i64 b] w fun e w' => e = .returned (.tuple #[.int .i64 z, .int .i64 0]) ∧ w = w' :=
  (radd_any a b w ha1 ha2 hb1 hb2).mono fun e w' ⟨he, hw⟩ => ⟨by rw [he, h.1, (fit_in h.2).1, (fit_in h.2).2], hw⟩
theorem radd_no (a b : Int) (w : World) (ha1 : -9223372036854775808 ≤ a) (ha2 : a ≤ 9223372036854775807) (hb1 : -9223372036854775808 ≤ b) (hb2 : b ≤ 9223372036854775807) (h : ¬ (-9223372036854775808 ≤ a + b ∧ a + b ≤ 9223372036854775807)) :
    Calls Tryd.prog 10 #[.int .i64 a, .int .i64 b] w fun e w' => e = .returned (.tuple #[.int .i64 0, .int .i64 4]) ∧ w = w' :=
  (radd_any a b w ha1 ha2 hb1 hb2).mono fun e w' ⟨he, hw⟩ => ⟨by rw [he, (fit_out h).1, (fit_out h).2], hw⟩
theorem rmul_is (a b z : Int) (w : World) (ha1 : -9223372036854775808 ≤ a) (ha2 : a ≤ 9223372036854775807) (hb1 : -9223372036854775808 ≤ b) (hb2 : b ≤ 9223372036854775807) (h : a * b = z ∧ -9223372036854775808 ≤ z ∧ z ≤ 9223372036854775807) :
    Calls Tryd.prog 17 #[.int .i64 a, .int .i64 b] w fun e w' => e = .returned (.tuple #[.int .i64 z, .int .i64 0]) ∧ w = w' :=
  (rmul_any a b w ha1 ha2 hb1 hb2).mono fun e w' ⟨he, hw⟩ => ⟨by rw [he, h.1, (fit_in h.2).1, (fit_in h.2).2], hw⟩
theorem rmul_no (a b : Int) (w : World) (ha1 : -9223372036854775808 ≤ a) (ha2 : a ≤ 9223372036854775807) (hb1 : -9223372036854775808 ≤ b) (hb2 : b ≤ 9223372036854775807) (h : ¬ (-9223372036854775808 ≤ a * b ∧ a * b ≤ 9223372036854775807)) :
    Calls Tryd.prog 17 #[.int .i64 a, .int .i64 b] w fun e w' => e = .returned (.tuple #[.int .i64 0, .int .i64 4]) ∧ w = w' :=
  (rmul_any a b w ha1 ha2 hb1 hb2).mono fun e w' ⟨he, hw⟩ => ⟨by rw [he, (fit_out h).1, (fit_out h).2], hw⟩
theorem data_length (s : ByteArray) : s.data.toList.length = s.size := by simp
theorem digits_is (s : ByteArray) (b : Bool) (w : World) (hm : s.size ≤ maxLen) (h : digsU s.data.toList = b) :
    Calls Tryd.prog 31 #[.string s] w fun e w' => e = .returned (.bool b) ∧ w = w' := by
  rw [← h]; exact digits_any s w hm
set_option maxHeartbeats 1000000 in
theorem rparse_ma (s : ByteArray) (w : World) (hm : s.size ≤ maxLen) (h0 : 0 < s.size) (hz : ((s[0].toNat : Int) == 45) = true) (HL : Hid ((s.extract 1 s.size).size ≤ maxLen)) (HW : Hid (digsU (s.extract 1 s.size).data.toList = false)) :
    Calls Tryd.prog 23 #[.string s] w fun e w' => e = .returned (.tuple #[.int .i64 0, .int .i64 1]) ∧ w = w' := by
  unfold maxLen at hm
  go_enter Tryd.func23, Tryd.ntmps23
  go_wp2_with (go_at_call 31; refine (digits_is _ false _ HL.out HW.out).mono ?_; rintro e w' ⟨rfl, rfl⟩)
  go_ret2
  exact ⟨rfl, rfl⟩
set_option maxHeartbeats 1000000 in
theorem rparse_mb (s : ByteArray) (w : World) (hm : s.size ≤ maxLen) (h0 : 0 < s.size) (hz : ((s[0].toNat : Int) == 45) = true) (HL : Hid ((s.extract 1 s.size).size ≤ maxLen)) (h1 : 1 < s.size) (HW : Hid (digsU (s.extract 1 s.size).data.toList = true)) (hc : ((((s.extract 1 s.size)[0]'(by simp; omega)).toNat : Int) == 48) = true) (hs : (!s.toList == [48]) = true) (hs2 : (s.toList != [48]) = true) (hs3 : (s.toList == [48]) = false) :
    Calls Tryd.prog 23 #[.string s] w fun e w' => e = .returned (.tuple #[.int .i64 0, .int .i64 1]) ∧ w = w' := by
  unfold maxLen at hm
  go_enter Tryd.func23, Tryd.ntmps23
  go_wp2_with (go_at_call 31; refine (digits_is _ true _ HL.out HW.out).mono ?_; rintro e w' ⟨rfl, rfl⟩)
  go_ret2
  exact ⟨rfl, rfl⟩
set_option maxHeartbeats 1000000 in
theorem rparse_mc (s : ByteArray) (w : World) (hm : s.size ≤ maxLen) (h0 : 0 < s.size) (hz : ((s[0].toNat : Int) == 45) = true) (HL : Hid ((s.extract 1 s.size).size ≤ maxLen)) (h1 : 1 < s.size) (HW : Hid (digsU (s.extract 1 s.size).data.toList = true)) (HA : Hid ((s.extract 1 s.size).data.toList.all isDig = true)) (hc : ((((s.extract 1 s.size)[0]'(by simp; omega)).toNat : Int) == 48) = false) (N : Nat) (HN : Hid (valU (s.extract 1 s.size).data.toList = N)) :
    Calls Tryd.prog 23 #[.string s] w fun e w' => e = .returned (.tuple #[.int .i64 (fitV (-(N : Int))), .int .i64 (fitE (-(N : Int)))]) ∧ w = w' := by
  unfold maxLen at hm
  go_enter Tryd.func23, Tryd.ntmps23
  go_wp2_with (go_at_call 31; refine (digits_is _ true _ HL.out HW.out).mono ?_; rintro e w' ⟨rfl, rfl⟩)
  go_loop [5, 6] (fun n i => ∃ k v : Nat, k ≤ s.size - 1 ∧ i = .int .i64 k ∧ n = .int .i64 (-(v : Int)) ∧ Hid (v = valU ((s.extract 1 s.size).data.toList.take k)) ∧ (v : Int) ≤ 9223372036854775808) (fun _ i => s.size - 1 - (intOf i).toNat)
  case atStart => exact ⟨0, 0, by omega, rfl, rfl, rfl, by omega⟩
  case round =>
    obtain ⟨k, v, hk, rfl, rfl, hv, hlim⟩ := hrel
    by_cases hlt : k < s.size - 1
    · obtain ⟨d, hd, hd9, hstep⟩ := step_m s k h1 hlt HA.out
      have HX := Lib.hid hstep
      have HE := Lib.hid hd
      have hel : (((s.extract 1 s.size)[k]'(by simp; omega)).toNat : Int) = 48 + (d : Int) := by rw [hd]; omega
      clear hstep hd
      by_cases h10 : (v : Int) * 10 ≤ 9223372036854775808
      · by_cases hsum : (v : Int) * 10 + d ≤ 9223372036854775808
        · go_wp2_with (first | (go_at_call 17; refine (rmul_is _ _ (-((v : Int) * 10)) _ (by omega) (by omega) (by omega) (by omega) ⟨by omega, by omega, by omega⟩).mono ?_; rintro e w' ⟨rfl, rfl⟩) | (go_at_call 10; refine (radd_is _ _ (-((v : Int) * 10 + d)) _ (by omega) (by omega) (by omega) (by omega) ⟨by omega, by omega, by omega⟩).mono ?_; rintro e w' ⟨rfl, rfl⟩))
          go_round
          case rel => exact ⟨k + 1, v * 10 + d, by omega, by go_num, by go_num, Lib.hid (by rw [HX.out, ← hv.out]), by omega⟩
          case measure => simp [intOf]; omega
        · go_wp2_with (first | (go_at_call 17; refine (rmul_is _ _ (-((v : Int) * 10)) _ (by omega) (by omega) (by omega) (by omega) ⟨by omega, by omega, by omega⟩).mono ?_; rintro e w' ⟨rfl, rfl⟩) | (go_at_call 10; refine (radd_no _ _ _ (by omega) (by omega) (by omega) (by omega) (by omega)).mono ?_; rintro e w' ⟨rfl, rfl⟩))
          go_ret2
          have hbig : ¬ (-9223372036854775808 ≤ (-(N : Int)) ∧ (-(N : Int)) ≤ 9223372036854775807) := by
            have g1 := valU_take_le (s.extract 1 s.size).data.toList (k + 1)
            rw [HX.out, ← hv.out, HN.out] at g1
            omega
          exact ⟨by rw [(fit_out hbig).1, (fit_out hbig).2]; rfl, rfl⟩
      · go_wp2_with (first | (go_at_call 17; refine (rmul_no _ _ _ (by omega) (by omega) (by omega) (by omega) (by omega)).mono ?_; rintro e w' ⟨rfl, rfl⟩))
        go_ret2
        have hbig : ¬ (-9223372036854775808 ≤ (-(N : Int)) ∧ (-(N : Int)) ≤ 9223372036854775807) := by
          have g1 := valU_take_le (s.extract 1 s.size).data.toList (k + 1)
          rw [HX.out, ← hv.out, HN.out] at g1
          omega
        exact ⟨by rw [(fit_out hbig).1, (fit_out hbig).2]; rfl, rfl⟩
    · go_wp2_with fail
      go_ret2
      have g3 := hv.out
      rw [List.take_of_length_le (by rw [data_length]; simp; omega), HN.out] at g3
      have hin : -9223372036854775808 ≤ (-(N : Int)) ∧ (-(N : Int)) ≤ 9223372036854775807 := by omega
      exact ⟨by rw [(fit_in hin).1, (fit_in hin).2, ← g3]; rfl, rfl⟩
set_option maxHeartbeats 1000000 in
theorem rparse_pa (s : ByteArray) (w : World) (hm : s.size ≤ maxLen) (h0 : 0 < s.size) (hz : ((s[0].toNat : Int) == 45) = false) (HL : Hid (s.size ≤ maxLen)) (HW : Hid (digsU s.data.toList = false)) :
    Calls Tryd.prog 23 #[.string s] w fun e w' => e = .returned (.tuple #[.int .i64 0, .int .i64 1]) ∧ w = w' := by
  unfold maxLen at hm
  go_enter Tryd.func23, Tryd.ntmps23
  go_wp2_with (go_at_call 31; refine (digits_is _ false _ HL.out HW.out).mono ?_; rintro e w' ⟨rfl, rfl⟩)
  go_ret2
  exact ⟨rfl, rfl⟩
set_option maxHeartbeats 1000000 in
theorem rparse_pb (s : ByteArray) (w : World) (hm : s.size ≤ maxLen) (h0 : 0 < s.size) (hz : ((s[0].toNat : Int) == 45) = false) (HL : Hid (s.size ≤ maxLen)) (HW : Hid (digsU s.data.toList = true)) (hc : ((s[0].toNat : Int) == 48) = true) (hs : (!s.toList == [48]) = true) (hs2 : (s.toList != [48]) = true) (hs3 : (s.toList == [48]) = false) :
    Calls Tryd.prog 23 #[.string s] w fun e w' => e = .returned (.tuple #[.int .i64 0, .int .i64 1]) ∧ w = w' := by
  unfold maxLen at hm
  go_enter Tryd.func23, Tryd.ntmps23
  go_wp2_with (go_at_call 31; refine (digits_is _ true _ HL.out HW.out).mono ?_; rintro e w' ⟨rfl, rfl⟩)
  go_ret2
  exact ⟨rfl, rfl⟩
set_option maxHeartbeats 1000000 in
theorem rparse_pc (s : ByteArray) (w : World) (hm : s.size ≤ maxLen) (h0 : 0 < s.size) (hz : ((s[0].toNat : Int) == 45) = false) (HL : Hid (s.size ≤ maxLen)) (HW : Hid (digsU s.data.toList = true)) (HA : Hid (s.data.toList.all isDig = true)) (hc : ((s[0].toNat : Int) == 48) = false) (N : Nat) (HN : Hid (valU s.data.toList = N)) :
    Calls Tryd.prog 23 #[.string s] w fun e w' => e = .returned (.tuple #[.int .i64 (fitV ((N : Int))), .int .i64 (fitE ((N : Int)))]) ∧ w = w' := by
  unfold maxLen at hm
  go_enter Tryd.func23, Tryd.ntmps23
  go_wp2_with (go_at_call 31; refine (digits_is _ true _ HL.out HW.out).mono ?_; rintro e w' ⟨rfl, rfl⟩)
  go_loop [5, 6] (fun n i => ∃ k v : Nat, k ≤ s.size ∧ i = .int .i64 k ∧ n = .int .i64 (v : Int) ∧ Hid (v = valU (s.data.toList.take k)) ∧ (v : Int) ≤ 9223372036854775807) (fun _ i => s.size - (intOf i).toNat)
  case atStart => exact ⟨0, 0, by omega, rfl, rfl, rfl, by omega⟩
  case round =>
    obtain ⟨k, v, hk, rfl, rfl, hv, hlim⟩ := hrel
    by_cases hlt : k < s.size
    · obtain ⟨d, hd, hd9, hstep⟩ := step_p s k hlt HA.out
      have HX := Lib.hid hstep
      have HE := Lib.hid hd
      have hel : (s[k].toNat : Int) = 48 + (d : Int) := by rw [hd]; omega
      clear hstep hd
      by_cases h10 : (v : Int) * 10 ≤ 9223372036854775807
      · by_cases hsum : (v : Int) * 10 + d ≤ 9223372036854775807
        · go_wp2_with (first | (go_at_call 17; refine (rmul_is _ _ (((v : Int) * 10)) _ (by omega) (by omega) (by omega) (by omega) ⟨by omega, by omega, by omega⟩).mono ?_; rintro e w' ⟨rfl, rfl⟩) | (go_at_call 10; refine (radd_is _ _ (((v : Int) * 10 + d)) _ (by omega) (by omega) (by omega) (by omega) ⟨by omega, by omega, by omega⟩).mono ?_; rintro e w' ⟨rfl, rfl⟩))
          go_round
          case rel => exact ⟨k + 1, v * 10 + d, by omega, by go_num, by go_num, Lib.hid (by rw [HX.out, ← hv.out]), by omega⟩
          case measure => simp [intOf]; omega
        · go_wp2_with (first | (go_at_call 17; refine (rmul_is _ _ (((v : Int) * 10)) _ (by omega) (by omega) (by omega) (by omega) ⟨by omega, by omega, by omega⟩).mono ?_; rintro e w' ⟨rfl, rfl⟩) | (go_at_call 10; refine (radd_no _ _ _ (by omega) (by omega) (by omega) (by omega) (by omega)).mono ?_; rintro e w' ⟨rfl, rfl⟩))
          go_ret2
          have hbig : ¬ (-9223372036854775808 ≤ ((N : Int)) ∧ ((N : Int)) ≤ 9223372036854775807) := by
            have g1 := valU_take_le s.data.toList (k + 1)
            rw [HX.out, ← hv.out, HN.out] at g1
            omega
          exact ⟨by rw [(fit_out hbig).1, (fit_out hbig).2]; rfl, rfl⟩
      · go_wp2_with (first | (go_at_call 17; refine (rmul_no _ _ _ (by omega) (by omega) (by omega) (by omega) (by omega)).mono ?_; rintro e w' ⟨rfl, rfl⟩))
        go_ret2
        have hbig : ¬ (-9223372036854775808 ≤ ((N : Int)) ∧ ((N : Int)) ≤ 9223372036854775807) := by
          have g1 := valU_take_le s.data.toList (k + 1)
          rw [HX.out, ← hv.out, HN.out] at g1
          omega
        exact ⟨by rw [(fit_out hbig).1, (fit_out hbig).2]; rfl, rfl⟩
    · go_wp2_with fail
      go_ret2
      have g3 := hv.out
      rw [List.take_of_length_le (by rw [data_length]; omega), HN.out] at g3
      have hin : -9223372036854775808 ≤ ((N : Int)) ∧ ((N : Int)) ≤ 9223372036854775807 := by omega
      exact ⟨by rw [(fit_in hin).1, (fit_in hin).2, ← g3]; rfl, rfl⟩
set_option maxHeartbeats 1000000 in
theorem rparse_pz (s : ByteArray) (w : World) (hm : s.size ≤ maxLen) (h0 : 0 < s.size) (hz : ((s[0].toNat : Int) == 45) = false) (HL : Hid (s.size ≤ maxLen)) (HW : Hid (digsU s.data.toList = true)) (HA : Hid (s.data.toList.all isDig = true)) (hc : ((s[0].toNat : Int) == 48) = true) (hs : (!s.toList == [48]) = false) (hs2 : (s.toList != [48]) = false) (hs3 : (s.toList == [48]) = true) (N : Nat) (HN : Hid (valU s.data.toList = N)) :
    Calls Tryd.prog 23 #[.string s] w fun e w' => e = .returned (.tuple #[.int .i64 (fitV ((N : Int))), .int .i64 (fitE ((N : Int)))]) ∧ w = w' := by
  unfold maxLen at hm
  go_enter Tryd.func23, Tryd.ntmps23
  go_wp2_with (go_at_call 31; refine (digits_is _ true _ HL.out HW.out).mono ?_; rintro e w' ⟨rfl, rfl⟩)
  go_loop [5, 6] (fun n i => ∃ k v : Nat, k ≤ s.size ∧ i = .int .i64 k ∧ n = .int .i64 (v : Int) ∧ Hid (v = valU (s.data.toList.take k)) ∧ (v : Int) ≤ 9223372036854775807) (fun _ i => s.size - (intOf i).toNat)
  case atStart => exact ⟨0, 0, by omega, rfl, rfl, rfl, by omega⟩
  case round =>
    obtain ⟨k, v, hk, rfl, rfl, hv, hlim⟩ := hrel
    by_cases hlt : k < s.size
    · obtain ⟨d, hd, hd9, hstep⟩ := step_p s k hlt HA.out
      have HX := Lib.hid hstep
      have HE := Lib.hid hd
      have hel : (s[k].toNat : Int) = 48 + (d : Int) := by rw [hd]; omega
      clear hstep hd
      by_cases h10 : (v : Int) * 10 ≤ 9223372036854775807
      · by_cases hsum : (v : Int) * 10 + d ≤ 9223372036854775807
        · go_wp2_with (first | (go_at_call 17; refine (rmul_is _ _ (((v : Int) * 10)) _ (by omega) (by omega) (by omega) (by omega) ⟨by omega, by omega, by omega⟩).mono ?_; rintro e w' ⟨rfl, rfl⟩) | (go_at_call 10; refine (radd_is _ _ (((v : Int) * 10 + d)) _ (by omega) (by omega) (by omega) (by omega) ⟨by omega, by omega, by omega⟩).mono ?_; rintro e w' ⟨rfl, rfl⟩))
          go_round
          case rel => exact ⟨k + 1, v * 10 + d, by omega, by go_num, by go_num, Lib.hid (by rw [HX.out, ← hv.out]), by omega⟩
          case measure => simp [intOf]; omega
        · go_wp2_with (first | (go_at_call 17; refine (rmul_is _ _ (((v : Int) * 10)) _ (by omega) (by omega) (by omega) (by omega) ⟨by omega, by omega, by omega⟩).mono ?_; rintro e w' ⟨rfl, rfl⟩) | (go_at_call 10; refine (radd_no _ _ _ (by omega) (by omega) (by omega) (by omega) (by omega)).mono ?_; rintro e w' ⟨rfl, rfl⟩))
          go_ret2
          have hbig : ¬ (-9223372036854775808 ≤ ((N : Int)) ∧ ((N : Int)) ≤ 9223372036854775807) := by
            have g1 := valU_take_le s.data.toList (k + 1)
            rw [HX.out, ← hv.out, HN.out] at g1
            omega
          exact ⟨by rw [(fit_out hbig).1, (fit_out hbig).2]; rfl, rfl⟩
      · go_wp2_with (first | (go_at_call 17; refine (rmul_no _ _ _ (by omega) (by omega) (by omega) (by omega) (by omega)).mono ?_; rintro e w' ⟨rfl, rfl⟩))
        go_ret2
        have hbig : ¬ (-9223372036854775808 ≤ ((N : Int)) ∧ ((N : Int)) ≤ 9223372036854775807) := by
          have g1 := valU_take_le s.data.toList (k + 1)
          rw [HX.out, ← hv.out, HN.out] at g1
          omega
        exact ⟨by rw [(fit_out hbig).1, (fit_out hbig).2]; rfl, rfl⟩
    · go_wp2_with fail
      go_ret2
      have g3 := hv.out
      rw [List.take_of_length_le (by rw [data_length]; omega), HN.out] at g3
      have hin : -9223372036854775808 ≤ ((N : Int)) ∧ ((N : Int)) ≤ 9223372036854775807 := by omega
      exact ⟨by rw [(fit_in hin).1, (fit_in hin).2, ← g3]; rfl, rfl⟩
end Num
end Go.Proofs.YtbefjenenciflaaDoor
