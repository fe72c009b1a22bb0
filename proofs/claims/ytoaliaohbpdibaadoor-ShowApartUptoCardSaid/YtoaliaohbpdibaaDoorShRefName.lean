/- Show: the document's plain names, keys, and digits. -/
import Derived.Test.YtoaliaohbpdibaaDoorShName
import Derived.Test.YtoaliaohbpdibaaDoorShHex
namespace Go.Proofs.YtoaliaohbpdibaaDoor
open Go.RowKit
set_option linter.unusedVariables false
set_option linter.unusedSimpArgs false
namespace Sh
set_option maxHeartbeats 2000000 in
set_option maxRecDepth 100000 in
theorem Name_any (s : ByteArray) (w : World) (hs : s.size ≤ 35184372088000) : Calls Tryd.prog 13 #[.string s] w fun e w' => e = .returned (.bool (nameL s.data.toList)) ∧ w = w' := by
  have hlen : s.data.toList.length = s.size := by simp
  by_cases h1 : s.size < 1 ∨ 64 < s.size
  · have e : nameL s.data.toList = false := by
      unfold nameL
      rw [hlen]
      have : (decide (1 ≤ s.size) && decide (s.size ≤ 64)) = false := by simp; omega
      rw [this]; simp
    rw [e]
    clear e
    rcases h1 with h1 | h1
    · have h2 : (s.size : Int) < 1 := by omega
      clear hs hlen h1
      go_enter Tryd.func13, Tryd.ntmps13
      go_wp2
      go_ret
      exact ⟨rfl, rfl⟩
    · have h2 : 64 < (s.size : Int) := by omega
      have h3 : 1 ≤ (s.size : Int) := by omega
      clear hs hlen h1
      go_enter Tryd.func13, Tryd.ntmps13
      go_wp2
      go_ret
      exact ⟨rfl, rfl⟩
  · have h2 : 1 ≤ (s.size : Int) := by omega
    have h3 : (s.size : Int) ≤ 64 := by omega
    have hlt : 0 < s.size := by omega
    have hL0 := fun W => Letter_any s[0].toNat W (u8_lt _)
    have e0 := getD_at s 0 hlt
    cases h0 : letB s[0].toNat with
    | false =>
      have e : nameL s.data.toList = false := by
        unfold nameL
        rw [e0, h0]; simp
      rw [e]
      rw [h0] at hL0
      clear e hs hlen h1 h0 e0
      go_enter Tryd.func13, Tryd.ntmps13
      go_wp2_with (go_at_call 30; refine (hL0 _).mono ?_; rintro e w' ⟨rfl, rfl⟩)
      go_ret
      exact ⟨rfl, rfl⟩
    | true =>
      rw [h0] at hL0
      obtain ⟨q, hq⟩ : ∃ q, nameL s.data.toList = q := ⟨_, rfl⟩
      rw [hq]
      have HQ := Lib.hid hq
      have HL := Lib.hid hlen
      have H0 : Hid (letB (s.data.toList.getD 0 0).toNat = true) := Lib.hid (by rw [e0]; exact h0)
      clear hq hlen h0 e0 h1
      go_enter Tryd.func13, Tryd.ntmps13
      go_wp2_with (go_at_call 30; refine (hL0 _).mono ?_; rintro e w' ⟨rfl, rfl⟩)
      clear hL0
      go_loop [3] (fun i => ∃ k : Nat, i = .int .i64 (k : Int) ∧ k ≤ s.size ∧ Hid (∀ j, j < k → (letB (s.data.toList.getD j 0).toNat || digB (s.data.toList.getD j 0).toNat) = true)) (fun i => s.size - (intOf i).toNat)
      case atStart => exact ⟨0, rfl, by omega, Lib.hid (fun j h => by omega)⟩
      case round =>
        obtain ⟨k, rfl, hk, HG⟩ := hrel
        by_cases hp : k < s.size
        · have hpi : (k : Int) < s.size := by omega
          have hL := fun W => Letter_any s[k].toNat W (u8_lt _)
          have hD := fun W => Digit_any s[k].toNat W (u8_lt _)
          have HE := Lib.hid (getD_at s k hp)
          have next : (letB s[k].toNat || digB s[k].toNat) = true → Hid (∀ j, j < k + 1 → (letB (s.data.toList.getD j 0).toNat || digB (s.data.toList.getD j 0).toNat) = true) := fun h => Lib.hid fun j hj => by
            by_cases hjk : j = k
            · rw [hjk, HE.out]; exact h
            · exact HG.out j (by omega)
          have NX := Lib.hid next
          clear next
          cases h1 : letB s[k].toNat with
          | true =>
            have HN := NX.out (by rw [h1]; rfl)
            rw [h1] at hL
            clear h1 hD
            go_wp2_with (go_at_call 30; refine (hL _).mono ?_; rintro e w' ⟨rfl, rfl⟩)
            go_round
            case rel => exact ⟨k + 1, by go_num, by omega, HN⟩
            case measure => simp [intOf]; omega
          | false =>
            have H1 := Lib.hid h1
            rw [h1] at hL
            cases h2 : digB s[k].toNat with
            | true =>
              have HN := NX.out (by rw [h1, h2]; rfl)
              rw [h2] at hD
              clear h1 h2
              go_wp2_with (first | (go_at_call 30; refine (hL _).mono ?_; rintro e w' ⟨rfl, rfl⟩) | (go_at_call 31; refine (hD _).mono ?_; rintro e w' ⟨rfl, rfl⟩))
              go_round
              case rel => exact ⟨k + 1, by go_num, by omega, HN⟩
              case measure => simp [intOf]; omega
            | false =>
              have H2 := Lib.hid h2
              rw [h2] at hD
              clear h1 h2
              go_wp2_with (first | (go_at_call 30; refine (hL _).mono ?_; rintro e w' ⟨rfl, rfl⟩) | (go_at_call 31; refine (hD _).mono ?_; rintro e w' ⟨rfl, rfl⟩))
              go_ret
              refine ⟨ret_bool ?_, rfl⟩
              rw [← HQ.out]
              exact (name_bad _ k (by rw [HL.out]; omega) (by rw [HE.out]; exact H1.out) (.inr (by rw [HE.out]; exact H2.out))).symm
        · have hpi : ¬ (k : Int) < s.size := by omega
          have hkk : k = s.size := by omega
          have HK := Lib.hid hkk
          clear hkk
          go_wp2
          go_ret
          refine ⟨ret_bool ?_, rfl⟩
          rw [← HQ.out]
          exact (name_good _ (by rw [HL.out]; omega) (by rw [HL.out]; omega) H0.out (fun j hj => HG.out j (by rw [HL.out] at hj; rw [HK.out]; exact hj))).symm
/-- A key as a text. -/
def keyL (l : List UInt8) : List UInt8 := if nameL l then l else quoteL l
theorem key_any (s : ByteArray) (w : World) (hs : s.size ≤ 35184372088000) : Calls Tryd.prog 14 #[.string s] w fun e w' => e = .returned (.string ⟨(keyL s.data.toList).toArray⟩) ∧ Below w.heap.size w w' := by
  have N := name_any s w hs
  have Q := fun V => quote_any s V hs
  have HS : (⟨(s.data.toList).toArray⟩ : ByteArray) = s := by cases s; simp
  unfold keyL
  cases h : nameL s.data.toList with
  | true =>
    rw [h] at N
    simp only [if_true]
    rw [HS]
    have HN := Lib.hid N
    clear N Q HS h hs
    go_enter Tryd.func14, Tryd.ntmps14
    go_wp2_with (go_at_call 12; refine HN.out.mono ?_; rintro e w1 ⟨rfl, hb⟩)
    go_ret
    exact ⟨rfl, hb⟩
  | false =>
    rw [h] at N
    rw [if_neg (by simp)]
    have HN := Lib.hid N
    have HQ := Lib.hid Q
    obtain ⟨q, hq⟩ : ∃ q : ByteArray, (⟨(quoteL s.data.toList).toArray⟩ : ByteArray) = q := ⟨_, rfl⟩
    rw [hq] at HQ ⊢
    clear N Q HS h hs hq
    go_enter Tryd.func14, Tryd.ntmps14
    go_wp2_with fail
    refine HN.out.mono ?_
    rintro e w1 ⟨rfl, hb⟩
    have HB := Lib.hid hb
    clear hb
    go_wp2_with fail
    refine (HQ.out _).mono ?_
    rintro e w2 ⟨rfl, hb, _⟩
    have HB2 := Lib.hid (HB.out.trans (hb.mono HB.out.size))
    clear hb
    go_wp2
    go_ret
    exact ⟨rfl, HB2.out⟩
def hexI (c : Nat) : Int := if hexv c < 16 then (hexv c : Int) else -1
theorem Hex_any (c : Nat) (w : World) (hc : c < 256) : Calls Tryd.prog 43 #[.int .u8 (c : Int)] w fun e w' => e = .returned (.int .i64 (hexI c)) ∧ w = w' := by
  have HD := fun W => Digit_any c W hc
  obtain ⟨q, hq⟩ : ∃ q, hexI c = q := ⟨_, rfl⟩
  rw [hq]
  have HQ := Lib.hid hq
  clear hq
  cases hd : digB c with
  | true =>
    have hd2 : 48 ≤ c ∧ c ≤ 57 := by simpa [digB] using hd
    obtain ⟨hd3, hd4⟩ := hd2
    rw [hd] at HD
    clear hd
    go_enter Tryd.func43, Tryd.ntmps43
    go_wp2_with (go_at_call 31; refine (HD _).mono ?_; rintro e w' ⟨rfl, rfl⟩)
    go_ret
    refine ⟨ret_int ?_, rfl⟩
    rw [← HQ.out]
    have hv : hexv c = c - 48 := by unfold hexv; rw [if_pos (And.intro hd3 hd4)]
    unfold hexI
    rw [hv, if_pos (by omega)]
    omega
  | false =>
    have hd2 : ¬ (48 ≤ c ∧ c ≤ 57) := by simpa [digB] using hd
    rw [hd] at HD
    have HD2 := Lib.hid hd2
    clear hd hd2
    go_enter Tryd.func43, Tryd.ntmps43
    go_wp2_with (go_at_call 31; refine (HD _).mono ?_; rintro e w' ⟨rfl, rfl⟩)
    all_goals
      go_ret
      refine ⟨ret_int ?_, rfl⟩
      rw [← HQ.out]
      unfold hexI hexv
      rw [if_neg HD2.out]
      repeat' split
      all_goals omega
end Sh
end Go.Proofs.YtoaliaohbpdibaaDoor
