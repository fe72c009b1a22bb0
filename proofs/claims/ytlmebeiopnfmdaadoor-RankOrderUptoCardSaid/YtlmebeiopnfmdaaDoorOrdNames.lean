/- THE WALKS over slices.Compare of texts. -/
import Derived.Test.YtlmebeiopnfmdaaDoorRows
import Derived.Test.YtlmebeiopnfmdaaDoorVal
import Derived.Test.YtlmebeiopnfmdaaDoorValBase
import Derived.Test.YtlmebeiopnfmdaaDoorValFind
import Derived.Test.YtlmebeiopnfmdaaDoorValSame
import Derived.Test.YtlmebeiopnfmdaaDoorEqPlain
import Derived.Test.YtlmebeiopnfmdaaDoorOrdPlain
import Derived.WalkKit
import Derived.Lib.Hide
import Derived.WalkSpells
import Derived.WalkLawsBesides
import Derived.Outline
namespace Go.Proofs.YtlmebeiopnfmdaaDoor
open Go.RowKit
set_option linter.unusedVariables false
set_option linter.unusedSimpArgs false
namespace Val
theorem less_cmp : ∀ a b : List UInt8, Op.bytesLess a b = decide (Lib.compareBytes a b < 0)
  | [], [] => by rfl
  | [], _ :: _ => by rfl
  | _ :: _, [] => by rfl
  | x :: a, y :: b => by
    unfold Op.bytesLess Lib.compareBytes
    by_cases h1 : x < y
    · simp [h1]
    · by_cases h2 : y < x
      · have h3 : (x == y) = false := by
          cases hv : x == y
          · rfl
          · rw [beq_iff_eq] at hv
            subst hv
            exact absurd h2 (UInt8.lt_irrefl x)
        simp [h1, h2, h3]
      · have h3 : x = y := UInt8.le_antisymm (UInt8.not_lt.1 h2) (UInt8.not_lt.1 h1)
        subst h3
        simp [h1, less_cmp a b]
theorem cmpB_cases (a b : List UInt8) : Lib.compareBytes a b = -1 ∨ Lib.compareBytes a b = 0 ∨ Lib.compareBytes a b = 1 := by
  induction a generalizing b with
  | nil => cases b <;> simp [Lib.compareBytes]
  | cons x a ih =>
    cases b with
    | nil => simp [Lib.compareBytes]
    | cons y b =>
      unfold Lib.compareBytes
      split
      · exact .inl rfl
      · split
        · exact .inr (.inr rfl)
        · exact ih b
set_option maxHeartbeats 1000000 in
theorem cmpS_any (a b : ByteArray) (w : World) : Calls Tryd.prog 100 #[.string a, .string b] w fun e w' => e = .returned (.int .i64 (Lib.compareBytes a.data.toList b.data.toList)) ∧ w = w' := by
  have hl : Op.bytesLess a.toList b.toList = decide (Lib.compareBytes a.data.toList b.data.toList < 0) := by rw [less_cmp, ByteArray.toList_eq, ByteArray.toList_eq]
  have he : (a.toList == b.toList) = decide (Lib.compareBytes a.data.toList b.data.toList = 0) := by
    rw [ByteArray.toList_eq, ByteArray.toList_eq, Bool.eq_iff_iff, beq_iff_eq, decide_eq_true_iff, cmpB_zero]
  rcases cmpB_cases a.data.toList b.data.toList with h | h | h
  · rw [h]
    have k1 : Op.bytesLess a.toList b.toList = true := by rw [hl, h]; rfl
    have k2 : (a.toList == b.toList) = false := by rw [he, h]; rfl
    clear hl he h
    go_enter Tryd.func100, Tryd.ntmps100
    go_wp2_with fail
    refine (nan_cmp _ _).mono ?_
    rintro e w' ⟨rfl, rfl⟩
    go_wp2_with fail
    refine (nan_cmp _ _).mono ?_
    rintro e w' ⟨rfl, rfl⟩
    go_wp2_with fail
    go_ret
    exact ⟨rfl, rfl⟩
  · rw [h]
    have k1 : Op.bytesLess a.toList b.toList = false := by rw [hl, h]; rfl
    have k2 : (a.toList == b.toList) = true := by rw [he, h]; rfl
    have k3 : (Op.bytesLess a.toList b.toList || a.toList == b.toList) = true := by rw [k1, k2]; rfl
    clear hl he h
    go_enter Tryd.func100, Tryd.ntmps100
    go_wp2_with fail
    refine (nan_cmp _ _).mono ?_
    rintro e w' ⟨rfl, rfl⟩
    go_wp2_with fail
    refine (nan_cmp _ _).mono ?_
    rintro e w' ⟨rfl, rfl⟩
    go_wp2_with fail
    go_ret
    exact ⟨rfl, rfl⟩
  · rw [h]
    have k1 : Op.bytesLess a.toList b.toList = false := by rw [hl, h]; rfl
    have k2 : (a.toList == b.toList) = false := by rw [he, h]; rfl
    have k3 : (Op.bytesLess a.toList b.toList || a.toList == b.toList) = false := by rw [k1, k2]; rfl
    clear hl he h
    go_enter Tryd.func100, Tryd.ntmps100
    go_wp2_with fail
    refine (nan_cmp _ _).mono ?_
    rintro e w' ⟨rfl, rfl⟩
    go_wp2_with fail
    refine (nan_cmp _ _).mono ?_
    rintro e w' ⟨rfl, rfl⟩
    go_wp2_with fail
    go_ret
    exact ⟨rfl, rfl⟩
/-- slices.Compare of two lists of texts. -/
theorem names_cmp (pa pb : Option Addr) (ca cb B : Nat) (ka kb : List ByteArray) (w : World) (ha : VT.KeysIn w B pa ka) (hb : VT.KeysIn w B pb kb) (hla : ka.length ≤ 4194304) (hlb : kb.length ≤ 4194304) :
    Calls Tryd.prog 83 #[.slice pa ka.length ca, .slice pb kb.length cb] w fun e w' => e = .returned (.int .i64 (namesC ka kb)) ∧ w = w' := by
  obtain ⟨na, hna⟩ : ∃ n, ka.length = n := ⟨_, rfl⟩
  obtain ⟨nb, hnb⟩ : ∃ n, kb.length = n := ⟨_, rfl⟩
  obtain ⟨c, hc⟩ : ∃ c, namesC ka kb = c := ⟨_, rfl⟩
  rw [hna] at hla
  rw [hnb] at hlb
  rw [hna, hnb, hc]
  have HN := Lib.hid (And.intro hna (And.intro hnb hc))
  have HA := Lib.hid ha
  have HB := Lib.hid hb
  clear hna hnb hc ha hb
  go_enter Tryd.func83, Tryd.ntmps83
  go_wp2_with fail
  go_loop [11] (fun i => ∃ j : Nat, j ≤ na ∧ j ≤ nb ∧ i = .int .i64 j ∧ Hid (namesC (ka.drop j) (kb.drop j) = c)) (fun i => na - (intOf i).toNat)
  case atStart => exact ⟨0, Nat.zero_le _, Nat.zero_le _, rfl, Lib.hid HN.out.2.2⟩
  case round =>
    obtain ⟨j, hj, hj2, rfl, HR⟩ := hrel
    by_cases hlt : j < na
    · obtain ⟨ba, oa, rfl, -, hca⟩ := HA.out (by rw [HN.out.1]; omega)
      have g1 := hca j (by rw [HN.out.1]; exact hlt)
      obtain ⟨x, hx⟩ : ∃ x, ka.getD j default = x := ⟨_, rfl⟩
      rw [hx] at g1
      by_cases hlt2 : j < nb
      · obtain ⟨bb, ob, rfl, -, hcb⟩ := HB.out (by rw [HN.out.2.1]; omega)
        have g2 := hcb j (by rw [HN.out.2.1]; exact hlt2)
        obtain ⟨y, hy⟩ : ∃ y, kb.getD j default = y := ⟨_, rfl⟩
        rw [hy] at g2
        have hstep : orE (Lib.compareBytes x.data.toList y.data.toList) (namesC (ka.drop (j + 1)) (kb.drop (j + 1))) = c := by
          have := HR.out
          rw [getD_drop (l := ka) (by rw [HN.out.1]; exact hlt), getD_drop (l := kb) (by rw [HN.out.2.1]; exact hlt2), hx, hy, namesC] at this
          exact this
        obtain ⟨k, hk⟩ : ∃ k, Lib.compareBytes x.data.toList y.data.toList = k := ⟨_, rfl⟩
        have hcall := cmpS_any x y w
        rw [hk] at hcall hstep
        have HC := Lib.hid hcall
        have HS := Lib.hid hstep
        clear hca hcb hx hy hk hcall hstep
        by_cases hk0 : k = 0
        · subst hk0
          have HNEW : Hid (namesC (ka.drop (j + 1)) (kb.drop (j + 1)) = c) := Lib.hid (by have := HS.out; unfold orE at this; rwa [if_pos rfl] at this)
          clear HS
          go_wp2_with fail
          refine HC.out.mono ?_
          rintro e w' ⟨rfl, rfl⟩
          go_wp2_with fail
          go_round
          case rel => exact ⟨j + 1, by omega, by omega, by go_num, HNEW⟩
          case measure => simp [intOf]; omega
        · have hk1 : (k != 0) = true := by simpa using hk0
          have hk2 : (k == 0) = false := by simpa using hk0
          have HE : Hid (k = c) := Lib.hid (by have := HS.out; unfold orE at this; rwa [if_neg hk0] at this)
          clear HS hk0
          go_wp2_with fail
          refine HC.out.mono ?_
          rintro e w' ⟨rfl, rfl⟩
          go_wp2_with fail
          go_ret
          exact ⟨by rw [HE.out]; rfl, rfl⟩
      · obtain rfl : nb = j := by omega
        have HE : Hid (c = 1) := Lib.hid (by
          have := HR.out
          rw [getD_drop (l := ka) (by rw [HN.out.1]; exact hlt), List.drop_of_length_le (l := kb) (by rw [HN.out.2.1]; exact Nat.le_refl _), namesC] at this
          exact this.symm)
        clear hca hx HR
        go_wp2_with fail
        go_ret
        exact ⟨by rw [HE.out]; rfl, rfl⟩
    · obtain rfl : na = j := by omega
      have hd : ka.drop na = [] := List.drop_of_length_le (by rw [HN.out.1]; exact Nat.le_refl _)
      by_cases hlt2 : na < nb
      · have HE : Hid (c = -1) := Lib.hid (by
          have := HR.out
          rw [hd, getD_drop (l := kb) (by rw [HN.out.2.1]; exact hlt2), namesC] at this
          exact this.symm)
        clear hd HR
        go_wp2_with fail
        go_ret
        exact ⟨by rw [HE.out]; rfl, rfl⟩
      · obtain rfl : na = nb := by omega
        have HE : Hid (c = 0) := Lib.hid (by
          have := HR.out
          rw [hd, List.drop_of_length_le (l := kb) (by rw [HN.out.2.1]; exact Nat.le_refl _), namesC] at this
          exact this.symm)
        clear hd HR
        go_wp2_with fail
        go_ret
        exact ⟨by rw [HE.out]; rfl, rfl⟩
end Val
end Go.Proofs.YtlmebeiopnfmdaaDoor
