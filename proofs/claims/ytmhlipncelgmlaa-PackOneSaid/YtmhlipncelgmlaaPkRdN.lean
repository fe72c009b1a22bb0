/- Bytes as values: the reader's numbers, of any bytes. -/
import Derived.Test.YtmhlipncelgmlaaPkRdS
import Derived.Laws.BitsAllLaws
namespace Go.Proofs.Ytmhlipncelgmlaa
open Go.RowKit
set_option linter.unusedVariables false
set_option linter.unusedSimpArgs false
namespace Pk
open Val (Keeps Box)
set_option maxRecDepth 100000 in
theorem and_low : ∀ c : Fin 256, bits .andNot .u8 (c.val : Int) 128 = ((c.val % 128 : Nat) : Int) := by decide
theorem and_low2 {m : Nat} (h : m < 256) : bits .andNot .u8 (m : Int) 128 = ((m % 128 : Nat) : Int) := and_low ⟨m, h⟩
theorem pow_seven (f : Nat) : (128 : Nat) ^ f = 2 ^ (7 * f) := by rw [Nat.pow_mul]
theorem seven_or {m acc q : Nat} (hm : m < 256) (ha : acc < 2 ^ q) (h : m % 128 * 2 ^ q + acc < 18446744073709551616) :
    bits .or .u64 (acc : Int) (IntKind.u64.wrap (IntKind.u64.wrap (bits .andNot .u8 (m : Int) 128) * 2 ^ q)) = ((acc + m % 128 * 2 ^ q : Nat) : Int) := by
  have h1 : IntKind.u64.wrap (bits .andNot .u8 (m : Int) 128) = ((m % 128 : Nat) : Int) := by rw [and_low2 hm, IntKind.wrap_u64]; omega
  have h2 : ((m % 128 : Nat) : Int) * 2 ^ q = ((m % 128 * 2 ^ q : Nat) : Int) := by rw [Int.natCast_mul, Int.natCast_pow]; rfl
  have h3 : IntKind.u64.wrap ((m % 128 * 2 ^ q : Nat) : Int) = ((m % 128 * 2 ^ q : Nat) : Int) := by
    rw [IntKind.wrap_u64]
    obtain ⟨X, hX⟩ : ∃ X, m % 128 * 2 ^ q = X := ⟨_, rfl⟩
    rw [hX] at h ⊢
    omega
  rw [h1, h2, h3, bit_or q acc (m % 128) ha h]
/-- What stands at the head of a round. -/
structure NRel (R B : Nat) (l : List UInt8) (p : Int) (w : World) (f q acc : Nat) (cur : List UInt8) (wr : World) : Prop where
  got : Got R B p w cur wr
  same : numA 10 0 l = numA (f + 1) acc cur
  small : acc < 2 ^ q
  place : q = 7 * (9 - f)
  le : f ≤ 9
set_option maxRecDepth 100000 in
set_option maxHeartbeats 4000000 in
theorem number_any (R B : Nat) (l : List UInt8) (p : Int) (w : World) (h : Rb w R B l p) :
    Calls Try.prog 64 #[.pointer (some ⟨R, 0, none⟩)] w (ReadPost R B p w u64V (numP l)) := by
  have H0 : Hid (NRel R B l p w 9 0 0 l w) := Lib.hid ⟨⟨h, Keeps.refl _ w⟩, rfl, by decide, rfl, Nat.le_refl _⟩
  clear h
  go_enter Try.func64, Try.ntmps64
  go_wp2
  go_loopw [3, 4] (fun nv av wr => ∃ (f q acc : Nat) (cur : List UInt8), nv = .int .u64 (acc : Int) ∧ av = .int .i64 (q : Int) ∧ q ≤ 63 ∧ Hid (NRel R B l p w f q acc cur wr)) (fun _ av _ => (63 - intOf av).toNat)
  case atStart => exact ⟨9, 0, 0, l, rfl, rfl, by omega, H0⟩
  case round =>
    obtain ⟨f, q, acc, cur, rfl, rfl, hq, HR⟩ := hrel
    clear H0
    have hq0 : (0 : Int) ≤ (q : Int) := by omega
    cases cur with
    | nil =>
      go_wp2_with fail
      refine (octet_more R B p _ HR.out.got.1).mono ?_
      rintro e w1 ⟨rfl, rfl⟩
      refine ⟨rfl, ?_⟩
      show ReadPost R B p w u64V (numA 10 0 l) (thrown 22) _
      rw [HR.out.same]
      exact ⟨rfl, HR.out.got.2⟩
    | cons c r =>
      obtain ⟨m, hm⟩ : ∃ m, c.toNat = m := ⟨_, rfl⟩
      have hm256 : m < 256 := by rw [← hm]; exact c.toNat_lt
      have HO := Lib.hid (octet_ok R B c r p _ HR.out.got.1)
      have HE : Hid (numA 10 0 l = if f = 0 ∧ m ≠ 1 then .error 1 else if m < 128 then (if m = 0 ∧ f ≠ 9 then .error 1 else .ok (acc + m * 128 ^ (9 - f), r)) else numA f (acc + (m - 128) * 128 ^ (9 - f)) r) := Lib.hid (by
        rw [HR.out.same]
        show (if f = 0 ∧ c.toNat ≠ 1 then _ else _) = _
        rw [hm])
      rw [hm] at HO
      have HM := Lib.hid hm
      clear hm
      have hplace := HR.out.place
      have hfle := HR.out.le
      have hsm := HR.out.small
      have hpw : 2 ^ q ≤ 2 ^ 63 := Nat.pow_le_pow_right (by decide) hq
      have hp7 : (128 : Nat) ^ (9 - f) = 2 ^ q := by rw [hplace, pow_seven]
      have HP7 := Lib.hid hp7
      have HV : Hid ((f = 0 → m = 1) → bits .or .u64 (acc : Int) (IntKind.u64.wrap (IntKind.u64.wrap (bits .andNot .u8 (m : Int) 128) * 2 ^ q)) = ((acc + m % 128 * 2 ^ q : Nat) : Int)) := Lib.hid fun h1 => by
        refine seven_or hm256 hsm ?_
        rcases Nat.eq_zero_or_pos f with h0 | h0
        · have h1 := h1 h0
          subst h1
          have : 1 % 128 * 2 ^ q = 2 ^ q := by rw [Nat.mod_eq_of_lt (by decide), Nat.one_mul]
          omega
        · have hq56 : 2 ^ q ≤ 2 ^ 56 := Nat.pow_le_pow_right (by decide) (by omega)
          have : m % 128 * 2 ^ q ≤ 127 * 2 ^ 56 := Nat.mul_le_mul (by omega) hq56
          omega
      have HSM := Lib.hid hsm
      clear hsm hpw hp7
      by_cases hf : f = 0
      · subst hf
        have hq63 : decide ((q : Int) < 63) = false := by simp; omega
        by_cases hm1 : m = 1
        · have hb1 : ((m : Int) == 1) = true := by simp; omega
          have hb0 : ((m : Int) != 0) = true := by simp; omega
          have hs2 : (m : Int) < 128 := by omega
          have HE2 : Hid (numA 10 0 l = .ok (acc + m * 128 ^ (9 - 0), r)) := Lib.hid (HE.out.trans (by rw [if_neg (fun h => h.2 hm1), if_pos (by omega), if_neg (by omega)]))
          have hret : ∀ w1, Got R B p w r w1 → ReadPost R B p w u64V (numP l) (.returned (.int .u64 (bits .or .u64 (acc : Int) (IntKind.u64.wrap (IntKind.u64.wrap (bits .andNot .u8 (m : Int) 128) * 2 ^ q))))) w1 := fun w1 hg => by
            show ReadPost R B p w u64V (numA 10 0 l) _ _
            rw [HE2.out, HV.out (fun _ => hm1)]
            refine ⟨?_, hg⟩
            show _ = Ending.returned (.int .u64 ((acc + m * 128 ^ (9 - 0) : Nat) : Int))
            rw [HP7.out, Nat.mod_eq_of_lt (by omega)]
          have HRET := Lib.hid hret
          clear hret hplace hfle HE hm1
          go_wp2_with fail
          refine HO.out.mono ?_
          rintro e w1 ⟨rfl, h1⟩
          have HG : Hid (Got R B p w r w1) := Lib.hid ⟨h1.1, HR.out.got.2.trans h1.2⟩
          clear h1
          go_wp2_with fail
          refine (demand_yes _).mono ?_
          rintro e w2 ⟨⟨v, rfl⟩, rfl⟩
          go_wp2_with fail
          refine (demand_yes _).mono ?_
          rintro e w2 ⟨⟨v, rfl⟩, rfl⟩
          go_wp2
          go_ret
          exact HRET.out _ HG.out
        · have hb1 : ((m : Int) == 1) = false := by simp; omega
          have HE2 : Hid (numA 10 0 l = .error 1) := Lib.hid (HE.out.trans (if_pos ⟨rfl, hm1⟩))
          clear hplace hfle HE hm1
          go_wp2_with fail
          refine HO.out.mono ?_
          rintro e w1 ⟨rfl, h1⟩
          have HG : Hid (Got R B p w r w1) := Lib.hid ⟨h1.1, HR.out.got.2.trans h1.2⟩
          clear h1
          go_wp2_with fail
          refine (demand_no _).mono ?_
          rintro e w2 ⟨rfl, rfl⟩
          refine ⟨rfl, ?_⟩
          show ReadPost R B p w u64V (numA 10 0 l) (thrown 1) _
          rw [HE2.out]
          exact ⟨rfl, HG.out.2⟩
      · have hq63 : (q : Int) < 63 := by omega
        by_cases hs : m < 128
        · have hs2 : (m : Int) < 128 := by omega
          by_cases hz : m = 0 ∧ f ≠ 9
          · obtain ⟨rfl, hz⟩ := hz
            have HE2 : Hid (numA 10 0 l = .error 1) := Lib.hid (HE.out.trans (by rw [if_neg (by omega), if_pos (by omega), if_pos ⟨rfl, hz⟩]))
            have hqz : ((q : Int) == 0) = false := by simp; omega
            clear hplace hfle HE hz
            go_wp2_with fail
            refine HO.out.mono ?_
            rintro e w1 ⟨rfl, h1⟩
            have HG : Hid (Got R B p w r w1) := Lib.hid ⟨h1.1, HR.out.got.2.trans h1.2⟩
            clear h1
            go_wp2_with fail
            refine (demand_yes _).mono ?_
            rintro e w2 ⟨⟨v, rfl⟩, rfl⟩
            go_wp2_with fail
            refine (demand_no _).mono ?_
            rintro e w2 ⟨rfl, rfl⟩
            refine ⟨rfl, ?_⟩
            show ReadPost R B p w u64V (numA 10 0 l) (thrown 1) _
            rw [HE2.out]
            exact ⟨rfl, HG.out.2⟩
          · have HE2 : Hid (numA 10 0 l = .ok (acc + m * 128 ^ (9 - f), r)) := Lib.hid (HE.out.trans (by rw [if_neg (by omega), if_pos hs, if_neg hz]))
            have hmz : (((m : Int) != 0) = true) ∨ (m = 0 ∧ q = 0) := by
              rcases Nat.eq_zero_or_pos m with h | h
              · exact .inr ⟨h, by omega⟩
              · left; simp; omega
            have HF := Lib.hid hf
            have hret : ∀ w1, Got R B p w r w1 → ReadPost R B p w u64V (numP l) (.returned (.int .u64 (bits .or .u64 (acc : Int) (IntKind.u64.wrap (IntKind.u64.wrap (bits .andNot .u8 (m : Int) 128) * 2 ^ q))))) w1 := fun w1 hg => by
              show ReadPost R B p w u64V (numA 10 0 l) _ _
              rw [HE2.out, HV.out (fun h => absurd h HF.out)]
              refine ⟨?_, hg⟩
              show _ = Ending.returned (.int .u64 ((acc + m * 128 ^ (9 - f) : Nat) : Int))
              rw [HP7.out, Nat.mod_eq_of_lt hs]
            have HRET := Lib.hid hret
            clear hret hplace hfle HE hz hf
            rcases hmz with hmz | ⟨rfl, rfl⟩
            all_goals
              go_wp2_with fail
              refine HO.out.mono ?_
              rintro e w1 ⟨rfl, h1⟩
              have HG : Hid (Got R B p w r w1) := Lib.hid ⟨h1.1, HR.out.got.2.trans h1.2⟩
              clear h1
              go_wp2_with fail
              refine (demand_yes _).mono ?_
              rintro e w2 ⟨⟨v, rfl⟩, rfl⟩
              go_wp2_with fail
              refine (demand_yes _).mono ?_
              rintro e w2 ⟨⟨v, rfl⟩, rfl⟩
              go_wp2
              go_ret
              exact HRET.out _ HG.out
        · have hs2 : ¬ (m : Int) < 128 := by omega
          have HE2 : Hid (numA 10 0 l = numA f (acc + (m - 128) * 128 ^ (9 - f)) r) := Lib.hid (HE.out.trans (by rw [if_neg (by omega), if_neg hs]))
          have HF := Lib.hid hf
          have HS := Lib.hid hs
          have HL := Lib.hid hplace
          have HFL := Lib.hid hfle
          clear hplace hfle HE hf hs
          have hwr : wrap64 ((q : Int) + 7) = (q : Int) + 7 := by unfold wrap64; omega
          go_wp2_with fail
          refine HO.out.mono ?_
          rintro e w1 ⟨rfl, h1⟩
          have HG : Hid (Got R B p w r w1) := Lib.hid ⟨h1.1, HR.out.got.2.trans h1.2⟩
          clear h1
          go_wp2_with fail
          refine (demand_yes _).mono ?_
          rintro e w2 ⟨⟨v, rfl⟩, rfl⟩
          go_wp2
          go_roundw
          case rel =>
            have hf := HF.out
            have hs := HS.out
            have hl := HL.out
            have hfl := HFL.out
            rw [HV.out (fun h => absurd h hf)]
            have hmod : m % 128 = m - 128 := by omega
            have hsm2 : acc + m % 128 * 2 ^ q < 2 ^ (q + 7) := by
              have h1 := HSM.out
              have h2 : m % 128 * 2 ^ q ≤ 127 * 2 ^ q := Nat.mul_le_mul_right _ (by omega)
              rw [Nat.pow_add]
              omega
            refine ⟨f - 1, q + 7, acc + m % 128 * 2 ^ q, r, rfl, ?_, by omega, Lib.hid ⟨HG.out, ?_, hsm2, by omega, by omega⟩⟩
            · push_cast
              rfl
            · rw [HE2.out, HP7.out, hmod, show f - 1 + 1 = f by omega]
          case measure =>
            simp [intOf]
            omega
end Pk
end Go.Proofs.Ytmhlipncelgmlaa
