/- The document's reader of values: numbers in sevens, texts. -/
import Derived.Test.YtmhlipncelgmlaaPkRdT
import Derived.Test.YtmhlipncelgmlaaPkParse
namespace Go.Proofs.Ytmhlipncelgmlaa
open Go.RowKit
set_option linter.unusedVariables false
set_option linter.unusedSimpArgs false
namespace Pk
open Val (Keeps Box)
/-- What is read: all the bytes, at a. -/
structure Data (w : World) (a : Option Addr) (c L : Nat) (all : List UInt8) : Prop where
  len : all.length = L
  le : L ≤ c
  small : L ≤ 4611686018427387904
  src : Fr.Src w (fun k => w.heap.size ≤ k) a all
theorem Data.below {w w' : World} {a : Option Addr} {c L : Nat} {all : List UInt8} (h : Data w a c L all) (hb : Below w.heap.size w w') : Data w' a c L all :=
  ⟨h.len, h.le, h.small, fun h0 => by
    obtain ⟨x, e, h1, h2, h3⟩ := h.src h0
    have hbl : ∀ j, (x.add j).block = x.block := fun j => by unfold Addr.add; split <;> rfl
    exact ⟨x, e, Nat.lt_of_lt_of_le h1 hb.size, fun hx => by have := hb.size; omega, fun j u hu => (hb.cell (p := x.add j) (by rw [hbl]; exact h1)).trans (h3 j u hu)⟩⟩
/-- The byte at a place. -/
theorem Data.at {w : World} {a : Option Addr} {c L : Nat} {all : List UInt8} (h : Data w a c L all) {j : Nat} {b : UInt8} (hj : all[j]? = some b) : ∃ x, a = some x ∧ w.cell? (x.add j) = some (.int .u8 (b.toNat : Int)) := by
  have hjl := (List.getElem?_eq_some_iff.1 hj).1
  obtain ⟨x, e, h1, h2, h3⟩ := h.src (by omega)
  exact ⟨x, e, h3 j _ (by unfold Lib.byteCells; rw [List.getElem?_map, hj]; rfl)⟩
def numV (L : Nat) (x : Except Int (Nat × List UInt8)) : Value := match x with | .error c => .tuple #[.int .u64 0, .int .i64 0, .int .i64 c] | .ok a => .tuple #[.int .u64 (a.1 : Int), .int .i64 ((L : Int) - (a.2.length : Int)), .int .i64 0]
structure QRel (all : List UInt8) (at_ k f acc unit : Nat) : Prop where
  same : numA 10 0 (all.drop at_) = numA (f + 1) acc (all.drop (at_ + k))
  place : k + f = 9
  unit_ : unit = 128 ^ k
  small : acc < 128 ^ k
set_option maxRecDepth 100000 in
set_option maxHeartbeats 4000000 in
theorem refNum_any (a : Option Addr) (c L : Nat) (all : List UInt8) (at_ : Nat) (w : World) (h : Data w a c L all) (hat : at_ ≤ L) :
    Calls Try.prog 69 #[.slice a L c, .int .i64 (at_ : Int)] w fun e w' => e = .returned (numV L (numP (all.drop at_))) ∧ w' = w := by
  have hLs : (L : Int) ≤ 4611686018427387904 := by have := h.small; omega
  have HD := Lib.hid h
  have HQ0 : Hid (QRel all at_ 0 9 0 1) := Lib.hid ⟨rfl, rfl, rfl, by decide⟩
  have hat2 : (at_ : Int) ≤ (L : Int) := by omega
  clear h hat
  go_enter Try.func69, Try.ntmps69
  go_wp2
  go_loop [7, 8, 9] (fun nv uv kv => ∃ (k f acc unit : Nat), nv = .int .u64 (acc : Int) ∧ uv = .int .u64 (unit : Int) ∧ kv = .int .i64 (k : Int) ∧ k ≤ 9 ∧ at_ + k ≤ L ∧ Hid (QRel all at_ k f acc unit)) (fun _ _ kv => (10 - intOf kv).toNat)
  case atStart => exact ⟨0, 9, 0, 1, rfl, rfl, rfl, by omega, by omega, HQ0⟩
  case round =>
    obtain ⟨k, f, acc, unit, rfl, rfl, rfl, hk, hkl, HQ⟩ := hrel
    clear HQ0
    have hkp := HQ.out.place
    have hk10 : (k : Int) < 10 := by omega
    have hw1 : wrap64 ((at_ : Int) + (k : Int)) = (at_ : Int) + (k : Int) := by unfold wrap64; omega
    by_cases hend : at_ + k = L
    · have hge : (L : Int) ≤ (at_ : Int) + (k : Int) := by omega
      have HE : Hid (numV L (numP (all.drop at_)) = .tuple #[.int .u64 0, .int .i64 0, .int .i64 22]) := Lib.hid (by
        unfold numP
        rw [HQ.out.same, hend, ← HD.out.len, List.drop_length]
        rfl)
      clear hend hk hkl hkp
      go_wp2
      refine bodyPost_ret (v := .tuple #[.int .u64 0, .int .i64 0, .int .i64 22]) (by simp [results, Try.results69, go_sem]) rfl ?_
      exact ⟨by rw [HE.out], rfl⟩
    · have hlt : ¬ (L : Int) ≤ (at_ : Int) + (k : Int) := by omega
      have hjl : at_ + k < all.length := by rw [HD.out.len]; omega
      obtain ⟨b, hb⟩ : ∃ b, all[at_ + k]? = some b := ⟨_, List.getElem?_eq_getElem hjl⟩
      have hcons : all.drop (at_ + k) = b :: all.drop (at_ + k + 1) := by
        rw [List.drop_eq_getElem_cons hjl]
        rw [List.getElem?_eq_getElem hjl] at hb
        injection hb with hb
        rw [hb]
      obtain ⟨x, hx, hcell⟩ := HD.out.at hb
      obtain ⟨m, hm⟩ : ∃ m, b.toNat = m := ⟨_, rfl⟩
      have hm256 : m < 256 := by rw [← hm]; exact b.toNat_lt
      rw [hm] at hcell
      have hrl : ((all.drop (at_ + k + 1)).length : Int) = (L : Int) - ((at_ : Int) + k + 1) := by rw [List.length_drop, HD.out.len]; omega
      have HE : Hid (numA 10 0 (all.drop at_) = if f = 0 ∧ m ≠ 1 then .error 1 else if m < 128 then (if m = 0 ∧ f ≠ 9 then .error 1 else .ok (acc + m * 128 ^ (9 - f), all.drop (at_ + k + 1))) else numA f (acc + (m - 128) * 128 ^ (9 - f)) (all.drop (at_ + k + 1))) := Lib.hid (by
        rw [HQ.out.same, hcons]
        show (if f = 0 ∧ b.toNat ≠ 1 then _ else _) = _
        rw [hm])
      have hp : (128 : Nat) ^ (9 - f) = unit := by rw [HQ.out.unit_, show 9 - f = k by omega]
      rw [hp] at HE
      have hus : unit ≤ 128 ^ 9 := by rw [HQ.out.unit_]; exact Nat.pow_le_pow_right (by decide) (by omega)
      have hsm : acc < unit := by rw [HQ.out.unit_]; exact HQ.out.small
      have h9 : (128 : Nat) ^ 9 = 9223372036854775808 := by decide
      have hus8 : f ≠ 0 → unit ≤ 72057594037927936 := fun h => by
        have h8 : (128 : Nat) ^ 8 = 72057594037927936 := by decide
        rw [HQ.out.unit_, ← h8]
        exact Nat.pow_le_pow_right (by decide) (by omega)
      have hu0 : 0 < unit := by rw [HQ.out.unit_]; exact Nat.pow_pos (by decide)
      have hmod : (m : Int).tmod 128 = ((m % 128 : Nat) : Int) := by rw [Int.tmod_eq_emod_of_nonneg (by omega)]; omega
      have hprod : (f = 0 → m ≤ 1) → m % 128 * unit + acc < 18446744073709551616 := fun h1 => by
        rcases Nat.eq_zero_or_pos f with h0 | h0
        · have h1 := h1 h0
          have : m % 128 * unit ≤ 1 * unit := Nat.mul_le_mul_right _ (by omega)
          omega
        · have h2 := hus8 (by omega)
          have : m % 128 * unit ≤ 127 * 72057594037927936 := Nat.mul_le_mul (by omega) h2
          omega
      have hmul : (f = 0 → m ≤ 1) → IntKind.u64.wrap (((m % 128 : Nat) : Int) * (unit : Int)) = ((m % 128 * unit : Nat) : Int) := fun h1 => by
        have := hprod h1
        rw [← Int.natCast_mul, IntKind.wrap_u64]
        omega
      have hadd : (f = 0 → m ≤ 1) → IntKind.u64.wrap ((acc : Int) + ((m % 128 * unit : Nat) : Int)) = ((acc + m % 128 * unit : Nat) : Int) := fun h1 => by
        have := hprod h1
        rw [IntKind.wrap_u64]
        omega
      have HMUL := Lib.hid hmul
      have HADD := Lib.hid hadd
      have HMOD := Lib.hid hmod
      have HRL := Lib.hid hrl
      have HUS := Lib.hid hus8
      have HU9 : Hid (unit ≤ 9223372036854775808) := Lib.hid (by omega)
      have HSM := Lib.hid hsm
      have hwm : IntKind.u64.wrap (m : Int) = (m : Int) := by rw [IntKind.wrap_u64]; omega
      have htn : ((at_ : Int) + (k : Int)).toNat = at_ + k := by omega
      have hib : 0 ≤ (at_ : Int) + (k : Int) ∧ (at_ : Int) + (k : Int) < (L : Int) := by omega
      have hw2 : wrap64 ((at_ : Int) + (k : Int) + 1) = (at_ : Int) + (k : Int) + 1 := by unfold wrap64; omega
      subst hx
      have HF9 : Hid (k + f = 9) := Lib.hid hkp
      have HKL : Hid (at_ + k < L) := Lib.hid (by omega)
      clear hcons hb hm hus hsm h9 hus8 hu0 hmod hprod hmul hadd hrl hjl hp
      by_cases hf : f = 0
      · have hk9 : ((k : Int) == 9) = true := by simp; omega
        have hk0 : decide (0 < k) = true := by simp; omega
        by_cases hm1 : m = 1
        · have t1 : decide ((1 : Int) < (m : Int)) = false := by simp; omega
          have t2 : ((m : Int) == 0) = false := by simp; omega
          have t3 : (m : Int) < 128 := by omega
          have HE2 : Hid (numV L (numP (all.drop at_)) = .tuple #[.int .u64 ((acc + m * unit : Nat) : Int), .int .i64 ((at_ : Int) + k + 1), .int .i64 0]) := Lib.hid (by
            unfold numP
            rw [HE.out, if_neg (fun h => h.2 hm1), if_pos (by omega), if_neg (by omega)]
            show Value.tuple #[_, .int .i64 ((L : Int) - ((all.drop (at_ + k + 1)).length : Int)), _] = _
            rw [HRL.out, show (L : Int) - ((L : Int) - ((at_ : Int) + k + 1)) = (at_ : Int) + k + 1 by omega])
          obtain ⟨dg, hdg⟩ : ∃ dg, m % 128 = dg := ⟨_, rfl⟩
          obtain ⟨pr, hpr⟩ : ∃ pr, dg * unit = pr := ⟨_, rfl⟩
          obtain ⟨sm, hsm2⟩ : ∃ sm, acc + pr = sm := ⟨_, rfl⟩
          have v1 := HMOD.out
          rw [hdg] at v1
          have v2 := HMUL.out (fun _ => by omega)
          rw [hdg, hpr] at v2
          have v3 := HADD.out (fun _ => by omega)
          rw [hdg, hpr, hsm2] at v3
          have HV : Hid (m % 128 = dg ∧ dg * unit = pr ∧ acc + pr = sm) := Lib.hid ⟨hdg, hpr, hsm2⟩
          clear hdg hpr hsm2
          have HM128 : Hid (m % 128 = m) := Lib.hid (Nat.mod_eq_of_lt (by omega))
          have hu128 : ∃ u2 : Nat, IntKind.u64.wrap ((unit : Int) * 128) = (u2 : Int) := ⟨(IntKind.u64.wrap ((unit : Int) * 128)).toNat, by rw [IntKind.wrap_u64]; omega⟩
          obtain ⟨u2, hu2⟩ := hu128
          clear hm1 hm256 hf hk hkl hkp HE
          go_wp2
          refine bodyPost_ret (v := .tuple #[.int .u64 (sm : Int), .int .i64 ((at_ : Int) + k + 1), .int .i64 0]) (by simp [results, Try.results69, go_sem]) rfl ?_
          refine ⟨?_, rfl⟩
          rw [HE2.out]
          have hq := HV.out
          have hq2 := HM128.out
          have hq3 : acc + m * unit = sm := by rw [← hq.2.2, ← hq.2.1, ← hq.1, hq2]
          rw [hq3]

        · by_cases hm0 : m = 0
          · have t1 : decide ((1 : Int) < (m : Int)) = false := by simp; omega
            have t2 : ((m : Int) == 0) = true := by simp; omega
            have HE2 : Hid (numV L (numP (all.drop at_)) = .tuple #[.int .u64 0, .int .i64 0, .int .i64 1]) := Lib.hid (by
              unfold numP
              rw [HE.out, if_pos ⟨hf, hm1⟩]
              rfl)
            clear hm0 hm1 hm256 hf hk hkl hkp HE
            go_wp2
            refine bodyPost_ret (v := .tuple #[.int .u64 0, .int .i64 0, .int .i64 1]) (by simp [results, Try.results69, go_sem]) rfl ?_
            exact ⟨by rw [HE2.out], rfl⟩

          · have t1 : decide ((1 : Int) < (m : Int)) = true := by simp; omega
            have HE2 : Hid (numV L (numP (all.drop at_)) = .tuple #[.int .u64 0, .int .i64 0, .int .i64 1]) := Lib.hid (by
              unfold numP
              rw [HE.out, if_pos ⟨hf, hm1⟩]
              rfl)
            clear hm0 hm1 hm256 hf hk hkl hkp HE
            go_wp2
            refine bodyPost_ret (v := .tuple #[.int .u64 0, .int .i64 0, .int .i64 1]) (by simp [results, Try.results69, go_sem]) rfl ?_
            exact ⟨by rw [HE2.out], rfl⟩

      · have hk9 : ((k : Int) == 9) = false := by simp; omega
        by_cases hs : m < 128
        · by_cases hz : m = 0 ∧ f ≠ 9
          · have hk0 : decide (0 < k) = true := by simp; omega
            have t2 : ((m : Int) == 0) = true := by simp; omega
            have HE2 : Hid (numV L (numP (all.drop at_)) = .tuple #[.int .u64 0, .int .i64 0, .int .i64 1]) := Lib.hid (by
              unfold numP
              rw [HE.out, if_neg (by omega), if_pos hs, if_pos hz]
              rfl)
            clear hs hz hm256 hf hk hkl hkp HE
            go_wp2
            refine bodyPost_ret (v := .tuple #[.int .u64 0, .int .i64 0, .int .i64 1]) (by simp [results, Try.results69, go_sem]) rfl ?_
            exact ⟨by rw [HE2.out], rfl⟩

          · have hor : decide (0 < k) = false ∨ (decide (0 < k) = true ∧ ((m : Int) == 0) = false) := by
              by_cases hk0 : k = 0
              · left; simp; omega
              · right; exact ⟨by simp; omega, by simp; omega⟩
            rcases hor with hk0 | ⟨hk0, t2⟩
            · have t3 : (m : Int) < 128 := by omega
              have HE2 : Hid (numV L (numP (all.drop at_)) = .tuple #[.int .u64 ((acc + m * unit : Nat) : Int), .int .i64 ((at_ : Int) + k + 1), .int .i64 0]) := Lib.hid (by
                unfold numP
                rw [HE.out, if_neg (by omega), if_pos hs, if_neg hz]
                show Value.tuple #[_, .int .i64 ((L : Int) - ((all.drop (at_ + k + 1)).length : Int)), _] = _
                rw [HRL.out, show (L : Int) - ((L : Int) - ((at_ : Int) + k + 1)) = (at_ : Int) + k + 1 by omega])
              obtain ⟨dg, hdg⟩ : ∃ dg, m % 128 = dg := ⟨_, rfl⟩
              obtain ⟨pr, hpr⟩ : ∃ pr, dg * unit = pr := ⟨_, rfl⟩
              obtain ⟨sm, hsm2⟩ : ∃ sm, acc + pr = sm := ⟨_, rfl⟩
              have v1 := HMOD.out
              rw [hdg] at v1
              have v2 := HMUL.out (fun h => absurd h hf)
              rw [hdg, hpr] at v2
              have v3 := HADD.out (fun h => absurd h hf)
              rw [hdg, hpr, hsm2] at v3
              have HV : Hid (m % 128 = dg ∧ dg * unit = pr ∧ acc + pr = sm) := Lib.hid ⟨hdg, hpr, hsm2⟩
              clear hdg hpr hsm2
              have HM128 : Hid (m % 128 = m) := Lib.hid (Nat.mod_eq_of_lt (by omega))
              have hu128 : ∃ u2 : Nat, IntKind.u64.wrap ((unit : Int) * 128) = (u2 : Int) := ⟨(IntKind.u64.wrap ((unit : Int) * 128)).toNat, by rw [IntKind.wrap_u64]; omega⟩
              obtain ⟨u2, hu2⟩ := hu128
              clear hs hz hm256 hf hk hkl hkp HE
              go_wp2
              refine bodyPost_ret (v := .tuple #[.int .u64 (sm : Int), .int .i64 ((at_ : Int) + k + 1), .int .i64 0]) (by simp [results, Try.results69, go_sem]) rfl ?_
              refine ⟨?_, rfl⟩
              rw [HE2.out]
              have hq := HV.out
              have hq2 := HM128.out
              have hq3 : acc + m * unit = sm := by rw [← hq.2.2, ← hq.2.1, ← hq.1, hq2]
              rw [hq3]

            · have t3 : (m : Int) < 128 := by omega
              have HE2 : Hid (numV L (numP (all.drop at_)) = .tuple #[.int .u64 ((acc + m * unit : Nat) : Int), .int .i64 ((at_ : Int) + k + 1), .int .i64 0]) := Lib.hid (by
                unfold numP
                rw [HE.out, if_neg (by omega), if_pos hs, if_neg hz]
                show Value.tuple #[_, .int .i64 ((L : Int) - ((all.drop (at_ + k + 1)).length : Int)), _] = _
                rw [HRL.out, show (L : Int) - ((L : Int) - ((at_ : Int) + k + 1)) = (at_ : Int) + k + 1 by omega])
              obtain ⟨dg, hdg⟩ : ∃ dg, m % 128 = dg := ⟨_, rfl⟩
              obtain ⟨pr, hpr⟩ : ∃ pr, dg * unit = pr := ⟨_, rfl⟩
              obtain ⟨sm, hsm2⟩ : ∃ sm, acc + pr = sm := ⟨_, rfl⟩
              have v1 := HMOD.out
              rw [hdg] at v1
              have v2 := HMUL.out (fun h => absurd h hf)
              rw [hdg, hpr] at v2
              have v3 := HADD.out (fun h => absurd h hf)
              rw [hdg, hpr, hsm2] at v3
              have HV : Hid (m % 128 = dg ∧ dg * unit = pr ∧ acc + pr = sm) := Lib.hid ⟨hdg, hpr, hsm2⟩
              clear hdg hpr hsm2
              have HM128 : Hid (m % 128 = m) := Lib.hid (Nat.mod_eq_of_lt (by omega))
              have hu128 : ∃ u2 : Nat, IntKind.u64.wrap ((unit : Int) * 128) = (u2 : Int) := ⟨(IntKind.u64.wrap ((unit : Int) * 128)).toNat, by rw [IntKind.wrap_u64]; omega⟩
              obtain ⟨u2, hu2⟩ := hu128
              clear hs hz hm256 hf hk hkl hkp HE
              go_wp2
              refine bodyPost_ret (v := .tuple #[.int .u64 (sm : Int), .int .i64 ((at_ : Int) + k + 1), .int .i64 0]) (by simp [results, Try.results69, go_sem]) rfl ?_
              refine ⟨?_, rfl⟩
              rw [HE2.out]
              have hq := HV.out
              have hq2 := HM128.out
              have hq3 : acc + m * unit = sm := by rw [← hq.2.2, ← hq.2.1, ← hq.1, hq2]
              rw [hq3]

        · have t3 : ¬ (m : Int) < 128 := by omega
          have t2 : ((m : Int) == 0) = false := by simp; omega
          have HE2 : Hid (numA 10 0 (all.drop at_) = numA f (acc + (m - 128) * unit) (all.drop (at_ + k + 1))) := Lib.hid (by rw [HE.out, if_neg (by omega), if_neg hs])
          have HMS : Hid (m % 128 = m - 128) := Lib.hid (by omega)
          obtain ⟨dg, hdg⟩ : ∃ dg, m % 128 = dg := ⟨_, rfl⟩
          obtain ⟨pr, hpr⟩ : ∃ pr, dg * unit = pr := ⟨_, rfl⟩
          obtain ⟨sm, hsm2⟩ : ∃ sm, acc + pr = sm := ⟨_, rfl⟩
          have v1 := HMOD.out
          rw [hdg] at v1
          have v2 := HMUL.out (fun h => absurd h hf)
          rw [hdg, hpr] at v2
          have v3 := HADD.out (fun h => absurd h hf)
          rw [hdg, hpr, hsm2] at v3
          have HV : Hid (m % 128 = dg ∧ dg * unit = pr ∧ acc + pr = sm) := Lib.hid ⟨hdg, hpr, hsm2⟩
          clear hdg hpr hsm2
          have hu2 : IntKind.u64.wrap ((unit : Int) * 128) = ((unit * 128 : Nat) : Int) := by
            have := HUS.out hf
            rw [IntKind.wrap_u64]
            omega
          obtain ⟨u2, hu3⟩ : ∃ u2, unit * 128 = u2 := ⟨_, rfl⟩
          rw [hu3] at hu2
          have HU2 := Lib.hid hu3
          have HFF := Lib.hid hf
          clear hu3 hs hf HE
          clear hkp hkl hk
          rcases (show decide (0 < k) = false ∨ decide (0 < k) = true by cases decide (0 < k) <;> simp) with hk0 | hk0
          all_goals
            go_upto_region 5 with fail
            clear v1 v2 v3 hu2 hw1 hw2 hib htn hcell hlt hwm t2 t3 hk9 hk0
            go_wp2
            go_round
            case rel =>
              have hff := HFF.out
              have hkp := HF9.out
              have hkl := HKL.out
              have hv := HV.out
              have hms := HMS.out
              have hu := HU2.out
              have hsm := HSM.out
              refine ⟨k + 1, f - 1, sm, u2, rfl, rfl, by push_cast; rfl, by omega, by omega, Lib.hid ⟨?_, by omega, ?_, ?_⟩⟩
              · rw [HE2.out, show f - 1 + 1 = f by omega, ← hms, hv.1, hv.2.1, hv.2.2]
                rfl
              · rw [← hu, HQ.out.unit_, Nat.pow_succ]
              · have hu4 := HQ.out.unit_
                rw [Nat.pow_succ, ← hu4]
                have h5 : dg * unit ≤ 127 * unit := Nat.mul_le_mul_right _ (by omega)
                omega
            case measure =>
              have := HF9.out
              simp [intOf]
              omega
theorem src_low {w : World} {X Y : Nat → Prop} {p : Option Addr} {bs : List UInt8} (h : Fr.Src w X p bs) (hY : ∀ k, Y k → X k) : Fr.Src w Y p bs := fun h0 => by
  obtain ⟨x, e, h1, h2, h3⟩ := h h0
  exact ⟨x, e, h1, fun y => h2 (hY _ y), h3⟩
def textV (L : Nat) (x : Except Int (List UInt8 × List UInt8)) : Value := match x with | .error c => .tuple #[.string ⟨#[]⟩, .int .i64 0, .int .i64 c] | .ok a => .tuple #[.string (baOf a.1), .int .i64 ((L : Int) - (a.2.length : Int)), .int .i64 0]
set_option maxRecDepth 100000 in
set_option maxHeartbeats 4000000 in
theorem refText_any (a : Option Addr) (c L : Nat) (all : List UInt8) (at_ n : Nat) (w : World) (h : Data w a c L all) (hat : at_ ≤ L) (hn : n < 18446744073709551616) :
    Calls Try.prog 70 #[.slice a L c, .int .i64 (at_ : Int), .int .u64 (n : Int)] w fun e w' => e = .returned (textV L (takeP n (all.drop at_))) ∧ w' = w := by
  have hLs : (L : Int) ≤ 4611686018427387904 := by have := h.small; omega
  have hw1 : wrap64 ((L : Int) - (at_ : Int)) = (L : Int) - (at_ : Int) := by unfold wrap64; omega
  have hw2 : IntKind.u64.wrap ((L : Int) - (at_ : Int)) = (L : Int) - (at_ : Int) := by rw [IntKind.wrap_u64]; omega
  have hdl : (all.drop at_).length = L - at_ := by rw [List.length_drop, h.len]
  by_cases hb : L - at_ < n
  · have hlt : (L : Int) - (at_ : Int) < (n : Int) := by omega
    have HE : Hid (textV L (takeP n (all.drop at_)) = .tuple #[.string ⟨#[]⟩, .int .i64 0, .int .i64 22]) := Lib.hid (by unfold takeP; rw [if_pos (by omega)]; rfl)
    clear h hb hdl hn hat hLs
    go_enter Try.func70, Try.ntmps70
    go_wp2
    refine bodyPost_ret (v := .tuple #[.string ⟨#[]⟩, .int .i64 0, .int .i64 22]) (by simp [results, Try.results70, go_sem]) rfl ?_
    exact ⟨by rw [HE.out], rfl⟩
  · have hlt : ¬ (L : Int) - (at_ : Int) < (n : Int) := by omega
    have hwn : wrap64 (n : Int) = (n : Int) := by unfold wrap64; omega
    have hwa : wrap64 ((at_ : Int) + (n : Int)) = (at_ : Int) + (n : Int) := by unfold wrap64; omega
    obtain ⟨z, hz⟩ : ∃ z, baOf ((all.drop at_).take n) = z := ⟨_, rfl⟩
    have HE : Hid (textV L (takeP n (all.drop at_)) = .tuple #[.string z, .int .i64 ((at_ : Int) + (n : Int)), .int .i64 0]) := Lib.hid (by
      unfold takeP
      rw [if_neg (by omega)]
      show Value.tuple #[.string (baOf ((all.drop at_).take n)), .int .i64 ((L : Int) - (((all.drop at_).drop n).length : Int)), _] = _
      rw [hz, List.length_drop, hdl, show (L : Int) - ((L - at_ - n : Nat) : Int) = (at_ : Int) + n by omega])
    have hcv := conv_src (c := c - at_) (((src_low (Y := fun _ => False) h.src (fun _ f => f.elim)).drop at_ (by rw [h.len]; exact h.le)).take n) (n := n) (by rw [List.length_take, hdl]; omega)
    rw [hz] at hcv
    have hle := h.le
    have hm1 : (at_ : Int) + (n : Int) ≤ (c : Int) := by omega
    have hm2 : (at_ : Int) ≤ (at_ : Int) + (n : Int) := by omega
    have hm0 : (0 : Int) ≤ (at_ : Int) := by omega
    have hsub : (at_ : Int) + (n : Int) - (at_ : Int) = (n : Int) := by omega
    unfold Fr.behind at hcv
    have hn0 : a = none → L = 0 := fun e => by
      rcases Nat.eq_zero_or_pos L with h0 | h0
      · exact h0
      · obtain ⟨x, e2, -⟩ := h.src (by rw [h.len]; exact h0)
        rw [e] at e2
        cases e2
    have htn : ((at_ : Int) + (n : Int)).toNat = at_ + n := by omega
    by_cases hca : c = at_
    · subst hca
      obtain rfl : L = c := by omega
      obtain rfl : n = 0 := by omega
      rw [if_pos rfl, Nat.sub_self] at hcv
      clear h hb hdl hn hat hle hn0 hz hlt
      go_enter Try.func70, Try.ntmps70
      go_wp2
      refine bodyPost_ret (v := .tuple #[.string z, .int .i64 ((L : Int)), .int .i64 0]) (by simp [results, Try.results70, go_sem]) rfl ?_
      exact ⟨by rw [HE.out]; simp, rfl⟩
    · rw [if_neg hca] at hcv
      cases a with
      | none =>
        have hL0 := hn0 rfl
        obtain rfl : at_ = 0 := by omega
        obtain rfl : n = 0 := by omega
        rw [hL0] at HE ⊢
        rw [hL0] at hw1 hw2
        simp only [Option.map_none, Nat.sub_zero] at hcv
        clear h hb hdl hn hat hle hn0 hz hlt hL0 hLs hm1 hm2 hm0 hsub htn hwn hwa
        go_enter Try.func70, Try.ntmps70
        go_wp2
        refine bodyPost_ret (v := .tuple #[.string z, .int .i64 0, .int .i64 0]) (by simp [results, Try.results70, go_sem]) rfl ?_
        exact ⟨by rw [HE.out]; rfl, rfl⟩
      | some x =>
        rw [Option.map_some] at hcv
        clear h hb hdl hn hat hle hn0 hz
        go_enter Try.func70, Try.ntmps70
        go_wp2
        refine bodyPost_ret (v := .tuple #[.string z, .int .i64 ((at_ : Int) + (n : Int)), .int .i64 0]) (by simp [results, Try.results70, go_sem]) rfl ?_
        exact ⟨by rw [HE.out], rfl⟩
end Pk
end Go.Proofs.Ytmhlipncelgmlaa
