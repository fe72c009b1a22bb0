/- Show: two hexadecimal digits as a byte, by the library's ParseUint. -/
import Derived.Test.YtoaliaohbpdibaaDoorShBase
import Derived.Lib.Walk
import Derived.Lib.ConvBytes
import Derived.Laws.Strings3
import Derived.Laws.Closers25
import Derived.Laws.Closers25b
import Derived.BigCall
import Derived.BigGuard
import Derived.LoopTactic
import Derived.Laws.BitsLemmas
namespace Go.Proofs.YtoaliaohbpdibaaDoor
open Go.RowKit
set_option linter.unusedVariables false
set_option linter.unusedSimpArgs false
namespace Sh
/-- A hexadecimal digit's number, or 16. -/
def hexv (c : Nat) : Nat := if 48 ≤ c ∧ c ≤ 57 then c - 48 else if 97 ≤ c ∧ c ≤ 102 then c - 87 else if 65 ≤ c ∧ c ≤ 70 then c - 55 else 16
def hexF : Nat → List UInt8 → Option Nat
  | acc, [] => some acc
  | acc, c :: l => if hexv c.toNat < 16 then hexF (acc * 16 + hexv c.toNat) l else none
def hexT : Option Nat → Value
  | some n => .tuple #[.int .u64 (n : Int), .nilIface]
  | none => .tuple #[.int .u64 0, .iface 72 (.int .i64 2)]
theorem low_all : ∀ c : Fin 256, bits .or .u8 ((c.val : Nat) : Int) 32 = if c.val / 32 % 2 = 1 then ((c.val : Nat) : Int) else ((c.val + 32 : Nat) : Int) := by decide +kernel
theorem low_of (c : Nat) (hc : c < 256) : bits .or .u8 (c : Int) 32 = if c / 32 % 2 = 1 then (c : Int) else ((c + 32 : Nat) : Int) := low_all ⟨c, hc⟩
set_option maxHeartbeats 4000000 in
set_option maxRecDepth 100000 in
theorem parse16 (t : ByteArray) (ht : t.size = 2) (w : World) :
    Calls Tryd.prog 51 #[.string t, .int .i64 16, .int .i64 8] w fun e w' => e = .returned (hexT (hexF 0 t.data.toList)) ∧ w' = Lib.bytesWorld w 5 t := by
  have hemp : t.toList.isEmpty = false := by
    rw [← decide_eq_emptyBytes]
    exact decide_eq_false (fun h => by rw [h] at ht; cases ht)
  have hcv := Lib.run_convert_string_bytes (P := Tryd.prog) w 9 36 5 t (u := .string) Tryd.underlying9 Tryd.underlying36 Tryd.underlying5
  have hB : ∀ j, j < t.size → (Lib.bytesWorld w 5 t).cell? ⟨w.heap.size, j, none⟩ = some (.int .u8 (t.data.toList.getD j 0).toNat) := fun j hj => Lib.bytesWorld_cell w 5 t j hj
  obtain ⟨W1, hW1⟩ : ∃ W1, W1 = Lib.bytesWorld w 5 t := ⟨_, rfl⟩
  rw [← hW1] at hcv hB ⊢
  clear hW1
  obtain ⟨bs, hL⟩ : ∃ bs, bs = t.data.toList := ⟨_, rfl⟩
  have hLn : bs.length = 2 := by rw [hL, ← ht]; simp
  rw [← hL] at hB ⊢
  clear hL
  rw [ht] at hcv hB
  have HT := Lib.hid ht
  clear ht
  have hmv : IntKind.u64.wrap (IntKind.u64.wrap 256 - 1) = 255 := by
    rw [IntKind.wrap_u64, IntKind.wrap_u64]
    decide
  have HLN := Lib.hid hLn
  have HBB := Lib.hid hB
  clear hB hLn
  go_enter Tryd.func51, Tryd.ntmps51
  go_wp2
  go_loop [12, 13, 101] (fun vu vn vi => ∃ (k acc : Nat) (a : Int), vu = .bool false ∧ vn = .int .u64 a ∧ vi = .int .i64 k ∧ k ≤ 2 ∧ Hid (a = (acc : Int) ∧ acc < 16 ^ k ∧ hexF 0 bs = hexF acc (bs.drop k)))
    (fun _ _ vi => 2 - (intOf vi).toNat)
  case atStart => exact ⟨0, 0, 0, rfl, rfl, rfl, by omega, rfl, by simp, rfl⟩
  case round =>
    obtain ⟨k, acc, a, rfl, rfl, rfl, hk, hh⟩ := hrel
    obtain ⟨ha, hacc, hdec⟩ := hh.out
    clear hh
    have h16 : acc < 256 := by
      have : (16 : Nat) ^ k ≤ 16 ^ 2 := Nat.pow_le_pow_right (by omega) hk
      omega
    by_cases hkn : k < 2
    · have h16' : acc < 16 := by
        have : (16 : Nat) ^ k ≤ 16 ^ 1 := Nat.pow_le_pow_right (by omega) (by omega)
        omega
      have a0 : 0 ≤ a := by omega
      have a1 : a ≤ 15 := by omega
      have hLn := HLN.out
      have hc := HBB.out k hkn
      have hdrop : bs.drop k = bs[k]'(by omega) :: bs.drop (k + 1) := List.drop_eq_getElem_cons (by omega)
      have hget : bs.getD k 0 = bs[k]'(by omega) := by simp [List.getD, List.getElem?_eq_getElem (show k < bs.length by omega)]
      rw [hdrop] at hdec
      rw [hget] at hc
      generalize bs[k]'(by omega) = c at hc hdec
      have hc256 : c.toNat < 256 := c.toNat_lt
      clear hdrop hget hLn
      have hlow := low_of c.toNat hc256
      have hcall := fun W => Tryd.internal_strconv_lower (c.toNat : Int) W
      have hp : 16 ^ (k + 1) = 16 ^ k * 16 := Nat.pow_succ ..
      have step : hexv c.toNat < 16 → Hid (a * 16 + (hexv c.toNat : Int) = ((acc * 16 + hexv c.toNat : Nat) : Int) ∧ acc * 16 + hexv c.toNat < 16 ^ (k + 1) ∧ hexF 0 bs = hexF (acc * 16 + hexv c.toNat) (bs.drop (k + 1))) := fun hx => Lib.hid ⟨by omega, by omega, by rw [hdec, hexF, if_pos hx]⟩
      have bad : ¬ hexv c.toNat < 16 → hexF 0 bs = none := fun hx => by rw [hdec, hexF, if_neg hx]
      clear hp
      by_cases hdig : 48 ≤ c.toNat ∧ c.toNat ≤ 57
      · obtain ⟨hd0, hd1⟩ := hdig
        have hv : hexv c.toNat = c.toNat - 48 := by unfold hexv; rw [if_pos ⟨hd0, hd1⟩]
        have HN := step (by omega)
        have e1 : (hexv c.toNat : Int) = (c.toNat : Int) - 48 := by omega
        rw [e1, hv] at HN
        clear step bad hv e1 hlow hcall hdec hacc ha h16 h16'
        go_wp2
        go_round
        case rel => exact ⟨k + 1, acc * 16 + (c.toNat - 48), a * 16 + ((c.toNat : Int) - 48), rfl, rfl, rfl, by omega, HN⟩
        case measure => simp [intOf]; omega
      · by_cases hlo : 97 ≤ c.toNat ∧ c.toNat ≤ 102
        · obtain ⟨hd0, hd1⟩ := hlo
          have hv : hexv c.toNat = c.toNat - 87 := by unfold hexv; rw [if_neg hdig, if_pos ⟨hd0, hd1⟩]
          have HN := step (by omega)
          have e1 : (hexv c.toNat : Int) = (c.toNat : Int) - 97 + 10 := by omega
          rw [e1, hv] at HN
          rw [hlow, if_pos (by omega)] at hcall
          have h57 : 57 < (c.toNat : Int) := by omega
          clear step bad hv e1 hlow hdec hacc ha h16 h16' hdig
          go_wp2_with (go_at_call 56; refine (hcall _).mono ?_; rintro e w' ⟨rfl, rfl⟩)
          go_round
          case rel => exact ⟨k + 1, acc * 16 + (c.toNat - 87), a * 16 + ((c.toNat : Int) - 97 + 10), rfl, by first | rfl | (congr 1; omega), rfl, by omega, HN⟩
          case measure => simp [intOf]; omega
        · by_cases hup : 65 ≤ c.toNat ∧ c.toNat ≤ 70
          · obtain ⟨hd0, hd1⟩ := hup
            have hv : hexv c.toNat = c.toNat - 55 := by unfold hexv; rw [if_neg hdig, if_neg hlo, if_pos ⟨hd0, hd1⟩]
            have HN := step (by omega)
            have e1 : (hexv c.toNat : Int) = (c.toNat : Int) + 32 - 97 + 10 := by omega
            rw [e1, hv] at HN
            rw [hlow, if_neg (by omega), Int.natCast_add] at hcall
            have h57 : 57 < (c.toNat : Int) := by omega
            have h57b : (c.toNat : Int) ≤ 70 := by omega
            have h57c : 65 ≤ (c.toNat : Int) := by omega
            clear step bad hv e1 hlow hdec hacc ha h16 h16' hdig
            go_wp2_with (go_at_call 56; refine (hcall _).mono ?_; rintro e w' ⟨rfl, rfl⟩)
            go_round
            case rel => exact ⟨k + 1, acc * 16 + (c.toNat - 55), a * 16 + ((c.toNat : Int) + 32 - 97 + 10), rfl, by first | rfl | (congr 1; omega), rfl, by omega, HN⟩
            case measure => simp [intOf]; omega
          · have hv : ¬ hexv c.toNat < 16 := by unfold hexv; rw [if_neg hdig, if_neg hlo, if_neg hup]; omega
            have HB := Lib.hid (bad hv)
            obtain ⟨v, hvv⟩ : ∃ v : Int, bits .or .u8 (c.toNat : Int) 32 = v := ⟨_, rfl⟩
            have hv3 : v < 97 ∨ 122 < v ∨ (102 < v ∧ v ≤ 122) := by
              rw [← hvv, hlow]; split <;> omega
            have hv4 : 0 ≤ v ∧ v < 256 := by
              rw [← hvv, hlow]; split <;> omega
            obtain ⟨hv4, hv5⟩ := hv4
            rw [hvv] at hcall
            clear step bad hv hvv hlow hdec hacc ha h16 h16' hlo hup
            by_cases h95 : c.toNat = 95
            · have h95i : (c.toNat : Int) = 95 := by omega
              rw [h95i] at hcall
              rw [h95i] at hc
              clear h95 h95i hdig
              rcases hv3 with h3 | h3 | ⟨h3, h4⟩
              all_goals
                go_wp2_with (go_at_call 56; refine (hcall _).mono ?_; rintro e w' ⟨rfl, rfl⟩)
                all_goals first | (exfalso; omega) | (go_ret2; exact ⟨by rw [HB.out]; rfl, rfl⟩)
            have hne : ((c.toNat : Int) == 95) = false := by simp; omega
            clear h95
            rcases hv3 with h3 | h3 | ⟨h3, h4⟩
            all_goals
              go_wp2_with (go_at_call 56; refine (hcall _).mono ?_; rintro e w' ⟨rfl, rfl⟩)
              all_goals first | (exfalso; omega) | (go_ret2; exact ⟨by rw [HB.out]; rfl, rfl⟩)
    · have hkk : k = 2 := by omega
      subst hkk
      have hF : bs.drop 2 = [] := List.drop_eq_nil_of_le (by rw [HLN.out]; omega)
      rw [hF, hexF] at hdec
      have HD := Lib.hid hdec
      subst ha
      clear hdec hF hacc h16
      go_wp2
      go_ret2
      exact ⟨by rw [HD.out]; rfl, rfl⟩
end Sh
end Go.Proofs.YtoaliaohbpdibaaDoor
