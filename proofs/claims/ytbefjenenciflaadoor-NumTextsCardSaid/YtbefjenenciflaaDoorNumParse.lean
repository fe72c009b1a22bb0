/- THE WALKS over num.written, num.count, num.Parse. -/
import Derived.Test.YtbefjenenciflaaDoorRows
import Derived.Test.YtbefjenenciflaaDoorNumPlain
import Derived.Test.YtbefjenenciflaaDoorNumWalks
import Derived.Test.YtbefjenenciflaaDoorNumText
import Derived.Test.YtbefjenenciflaaDoorNumParsePlain
import Derived.WalkKit
import Derived.Lib.Hide
import Derived.Deep.QuietTactic
import Derived.BigQuiet
import Derived.WalkSpells
import Derived.WalkLawsBesides
namespace Go.Proofs.YtbefjenenciflaaDoor
open Go.RowKit
set_option linter.unusedVariables false
set_option linter.unusedSimpArgs false
namespace Num
theorem _root_.Go.RowKit.Below.drewN {B : Nat} {a : World} (n : Nat) (w : World) (h : Below B a w) : Below B a (w.drewN n) := ⟨h.os, h.tape, h.output, h.size, h.block⟩
set_option maxHeartbeats 400000 in
theorem written_nil (w : World) :
    Calls Tryd.prog 29 #[.string ⟨#[]⟩] w fun e w' => e = .returned (.bool false) ∧ Below w.heap.size w w' := by
  go_enter Tryd.func29, Tryd.ntmps29
  go_wp2
  go_quiet (fail)
  go_wp2
  go_ret
  exact ⟨rfl, Below.drewN _ _ (Below.refl _ _)⟩
set_option maxHeartbeats 400000 in
theorem written_nought (s : ByteArray) (w : World) (hd : Digs w) (hs : 1 < s.size) (hm : s.size ≤ maxLen) (h0 : (s[0]).toNat = 48) :
    Calls Tryd.prog 29 #[.string s] w fun e w' => e = .returned (.bool false) ∧ Below w.heap.size w w' := by
  unfold maxLen at hm
  have hE : s.toList.isEmpty = false := toList_ne s (by omega)
  have h1 : decide (1 < (s.size : Int)) = true := decide_eq_true (by omega)
  have c0 := hd 0 (by omega)
  have e0 : ((s[0].toNat : Nat) : Int) = 48 := by omega
  have HD := Lib.hid hd
  clear hd h0
  go_enter Tryd.func29, Tryd.ntmps29
  go_wp2
  go_quiet (fail)
  go_wp2
  go_ret
  exact ⟨rfl, Below.drewN _ _ (Below.refl _ _)⟩
set_option maxHeartbeats 400000 in
theorem written_loop (s : ByteArray) (w : World) (hd : Digs w) (hs : 0 < s.size) (hm : s.size ≤ maxLen) (h0 : s.size = 1 ∨ (s[0]).toNat ≠ 48) :
    Calls Tryd.prog 29 #[.string s] w fun e w' => e = .returned (.bool (s.data.toList.all isDig)) ∧ Below w.heap.size w w' := by
  unfold maxLen at hm
  have hE : s.toList.isEmpty = false := toList_ne s (by omega)
  have c0 := hd 0 (by omega)
  have c9 := hd 9 (by omega)
  have HD := Lib.hid hd
  clear hd
  have H0 : (decide (1 < (s.size : Int)) = false) ∨ (decide (1 < (s.size : Int)) = true ∧ ((s[0].toNat : Int) == 48) = false) := by
    rcases h0 with h0 | h0
    · exact .inl (decide_eq_false (by omega))
    · by_cases h1 : 1 < s.size
      · exact .inr ⟨decide_eq_true (by omega), by simp; omega⟩
      · exact .inl (decide_eq_false (by omega))
  clear h0
  rcases H0 with h1 | ⟨h1, h2⟩
  all_goals
    go_enter Tryd.func29, Tryd.ntmps29
    go_wp2
    go_quiet (fail)
    go_wp2
    go_loopw [20] (fun i wr => ∃ k n : Nat, k ≤ s.size ∧ i = .int .i64 k ∧ (∀ j (hj : j < s.size), j < k → isDig s[j] = true) ∧ wr = w.drewN n) (fun i _ => s.size - (intOf i).toNat)
    case atStart => exact ⟨0, _, by omega, rfl, fun j _ h => by omega, rfl⟩
    case round =>
      obtain ⟨k, n, hk, rfl, hall, rfl⟩ := hrel
      have HALL := Lib.hid hall
      clear hall
      by_cases hlt : k < s.size
      · by_cases hd : isDig s[k] = true
        · have h3 : decide ((s[k].toNat : Int) < 48) = false := decide_eq_false (by simp [isDig] at hd; omega)
          have h4 : decide (57 < (s[k].toNat : Int)) = false := decide_eq_false (by simp [isDig] at hd; omega)
          have HDIG := Lib.hid hd
          clear hd
          go_wp2
          go_quiet (fail)
          go_wp2
          go_roundw
          case rel => exact ⟨k + 1, _, by omega, by go_num, fun j hj h => by
            rcases (show j < k ∨ j = k by omega) with h | h
            · exact HALL.out j hj h
            · subst h; exact HDIG.out, rfl⟩
          case measure => simp [intOf]; omega
        · have hd' : isDig s[k] = false := by simpa using hd
          rcases (show s[k].toNat < 48 ∨ 57 < s[k].toNat by simp [isDig] at hd; omega) with h3 | h3
          · have h3' : decide ((s[k].toNat : Int) < 48) = true := decide_eq_true (by omega)
            have HDIG := Lib.hid hd'
            clear hd hd' h3
            go_wp2
            go_quiet (fail)
            go_wp2
            go_ret
            exact ⟨by rw [all_dig_at hlt HDIG.out]; rfl, Below.drewN _ _ (Below.drewN _ _ (Below.refl _ _))⟩
          · have h3' : decide ((s[k].toNat : Int) < 48) = false := decide_eq_false (by omega)
            have h4 : decide (57 < (s[k].toNat : Int)) = true := decide_eq_true (by omega)
            have HDIG := Lib.hid hd'
            clear hd hd' h3
            go_wp2
            go_quiet (fail)
            go_wp2
            go_ret
            exact ⟨by rw [all_dig_at hlt HDIG.out]; rfl, Below.drewN _ _ (Below.drewN _ _ (Below.refl _ _))⟩
      · go_wp2
        go_ret
        exact ⟨by rw [all_dig_upto (fun j hj => HALL.out j hj (by omega))]; rfl, Below.drewN _ _ (Below.refl _ _)⟩
theorem written_any (s : ByteArray) (w : World) (hd : Digs w) (hm : s.size ≤ maxLen) :
    Calls Tryd.prog 29 #[.string s] w fun e w' => e = .returned (.bool (wr s.data.toList)) ∧ Below w.heap.size w w' := by
  by_cases h : s.size = 0
  · obtain rfl : s = ⟨#[]⟩ := by
      apply ByteArray.ext
      exact Array.eq_empty_of_size_eq_zero h
    exact written_nil w
  · have hl : s.data.toList.length = s.size := by simp
    have hh : s.data.toList.head? = some s[0] := by
      rw [List.head?_eq_getElem?, List.getElem?_eq_getElem (by omega)]; rfl
    have hne : s.data.toList.isEmpty = false := by rw [← toList_data]; exact toList_ne s (by omega)
    by_cases h0 : 1 < s.size ∧ s[0].toNat = 48
    · have e : wr s.data.toList = false := by
        have : s[0] = 48 := UInt8.toNat_inj.1 h0.2
        unfold wr
        rw [hh, hl, this, decide_eq_true h0.1]
        simp
      rw [e]
      exact written_nought s w hd h0.1 hm h0.2
    · have e : wr s.data.toList = s.data.toList.all isDig := by
        unfold wr
        rw [hh, hl, hne]
        have : (decide (1 < s.size) && (some s[0] == some 48)) = false := by
          simp only [Bool.and_eq_false_iff, decide_eq_false_iff_not]
          by_cases h1 : 1 < s.size
          · right
            have : s[0] ≠ 48 := fun h => h0 ⟨h1, by rw [h]; rfl⟩
            simpa using this
          · exact .inl h1
        rw [this]; rfl
      rw [e]
      exact written_loop s w hd (by omega) hm (by omega)
/-- What num.count answers for the number n. -/
def cntV (n : Nat) : Int := if n ≤ 9223372036854775808 then n else 0
def cntE (n : Nat) : Int := if n ≤ 9223372036854775808 then 0 else 4
set_option maxHeartbeats 400000 in
theorem count_any (s : ByteArray) (w : World) (hd : Digs w) (hm : s.size ≤ maxLen) (hall : s.data.toList.all isDig = true) :
    Calls Tryd.prog 30 #[.string s] w fun e w' => e = .returned (.tuple #[.int .u64 (cntV (valU s.data.toList)), .int .i64 (cntE (valU s.data.toList))]) ∧ Below w.heap.size w w' := by
  unfold maxLen at hm
  have c0 := hd 0 (by omega)
  have HD := Lib.hid hd
  have HALL := Lib.hid hall
  clear hd hall
  go_enter Tryd.func30, Tryd.ntmps30
  go_wp2
  go_loopw [4, 9] (fun far i wr => ∃ k n f : Nat, k ≤ s.size ∧ i = .int .i64 k ∧ far = .int .u64 f ∧ Hid (f = valU (s.data.toList.take k)) ∧ (f : Int) ≤ 9223372036854775808 ∧ wr = w.drewN n) (fun _ i _ => s.size - (intOf i).toNat)
  case atStart => exact ⟨0, 0, 0, by omega, rfl, rfl, rfl, by omega, rfl⟩
  case round =>
    obtain ⟨k, n, f, hk, rfl, rfl, hv, hf, rfl⟩ := hrel
    by_cases hlt : k < s.size
    · have hdig : isDig s[k] = true := by
        have := List.all_eq_true.1 HALL.out s[k] (by simp [ByteArray.getElem_eq_getElem_data])
        exact this
      obtain ⟨d, hd, hd9⟩ : ∃ d : Nat, s[k].toNat = 48 + d ∧ d ≤ 9 := ⟨s[k].toNat - 48, by simp [isDig] at hdig; omega⟩
      have HX := Lib.hid (valU_take_succ hlt)
      by_cases hov : (9223372036854775808 - (d : Int)) / 10 < (f : Int)
      · go_wp2
        go_quiet (fail)
        go_wp2
        go_ret2
        have hbig : ¬ valU s.data.toList ≤ 9223372036854775808 := by
          have h1 := valU_take_le s.data.toList (k + 1)
          have h2 := HX.out
          have h3 := hv.out
          omega
        exact ⟨by rw [cntV, cntE, if_neg hbig, if_neg hbig]; rfl, Below.drewN _ _ (Below.refl _ _)⟩
      · go_wp2
        go_quiet (fail)
        go_wp2
        go_roundw
        case rel =>
          have h2 := HX.out
          have h3 := hv.out
          exact ⟨k + 1, _, f * 10 + d, by omega, by go_num, by go_num, by rw [HX.out, ← h3, hd]; show _ = _; omega, by omega, rfl⟩
        case measure => simp [intOf]; omega
    · go_wp2
      go_ret2
      have h3 := hv.out
      rw [List.take_of_length_le (by simp; omega)] at h3
      have hsm : valU s.data.toList ≤ 9223372036854775808 := by omega
      exact ⟨by rw [cntV, cntE, if_pos hsm, if_pos hsm, ← h3]; rfl, Below.drewN _ _ (Below.refl _ _)⟩
end Num
end Go.Proofs.YtbefjenenciflaaDoor
