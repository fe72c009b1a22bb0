/- THE WALKS over the document's own Digits and Parse. -/
import Derived.Test.YtbefjenenciflaaDoorNumParsePlain
import Derived.Test.YtbefjenenciflaaDoorNumWalks2
import Derived.Test.YtbefjenenciflaaDoorRows
import Derived.WalkKit
import Derived.Lib.Hide
import Derived.WalkSpells
import Derived.WalkLawsBesides
namespace Go.Proofs.YtbefjenenciflaaDoor
open Go.RowKit
set_option linter.unusedVariables false
set_option linter.unusedSimpArgs false
namespace Num
def digsU (l : List UInt8) : Bool := l.all isDig && !l.isEmpty
set_option maxHeartbeats 400000 in
theorem digits_any (s : ByteArray) (w : World) (hm : s.size ≤ maxLen) :
    Calls Tryd.prog 31 #[.string s] w fun e w' => e = .returned (.bool (digsU s.data.toList)) ∧ w = w' := by
  unfold maxLen at hm
  go_enter Tryd.func31, Tryd.ntmps31
  go_wp2
  go_loop [3] (fun i => ∃ k : Nat, k ≤ s.size ∧ i = .int .i64 k ∧ (∀ j (hj : j < s.size), j < k → isDig s[j] = true)) (fun i => s.size - (intOf i).toNat)
  case atStart => exact ⟨0, by omega, rfl, fun j _ h => by omega⟩
  case round =>
    obtain ⟨k, hk, rfl, hall⟩ := hrel
    have HALL := Lib.hid hall
    clear hall
    by_cases hlt : k < s.size
    · by_cases hd : isDig s[k] = true
      · have h3 : decide ((s[k].toNat : Int) < 48) = false := decide_eq_false (by simp [isDig] at hd; omega)
        have h4 : decide (57 < (s[k].toNat : Int)) = false := decide_eq_false (by simp [isDig] at hd; omega)
        have HDIG := Lib.hid hd
        clear hd
        go_wp2
        go_round
        case rel => exact ⟨k + 1, by omega, by go_num, fun j hj h => by
          rcases (show j < k ∨ j = k by omega) with h | h
          · exact HALL.out j hj h
          · subst h; exact HDIG.out⟩
        case measure => simp [intOf]; omega
      · have hd' : isDig s[k] = false := by simpa using hd
        have he : digsU s.data.toList = false := by unfold digsU; rw [all_dig_at hlt hd']; rfl
        have HE := Lib.hid he
        clear he
        rcases (show s[k].toNat < 48 ∨ 57 < s[k].toNat by simp [isDig] at hd; omega) with h3 | h3
        · have h3' : decide ((s[k].toNat : Int) < 48) = true := decide_eq_true (by omega)
          clear hd hd' h3
          go_wp2
          go_ret
          exact ⟨by rw [HE.out]; rfl, rfl⟩
        · have h3' : decide ((s[k].toNat : Int) < 48) = false := decide_eq_false (by omega)
          have h4 : decide (57 < (s[k].toNat : Int)) = true := decide_eq_true (by omega)
          clear hd hd' h3
          go_wp2
          go_ret
          exact ⟨by rw [HE.out]; rfl, rfl⟩
    · have hall := all_dig_upto (fun j hj => HALL.out j hj (by omega))
      have he : digsU s.data.toList = decide (0 < s.size) := by
        unfold digsU
        rw [hall, ← toList_data]
        by_cases h0 : 0 < s.size
        · rw [toList_ne s h0, decide_eq_true h0]; rfl
        · have : s = ⟨#[]⟩ := by
            apply ByteArray.ext
            exact Array.eq_empty_of_size_eq_zero (by simpa using h0)
          subst this; rw [toList_data]; rfl
      have HE := Lib.hid he
      clear he hall
      go_wp2
      go_ret
      exact ⟨by rw [HE.out]; rfl, rfl⟩
end Num
end Go.Proofs.YtbefjenenciflaaDoor
