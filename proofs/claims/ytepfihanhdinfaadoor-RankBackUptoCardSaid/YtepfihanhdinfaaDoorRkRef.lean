/- The document's keys: eight bytes, ended texts. -/
import Derived.Test.YtepfihanhdinfaaDoorRkBase
import Derived.Lib.BufferRead
import Derived.Lib.SlBytesRow
namespace Go.Proofs.YtepfihanhdinfaaDoor
open Go.RowKit
set_option linter.unusedVariables false
set_option linter.unusedSimpArgs false
namespace Rk
open Val (VT Keeps Box okN okNL szV szL szK)
theorem ba_append (a b : ByteArray) : (a ++ b).data.toList = a.data.toList ++ b.data.toList := by
  rw [ByteArray.data_append, Array.toList_append]
theorem ba_ext {a b : ByteArray} (h : a.data.toList = b.data.toList) : a = b := ByteArray.ext (Array.ext' h)
theorem ba_size (a : ByteArray) : a.size = a.data.toList.length := by simp
theorem ret_text {a : ByteArray} {l : List UInt8} (h : a.data.toList = l) : Ending.returned (.string a) = .returned (.string ⟨l.toArray⟩) := by
  rw [← h]
theorem be8_drop (n j : Nat) (h : j < 8) : (be8 n).drop (8 - (j + 1)) = dig n j :: (be8 n).drop (8 - j) := by
  have h8 : j = 0 ∨ j = 1 ∨ j = 2 ∨ j = 3 ∨ j = 4 ∨ j = 5 ∨ j = 6 ∨ j = 7 := by omega
  rcases h8 with rfl | rfl | rfl | rfl | rfl | rfl | rfl | rfl <;> rfl
theorem esc_at (s : ByteArray) (j : Nat) (h : j < s.size) : escZ (s.data.toList.drop j) = (if s[j] = 0 then [0, 255] else [s[j]]) ++ escZ (s.data.toList.drop (j + 1)) := by
  have hl : j < s.data.toList.length := by simpa using h
  rw [List.drop_eq_getElem_cons hl, escZ]
  have : s.data.toList[j] = s[j] := by simp [ByteArray.getElem_eq_getElem_data]
  rw [this]
theorem extract_one (s : ByteArray) (j : Nat) (h : j < s.size) : (s.extract j (j + 1)).data.toList = [s[j]] := by
  have hl : j < s.data.toList.length := by simpa using h
  rw [Lib.extract_data, show j + 1 - j = 1 by omega, List.drop_eq_getElem_cons hl]
  simp [ByteArray.getElem_eq_getElem_data]
/-! ### The document's key of a value of each kind -/
section
variable (b : Bool) (n : Int) (s : ByteArray) (pl pk : Option Addr) (nl cl nk ck : Nat) (w : World)
end
end Rk
end Go.Proofs.YtepfihanhdinfaaDoor
