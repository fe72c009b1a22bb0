/- Values as bytes, plain: numbers in sevens, a value's bytes. -/
import Derived.Test.YtmhlipncelgmlaaRkPlain
namespace Go.Proofs.Ytmhlipncelgmlaa
open Go.RowKit
set_option linter.unusedVariables false
set_option linter.unusedSimpArgs false
namespace Pk
open Val (VT okN okNL szV szL szK)
open Rk (goodV goodL ba_len)
/-- A number in sevens. -/
def sevL (n : Nat) : List UInt8 := if h : n < 128 then [UInt8.ofNat n] else UInt8.ofNat (n % 128 + 128) :: sevL (n / 128)
termination_by n
theorem sevL_lt {n : Nat} (h : n < 128) : sevL n = [UInt8.ofNat n] := by rw [sevL, dif_pos h]
theorem sevL_ge {n : Nat} (h : ¬ n < 128) : sevL n = UInt8.ofNat (n % 128 + 128) :: sevL (n / 128) := by rw [sevL, dif_neg h]
theorem sevL_len : ∀ (k n : Nat), n < 128 ^ (k + 1) → (sevL n).length ≤ k + 1
  | 0, n, h => by rw [sevL_lt (by simpa using h)]; simp
  | k + 1, n, h => by
    by_cases hn : n < 128
    · rw [sevL_lt hn]; simp
    · rw [sevL_ge hn]
      have := sevL_len k (n / 128) (by rw [Nat.div_lt_iff_lt_mul (by decide)]; rw [Nat.pow_succ] at h; exact h)
      simp only [List.length_cons]; omega
theorem sevL_len10 {n : Nat} (h : (n : Int) ≤ 18446744073709551615) : (sevL n).length ≤ 10 := by
  have h1 : (18446744073709551616 : Nat) ≤ 128 ^ (9 + 1) := by decide
  exact sevL_len 9 n (by omega)
theorem sevL_pos (n : Nat) : 1 ≤ (sevL n).length := by
  rw [sevL]; split <;> simp
/-- A number that may lie below 0, among the even and the odd ones. -/
def foldN (n : Int) : Nat := if n < 0 then (-2 * n - 1).toNat else (2 * n).toNat
theorem foldN_le {n : Int} (h : -9223372036854775808 ≤ n ∧ n ≤ 9223372036854775807) : (foldN n : Int) ≤ 18446744073709551615 := by
  unfold foldN; split <;> omega
theorem foldN_inj {a b : Int} (h : foldN a = foldN b) : a = b := by
  unfold foldN at h; split at h <;> split at h <;> omega
/-- A text's bytes, behind how many they are. -/
def textB (s : ByteArray) : List UInt8 := sevL s.size ++ s.data.toList
mutual
/-- A value's bytes. -/
def packB : VT → List UInt8
  | .mk k b n s l ks =>
    if k = 5 then 6 :: (sevL ks.length ++ partsP l true ks) else if k = 6 then 7 :: sevL n.toNat else if k = 7 then 8 :: sevL n.toNat else if k = 4 then 5 :: (sevL l.length ++ partsP l false [])
    else if k = 3 then 4 :: textB s else if k = 1 then [if b then 2 else 1] else if k = 2 then 3 :: sevL (foldN n) else [0]
/-- Those of its parts, behind their names (m). -/
def partsP : List VT → Bool → List ByteArray → List UInt8
  | [], _, _ => []
  | t :: ts, m, ks => (if m then textB (ks.headD default) else []) ++ (packB t ++ partsP ts m ks.tail)
end
theorem parts_at (l : List VT) (j : Nat) (t : VT) (m : Bool) (ks : List ByteArray) (h : l[j]? = some t) :
    partsP (l.drop j) m (ks.drop j) = (if m then textB (ks.getD j default) else []) ++ (packB t ++ partsP (l.drop (j + 1)) m (ks.drop (j + 1))) := by
  obtain ⟨hj, rfl⟩ := List.getElem?_eq_some_iff.1 h
  rw [List.drop_eq_getElem_cons hj, partsP]
  have e1 : (ks.drop j).headD default = ks.getD j default := by
    rw [List.headD_eq_head?_getD, List.head?_drop, List.getD_eq_getElem?_getD]
  have e2 : (ks.drop j).tail = ks.drop (j + 1) := by rw [List.tail_drop]
  rw [e1, e2]
end Pk
end Go.Proofs.Ytmhlipncelgmlaa
