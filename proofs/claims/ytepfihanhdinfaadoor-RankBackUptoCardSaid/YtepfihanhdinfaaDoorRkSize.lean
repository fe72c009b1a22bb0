/- Keys: how large the value of a key is. -/
import Derived.Test.YtepfihanhdinfaaDoorRkRaw
import Derived.Test.YtepfihanhdinfaaDoorTreeOpen
namespace Go.Proofs.YtepfihanhdinfaaDoor
open Go.RowKit
set_option linter.unusedVariables false
set_option linter.unusedSimpArgs false
namespace Rk
open Val (VT okN okNL szV szL szK)
theorem endB_ge (x : List UInt8) : x.length ≤ (endB x).length := by
  have := (escZ_len x).1
  unfold endB
  rw [List.length_append]
  omega
mutual
/-- The value of a key is no larger than sixty times the key. -/
theorem raw_size : ∀ t : VT, rawV t → szV t + 4 ≤ 60 * (keyR t).length
  | .mk k b n s l ks, h => by
    unfold rawV at h
    obtain ⟨⟨-, -, -, -, h3, h45, h5, hk⟩, hl⟩ := h
    have e1 := fun h => raw_sizeL l true ks hl h
    have e2 := raw_sizeL l false [] hl (fun h => by cases h)
    have hs : k ≠ 3 → s.size = 0 := fun h => by rw [← ba_len, h3 h]; rfl
    have hsz := endB_ge s.data.toList
    rw [ba_len] at hsz
    unfold szV keyR
    simp only [if_true, Bool.false_eq_true, if_false] at e1 e2
    by_cases k5 : k = 5
    · have e3 := e1 (fun _ => hk k5)
      have e4 := hs (by omega)
      rw [if_pos k5]
      simp only [List.length_cons, List.length_append, List.length_nil]
      omega
    have hks := h5 k5
    have e6 : szK ks = 0 := by rw [hks]; rfl
    rw [if_neg k5]
    by_cases k4 : k = 4
    · have e4 := hs (by omega)
      rw [if_neg (by omega), if_neg (by omega), if_pos k4]
      simp only [List.length_cons, List.length_append, List.length_nil]
      omega
    have e7 : szL l = 0 := by rw [h45 k4 k5, szL]
    by_cases k3 : k = 3
    · rw [if_neg (by omega), if_neg (by omega), if_neg (by omega), if_pos k3]
      simp only [List.length_cons]
      omega
    have e4 := hs k3
    by_cases k6 : k = 6
    · rw [if_pos k6]
      simp only [List.length_cons]
      omega
    rw [if_neg k6]
    by_cases k7 : k = 7
    · rw [if_pos k7]
      simp only [List.length_cons]
      omega
    rw [if_neg k7, if_neg k4, if_neg k3]
    by_cases k1 : k = 1
    · rw [if_pos k1]
      simp only [List.length_cons]
      omega
    rw [if_neg k1]
    by_cases k2 : k = 2
    · rw [if_pos k2]
      simp only [List.length_cons]
      omega
    rw [if_neg k2]
    simp only [List.length_cons]
    omega
theorem raw_sizeL : ∀ (l : List VT) (m : Bool) (ks : List ByteArray), rawL l → (m = true → ks.length = l.length) → szL l + (if m then szK ks else 0) ≤ 60 * (partsR l m ks).length
  | [], m, ks, _, hk => by
    unfold szL
    cases m
    · simp
    · obtain rfl := List.eq_nil_of_length_eq_zero (hk rfl)
      simp [szK]
  | t :: ts, m, ks, h, hk => by
    unfold rawL at h
    have a1 := raw_size t h.1
    unfold szL partsR
    cases m
    · have a2 := raw_sizeL ts false ks.tail h.2 (fun h => by cases h)
      simp only [Bool.false_eq_true, if_false, List.nil_append, List.length_append] at a2 ⊢
      omega
    · match ks, hk with
      | k0 :: ks, hk =>
        have a2 := raw_sizeL ts true ks h.2 (fun _ => by have := hk rfl; simpa using this)
        have a3 := endB_ge k0.data.toList
        rw [ba_len] at a3
        simp only [if_true, List.headD_cons, List.tail_cons, List.cons_append, List.length_cons, List.length_append, szK] at a2 ⊢
        omega
      | [], hk => cases hk rfl
end
end Rk
end Go.Proofs.YtepfihanhdinfaaDoor
