/- PLAIN TRUTHS on the walk over a value's parts: in reach, it comes to all of them. -/
import Derived.Test.YtepfihanhdinfaaDoorRows
import Derived.Test.YtepfihanhdinfaaDoorValBase
import Derived.Test.YtepfihanhdinfaaDoorVal
import Derived.Test.YtepfihanhdinfaaDoorValWalk
import Derived.Test.YtepfihanhdinfaaDoorValChk
import Derived.Test.YtepfihanhdinfaaDoorValMay
import Derived.Test.YtepfihanhdinfaaDoorValMay4
import Derived.Test.YtepfihanhdinfaaDoorValRef2
namespace Go.Proofs.YtepfihanhdinfaaDoor
open Go.RowKit
set_option linter.unusedVariables false
namespace Val
mutual
def allV (p : VT → Bool) : VT → Bool
  | .mk k b n s l ks => p (.mk k b n s l ks) && allL p l
def allL (p : VT → Bool) : List VT → Bool
  | [] => true
  | t :: ts => allV p t && allL p ts
end
mutual
theorem walk_all (p : VT → Bool) : ∀ (t : VT) (D M : Nat), t.parts ≤ D → t.parts ≤ M → walkV p t D M = if allV p t then some (M - t.parts) else none
  | .mk k b n s l ks, D, M, hD, hM => by
    rw [VT.parts] at hD hM
    have h1 : walkV p (.mk k b n s l ks) D M = if p (.mk k b n s l ks) then walkL p l (D - 1) (M - 1) else none := by
      unfold walkV
      rw [if_neg (by omega), if_neg (by omega)]
    have h2 : allV p (.mk k b n s l ks) = (p (.mk k b n s l ks) && allL p l) := by rw [allV]
    rw [h1, h2, VT.parts]
    by_cases hp : p (.mk k b n s l ks) = true
    · rw [if_pos hp, hp, walk_allL p l (D - 1) (M - 1) (by omega) (by omega), show M - 1 - VT.partsL l = M - (VT.partsL l + 1) by omega]
      rfl
    · rw [if_neg hp]
      have : p (.mk k b n s l ks) = false := by simpa using hp
      rw [this]
      rfl
theorem walk_allL (p : VT → Bool) : ∀ (l : List VT) (D M : Nat), VT.partsL l ≤ D → VT.partsL l ≤ M → walkL p l D M = if allL p l then some (M - VT.partsL l) else none
  | [], D, M, hD, hM => by unfold walkL allL VT.partsL; rfl
  | t :: ts, D, M, hD, hM => by
    rw [VT.partsL] at hD hM
    unfold walkL
    rw [walk_all p t D M (by omega) (by omega), allL, VT.partsL]
    by_cases h : allV p t = true
    · rw [if_pos h, h]
      show walkL p ts D (M - t.parts) = _
      rw [walk_allL p ts D (M - t.parts) (by omega) (by omega), show M - t.parts - VT.partsL ts = M - (t.parts + VT.partsL ts) by omega]
      rfl
    · rw [if_neg h]
      have : allV p t = false := by simpa using h
      rw [this]
      rfl
end
mutual
theorem all_true : ∀ t : VT, allV (fun _ => true) t = true
  | .mk k b n s l ks => by rw [allV, all_trueL l]; rfl
theorem all_trueL : ∀ l : List VT, allL (fun _ => true) l = true
  | [] => by rw [allL]
  | t :: ts => by rw [allL, all_true t, all_trueL ts]; rfl
end
mutual
theorem all_plain : ∀ t : VT, allV plainP t = plainV t
  | .mk k b n s l ks => by rw [allV, plainV, all_plainL l]
theorem all_plainL : ∀ l : List VT, allL plainP l = plainL l
  | [] => by rw [allL, plainL]
  | t :: ts => by rw [allL, plainL, all_plain t, all_plainL ts]
end
mutual
theorem may_parts : ∀ (t : VT) (d p p' : Nat), mayV t d p = some p' → p' = p + t.parts
  | .mk k b n s l ks, d, p, p', h => by
    unfold mayV at h
    rw [VT.parts]
    split at h
    · have := may_partsL l _ _ _ h; omega
    · cases h
theorem may_partsL : ∀ (l : List VT) (d p p' : Nat), mayL l d p = some p' → p' = p + VT.partsL l
  | [], d, p, p', h => by unfold mayL at h; cases h; rw [VT.partsL]; omega
  | t :: ts, d, p, p', h => by
    unfold mayL at h
    rw [VT.partsL]
    cases hv : mayV t d p with
    | none => rw [hv] at h; cases h
    | some p1 =>
      rw [hv] at h
      have h1 := may_parts t _ _ _ hv
      have h2 := may_partsL ts _ _ _ h
      omega
end
theorem parts_le {t : VT} (h : mayB t = true) : t.parts ≤ 4096 := by
  unfold mayB at h
  obtain ⟨p, hp⟩ := Option.isSome_iff_exists.1 h
  have h1 := may_parts t _ _ _ hp
  have h2 := mayV_le t _ _ _ hp
  omega
theorem far_parts {t : VT} (h : mayB t = true) : walkV (fun _ => true) t 65536 4194304 = some (4194304 - t.parts) := by
  have := parts_le h
  rw [walk_all _ t _ _ (by omega) (by omega), all_true]
  rfl
theorem far_plain {t : VT} (h : mayB t = true) : (walkV plainP t 65536 4194304).isSome = plainV t := by
  have := parts_le h
  rw [walk_all _ t _ _ (by omega) (by omega), all_plain]
  cases plainV t <;> rfl
end Val
end Go.Proofs.YtepfihanhdinfaaDoor
