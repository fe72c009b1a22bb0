/- value.Copy: a copy of any value that may be. -/
/- THE WALK over copied: a value in new memory. -/
import Derived.Test.YtiphegccaijbgaaDoorRows
import Derived.Test.YtiphegccaijbgaaDoorValBase
import Derived.Test.YtiphegccaijbgaaDoorVal
import Derived.Test.YtiphegccaijbgaaDoorValCmp
import Derived.Test.YtiphegccaijbgaaDoorValWalk
import Derived.Test.YtiphegccaijbgaaDoorValForm2
import Derived.Test.YtiphegccaijbgaaDoorValRef
import Derived.Test.YtiphegccaijbgaaDoorValMay
import Derived.Test.YtiphegccaijbgaaDoorValOwn
import Derived.Test.YtiphegccaijbgaaDoorValCopy
import Derived.WalkKit
import Derived.Lib.Hide
import Derived.WalkSpells
import Derived.WalkLawsBesides
import Derived.Laws.MakeOwn
import Derived.Laws.CopyOwn
import Derived.OwnWalk
import Derived.Outline
import Derived.Deep.Cut
import Derived.Deep.CutRange
import Derived.Deep.DeepCutAuto
import Derived.Test.YtiphegccaijbgaaDoorValCopy
import Derived.Test.YtiphegccaijbgaaDoorValCopied
import Derived.Test.YtiphegccaijbgaaDoorValCopied2
import Derived.Test.YtiphegccaijbgaaDoorValCopied3
import Derived.Test.YtiphegccaijbgaaDoorValPlain
import Derived.Test.YtiphegccaijbgaaDoorValMay4
import Derived.Deep.RegionWith
namespace Go.Proofs.YtiphegccaijbgaaDoor
open Go.RowKit
set_option linter.unusedVariables false
set_option linter.unusedSimpArgs false
namespace Val
theorem mayHere_keys {k : Int} {b : Bool} {n : Int} {s : ByteArray} {nl nk : Nat} {ok : Bool} {d p : Nat} (h : mayHere k b n s nl nk ok d p = true) : nk = nl ∨ nk = 0 := by
  unfold mayHere at h
  simp only [Bool.and_eq_true] at h
  obtain ⟨-, -, -, -, h1, -, h2⟩ := h
  by_cases hk : k = 5
  · subst hk
    left
    simp only [beq_self_eq_true, Bool.not_true, Bool.false_or, Bool.and_eq_true, beq_iff_eq] at h2
    exact h2.1
  · right
    unfold unusedF at h1
    have e : (k == 5) = false := by simpa using hk
    rw [e, Bool.false_or] at h1
    split at h1
    · cases h1
    · split at h1
      · cases h1
      · split at h1
        · cases h1
        · split at h1
          · cases h1
          · simpa using h1
mutual
theorem may_small : ∀ (t : VT) (d p p' : Nat), mayV t d p = some p' → p' ≤ 4096 → small t
  | .mk k b n s l ks, d, p, p', h, hp => by
    unfold mayV at h
    unfold small
    split at h
    · rename_i hh
      have h1 := may_partsL l _ _ _ h
      have h2 := len_le_parts l
      have h3 := mayHere_keys hh
      exact ⟨by omega, may_smallL l _ _ _ h hp⟩
    · cases h
theorem may_smallL : ∀ (l : List VT) (d p p' : Nat), mayL l d p = some p' → p' ≤ 4096 → smallL l
  | [], d, p, p', h, hp => by unfold smallL; trivial
  | t :: ts, d, p, p', h, hp => by
    unfold mayL at h
    unfold smallL
    cases hv : mayV t d p with
    | none => rw [hv] at h; cases h
    | some p1 =>
      rw [hv] at h
      have h2 := may_partsL ts _ _ _ h
      exact ⟨may_small t _ _ _ hv (by omega), may_smallL ts _ _ _ h hp⟩
end
theorem small_may {t : VT} (h : mayB t = true) : small t := by
  unfold mayB at h
  obtain ⟨p, hp⟩ := Option.isSome_iff_exists.1 h
  exact may_small t _ _ _ hp (mayV_le t _ _ _ hp).2
theorem copied_rec (R : Nat) : ∀ N, CopiedIH N R
  | 0 => by
    intro t v B w d m hp
    have := t.parts_pos
    omega
  | N + 1 => by
    intro t v B w d m hp hs hIn hB hBR hR hd hm hd2 hm2
    obtain ⟨k, b, n, s, l, ks⟩ := t
    rw [VT.parts] at hp hd
    have hlp := len_le_parts l
    change 2 * VT.partsL l ≤ m at hm
    unfold VT.In at hIn
    obtain ⟨pl, cl, pk, ck, rfl, h1, h2, h3, h4, hks, hl⟩ := hIn
    unfold small at hs
    by_cases hl0 : 0 < l.length
    · obtain ⟨d', rfl⟩ : ∃ d', d = d' + 1 := ⟨d - 1, by omega⟩
      obtain ⟨m', rfl⟩ : ∃ m', m = m' + 1 := ⟨m - 1, by omega⟩
      have HL := Lib.hid (And.intro (show VT.partsL l ≤ N by omega) (And.intro hs.2 (And.intro hl (And.intro hB (And.intro hBR (And.intro (show VT.partsL l ≤ d' + 1 by omega) (show 2 * VT.partsL l ≤ m' + l.length by omega)))))))
      by_cases hk0 : 0 < ks.length
      · exact copied_lk N R B (Lib.hid (copied_rec R N)) k b n s ks l pl pk cl ck l.length ks.length d' m' w hR HL (Lib.hid rfl) (Lib.hid (by omega)) hl0 (Lib.hid ⟨hd2, hm2⟩) hks rfl hk0 hs.1
      · obtain rfl : ks = [] := List.eq_nil_of_length_eq_zero (by omega)
        exact copied_l0 N R B (Lib.hid (copied_rec R N)) k b n s l pl pk cl ck l.length d' m' w hR HL (Lib.hid rfl) (Lib.hid (by omega)) hl0 (Lib.hid ⟨hd2, hm2⟩)
    · obtain rfl : l = [] := List.eq_nil_of_length_eq_zero (by omega)
      by_cases hk0 : 0 < ks.length
      · exact copied_k0 R B k b n s ks pl pk cl ck ks.length d m w hR hks hB rfl hk0 hs.1
      · obtain rfl : ks = [] := List.eq_nil_of_length_eq_zero (by omega)
        exact copied_00 R k b n s pl pk cl ck d m w hR
def CopyPost (t : VT) (w : World) (e : Ending) (w' : World) : Prop := ∃ v', e = .returned v' ∧ VT.Own w' t (fun j => w.heap.size ≤ j ∧ j < w'.heap.size) v' ∧ Below w.heap.size w w'
end Val
end Go.Proofs.YtiphegccaijbgaaDoor
