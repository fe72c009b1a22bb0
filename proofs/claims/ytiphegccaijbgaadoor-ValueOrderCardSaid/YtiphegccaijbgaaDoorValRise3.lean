/- rising of two names, the greater first. -/
import Derived.Test.YtiphegccaijbgaaDoorRows
import Derived.Test.YtiphegccaijbgaaDoorValBase
import Derived.Test.YtiphegccaijbgaaDoorValCmp
import Derived.Test.YtiphegccaijbgaaDoorValSort
import Derived.Test.YtiphegccaijbgaaDoorValRise2
import Derived.Test.YtiphegccaijbgaaDoorValTwo
import Derived.WalkKit
namespace Go.Proofs.YtiphegccaijbgaaDoor
open Go.RowKit Go.Shelf Go.Lib Go.Sort
set_option linter.unusedVariables false
namespace Val
theorem rising_yx (kb ko c : Nat) (w : World) (hkb : kb < w.heap.size) (h0 : w.cell? ⟨kb, ko, none⟩ = some (.string ⟨#[121]⟩)) (h1 : w.cell? ⟨kb, ko + 1, none⟩ = some (.string ⟨#[120]⟩)) :
    Calls Tryd.prog 36 #[.slice (some ⟨kb, ko, none⟩) 2 c] w fun e w' => ∃ A, e = .returned (.slice (some ⟨A, 0, none⟩) 2 2) ∧ w.heap.size ≤ A ∧ A < w'.heap.size ∧ w'.cell? ⟨A, 0, none⟩ = some (.int .i64 1) ∧ w'.cell? ⟨A, 1, none⟩ = some (.int .i64 0) ∧ Below w.heap.size w w' := by
  refine (rising_any yx 1 kb ko c w hkb (fun i hi => ?_) (by omega) yx_swo).mono ?_
  · match i, hi with
    | 0, _ => exact h0
    | 1, _ => exact h1
  · rintro e w' ⟨A, d', rfl, hA, hA2, hp, hs, hc, hb⟩
    obtain ⟨e0, e1⟩ := yx_row d' hp hs
    have c0 := hc 0 (by omega)
    have c1 := hc 1 (by omega)
    rw [e0] at c0
    rw [e1] at c1
    exact ⟨A, rfl, hA, hA2, c0, c1, hb⟩
end Val
end Go.Proofs.YtiphegccaijbgaaDoor
