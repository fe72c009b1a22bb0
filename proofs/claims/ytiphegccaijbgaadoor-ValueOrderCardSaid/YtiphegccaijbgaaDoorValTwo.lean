/- Two names, the greater first: how they stand in order. -/
import Derived.Test.YtiphegccaijbgaaDoorRows
import Derived.Test.YtiphegccaijbgaaDoorValBase
import Derived.Test.YtiphegccaijbgaaDoorValOrd
import Derived.Test.YtiphegccaijbgaaDoorValSort
namespace Go.Proofs.YtiphegccaijbgaaDoor
open Go.RowKit Go.Shelf Go.Lib Go.Sort
set_option linter.unusedVariables false
namespace Val
/-- The names y and x. -/
def yx : List ByteArray := [⟨#[121]⟩, ⟨#[120]⟩]
theorem yx_lt (i j : Fin (1 + 1)) : ltOf (nameCmp yx 1) i j = decide (j.val < i.val) := by
  revert i j
  decide
theorem yx_swo : SWO (ltOf (nameCmp yx 1)) := by
  refine ⟨fun x => ?_, fun x y z h1 h2 => ?_, fun x y z h1 h2 => ?_⟩
  · rw [yx_lt]; simp
  · rw [yx_lt] at *; simp at *; omega
  · rw [yx_lt] at *; simp at *; omega
theorem yx_row (d' : Array (Fin (1 + 1))) (hp : PermIn 0 (1 + 1) (Array.ofFn (n := 1 + 1) id) d') (hs : SortedIn (ltOf (nameCmp yx 1)) 0 (1 + 1) d') : d'[0]! = 1 ∧ d'[1]! = 0 := by
  have h1 := hs 0 1 (Nat.le_refl _) (by omega) (by omega)
  rw [yx_lt] at h1
  have hsz : d'.size = 2 := by have := hp.1; simpa using this
  have hperm := hp.2.2
  obtain ⟨l⟩ := d'
  obtain ⟨a, b, rfl⟩ : ∃ a b, l = [a, b] := by
    match l, hsz with
    | [a, b], _ => exact ⟨a, b, rfl⟩
  have hperm2 : [a, b].Perm [0, 1] := by simpa using hperm
  have hn : a ≠ b := by
    have := hperm2.nodup_iff.2 (by decide)
    simpa using this
  have key : ∀ a b : Fin (1 + 1), a ≠ b → decide (a.val < b.val) = false → a = 1 ∧ b = 0 := by decide
  exact key a b hn h1
end Val
end Go.Proofs.YtiphegccaijbgaaDoor
