/- THE WALK over (*reach).walk: whatever is shown each part. -/
import Derived.Test.YtoaliaohbpdibaaDoorRows
import Derived.Test.YtoaliaohbpdibaaDoorValBase
import Derived.Test.YtoaliaohbpdibaaDoorVal
import Derived.Test.YtoaliaohbpdibaaDoorValForm2
import Derived.Test.YtoaliaohbpdibaaDoorValCmp
import Derived.WalkKit
import Derived.Lib.Hide
import Derived.WalkSpells
import Derived.WalkLawsBesides
import Derived.Outline
namespace Go.Proofs.YtoaliaohbpdibaaDoor
open Go.RowKit
set_option linter.unusedVariables false
set_option linter.unusedSimpArgs false
namespace Val
mutual
/-- How many parts may yet be, when all of t has been shown and has been said yes to; none: a no, or out of reach. -/
def walkV (p : VT → Bool) : VT → Nat → Nat → Option Nat
  | .mk k b n s l ks, d, m => if d = 0 then none else if m = 0 then none else if p (.mk k b n s l ks) then walkL p l (d - 1) (m - 1) else none
def walkL (p : VT → Bool) : List VT → Nat → Nat → Option Nat
  | [], _, m => some m
  | t :: ts, d, m => match walkV p t d m with
    | none => none
    | some m' => walkL p ts d m'
end
mutual
theorem walkV_le {p : VT → Bool} : ∀ (t : VT) (d m m' : Nat), walkV p t d m = some m' → m' < m
  | .mk k b n s l ks, d, m, m', h => by
    unfold walkV at h
    split at h
    · cases h
    · split at h
      · cases h
      · split at h
        · have := walkL_le l _ _ _ h; omega
        · cases h
theorem walkL_le {p : VT → Bool} : ∀ (l : List VT) (d m m' : Nat), walkL p l d m = some m' → m' ≤ m
  | [], d, m, m', h => by unfold walkL at h; cases h; omega
  | t :: ts, d, m, m', h => by
    unfold walkL at h
    cases hv : walkV p t d m with
    | none => rw [hv] at h; cases h
    | some m1 =>
      rw [hv] at h
      have h1 := walkV_le t _ _ _ hv
      have h2 := walkL_le ts _ _ _ h
      omega
end
/-- What is shown the parts: a function g, with what it has captured; it says p; what it keeps. -/
structure See (g : Nat) (lb : Array Value) (p : VT → Bool) (B C R : Nat) (X : Nat → Prop) (I : Nat → World → Prop) : Prop where
  enters : ∀ args w, (callFunc g args).run Tryd.prog w = .ok (.enter g args) w
  call : ∀ (t : VT) (v : Value) (w : World) (k : Nat), VT.In w B t v → B ≤ w.heap.size → C ≤ w.heap.size → I k w → Calls Tryd.prog g (#[v] ++ lb) w fun e w' => e = .returned (.bool (p t)) ∧ Keeps X w w' ∧ I (k + 1) w'
  apart : ∀ k, X k → B ≤ k ∧ k ≠ R ∧ k < C
  same : ∀ (k : Nat) (w w' : World), I k w → Keeps (· = R) w w' → I k w'
theorem drop_at {l : List VT} {j : Nat} {x : VT} (h : l[j]? = some x) : l.drop j = x :: l.drop (j + 1) := by
  obtain ⟨hlt, rfl⟩ := List.getElem?_eq_some_iff.1 h
  exact List.drop_eq_getElem_cons hlt
end Val
end Go.Proofs.YtoaliaohbpdibaaDoor
