/- THE WALK over formed: is a value, without what its parts are, as its kind asks? -/
import Derived.Test.YtoaliaohbpdibaaDoorRows
import Derived.Test.YtoaliaohbpdibaaDoorValBase
import Derived.Test.YtoaliaohbpdibaaDoorVal
import Derived.Test.YtoaliaohbpdibaaDoorValForm
import Derived.WalkKit
import Derived.Lib.Hide
import Derived.WalkSpells
import Derived.WalkLawsBesides
import Derived.Outline
namespace Go.Proofs.YtoaliaohbpdibaaDoor
open Go.RowKit
set_option linter.unusedVariables false
set_option linter.unusedSimpArgs false
namespace Val
/-- A value of kind k with these fields, a map's keys being as they should or not. -/
def formedF (k : Int) (b : Bool) (n : Int) (s : ByteArray) (nl nk : Nat) (ok : Bool) : Bool :=
  if k = 0 then !b && (n == 0 && (s.toList.isEmpty && (nl == 0 && nk == 0)))
  else if k = 1 then n == 0 && (s.toList.isEmpty && (nl == 0 && nk == 0))
  else if k = 2 then !b && (s.toList.isEmpty && (nl == 0 && nk == 0))
  else if k = 6 ∨ k = 7 then decide (1 ≤ n) && (!b && (s.toList.isEmpty && (nl == 0 && nk == 0)))
  else if k = 3 then !b && (n == 0 && (nl == 0 && nk == 0))
  else if k = 4 then !b && (n == 0 && (s.toList.isEmpty && nk == 0))
  else if k = 5 then nk == nl && (ok && (!b && (n == 0 && s.toList.isEmpty)))
  else false
def OkB (k : Int) (b : Bool) (n : Int) (s : ByteArray) (nl nk : Nat) (ok : Bool) (W : World) (e : Ending) (w' : World) : Prop := e = .returned (.bool (formedF k b n s nl nk ok)) ∧ Below W.heap.size W w'
theorem cast_zero (n : Nat) : ((n : Int) == 0) = (n == 0) := by
  rw [Bool.eq_iff_iff]
  simp
theorem two_below (W : World) (a b : Obj) : Below W.heap.size W ((W.alloc a).alloc b) := ((Below.refl _ W).alloc (Nat.le_refl _) _).alloc (by simp) _
/-- Is a value, without what its parts are, as its kind asks? -/
def formedV : VT → Bool
  | .mk k b n s l ks => formedF k b n s l.length ks.length (keysTo ks ks.length)
theorem formedF_ok {k : Int} {b : Bool} {n : Int} {s : ByteArray} {nl nk : Nat} {ok ok' : Bool} (h : k ≠ 5) : formedF k b n s nl nk ok = formedF k b n s nl nk ok' := by
  unfold formedF
  simp only [if_neg h]
end Val
end Go.Proofs.YtoaliaohbpdibaaDoor
