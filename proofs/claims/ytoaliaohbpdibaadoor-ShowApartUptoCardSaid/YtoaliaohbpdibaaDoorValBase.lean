/- THE WALKS over the small functions of layer value: how far a walk may go, where a kind stands, comparisons of two numbers. -/
import Derived.Test.YtoaliaohbpdibaaDoorRows
import Derived.WalkKit
import Derived.Lib.Hide
import Derived.WalkSpells
import Derived.WalkLawsBesides
import Derived.Below
import Derived.IntWalk
import Derived.Laws.OwnMore
import Derived.RangeFuncRecord
namespace Go.Proofs.YtoaliaohbpdibaaDoor
open Go.RowKit
set_option linter.unusedVariables false
set_option linter.unusedSimpArgs false
namespace Val
/-- Of two numbers: below, the same, above. -/
def cmpV (a b : Int) : Int := if a < b then -1 else if b < a then 1 else 0
def placesL : List Int := [7, 5, 6, 4, 3, 0, 1, 2]
/-- Where a kind stands. -/
def placeV (k : Int) : Int := if k < 0 then k else if 8 ≤ k then k else placesL.getD k.toNat 0
theorem ret_int {k : IntKind} {a b : Int} (h : a = b) : Ending.returned (.int k a) = .returned (.int k b) := by rw [h]
def ofV (b : Bool) : Int := if b then 1 else 0
/-! ### How far a walk may go -/
/-- What a step of a walk leaves: all but block R's two cells as it was. -/
def Stepped (w : World) (R : Nat) (d m : Int) (w' : World) : Prop := w' = (w.setCell ⟨R, 0, none⟩ (.int .i64 d)).setCell ⟨R, 1, none⟩ (.int .i64 m)
end Val
end Go.Proofs.YtoaliaohbpdibaaDoor
