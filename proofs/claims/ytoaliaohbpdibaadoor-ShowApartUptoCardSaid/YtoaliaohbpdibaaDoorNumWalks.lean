/- THE WALKS over package num's sums, products, quotients, and over the document's answers for them: each answers 'fit' of the whole number. -/
import Derived.Test.YtoaliaohbpdibaaDoorRows
import Derived.Test.YtoaliaohbpdibaaDoorNumPlain
import Derived.Test.YtoaliaohbpdibaaDoorShelf
import Derived.WalkKit
import Derived.Lib.Hide
import Derived.WalkSpells
import Derived.WalkLawsBesides
namespace Go.Proofs.YtoaliaohbpdibaaDoor
open Go.RowKit
set_option linter.unusedVariables false
set_option linter.unusedSimpArgs false
namespace Num
set_option maxHeartbeats 400000 in
theorem size_any (a : Int) (w : World) (ha1 : -9223372036854775808 ≤ a) (ha2 : a ≤ 9223372036854775807) :
    Calls Tryd.prog 54 #[.int .i64 a] w fun e w' => e = .returned (.int .u64 (absN a : Int)) ∧ w = w' := by
  go_enter Tryd.func54, Tryd.ntmps54
  go_wp2
  all_goals go_ret
  all_goals refine ⟨ret_int ?_, rfl⟩
  · unfold absN; rw [IntKind.wrap_u64, IntKind.wrap_u64]; omega
  · unfold absN; omega
def BigHi (e : Ending) : Prop := ∃ hi lo : Int, 1 ≤ hi ∧ e = .returned (.tuple #[.int .u64 hi, .int .u64 lo])
end Num
end Go.Proofs.YtoaliaohbpdibaaDoor
