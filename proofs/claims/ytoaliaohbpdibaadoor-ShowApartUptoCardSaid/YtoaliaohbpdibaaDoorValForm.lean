/- THE WALKS over formed and keysRise: is a value, without what its parts are, as its kind asks? -/
import Derived.Test.YtoaliaohbpdibaaDoorRows
import Derived.Test.YtoaliaohbpdibaaDoorValBase
import Derived.Test.YtoaliaohbpdibaaDoorVal
import Derived.WalkKit
import Derived.Lib.Hide
import Derived.WalkSpells
import Derived.WalkLawsBesides
import Derived.Outline
namespace Go.Proofs.YtoaliaohbpdibaaDoor
open Go.RowKit
set_option linter.unusedVariables false
set_option linter.unusedSimpArgs false
namespace Val
/-- Is the text at place i as a map's key: of a name's length, above the one ahead? -/
def keyOk (ks : List ByteArray) (i : Nat) : Bool := decide (0 < (ks.getD i default).size) && (decide ((ks.getD i default).size ≤ 64) && (decide (i = 0) || Op.bytesLess (ks.getD (i - 1) default).toList (ks.getD i default).toList))
/-- The first i keys are. -/
def keysTo (ks : List ByteArray) : Nat → Bool
  | 0 => true
  | i + 1 => keysTo ks i && keyOk ks i
theorem keysTo_false {ks : List ByteArray} {i : Nat} (h : keyOk ks i = false) : ∀ n, i < n → keysTo ks n = false
  | 0, hn => by omega
  | n + 1, hn => by
    unfold keysTo
    rcases Nat.lt_or_ge i n with h' | h'
    · rw [keysTo_false h n h']; rfl
    · obtain rfl : i = n := by omega
      rw [h]; simp
theorem keyOk_none {ks : List ByteArray} {k : Nat} (h : (ks.getD k default).size = 0) : keyOk ks k = false := by
  unfold keyOk
  rw [h]
  rfl
theorem keyOk_long {ks : List ByteArray} {k : Nat} (h : 64 < (ks.getD k default).size) : keyOk ks k = false := by
  have : decide ((ks.getD k default).size ≤ 64) = false := by simpa using h
  unfold keyOk
  rw [this]
  simp
theorem keyOk_zero {ks : List ByteArray} (h : 0 < (ks.getD 0 default).size) (h' : (ks.getD 0 default).size ≤ 64) : keyOk ks 0 = true := by
  unfold keyOk
  rw [decide_eq_true h, decide_eq_true h']
  rfl
theorem keyOk_less {ks : List ByteArray} {j : Nat} {x y : ByteArray} (hx : ks.getD (j + 1) default = x) (hy : ks.getD j default = y) (h : 0 < x.size) (h' : x.size ≤ 64) : keyOk ks (j + 1) = Op.bytesLess y.toList x.toList := by
  unfold keyOk
  rw [hx, decide_eq_true h, decide_eq_true h', show j + 1 - 1 = j by omega, hy]
  simp
end Val
end Go.Proofs.YtoaliaohbpdibaaDoor
