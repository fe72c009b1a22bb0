/- THE WALKS over the document's own answers: how many parts, plain. -/
import Derived.Test.YtepfihanhdinfaaDoorRows
import Derived.Test.YtepfihanhdinfaaDoorValBase
import Derived.Test.YtepfihanhdinfaaDoorVal
import Derived.Test.YtepfihanhdinfaaDoorValCmp
import Derived.Test.YtepfihanhdinfaaDoorValWalk
import Derived.Test.YtepfihanhdinfaaDoorValChk
import Derived.Test.YtepfihanhdinfaaDoorValRef
import Derived.Test.YtepfihanhdinfaaDoorValMay
import Derived.Test.YtepfihanhdinfaaDoorValMay4
import Derived.WalkKit
import Derived.Lib.Hide
import Derived.WalkSpells
import Derived.WalkLawsBesides
namespace Go.Proofs.YtepfihanhdinfaaDoor
open Go.RowKit
set_option linter.unusedVariables false
set_option linter.unusedSimpArgs false
namespace Val
mutual
def plainV : VT → Bool
  | .mk k b n s l ks => plainP (.mk k b n s l ks) && plainL l
def plainL : List VT → Bool
  | [] => true
  | t :: ts => plainV t && plainL ts
end
structure PLoop (l : List VT) (tot j sj : Nat) (cs : Array Value) (w wr : World) : Prop where
  low : Below w.heap.size w wr
  box : Box wr w.heap.size cs
  rest : sj + VT.partsL (l.drop j) = tot
structure QLoop (l : List VT) (tot : Bool) (j : Nat) (cs : Array Value) (w wr : World) : Prop where
  low : Below w.heap.size w wr
  box : Box wr w.heap.size cs
  rest : plainL (l.drop j) = tot
end Val
end Go.Proofs.YtepfihanhdinfaaDoor
