/- What a copy comes to (for seats without value.Copy: in place of XValCopyR). -/
import Derived.Test.YtmhlipncelgmlaaRows
import Derived.Test.YtmhlipncelgmlaaVal
import Derived.Test.YtmhlipncelgmlaaValOwn
import Derived.Test.YtmhlipncelgmlaaValCmp
import Derived.Test.YtmhlipncelgmlaaValCopy
namespace Go.Proofs.Ytmhlipncelgmlaa
open Go.RowKit
set_option linter.unusedVariables false
namespace Val
def CopyPost (t : VT) (w : World) (e : Ending) (w' : World) : Prop := ∃ v', e = .returned v' ∧ VT.Own w' t (fun j => w.heap.size ≤ j ∧ j < w'.heap.size) v' ∧ Below w.heap.size w w'
theorem box_free {w : World} {b : Nat} {cs : Array Value} (h : Box w b cs) (i : Nat) : w.frozen? ⟨b, i, none⟩ = false := by
  unfold Box at h
  simp [World.frozen?, h]
theorem box_six {w : World} {b : Nat} {c0 c1 c2 c3 c4 c5 v0 v1 v2 v3 v4 v5 : Value} (h : Box w b #[c0, c1, c2, c3, c4, c5]) : Box (six w b 0 v0 v1 v2 v3 v4 v5) b #[v0, v1, v2, v3, v4, v5] := by
  unfold Box at h ⊢
  rw [six_block h]
  rfl
end Val
end Go.Proofs.Ytmhlipncelgmlaa
