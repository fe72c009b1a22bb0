/-
  NARROWER THAN 'FOR EVERY INPUT', by the rows' own cells (each row's printed sentence says how): ValueChecks: loops, laid · ValueMaps: loops, laid · ValueOrder: loops, laid · ValueEqual: loops, laid · ValueCopies: loops, laid.
  DERIVED. THE GIVEN ROWS OF THIS SEAT. 5 by the template 'for every input the law returns true; each argument reads behind the call as it read before'; 0 by the template 'total and deterministic' (their statements: YtiphegccaijbgaaDoorTotals.lean).
  GIVEN WITH THE SEED: the statements are not yours to turn. If you find one false, say at which input.
  Laid BY PROGRAM, IN A SANDBOX (cutbox-rows.mjs): the forced cells as the released guide's own fill.sh prints them over the translation baf94f3fc4037d73… (all of the seat's roots in one cut). By AI agents, Wed Nov 11 2026. No macro, syntax, notation, axiom, sorry.
-/
import Derived.Test.YtiphegccaijbgaaDoorChecked
import GoSem.Claim
import GoSem.ClaimJoined
import GoSem.ClaimMapViews
import Derived.JoinedTies
import Derived.KernelRfl
namespace Go.Proofs.YtiphegccaijbgaaDoor
/- THE CELL 'sum', in the pinned program and in every row, IS THE sha256 OF THE DUMP (.gsa) THAT YtiphegccaijbgaaDoorProg.lean LOADS. Nothing in Lean hashes anything: it is a label: what it is worth is what the hold of that sum in a sandbox is worth. -/
noncomputable def Tryd.pinned : Pinned := { name := "ytiphegccaijbgaadoor", sum := "baf94f3fc4037d7380f2c4b1bf5a9eaa7604ebcab5643fd00b0f88a6e10b977f", checked := Tryd.checked }
namespace Rows
def none {H : Type} : Left H := { results := [], args := [] }

/- WHAT THE LISTED PACKAGE-LEVEL VARIABLES READ AS WHEN THE CALL BEGINS. Each datum BY PROGRAM (the guide's laid-datum.mjs) off the statement by which the dump's own 'gosem.cut.vars' lays the variable. In a bare row this is a premise. The card (YtiphegccaijbgaaDoorCards.lean) ties it to the program's text. -/
def laid_wattle_value_places {H : Type} : DataW H := .agg [.lit (.int .i64 7), .lit (.int .i64 5), .lit (.int .i64 6), .lit (.int .i64 4), .lit (.int .i64 3), .lit (.int .i64 0), .lit (.int .i64 1), .lit (.int .i64 2)]
def laid_wattle_logic_ands {H : Type} : DataW H := .agg [.agg [.lit (.int .i64 0), .lit (.int .i64 0), .lit (.int .i64 0)], .agg [.lit (.int .i64 0), .lit (.int .i64 1), .lit (.int .i64 2)], .agg [.lit (.int .i64 0), .lit (.int .i64 2), .lit (.int .i64 2)]]

/-- 'wattlelaw03.ValueChecks': WHATEVER THE INPUT: true; the input reads as it did. -/
def valueChecksSpec : ChangeSpec := { name := "valueChecks", fn := fun _ => fun
  | [d] => { results := [.lit (.bool true)], args := [d] }
  | _ => none }
def valueChecksRow : OpenClaim := { program := "ytiphegccaijbgaadoor", sum := "baf94f3fc4037d7380f2c4b1bf5a9eaa7604ebcab5643fd00b0f88a6e10b977f", func := "wattle/wattlelaw03.ValueChecks", spec := "valueChecks", inPlace := ["internal/bytealg.abigen_runtime_cmpstring"], unfollowed := true, recurses := true, named := ["wattle/value.places"], loops := true, apart := false, laid := [("wattle/value.places", laid_wattle_value_places)] }
def ValueChecksSaid : Prop := valueChecksRow.holds Tryd.pinned (OpenSpec.ofChange valueChecksSpec)

/-- ITS FALSE NEIGHBOUR: 'it returns false'. Refute it at one input. -/
def valueChecksWrong : ChangeSpec := { name := "valueChecks", fn := fun _ => fun
  | [d] => { results := [.lit (.bool false)], args := [d] }
  | _ => none }
def ValueChecksWrongFalsely : Prop := valueChecksRow.holds Tryd.pinned (OpenSpec.ofChange valueChecksWrong)

/-- 'wattlelaw03.ValueMaps': WHATEVER THE INPUT: true; the input reads as it did. -/
def valueMapsSpec : ChangeSpec := { name := "valueMaps", fn := fun _ => fun
  | [d1, d2, d3] => { results := [.lit (.bool true)], args := [d1, d2, d3] }
  | _ => none }
def valueMapsRow : OpenClaim := { program := "ytiphegccaijbgaadoor", sum := "baf94f3fc4037d7380f2c4b1bf5a9eaa7604ebcab5643fd00b0f88a6e10b977f", func := "wattle/wattlelaw03.ValueMaps", spec := "valueMaps", inPlace := ["internal/bytealg.abigen_runtime_cmpstring"], unfollowed := true, recurses := true, named := ["wattle/value.places"], loops := true, apart := false, laid := [("wattle/value.places", laid_wattle_value_places)] }
def ValueMapsSaid : Prop := valueMapsRow.holds Tryd.pinned (OpenSpec.ofChange valueMapsSpec)

/-- ITS FALSE NEIGHBOUR: 'it returns false'. Refute it at one input. -/
def valueMapsWrong : ChangeSpec := { name := "valueMaps", fn := fun _ => fun
  | [d1, d2, d3] => { results := [.lit (.bool false)], args := [d1, d2, d3] }
  | _ => none }
def ValueMapsWrongFalsely : Prop := valueMapsRow.holds Tryd.pinned (OpenSpec.ofChange valueMapsWrong)

/-- 'wattlelaw03.ValueOrder': WHATEVER THE INPUT: true; the input reads as it did. -/
def valueOrderSpec : ChangeSpec := { name := "valueOrder", fn := fun _ => fun
  | [d1, d2, d3] => { results := [.lit (.bool true)], args := [d1, d2, d3] }
  | _ => none }
def valueOrderRow : OpenClaim := { program := "ytiphegccaijbgaadoor", sum := "baf94f3fc4037d7380f2c4b1bf5a9eaa7604ebcab5643fd00b0f88a6e10b977f", func := "wattle/wattlelaw03.ValueOrder", spec := "valueOrder", inPlace := ["internal/bytealg.abigen_runtime_cmpstring"], unfollowed := true, recurses := true, named := ["wattle/value.places"], loops := true, apart := false, laid := [("wattle/value.places", laid_wattle_value_places)] }
def ValueOrderSaid : Prop := valueOrderRow.holds Tryd.pinned (OpenSpec.ofChange valueOrderSpec)

/-- ITS FALSE NEIGHBOUR: 'it returns false'. Refute it at one input. -/
def valueOrderWrong : ChangeSpec := { name := "valueOrder", fn := fun _ => fun
  | [d1, d2, d3] => { results := [.lit (.bool false)], args := [d1, d2, d3] }
  | _ => none }
def ValueOrderWrongFalsely : Prop := valueOrderRow.holds Tryd.pinned (OpenSpec.ofChange valueOrderWrong)

/-- 'wattlelaw03.ValueEqual': WHATEVER THE INPUT: true; the input reads as it did. -/
def valueEqualSpec : ChangeSpec := { name := "valueEqual", fn := fun _ => fun
  | [d1, d2] => { results := [.lit (.bool true)], args := [d1, d2] }
  | _ => none }
def valueEqualRow : OpenClaim := { program := "ytiphegccaijbgaadoor", sum := "baf94f3fc4037d7380f2c4b1bf5a9eaa7604ebcab5643fd00b0f88a6e10b977f", func := "wattle/wattlelaw03.ValueEqual", spec := "valueEqual", inPlace := ["internal/bytealg.abigen_runtime_cmpstring"], unfollowed := true, recurses := true, named := ["wattle/value.places", "wattle/logic.ands"], loops := true, apart := false, laid := [("wattle/logic.ands", laid_wattle_logic_ands), ("wattle/value.places", laid_wattle_value_places)] }
def ValueEqualSaid : Prop := valueEqualRow.holds Tryd.pinned (OpenSpec.ofChange valueEqualSpec)

/-- ITS FALSE NEIGHBOUR: 'it returns false'. Refute it at one input. -/
def valueEqualWrong : ChangeSpec := { name := "valueEqual", fn := fun _ => fun
  | [d1, d2] => { results := [.lit (.bool false)], args := [d1, d2] }
  | _ => none }
def ValueEqualWrongFalsely : Prop := valueEqualRow.holds Tryd.pinned (OpenSpec.ofChange valueEqualWrong)

/-- 'wattlelaw03.ValueCopies': WHATEVER THE INPUT: true; the input reads as it did. -/
def valueCopiesSpec : ChangeSpec := { name := "valueCopies", fn := fun _ => fun
  | [d] => { results := [.lit (.bool true)], args := [d] }
  | _ => none }
def valueCopiesRow : OpenClaim := { program := "ytiphegccaijbgaadoor", sum := "baf94f3fc4037d7380f2c4b1bf5a9eaa7604ebcab5643fd00b0f88a6e10b977f", func := "wattle/wattlelaw03.ValueCopies", spec := "valueCopies", inPlace := ["internal/bytealg.abigen_runtime_cmpstring"], unfollowed := true, recurses := true, named := ["wattle/value.places"], loops := true, apart := false, laid := [("wattle/value.places", laid_wattle_value_places)] }
def ValueCopiesSaid : Prop := valueCopiesRow.holds Tryd.pinned (OpenSpec.ofChange valueCopiesSpec)

/-- ITS FALSE NEIGHBOUR: 'it returns false'. Refute it at one input. -/
def valueCopiesWrong : ChangeSpec := { name := "valueCopies", fn := fun _ => fun
  | [d] => { results := [.lit (.bool false)], args := [d] }
  | _ => none }
def ValueCopiesWrongFalsely : Prop := valueCopiesRow.holds Tryd.pinned (OpenSpec.ofChange valueCopiesWrong)

/- THE SECOND FORM. 'bulk': how many values and letters a reading holds, each counted each time it is reached (what is shared counts as often as it is met; a slice's spare places count too). A statement '..UptoSaid' is the law's where the arguments, and the package variables that the reading takes, are together of bulk at most 1048576: NARROWER than '..Said'. Prove '..Said' where nothing that the law and all that it calls make is longer than what came in: it says more and counts as full. Else prove '..UptoSaid'. A law counts once. -/
mutual
def uptoBulk {H : Type} : DataW H → Nat
  | .lit (.string bytes) => bytes.length + 1
  | .lit _ => 1
  | .nil => 1
  | .ptr d => uptoBulk d + 1
  | .slice elems spare => uptoBulkAll elems + uptoBulkAll spare + 1
  | .agg parts => uptoBulkAll parts + 1
  | .iface _ d => uptoBulk d + 1
  | .map entries => uptoBulkEntries entries + 1
  | .held _ => 1
def uptoBulkAll {H : Type} : List (DataW H) → Nat
  | [] => 0
  | d :: r => uptoBulk d + uptoBulkAll r
def uptoBulkEntries {H : Type} : List (Lit × DataW H) → Nat
  | [] => 0
  | x :: r => uptoBulkEntry x + uptoBulkEntries r
def uptoBulkEntry {H : Type} : Lit × DataW H → Nat
  | (.string bytes, d) => bytes.length + uptoBulk d + 1
  | (_, d) => uptoBulk d + 1
 end
def uptoSmall : (H : Type) → List (DataW H) → Bool := fun _ ds => decide (uptoBulkAll ds ≤ 1048576)
def OpenSpec.upto (s : _root_.Go.ChangeSpec) : _root_.Go.OpenSpec := { _root_.Go.OpenSpec.ofChange s with cond := some uptoSmall }

/-- 'wattlelaw03.ValueChecks', WHERE WHAT IT READS IS OF BULK AT MOST 1048576: true; the input reads as it did. -/
def valueChecksUptoRow : OpenClaim := { program := "ytiphegccaijbgaadoor", sum := "baf94f3fc4037d7380f2c4b1bf5a9eaa7604ebcab5643fd00b0f88a6e10b977f", func := "wattle/wattlelaw03.ValueChecks", spec := "valueChecks", inPlace := ["internal/bytealg.abigen_runtime_cmpstring"], unfollowed := true, recurses := true, named := ["wattle/value.places"], loops := true, apart := false, laid := [("wattle/value.places", laid_wattle_value_places)], narrowed := true }
def ValueChecksUptoSaid : Prop := valueChecksUptoRow.holds Tryd.pinned (OpenSpec.upto valueChecksSpec)

/-- 'wattlelaw03.ValueMaps', WHERE WHAT IT READS IS OF BULK AT MOST 1048576: true; the input reads as it did. -/
def valueMapsUptoRow : OpenClaim := { program := "ytiphegccaijbgaadoor", sum := "baf94f3fc4037d7380f2c4b1bf5a9eaa7604ebcab5643fd00b0f88a6e10b977f", func := "wattle/wattlelaw03.ValueMaps", spec := "valueMaps", inPlace := ["internal/bytealg.abigen_runtime_cmpstring"], unfollowed := true, recurses := true, named := ["wattle/value.places"], loops := true, apart := false, laid := [("wattle/value.places", laid_wattle_value_places)], narrowed := true }
def ValueMapsUptoSaid : Prop := valueMapsUptoRow.holds Tryd.pinned (OpenSpec.upto valueMapsSpec)

/-- 'wattlelaw03.ValueOrder', WHERE WHAT IT READS IS OF BULK AT MOST 1048576: true; the input reads as it did. -/
def valueOrderUptoRow : OpenClaim := { program := "ytiphegccaijbgaadoor", sum := "baf94f3fc4037d7380f2c4b1bf5a9eaa7604ebcab5643fd00b0f88a6e10b977f", func := "wattle/wattlelaw03.ValueOrder", spec := "valueOrder", inPlace := ["internal/bytealg.abigen_runtime_cmpstring"], unfollowed := true, recurses := true, named := ["wattle/value.places"], loops := true, apart := false, laid := [("wattle/value.places", laid_wattle_value_places)], narrowed := true }
def ValueOrderUptoSaid : Prop := valueOrderUptoRow.holds Tryd.pinned (OpenSpec.upto valueOrderSpec)

/-- 'wattlelaw03.ValueEqual', WHERE WHAT IT READS IS OF BULK AT MOST 1048576: true; the input reads as it did. -/
def valueEqualUptoRow : OpenClaim := { program := "ytiphegccaijbgaadoor", sum := "baf94f3fc4037d7380f2c4b1bf5a9eaa7604ebcab5643fd00b0f88a6e10b977f", func := "wattle/wattlelaw03.ValueEqual", spec := "valueEqual", inPlace := ["internal/bytealg.abigen_runtime_cmpstring"], unfollowed := true, recurses := true, named := ["wattle/value.places", "wattle/logic.ands"], loops := true, apart := false, laid := [("wattle/logic.ands", laid_wattle_logic_ands), ("wattle/value.places", laid_wattle_value_places)], narrowed := true }
def ValueEqualUptoSaid : Prop := valueEqualUptoRow.holds Tryd.pinned (OpenSpec.upto valueEqualSpec)

/-- 'wattlelaw03.ValueCopies', WHERE WHAT IT READS IS OF BULK AT MOST 1048576: true; the input reads as it did. -/
def valueCopiesUptoRow : OpenClaim := { program := "ytiphegccaijbgaadoor", sum := "baf94f3fc4037d7380f2c4b1bf5a9eaa7604ebcab5643fd00b0f88a6e10b977f", func := "wattle/wattlelaw03.ValueCopies", spec := "valueCopies", inPlace := ["internal/bytealg.abigen_runtime_cmpstring"], unfollowed := true, recurses := true, named := ["wattle/value.places"], loops := true, apart := false, laid := [("wattle/value.places", laid_wattle_value_places)], narrowed := true }
def ValueCopiesUptoSaid : Prop := valueCopiesUptoRow.holds Tryd.pinned (OpenSpec.upto valueCopiesSpec)

end Rows
end Go.Proofs.YtiphegccaijbgaaDoor
