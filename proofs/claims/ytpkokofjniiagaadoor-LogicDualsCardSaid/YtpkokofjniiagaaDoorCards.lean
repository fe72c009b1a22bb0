/-
  DERIVED. GIVEN WITH THE SEED: THE CARDS: each row of YtpkokofjniiagaaDoorRows.lean that lists a variable, with what it lists TIED to the program's text (the seventh form; the later family's looks); each row that meets fmt, with fmt's text TOLD by the authors' own Lean function (tested against real Go, not proved from fmt's source: count such statements apart). THE CARD IS WHAT COUNTS. Prove the row's statement (the work); the ties are given (YtpkokofjniiagaaDoorTie.lean); close each card by the builder's one call (the guide's Derived/Test/ToyasCard.lean, 'card_holds'). Laid BY PROGRAM, IN A SANDBOX (cutbox-door.mjs). By AI agents, Wed Nov 11 2026. No macro, syntax, notation, axiom, sorry.
-/
import Derived.Test.YtpkokofjniiagaaDoorRows
import GoSem.ClaimSeven
namespace Go.Proofs.YtpkokofjniiagaaDoor
namespace Rows

/-- THE TIED CARD OF 'wattlelaw02.LogicTables'. -/
def logicTablesCard : Claim7 := { stood := { row := logicTablesRow, standIns := [], harness := (true, "f42ac6a1b4b45bb4f8d0c85c03f517cf3d08bf93fd40e84d4775647c3c6f7b0d"), looks := false }, kinds := [], alts := [], laidByText := true, laidKinds := [.data, .data, .data, .data], laidTests := true, laidLooks := .later }
def LogicTablesCardSaid : Prop := Claim7.holds Tryd.pinned (.plain (OpenSpec.ofChange logicTablesSpec)) logicTablesCard

/-- THE TIED CARD OF 'wattlelaw02.LogicLists'. -/
def logicListsCard : Claim7 := { stood := { row := logicListsRow, standIns := [], harness := (true, "f42ac6a1b4b45bb4f8d0c85c03f517cf3d08bf93fd40e84d4775647c3c6f7b0d"), looks := false }, kinds := [], alts := [], laidByText := true, laidKinds := [.data, .data, .data], laidTests := true, laidLooks := .later }
def LogicListsCardSaid : Prop := Claim7.holds Tryd.pinned (.plain (OpenSpec.ofChange logicListsSpec)) logicListsCard

/-- THE TIED CARD OF 'wattlelaw02.LogicDuals'. -/
def logicDualsCard : Claim7 := { stood := { row := logicDualsRow, standIns := [], harness := (true, "f42ac6a1b4b45bb4f8d0c85c03f517cf3d08bf93fd40e84d4775647c3c6f7b0d"), looks := false }, kinds := [], alts := [], laidByText := true, laidKinds := [.data, .data, .data, .data], laidTests := true, laidLooks := .later }
def LogicDualsCardSaid : Prop := Claim7.holds Tryd.pinned (.plain (OpenSpec.ofChange logicDualsSpec)) logicDualsCard

/-- THE TIED CARD OF 'wattlelaw02.LogicKnown'. -/
def logicKnownCard : Claim7 := { stood := { row := logicKnownRow, standIns := [], harness := (true, "f42ac6a1b4b45bb4f8d0c85c03f517cf3d08bf93fd40e84d4775647c3c6f7b0d"), looks := false }, kinds := [], alts := [], laidByText := true, laidKinds := [.data, .data, .data, .data], laidTests := true, laidLooks := .later }
def LogicKnownCardSaid : Prop := Claim7.holds Tryd.pinned (.plain (OpenSpec.ofChange logicKnownSpec)) logicKnownCard

/-- THE TIED CARD OF 'wattlelaw02.LogicParts'. -/
def logicPartsCard : Claim7 := { stood := { row := logicPartsRow, standIns := [], harness := (true, "f42ac6a1b4b45bb4f8d0c85c03f517cf3d08bf93fd40e84d4775647c3c6f7b0d"), looks := false }, kinds := [], alts := [], laidByText := true, laidKinds := [.data, .data, .data], laidTests := true, laidLooks := .later }
def LogicPartsCardSaid : Prop := Claim7.holds Tryd.pinned (.plain (OpenSpec.ofChange logicPartsSpec)) logicPartsCard

/-- THE SECOND FORM's CARD OF 'wattlelaw02.LogicTables'. -/
def logicTablesUptoCard : Claim7 := { stood := { row := logicTablesUptoRow, standIns := [], harness := (true, "f42ac6a1b4b45bb4f8d0c85c03f517cf3d08bf93fd40e84d4775647c3c6f7b0d"), looks := false }, kinds := [], alts := [], laidByText := true, laidKinds := [.data, .data, .data, .data], laidTests := true, laidLooks := .later }
def LogicTablesUptoCardSaid : Prop := Claim7.holds Tryd.pinned (.plain (OpenSpec.upto logicTablesSpec)) logicTablesUptoCard

/-- THE SECOND FORM's CARD OF 'wattlelaw02.LogicLists'. -/
def logicListsUptoCard : Claim7 := { stood := { row := logicListsUptoRow, standIns := [], harness := (true, "f42ac6a1b4b45bb4f8d0c85c03f517cf3d08bf93fd40e84d4775647c3c6f7b0d"), looks := false }, kinds := [], alts := [], laidByText := true, laidKinds := [.data, .data, .data], laidTests := true, laidLooks := .later }
def LogicListsUptoCardSaid : Prop := Claim7.holds Tryd.pinned (.plain (OpenSpec.upto logicListsSpec)) logicListsUptoCard

/-- THE SECOND FORM's CARD OF 'wattlelaw02.LogicDuals'. -/
def logicDualsUptoCard : Claim7 := { stood := { row := logicDualsUptoRow, standIns := [], harness := (true, "f42ac6a1b4b45bb4f8d0c85c03f517cf3d08bf93fd40e84d4775647c3c6f7b0d"), looks := false }, kinds := [], alts := [], laidByText := true, laidKinds := [.data, .data, .data, .data], laidTests := true, laidLooks := .later }
def LogicDualsUptoCardSaid : Prop := Claim7.holds Tryd.pinned (.plain (OpenSpec.upto logicDualsSpec)) logicDualsUptoCard

/-- THE SECOND FORM's CARD OF 'wattlelaw02.LogicKnown'. -/
def logicKnownUptoCard : Claim7 := { stood := { row := logicKnownUptoRow, standIns := [], harness := (true, "f42ac6a1b4b45bb4f8d0c85c03f517cf3d08bf93fd40e84d4775647c3c6f7b0d"), looks := false }, kinds := [], alts := [], laidByText := true, laidKinds := [.data, .data, .data, .data], laidTests := true, laidLooks := .later }
def LogicKnownUptoCardSaid : Prop := Claim7.holds Tryd.pinned (.plain (OpenSpec.upto logicKnownSpec)) logicKnownUptoCard

/-- THE SECOND FORM's CARD OF 'wattlelaw02.LogicParts'. -/
def logicPartsUptoCard : Claim7 := { stood := { row := logicPartsUptoRow, standIns := [], harness := (true, "f42ac6a1b4b45bb4f8d0c85c03f517cf3d08bf93fd40e84d4775647c3c6f7b0d"), looks := false }, kinds := [], alts := [], laidByText := true, laidKinds := [.data, .data, .data], laidTests := true, laidLooks := .later }
def LogicPartsUptoCardSaid : Prop := Claim7.holds Tryd.pinned (.plain (OpenSpec.upto logicPartsSpec)) logicPartsUptoCard
end Rows
end Go.Proofs.YtpkokofjniiagaaDoor
