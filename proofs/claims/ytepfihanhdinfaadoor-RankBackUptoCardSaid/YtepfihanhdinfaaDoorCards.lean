/-
  DERIVED. GIVEN WITH THE SEED: THE CARDS: each row of YtepfihanhdinfaaDoorRows.lean that lists a variable, with what it lists TIED to the program's text (the seventh form; the later family's looks); each row that meets fmt, with fmt's text TOLD by the authors' own Lean function (tested against real Go, not proved from fmt's source: count such statements apart). THE CARD IS WHAT COUNTS. Prove the row's statement (the work); the ties are given (YtepfihanhdinfaaDoorTie.lean); close each card by the builder's one call (the guide's Derived/Test/ToyasCard.lean, 'card_holds'). Laid BY PROGRAM, IN A SANDBOX (cutbox-door.mjs). By AI agents, Wed Nov 11 2026. No macro, syntax, notation, axiom, sorry.
-/
import Derived.Test.YtepfihanhdinfaaDoorRows
import GoSem.ClaimSeven
namespace Go.Proofs.YtepfihanhdinfaaDoor
namespace Rows

/-- THE TIED CARD OF 'wattlelaw03.ValueMaps'. -/
def valueMapsCard : Claim7 := { stood := { row := valueMapsRow, standIns := [], harness := (true, "f90635efdf8802ae41a1cc82abdab9cf4bed596008e38a2cee9ed38a43cd5d15"), looks := false }, kinds := [], alts := [], laidByText := true, laidKinds := [.data], laidTests := true, laidLooks := .later }
def ValueMapsCardSaid : Prop := Claim7.holds Tryd.pinned (.plain (OpenSpec.ofChange valueMapsSpec)) valueMapsCard

/-- THE TIED CARD OF 'wattlelaw06.RankReads'. -/
def rankReadsCard : Claim7 := { stood := { row := rankReadsRow, standIns := [], harness := (true, "f90635efdf8802ae41a1cc82abdab9cf4bed596008e38a2cee9ed38a43cd5d15"), looks := false }, kinds := [], alts := [], laidByText := true, laidKinds := [.data, .pinned], laidTests := true, laidLooks := .later }
def RankReadsCardSaid : Prop := Claim7.holds Tryd.pinned (.plain (OpenSpec.ofChange rankReadsSpec)) rankReadsCard

/-- THE TIED CARD OF 'wattlelaw06.RankBack'. -/
def rankBackCard : Claim7 := { stood := { row := rankBackRow, standIns := [], harness := (true, "f90635efdf8802ae41a1cc82abdab9cf4bed596008e38a2cee9ed38a43cd5d15"), looks := false }, kinds := [], alts := [], laidByText := true, laidKinds := [.data, .pinned], laidTests := true, laidLooks := .later }
def RankBackCardSaid : Prop := Claim7.holds Tryd.pinned (.plain (OpenSpec.ofChange rankBackSpec)) rankBackCard

/-- THE SECOND FORM's CARD OF 'wattlelaw03.ValueMaps'. -/
def valueMapsUptoCard : Claim7 := { stood := { row := valueMapsUptoRow, standIns := [], harness := (true, "f90635efdf8802ae41a1cc82abdab9cf4bed596008e38a2cee9ed38a43cd5d15"), looks := false }, kinds := [], alts := [], laidByText := true, laidKinds := [.data], laidTests := true, laidLooks := .later }
def ValueMapsUptoCardSaid : Prop := Claim7.holds Tryd.pinned (.plain (OpenSpec.upto valueMapsSpec)) valueMapsUptoCard

/-- THE SECOND FORM's CARD OF 'wattlelaw06.RankReads'. -/
def rankReadsUptoCard : Claim7 := { stood := { row := rankReadsUptoRow, standIns := [], harness := (true, "f90635efdf8802ae41a1cc82abdab9cf4bed596008e38a2cee9ed38a43cd5d15"), looks := false }, kinds := [], alts := [], laidByText := true, laidKinds := [.data, .pinned], laidTests := true, laidLooks := .later }
def RankReadsUptoCardSaid : Prop := Claim7.holds Tryd.pinned (.plain (OpenSpec.upto rankReadsSpec)) rankReadsUptoCard

/-- THE SECOND FORM's CARD OF 'wattlelaw06.RankBack'. -/
def rankBackUptoCard : Claim7 := { stood := { row := rankBackUptoRow, standIns := [], harness := (true, "f90635efdf8802ae41a1cc82abdab9cf4bed596008e38a2cee9ed38a43cd5d15"), looks := false }, kinds := [], alts := [], laidByText := true, laidKinds := [.data, .pinned], laidTests := true, laidLooks := .later }
def RankBackUptoCardSaid : Prop := Claim7.holds Tryd.pinned (.plain (OpenSpec.upto rankBackSpec)) rankBackUptoCard
end Rows
end Go.Proofs.YtepfihanhdinfaaDoor
