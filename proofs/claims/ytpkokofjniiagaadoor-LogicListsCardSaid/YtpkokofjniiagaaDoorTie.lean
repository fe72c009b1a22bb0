/-
  DERIVED. GIVEN WITH THE SEED: THE PROGRAM's TIES (one call each: nine closed facts by the kernel) AND EACH ROW's TIE, after the 31st guide's Derived/Test/Toyas{Tie, Card}.lean. No idea stands in it: it is a product of the set-up. Laid BY PROGRAM, IN A SANDBOX (cutbox-door.mjs). By AI agents, Wed Nov 11 2026. No macro, syntax, notation, axiom, sorry.
-/
import Derived.Test.YtpkokofjniiagaaDoorRows
import Derived.LaidByTextLater
import Derived.SevenTiedAt
import Derived.LaidSub
import Derived.LaidOnce
namespace Go.Proofs.YtpkokofjniiagaaDoor
open Go
set_option maxRecDepth 100000
theorem seatTie1 : Tryd.prog.laidByTextLater [("wattle/logic.nots", Rows.laid_wattle_logic_nots), ("wattle/logic.ands", Rows.laid_wattle_logic_ands), ("wattle/logic.ors", Rows.laid_wattle_logic_ors), ("wattle/logic.xors", Rows.laid_wattle_logic_xors)] [.data, .data, .data, .data] true :=
  Program.laidByTextLater_by_one 38 8 10 (by kernel_rfl) (by kernel_rfl) (by kernel_rfl) (by kernel_rfl) (by kernel_rfl) (by kernel_rfl) (fun _ _ => by kernel_rfl)
theorem noOwnUnsafe : Tryd.pinned.checked.prog.headLifts.contains "ownunsafe" = false := by kernel_rfl
theorem tie : Tryd.prog.laidByTextLater [("wattle/logic.nots", Rows.laid_wattle_logic_nots), ("wattle/logic.ands", Rows.laid_wattle_logic_ands), ("wattle/logic.ors", Rows.laid_wattle_logic_ors), ("wattle/logic.xors", Rows.laid_wattle_logic_xors)] [.data, .data, .data, .data] true :=
  Program.laidByTextLater.sub seatTie1 ["wattle/logic.nots", "wattle/logic.ands", "wattle/logic.ors", "wattle/logic.xors"] (by kernel_rfl) (by kernel_rfl)
theorem logicTables_row_tie : Rows.logicTablesRow.laidByTextAt .later Tryd.pinned [.data, .data, .data, .data] true :=
  OpenClaim.laidByTextAt_later rfl rfl tie noOwnUnsafe
theorem logicDuals_row_tie : Rows.logicDualsRow.laidByTextAt .later Tryd.pinned [.data, .data, .data, .data] true :=
  OpenClaim.laidByTextAt_later rfl rfl tie noOwnUnsafe
theorem logicKnown_row_tie : Rows.logicKnownRow.laidByTextAt .later Tryd.pinned [.data, .data, .data, .data] true :=
  OpenClaim.laidByTextAt_later rfl rfl tie noOwnUnsafe
theorem tie2 : Tryd.prog.laidByTextLater [("wattle/logic.nots", Rows.laid_wattle_logic_nots), ("wattle/logic.ands", Rows.laid_wattle_logic_ands), ("wattle/logic.ors", Rows.laid_wattle_logic_ors)] [.data, .data, .data] true :=
  Program.laidByTextLater.sub seatTie1 ["wattle/logic.nots", "wattle/logic.ands", "wattle/logic.ors"] (by kernel_rfl) (by kernel_rfl)
theorem logicLists_row_tie : Rows.logicListsRow.laidByTextAt .later Tryd.pinned [.data, .data, .data] true :=
  OpenClaim.laidByTextAt_later rfl rfl tie2 noOwnUnsafe
theorem logicParts_row_tie : Rows.logicPartsRow.laidByTextAt .later Tryd.pinned [.data, .data, .data] true :=
  OpenClaim.laidByTextAt_later rfl rfl tie2 noOwnUnsafe
theorem logicTablesUpto_row_tie : Rows.logicTablesUptoRow.laidByTextAt .later Tryd.pinned [.data, .data, .data, .data] true :=
  OpenClaim.laidByTextAt_later rfl rfl tie noOwnUnsafe
theorem logicListsUpto_row_tie : Rows.logicListsUptoRow.laidByTextAt .later Tryd.pinned [.data, .data, .data] true :=
  OpenClaim.laidByTextAt_later rfl rfl tie2 noOwnUnsafe
theorem logicDualsUpto_row_tie : Rows.logicDualsUptoRow.laidByTextAt .later Tryd.pinned [.data, .data, .data, .data] true :=
  OpenClaim.laidByTextAt_later rfl rfl tie noOwnUnsafe
theorem logicKnownUpto_row_tie : Rows.logicKnownUptoRow.laidByTextAt .later Tryd.pinned [.data, .data, .data, .data] true :=
  OpenClaim.laidByTextAt_later rfl rfl tie noOwnUnsafe
theorem logicPartsUpto_row_tie : Rows.logicPartsUptoRow.laidByTextAt .later Tryd.pinned [.data, .data, .data] true :=
  OpenClaim.laidByTextAt_later rfl rfl tie2 noOwnUnsafe
end Go.Proofs.YtpkokofjniiagaaDoor
