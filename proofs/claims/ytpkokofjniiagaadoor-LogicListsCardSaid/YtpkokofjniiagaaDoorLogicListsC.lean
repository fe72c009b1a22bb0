/- LogicLists answers true for every list of truths, and turns nothing that was there. CONDITIONS: the package-level tables that the program reads are as its own text lays them (the card ties them); nothing else. -/
import Derived.Test.YtpkokofjniiagaaDoorCards
import Derived.Test.YtpkokofjniiagaaDoorTie
import Derived.Test.YtpkokofjniiagaaDoorLawKit
import Derived.Test.YtpkokofjniiagaaDoorLaidKit
import Derived.Test.YtpkokofjniiagaaDoorLogicLists
import Derived.WalkKit
import Derived.ProofKit
import Derived.OpenShut
import Derived.Deep.DeepHandedRow
import Derived.Lib.LaidTab
import Derived.Stop.LaidErr
import Derived.SizedLaws
import Derived.ChangeMaps5
namespace Go.Proofs.YtpkokofjniiagaaDoor.logicLists
open Go.ChangeShapes Go.WideShapes Go.ChangeAt Go.RowKit Go.ChangeMaps
set_option linter.unusedVariables false
set_option linter.unusedSimpArgs false
theorem own : ownKnob Tryd.prog.godebug = none := by kernel_rfl
theorem cells0 : Tryd.prog.cellsOf 37 = 3 * 3 := by kernel_rfl
theorem cells1 : Tryd.prog.cellsOf 36 = 3 := by kernel_rfl
theorem cells2 : Tryd.prog.cellsOf 22 = 1 := by kernel_rfl
theorem g0 : Tryd.prog.globalNamed "wattle/logic.nots" = some 0 := by kernel_rfl
theorem gt0 : (Tryd.prog.globals[0]?).map (·.type) = some 36 := by kernel_rfl
theorem tab0 {W : World} (h0 : laidMetH Tryd.prog Rows.logicListsRow.laid W) : Logic.Tab W 0 [1, 0, 2] := by
  have h : laidMet Tryd.prog Rows.logicListsRow.laid W := h0
  have t : Lib.TabIs Tryd.prog W "wattle/logic.nots" .i64 [1, 0, 2] := Lib.tabIs_of_head (k := .i64) (zs := [1, 0, 2]) g0 gt0 Tryd.underlying36 Tryd.underlying22 cells2 cells1 h
  exact fun i hi => t.cell g0 i hi
theorem g1 : Tryd.prog.globalNamed "wattle/logic.ands" = some 1 := by kernel_rfl
theorem gt1 : (Tryd.prog.globals[1]?).map (·.type) = some 37 := by kernel_rfl
theorem tab1 {W : World} (h0 : laidMetH Tryd.prog Rows.logicListsRow.laid W) : Logic.Tab W 1 [0, 0, 0, 0, 1, 2, 0, 2, 2] := by
  have h : laidMet Tryd.prog Rows.logicListsRow.laid W := h0
  have t : Lib.TabIs Tryd.prog W "wattle/logic.ands" .i64 [0, 0, 0, 0, 1, 2, 0, 2, 2] := gridIs_of_head (k := .i64) (rows := [[0, 0, 0], [0, 1, 2], [0, 2, 2]]) g1 gt1 Tryd.underlying37 Tryd.underlying36 Tryd.underlying22 cells2 cells1 cells0 rfl (laidMet.tail (h))
  exact fun i hi => t.cell g1 i hi
theorem g2 : Tryd.prog.globalNamed "wattle/logic.ors" = some 2 := by kernel_rfl
theorem gt2 : (Tryd.prog.globals[2]?).map (·.type) = some 37 := by kernel_rfl
theorem tab2 {W : World} (h0 : laidMetH Tryd.prog Rows.logicListsRow.laid W) : Logic.Tab W 2 [0, 1, 2, 1, 1, 1, 2, 1, 2] := by
  have h : laidMet Tryd.prog Rows.logicListsRow.laid W := h0
  have t : Lib.TabIs Tryd.prog W "wattle/logic.ors" .i64 [0, 1, 2, 1, 1, 1, 2, 1, 2] := gridIs_of_head (k := .i64) (rows := [[0, 1, 2], [1, 1, 1], [2, 1, 2]]) g2 gt2 Tryd.underlying37 Tryd.underlying36 Tryd.underlying22 cells2 cells1 cells0 rfl (laidMet.tail (laidMet.tail (h)))
  exact fun i hi => t.cell g2 i hi
theorem contract (H : Type) (enc : TypeId × Value → H) (W : World) (base : Nat) (args : Array Value) (ds gs : List (DataW H)) (before : List MemPlace)
    (hval : ∀ (j : Nat) t v, Tryd.f4.params[j]? = some t → args[j]? = some v → Value.okWide Tryd.prog W .any base t v)
    (hW : DataW.Whole enc Tryd.prog Tryd.f4.params.toList Rows.logicListsSpec.vars false W args.toList ds gs before) (hL : laidMetH Tryd.prog Rows.logicListsRow.laid W) :
    Calls Tryd.prog 4 args W fun e W' => ∃ v, e = .returned v ∧ Rows.logicListsSpec.post enc Tryd.prog Tryd.f4 false true false false W args v W' := by
  have hW' := hW
  obtain ⟨p, q, hA0, hV, rfl, hfz, hnd⟩ := hW
  have hA : DataW.TrodAll enc Tryd.prog W 0 (fun _ => true) true Tryd.f4.params.toList args.toList ds p := hA0
  rw [Tryd.params4] at hA hval
  obtain ⟨v0, vs0, d0, ds0, p0, q0, hargs, rfl, rfl, h0, r0⟩ := trodAll_cons hA
  obtain ⟨rfl, rfl, rfl⟩ := trodAll_nil r0
  obtain rfl : args = #[v0] := by cases args; simp_all
  obtain ⟨rfl, rfl⟩ := trodVars_none hV
  obtain ⟨z0, o0⟩ := open_list Tryd.underlying29 Tryd.underlying22 cells2 (hval 0 29 v0 rfl rfl) h0
  have l0 : Logic.Lst W v0 z0 := o0.imp (fun ⟨e1, e2, _⟩ => ⟨e1, e2⟩) fun ⟨a, cap, spare, e1, _, hm, hc, _⟩ => ⟨a, cap, e1, hc, hm⟩
  have c0 := tab0 hL
  have c1 := tab1 hL
  have c2 := tab2 hL
  clear hA0
  refine (Logic.logicLists_any v0 z0 W l0 ⟨c0, c1, c2⟩).mono fun e W' ⟨he, hb⟩ => ?_
  subst he
  exact ⟨_, rfl, law_post (by kernel_rfl) (by kernel_rfl) (rt := 4) rfl Tryd.underlying4 rfl rfl rfl rfl hW' hb⟩
noncomputable def laidWorld (os : Os) : World :=
  { World.holding Tryd.prog os ⟨#[], #[], []⟩ with heap := (((((((World.holding Tryd.prog os ⟨#[], #[], []⟩).heap).modify 0 fun
      | .cells _ t frozen => .cells #[.int .i64 1, .int .i64 0, .int .i64 2] t frozen
      | o => o)).modify 1 fun
      | .cells _ t frozen => .cells #[.int .i64 0, .int .i64 0, .int .i64 0, .int .i64 0, .int .i64 1, .int .i64 2, .int .i64 0, .int .i64 2, .int .i64 2] t frozen
      | o => o)).modify 2 fun
      | .cells _ t frozen => .cells #[.int .i64 0, .int .i64 1, .int .i64 2, .int .i64 1, .int .i64 1, .int .i64 1, .int .i64 2, .int .i64 1, .int .i64 2] t frozen
      | o => o) }
theorem laid_met (os : Os) : laidMet Tryd.prog Rows.logicListsRow.laid ((laidWorld os).forCall (fun _ _ => 0) ⟨#[], #[.slice none 0 0], []⟩).memory :=
  laidMet_of_run' 20 (by kernel_rfl) (by kernel_rfl)
theorem reads (os : Os) {H : Type} (enc : TypeId × Value → H) : ∃ places, DataW.whole enc Tryd.prog ((laidWorld os).forCall (fun _ _ => 0) ⟨#[], #[.slice none 0 0], []⟩).memory Tryd.f4.params.toList Rows.logicListsSpec.vars false (#[.slice none 0 0] : Array Value).toList 8 = some ([.nil], [], places) :=
  ⟨[], by kernel_rfl⟩
set_option maxRecDepth 100000 in
theorem lifted (os : Os) (started : os.Started) (H : Type) (enc : TypeId × Value → H) (F : Stop.Interp) :
    ReturnsInHanded {} Tryd.checked os 4 .any ((OpenSpec.ofChange Rows.logicListsSpec).preRow enc Tryd.prog Tryd.f4 Rows.logicListsRow.domain false Rows.logicListsRow.laid) (((OpenSpec.ofChange Rows.logicListsSpec).at F).post enc Tryd.prog Tryd.f4 false true false false) := by
  obtain ⟨places, hx⟩ := reads os enc
  refine returnsInHanded_of_row (C := Tryd.checked) (s := OpenSpec.ofChange Rows.logicListsSpec) own started (by kernel_rfl) Tryd.func4
    (witness_row_at (enc := enc) (C := Tryd.checked) false (laidWorld os) #[.slice none 0 0] rfl (by kernel_rfl) (by kernel_rfl) (by kernel_rfl)
      (OpenSpec.preRow_of_cond 8 hx (by kernel_rfl) (fun k hk => by cases hk) (by kernel_rfl) (laid_met os))) ?_
  intro W base args ds gs before hval hW _ _ _ hL _ _
  exact contract H enc W base args ds gs before hval hW hL
theorem said : Rows.LogicListsSaid :=
  OpenClaim.holds_of_cond 4 Tryd.f4 rfl rfl rfl rfl rfl rfl rfl ⟨rfl, rfl, rfl, rfl, rfl⟩ rfl rfl rfl rfl rfl (by kernel_rfl) Tryd.func4 (by kernel_rfl)
    (of_decide_eq_true (by kernel_rfl)) (by unfold Func.isWrapper; first | (rw [if_pos (by decide +kernel)]; kernel_rfl) | (rw [if_neg (by decide +kernel)]; exact ⟨rfl, rfl⟩))
    (fun os started H enc _ F => by rw [OpenClaim.pre_eq_preRow]; exact lifted os started H enc F)
theorem plain (f : FuncId) (fn : Func) (hf : Tryd.pinned.checked.prog.funcNamed "wattle/wattlelaw02.LogicLists" = some f) (hfn : Tryd.pinned.checked.prog.funcs[f]? = some fn) :
    false = Tryd.pinned.checked.prog.looks [] ∧ ∀ (j : Nat) t, fn.params[j]? = some t → Tryd.pinned.checked.prog.wantsStandIn t = false := by
  obtain rfl : f = 4 := Option.some.inj ((show Tryd.prog.funcNamed "wattle/wattlelaw02.LogicLists" = some 4 by kernel_rfl).symm.trans hf) |>.symm
  obtain rfl : fn = Tryd.f4 := (Option.some.inj (Tryd.func4.symm.trans hfn)).symm
  refine ⟨by kernel_rfl, fun j t ht => ?_⟩
  rw [Tryd.params4] at ht
  have hm := Array.mem_of_getElem? ht
  have hall : ∀ t ∈ (#[29] : Array TypeId), Tryd.prog.wantsStandIn t = false := by
    intro t ht
    simp only [List.mem_toArray, List.mem_cons, List.not_mem_nil, or_false] at ht
    subst ht; kernel_rfl
  exact hall t hm
/-- THE CARD: LogicLists answers true for every list of truths, and turns nothing that was there. -/
theorem card : Rows.LogicListsCardSaid :=
  Claim7.holds_tied_plain_at .later [] _ _ _ _ said (fun _ h => by cases h) (by kernel_rfl) (fun _ h => by cases h) logicLists_row_tie rfl ⟨rfl, rfl⟩ (by kernel_rfl) rfl plain (by kernel_rfl)
end Go.Proofs.YtpkokofjniiagaaDoor.logicLists
