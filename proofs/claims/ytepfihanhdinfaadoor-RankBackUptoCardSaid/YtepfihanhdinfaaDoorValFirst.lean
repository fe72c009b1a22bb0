/- THE FIRST COMPARISON THAT IS NOT 0, out of an iterator over comparisons; so the order of two flat values. -/
import Derived.Test.YtepfihanhdinfaaDoorRows
import Derived.Test.YtepfihanhdinfaaDoorValBase
import Derived.Test.YtepfihanhdinfaaDoorValCmp
import Derived.Test.YtepfihanhdinfaaDoorValFlat
import Derived.WalkKit
import Derived.Lib.Hide
import Derived.RangeFuncNested
import Derived.RangeFuncBound
import Derived.RangeFuncCalls
import Derived.RangeFuncLeaves
import Derived.OwnWalkIn
import Derived.TacticsInMore
namespace Go.Proofs.YtepfihanhdinfaaDoor
open Go.RowKit
attribute [local go_sem] Oper.semAt_some
set_option linter.unusedVariables false
set_option linter.unusedSimpArgs false
namespace Val
/-- An iterator over comparisons: whatever a round answers, it stops at the first that is not 0: c (0: there is none). -/
def Iter (gf : Nat) (lb : Array Value) (c : Int) (W : World) : Prop :=
  ∀ (l : Nat) (Wl : World) (WS : Int → World), Yld W.heap.size l Wl.heap.size Wl WS → Below W.heap.size W Wl → Calls Tryd.prog gf (#[.func (.yield l) #[] #[]] ++ lb) Wl fun e W' => (∃ v, e = .returned v) ∧ ((c = 0 ∧ Below Wl.heap.size Wl W') ∨ (c ≠ 0 ∧ Below Wl.heap.size (WS c) W'))
theorem below_putObj {B : Nat} {W W' : World} {l : Nat} {o : Obj} (h : Below B W W') (hl : B ≤ l) (hlt : l < W'.heap.size) : Below B W (W'.putObj l o) :=
  h.grown (grownBy_putObj' W' l o) (by omega) (fun k e => by cases e; exact hl)
/-- Two turns of one block, the second as it was. -/
theorem below_twice {W : World} {l : Nat} {o o' : Obj} (h : W.heap[l]? = some o) : Below W.heap.size W ((W.putObj l o').putObj l o) where
  size := by simp
  block := fun k hk => by
    by_cases e : k = l
    · subst e
      rw [World.putObj_heap_same (by simp; exact hk), h]
    · rw [World.putObj_heap_other e, World.putObj_heap_other e]
  output := rfl
  os := rfl
  tape := rfl
theorem RoundIn.anyN {m m' : Nat} {P : Program} {l f : Nat} {tmps : Array Value} {ac bd : Code} {w : World} {R : Ending → World → Prop} (h : RoundIn Fence.wide m P l f tmps ac bd w R) : RoundIn Fence.wide m' P l f tmps ac bd w R :=
  ⟨h.1, fun c cs _ => h.2 c cs (room_wide _)⟩
/-- A LOOP OVER COMPARISONS that goes on at 0 and returns at another, which it has stored. -/
theorem wpIn_range_first {g : Operand} {ps : Array Tmp} {assign body : Code} {Q : Exit → Act → World → Prop} {a : Act} {w : World} {gf : Nat} {lb : Array Value} {c : Int} {W : World} {res : Addr}
    (hg : a.eval g = .func (.func gf) #[] lb) (eg : ∀ args w, (callFunc gf args).run Tryd.prog w = .ok (.enter gf args) w) (hps : ps.size = 1) (hit : Iter gf lb c W) (hW : Below W.heap.size W w) (hres : res.block < w.heap.size) (hres0 : W.heap.size ≤ res.block) (hkeep : ∀ cs, ¬ Box w res.block cs) (a₁ : Int → Act)
    (hassign : ∀ (l : Nat) (x : Int) (V : World) (K : Act → World → Prop), K (a₁ x) V → assign.wpIn (Fence.wide.inRound l) 4 Tryd.prog (Exit.then K (fun _ _ _ => False)) { tmps := (ps.zip #[.int .i64 x]).foldl (fun t (p, v) => t.setIfInBounds p v) a.tmps, defers := [] } V)
    (hbody0 : ∀ (l : Nat) (V : World), Below w.heap.size w V → body.wpIn (Fence.wide.inRound l) 4 Tryd.prog (fun e _ V' => e = .normal ∧ V' = V) (a₁ 0) V)
    (hbodyx : ∀ (l : Nat) (x : Int) (V : World), x ≠ 0 → Below w.heap.size w V → body.wpIn (Fence.wide.inRound l) 4 Tryd.prog (fun e _ V' => e = .ret ∧ V' = V.setCell res (.int .i64 x)) (a₁ x) V)
    (hdone : ∀ (D : Nat) (V : World), c = 0 → w.heap.size ≤ D → Below w.heap.size w V → V.heap[D]? = some (.deferred (some [])) → Q .normal { a with defers := { target := .collected D, args := #[] } :: a.defers } V)
    (hstop : ∀ (D : Nat) (V : World), c ≠ 0 → w.heap.size ≤ D → Below w.heap.size (w.setCell res (.int .i64 c)) V → V.heap[D]? = some (.deferred (some [])) → Code.ret.wpIn Fence.wide 5 Tryd.prog Q { a with defers := { target := .collected D, args := #[] } :: a.defers } V) :
    (Code.rangeFunc g ps assign body).wpIn Fence.wide 5 Tryd.prog Q a w := by
  refine wpIn_rangeFunc ?_
  intro fn hfn
  obtain ⟨rec, hrec⟩ : ∃ rec : LoopState → Option Code → Loop, rec = fun st pe => { state := st, pending := pe, fn, tmps := a.tmps, params := ps, assign, body, defers := w.heap.size } := ⟨_, rfl⟩
  obtain ⟨W1, hW1⟩ : ∃ W1, (w.alloc (.deferred (some []))).alloc (.loop (rec .ready none)) = W1 := ⟨_, rfl⟩
  have hs1 : W1.heap.size = w.heap.size + 2 := by rw [← hW1]; simp
  have hL1 : W1.heap[w.heap.size + 1]? = some (.loop (rec .ready none)) := by
    rw [← hW1]; have := World.alloc_heap_new (w.alloc (.deferred (some []))) (.loop (rec .ready none)); rwa [World.size_alloc] at this
  have hK1 : W1.heap[w.heap.size]? = some (.deferred (some [])) := by
    rw [← hW1]; exact (Below.heap_alloc _ _ _ (by simp)).trans (World.alloc_heap_new w _)
  have hb1 : Below w.heap.size w W1 := by rw [← hW1]; exact (((Below.refl _ w).alloc (Nat.le_refl _) _).alloc (by simp) _)
  -- the round
  have hround : Yld W.heap.size (w.heap.size + 1) W1.heap.size W1 (fun x => (W1.setCell res (.int .i64 x)).putObj (w.heap.size + 1) (.loop (rec .done (some .ret)))) := by
    have key : ∀ (m : Nat) (x : Int) (V : World), Below W1.heap.size W1 V → V.heap[w.heap.size + 1]? = some (.loop (rec .ready none)) ∧ Below w.heap.size w (V.putObj (w.heap.size + 1) (.loop (rec .busy none))) := fun m x V hV => by
      have hl : V.heap[w.heap.size + 1]? = some (.loop (rec .ready none)) := (hV.block _ (by omega)).trans hL1
      exact ⟨hl, below_putObj (hb1.trans (hV.mono (by omega))) (by omega) (Array.getElem?_eq_some_iff.1 hl).1⟩
    constructor
    · intro m V hV
      obtain ⟨hl, hbus⟩ := key m 0 V hV
      have hlt : w.heap.size + 1 < V.heap.size := (Array.getElem?_eq_some_iff.1 hl).1
      have hy := run_yield (P := Tryd.prog) (args := #[.int .i64 0]) hl (by rw [hrec]; exact hps.symm)
      rw [hrec] at hy
      refine ⟨fn, _, assign, body, hy, RoundIn.anyN (m := 4) ?_⟩
      refine roundIn_of_wpIn hfn (hassign _ 0 V _ ⟨_, run_beginRound hl (by rw [hrec]), ?_⟩)
      have hbusy : ({ rec .ready none with state := .busy } : Loop) = rec .busy none := by rw [hrec]
      rw [hbusy]
      refine wpIn_mono (hbody0 _ _ hbus) ?_
      rintro e a3 V3 ⟨rfl, rfl⟩
      have hend := run_endRound (P := Tryd.prog) none (World.putObj_heap_same (o := .loop (rec .busy none)) hlt)
      refine ⟨_, _, hend, rfl, ?_⟩
      have : ({ rec .busy none with state := if (none : Option Code).isNone = true then LoopState.ready else LoopState.done, pending := none } : Loop) = rec .ready none := by rw [hrec]; rfl
      rw [this]
      exact below_twice hl
    · intro m x V hx hV
      obtain ⟨hl, hbus⟩ := key m x V hV
      have hlt : w.heap.size + 1 < V.heap.size := (Array.getElem?_eq_some_iff.1 hl).1
      have hy := run_yield (P := Tryd.prog) (args := #[.int .i64 x]) hl (by rw [hrec]; exact hps.symm)
      rw [hrec] at hy
      refine ⟨fn, _, assign, body, hy, RoundIn.anyN (m := 4) ?_⟩
      refine roundIn_of_wpIn hfn (hassign _ x V _ ⟨_, run_beginRound hl (by rw [hrec]), ?_⟩)
      have hbusy : ({ rec .ready none with state := .busy } : Loop) = rec .busy none := by rw [hrec]
      rw [hbusy]
      refine wpIn_mono (hbodyx _ x _ hx hbus) ?_
      rintro e a3 V3 ⟨rfl, rfl⟩
      have hl3 : ((V.putObj (w.heap.size + 1) (.loop (rec .busy none))).setCell res (.int .i64 x)).heap[w.heap.size + 1]? = some (.loop (rec .busy none)) := (Below.heap_setCell _ _ _ _ (by omega)).trans (World.putObj_heap_same hlt)
      have hend := run_endRound (P := Tryd.prog) (some .ret) hl3
      have hdn : ({ rec .busy none with state := if (some Code.ret).isNone = true then LoopState.ready else LoopState.done, pending := some .ret } : Loop) = rec .done (some .ret) := by rw [hrec]; rfl
      rw [hdn] at hend
      refine ⟨_, _, hend, rfl, ?_, ?_⟩
      · refine ⟨hV.os, hV.tape, hV.output, ?_, fun k hk => ?_⟩
        · have := hV.size
          simp [World.setCell, World.putObj] at this ⊢
          exact this
        · by_cases e : k = w.heap.size + 1
          · subst e
            rw [World.putObj_heap_same (by simpa [World.setCell, World.putObj] using hlt), World.putObj_heap_same (by simp [World.setCell]; omega)]
          · rw [World.putObj_heap_other e, World.putObj_heap_other e]
            by_cases e2 : k = res.block
            · subst e2
              have h1 := hV.block res.block hk
              show (World.setCell _ _ _).heap[res.block]? = (World.setCell _ _ _).heap[res.block]?
              simp only [World.setCell]
              rw [Array.getElem?_modify, Array.getElem?_modify]
              simp only [World.putObj_heap_other e, h1]
            · rw [Below.heap_setCell _ _ _ _ e2, Below.heap_setCell _ _ _ _ e2, World.putObj_heap_other e]
              exact hV.block k hk
      · refine ⟨by simp [World.setCell, World.putObj], fun k hB hk => ?_⟩
        rw [World.putObj_heap_other (by omega), Below.heap_setCell _ _ _ _ (by omega), World.putObj_heap_other (by omega)]
    · intro x k cs hk
      unfold Box at hk ⊢
      by_cases e : k = w.heap.size + 1
      · subst e
        rw [hL1] at hk
        cases hk
      · rw [World.putObj_heap_other e]
        by_cases e2 : k = res.block
        · subst e2
          exact absurd ((hb1.block _ hres).symm.trans hk) (hkeep cs)
        · exact (Below.heap_setCell _ _ _ _ e2).trans hk
    · intro x p hp
      refine World.cell?_of_block ?_
      have := hW.size
      rw [World.putObj_heap_other (by omega), Below.heap_setCell _ _ _ _ (by omega)]
  refine ⟨w.heap.size + 1, [{ target := .collected w.heap.size, args := #[] }], W1, { target := .fn (.func gf) lb, args := #[.func (.yield (w.heap.size + 1)) #[] #[]] }, W1, gf,
    #[.func (.yield (w.heap.size + 1)) #[] #[]] ++ lb, W1, ?_, ?_, ?_, ?_, (fun _ => by omega), ?_⟩
  · rw [← hW1, hrec]; exact run_enterLoop_outer _ _ _ _ _
  · simp only [resolve, hg]
    simp [go_sem]
  · intro f' hf'; trivial
  · simp [invoke, go_sem, eg]
  · refine (callsIn_wide.2 (hit (w.heap.size + 1) W1 _ hround (hW.trans (hb1.mono (hW.size))))).mono ?_
    rintro e V ⟨⟨v, rfl⟩, (⟨hc, hV⟩ | ⟨hc, hV⟩)⟩
    · have hl := (hV.block (w.heap.size + 1) (by omega)).trans hL1
      have hk := (hV.block w.heap.size (by omega)).trans hK1
      refine ⟨none, _, (by have := run_endLoop (P := Tryd.prog) hl (by rw [hrec]; simp); rw [hrec] at this; exact this), ?_⟩
      refine hdone w.heap.size _ hc (Nat.le_refl _) (below_putObj (hb1.trans (hV.mono (by omega))) (by omega) (Array.getElem?_eq_some_iff.1 hl).1) ?_
      rw [World.putObj_heap_other (by omega)]
      exact hk
    · have hl : V.heap[w.heap.size + 1]? = some (.loop (rec .done (some .ret))) := (hV.block (w.heap.size + 1) (by omega)).trans (World.putObj_heap_same (by simp [World.setCell]; omega))
      have hk : V.heap[w.heap.size]? = some (.deferred (some [])) := by
        rw [hV.block w.heap.size (by omega), World.putObj_heap_other (by omega), Below.heap_setCell _ _ _ _ (by omega)]
        exact hK1
      refine ⟨some .ret, _, (by have := run_endLoop (P := Tryd.prog) hl (by rw [hrec]; simp); rw [hrec] at this; exact this), ?_⟩
      refine hstop w.heap.size _ hc (Nat.le_refl _) (below_putObj ?_ (by omega) (Array.getElem?_eq_some_iff.1 hl).1) (by rw [World.putObj_heap_other (by omega)]; exact hk)
      refine ⟨hV.os.trans hb1.os, hV.tape.trans hb1.tape, hV.output.trans hb1.output, ?_, fun k hk => ?_⟩
      · have := hV.size
        simp [World.setCell, World.putObj] at this ⊢
        omega
      · rw [hV.block k (by omega), World.putObj_heap_other (by omega)]
        simp only [World.setCell]
        rw [Array.getElem?_modify, Array.getElem?_modify, hb1.block k hk]
set_option maxRecDepth 100000 in
set_option maxHeartbeats 2000000 in
theorem first_any (gf : Nat) (lb : Array Value) (c : Int) (W : World) (eg : ∀ args w, (callFunc gf args).run Tryd.prog w = .ok (.enter gf args) w) (hit : Iter gf lb c W) :
    Calls Tryd.prog 32 #[.func (.func gf) #[] lb] W fun e w' => e = .returned (.int .i64 c) ∧ Below W.heap.size W w' := by
  refine (callsIn_wide (n := 5)).1 ?_
  refine callsIn_of_wp_marks Tryd.func32 rfl trivial ?_ rfl
  simp only [Tryd.ntmps32, List.size_toArray, List.length_cons, List.length_nil, Nat.reduceAdd, Nat.reduceSub, Array.replicate_succ, Array.replicate_zero, List.push_toArray, List.append_toArray, List.nil_append, List.cons_append]
  gi_wp2
  obtain ⟨w, hw⟩ : ∃ w, (W.alloc (.cells #[.int .i64 0] 3)).alloc (.cells #[.int .i64 0] 3) = w := ⟨_, rfl⟩
  have hsz : w.heap.size = W.heap.size + 2 := by rw [← hw]; simp
  have hlow : Below W.heap.size W w := by rw [← hw]; exact ((Below.refl _ W).alloc (Nat.le_refl _) _).alloc (by simp) _
  have r2 : w.heap[W.heap.size]? = some (.cells #[.int .i64 0] 3 (0, 0)) := by rw [← hw]; exact (Below.heap_alloc _ _ _ (by simp)).trans (World.alloc_heap_new W _)
  have r3 : w.heap[W.heap.size + 1]? = some (.cells #[.int .i64 0] 3 (0, 0)) := by
    rw [← hw]; have := World.alloc_heap_new (W.alloc (.cells #[.int .i64 0] 3)) (.cells #[.int .i64 0] 3); rwa [World.size_alloc] at this
  rw [hw]
  clear hw
  refine wpIn_range_first (W := W) (res := ⟨W.heap.size, 0, none⟩) (c := c) rfl eg rfl hit hlow (by simp; omega) (Nat.le_refl _) (fun cs h => by unfold Box at h; simp only [r2] at h; cases h) (fun x => { tmps := #[.func (.func gf) #[] lb, undef, .pointer (some ⟨W.heap.size, 0, none⟩), .pointer (some ⟨W.heap.size + 1, 0, none⟩), .int .i64 x, .func (.func gf) #[] lb, .int .i64 x, undef, undef, undef, undef, undef], defers := [] }) ?assign ?body0 ?bodyx ?done ?stop
  case assign =>
    intro l x V K hK
    gi_wp2
    exact hK
  case body0 =>
    intro l V hV
    have c3 : V.cell? ⟨W.heap.size + 1, 0, none⟩ = some (.int .i64 0) := by
      have := (hV.block (W.heap.size + 1) (by omega)).trans r3
      simp [World.cell?, this]
    clear r2 r3
    gi_wp2
  case bodyx =>
    intro l x V hx hV
    have c3 : V.cell? ⟨W.heap.size + 1, 0, none⟩ = some (.int .i64 0) := by
      have := (hV.block (W.heap.size + 1) (by omega)).trans r3
      simp [World.cell?, this]
    have c2 : V.cell? ⟨W.heap.size, 0, none⟩ = some (.int .i64 0) ∧ V.frozen? ⟨W.heap.size, 0, none⟩ = false := by
      have := (hV.block W.heap.size (by omega)).trans r2
      simp [World.cell?, World.frozen?, this]
    obtain ⟨c2, f2⟩ := c2
    have hx1 : (x == 0) = false := by simpa using hx
    have hx2 : (x != 0) = true := by simpa using hx
    clear r2 r3 hx
    gi_wp2
  case done =>
    intro D V hc hD hV hK
    have c3 : V.cell? ⟨W.heap.size + 1, 0, none⟩ = some (.int .i64 0) := by
      have := (hV.block (W.heap.size + 1) (by omega)).trans r3
      simp [World.cell?, this]
    have b2 := (hV.block W.heap.size (by omega)).trans r2
    have c2 : V.cell? ⟨W.heap.size, 0, none⟩ = some (.int .i64 0) ∧ V.frozen? ⟨W.heap.size, 0, none⟩ = false := by
      simp [World.cell?, World.frozen?, b2]
    obtain ⟨c2, f2⟩ := c2
    have hlt := hV.size
    gi_wp2
    refine ⟨by simp, .inl ⟨_, _, rfl, run_takeDeferred ?_, ?_⟩⟩
    · exact (Below.heap_setCell _ _ _ _ (by simp; omega)).trans hK
    · have hr : ((V.setCell ⟨W.heap.size, 0, none⟩ (.int .i64 0)).putObj D (.deferred none)).heap[W.heap.size]? = some (.cells #[.int .i64 0] 3 (0, 0)) := by
        rw [World.putObj_heap_other (by omega)]
        simp [World.setCell, Array.getElem?_modify, b2]
      refine ⟨.int .i64 0, ?_, by rw [hc], ?_⟩
      · have hcc : ((V.setCell ⟨W.heap.size, 0, none⟩ (.int .i64 0)).putObj D (.deferred none)).cell? ⟨W.heap.size, 0, none⟩ = some (.int .i64 0) := by simp [World.cell?, hr]
        simp [results, Tryd.f32, go_sem, hcc]
      · exact below_putObj ((hlow.trans (hV.mono (by omega))).setCell (p := ⟨W.heap.size, 0, none⟩) (Nat.le_refl _) _) (by omega) (by
          have := (Array.getElem?_eq_some_iff.1 hK).1
          simpa [World.setCell] using this)
  case stop =>
    intro D V hc hD hV hK
    have b2 : V.heap[W.heap.size]? = some (.cells #[.int .i64 c] 3 (0, 0)) := by
      rw [hV.block W.heap.size (by omega)]
      simp [World.setCell, Array.getElem?_modify, r2]
    gi_wp2
    refine ⟨by simp, .inl ⟨_, _, rfl, run_takeDeferred hK, ?_⟩⟩
    have hr : (V.putObj D (.deferred none)).heap[W.heap.size]? = some (.cells #[.int .i64 c] 3 (0, 0)) := by
      rw [World.putObj_heap_other (by omega)]
      exact b2
    refine ⟨.int .i64 c, ?_, rfl, ?_⟩
    · have hcc : (V.putObj D (.deferred none)).cell? ⟨W.heap.size, 0, none⟩ = some (.int .i64 c) := by simp [World.cell?, hr]
      simp [results, Tryd.f32, go_sem, hcc]
    · refine below_putObj ?_ (by omega) (Array.getElem?_eq_some_iff.1 hK).1
      exact ((hlow.setCell (p := ⟨W.heap.size, 0, none⟩) (Nat.le_refl _) (.int .i64 c))).trans (hV.mono (by omega))
end Val
end Go.Proofs.YtepfihanhdinfaaDoor
