/- The law ValueOrder: its walk. -/
import Derived.Test.YtiphegccaijbgaaDoorRows
import Derived.Test.YtiphegccaijbgaaDoorHeld
import Derived.Test.YtiphegccaijbgaaDoorValBase
import Derived.Test.YtiphegccaijbgaaDoorVal
import Derived.Test.YtiphegccaijbgaaDoorValCmp
import Derived.Test.YtiphegccaijbgaaDoorValOrd
import Derived.WalkKit
import Derived.Lib.Hide
import Derived.WalkSpells
import Derived.WalkLawsBesides
import Derived.Laws.AppendOwn
import Derived.Laws.OwnMore
import Derived.OwnWalk
import Derived.Defers
import Derived.Outline
import Derived.Lib.SmallJoins
namespace Go.Proofs.YtiphegccaijbgaaDoor
open Go.RowKit
set_option linter.unusedVariables false
set_option linter.unusedSimpArgs false
namespace Val
/-- Three values' boxes stand, and all that was there. -/
structure Seen3 (w : World) (ca cb cc : Array Value) (V : World) : Prop where
  b1 : Box V w.heap.size ca
  b2 : Box V (w.heap.size + 1) cb
  b3 : Box V (w.heap.size + 2) cc
  low : Below w.heap.size w V
theorem Seen3.step {w V V' : World} {ca cb cc : Array Value} (h : Seen3 w ca cb cc V) (hb : Below V.heap.size V V') : Seen3 w ca cb cc V' := ⟨(hb.block _ h.b1.lt).trans h.b1, (hb.block _ h.b2.lt).trans h.b2, (hb.block _ h.b3.lt).trans h.b3, h.low.trans (hb.mono h.low.size)⟩
theorem Seen3.drew {w V : World} {ca cb cc : Array Value} (h : Seen3 w ca cb cc V) : Seen3 w ca cb cc V.drew := ⟨h.b1, h.b2, h.b3, h.low.drew⟩
theorem Seen3.new (w : World) (ca cb cc : Array Value) : Seen3 w ca cb cc (((w.alloc (.cells ca 25)).alloc (.cells cb 25)).alloc (.cells cc 25)) := ⟨((Box.new w ca).alloc _).alloc _, by have := (Box.new (w.alloc (.cells ca 25)) cb).alloc (.cells cc 25); rwa [World.size_alloc] at this, by have := Box.new ((w.alloc (.cells ca 25)).alloc (.cells cb 25)) cc; rwa [World.size_alloc, World.size_alloc] at this, (((Below.refl _ w).alloc (Nat.le_refl _) _).alloc (by simp) _).alloc (by simp; omega) _⟩
/-- A contract in every world in which the boxes stand. -/
def On3 (w : World) (ca cb cc : Array Value) (f : FuncId) (args : Array Value) (x : Value) : Prop := ∀ V, Seen3 w ca cb cc V → Calls Tryd.prog f args V fun e w' => e = .returned x ∧ Seen3 w ca cb cc w'
set_option maxRecDepth 100000 in
set_option maxHeartbeats 4000000 in
theorem vord_no1 (a0 a1 a2 a3 a4 a5 b0 b1 b2 b3 b4 b5 d0 d1 d2 d3 d4 d5 : Value) (w : World)
    (HM1 : Hid (On3 w #[a0, a1, a2, a3, a4, a5] #[b0, b1, b2, b3, b4, b5] #[d0, d1, d2, d3, d4, d5] 10 #[.agg #[a0, a1, a2, a3, a4, a5]] (.bool false)))
    (HW : Hid (On3 w #[a0, a1, a2, a3, a4, a5] #[b0, b1, b2, b3, b4, b5] #[d0, d1, d2, d3, d4, d5] 15 #[] (.bool true))) :
    Calls Tryd.prog 5 #[.agg #[a0, a1, a2, a3, a4, a5], .agg #[b0, b1, b2, b3, b4, b5], .agg #[d0, d1, d2, d3, d4, d5]] w fun e w' => e = .returned (.bool true) ∧ Below w.heap.size w w' := by
  have h0 := Seen3.new w #[a0, a1, a2, a3, a4, a5] #[b0, b1, b2, b3, b4, b5] #[d0, d1, d2, d3, d4, d5]
  obtain ⟨p0, p1, p2, p3, p4, p5⟩ := h0.b1.cell
  obtain ⟨q0, q1, q2, q3, q4, q5⟩ := h0.b2.cell
  obtain ⟨r0, r1, r2, r3, r4, r5⟩ := h0.b3.cell
  have H0 := Lib.hid h0
  clear h0
  go_enter Tryd.func5, Tryd.ntmps5
  go_wp2_with fail
  refine (HM1.out _ H0.out).mono ?_
  rintro e w1 ⟨rfl, h1⟩
  go_wp2_with fail
  refine (HW.out _ h1).mono ?_
  rintro e w2 ⟨rfl, h2⟩
  have HE := Lib.hid h2.low
  go_wp2_with fail
  go_ret
  exact ⟨rfl, HE.out⟩
set_option maxRecDepth 100000 in
set_option maxHeartbeats 4000000 in
theorem vord_no2 (a0 a1 a2 a3 a4 a5 b0 b1 b2 b3 b4 b5 d0 d1 d2 d3 d4 d5 : Value) (w : World)
    (HM1 : Hid (On3 w #[a0, a1, a2, a3, a4, a5] #[b0, b1, b2, b3, b4, b5] #[d0, d1, d2, d3, d4, d5] 10 #[.agg #[a0, a1, a2, a3, a4, a5]] (.bool true)))
    (HM2 : Hid (On3 w #[a0, a1, a2, a3, a4, a5] #[b0, b1, b2, b3, b4, b5] #[d0, d1, d2, d3, d4, d5] 10 #[.agg #[b0, b1, b2, b3, b4, b5]] (.bool false)))
    (HW : Hid (On3 w #[a0, a1, a2, a3, a4, a5] #[b0, b1, b2, b3, b4, b5] #[d0, d1, d2, d3, d4, d5] 15 #[] (.bool true))) :
    Calls Tryd.prog 5 #[.agg #[a0, a1, a2, a3, a4, a5], .agg #[b0, b1, b2, b3, b4, b5], .agg #[d0, d1, d2, d3, d4, d5]] w fun e w' => e = .returned (.bool true) ∧ Below w.heap.size w w' := by
  have h0 := Seen3.new w #[a0, a1, a2, a3, a4, a5] #[b0, b1, b2, b3, b4, b5] #[d0, d1, d2, d3, d4, d5]
  obtain ⟨p0, p1, p2, p3, p4, p5⟩ := h0.b1.cell
  obtain ⟨q0, q1, q2, q3, q4, q5⟩ := h0.b2.cell
  obtain ⟨r0, r1, r2, r3, r4, r5⟩ := h0.b3.cell
  have H0 := Lib.hid h0
  clear h0
  go_enter Tryd.func5, Tryd.ntmps5
  go_wp2_with fail
  refine (HM1.out _ H0.out).mono ?_
  rintro e w1 ⟨rfl, h1⟩
  clear p0 p1 p2 p3 p4 p5 q0 q1 q2 q3 q4 q5 r0 r1 r2 r3 r4 r5
  obtain ⟨p0, p1, p2, p3, p4, p5⟩ := h1.b1.cell
  obtain ⟨q0, q1, q2, q3, q4, q5⟩ := h1.b2.cell
  obtain ⟨r0, r1, r2, r3, r4, r5⟩ := h1.b3.cell
  go_wp2_with fail
  refine (HM2.out _ h1).mono ?_
  rintro e w2 ⟨rfl, h2⟩
  go_wp2_with fail
  refine (HW.out _ h2).mono ?_
  rintro e w3 ⟨rfl, h3⟩
  have HE := Lib.hid h3.low
  go_wp2_with fail
  go_ret
  exact ⟨rfl, HE.out⟩
set_option maxRecDepth 100000 in
set_option maxHeartbeats 4000000 in
theorem vord_no3 (a0 a1 a2 a3 a4 a5 b0 b1 b2 b3 b4 b5 d0 d1 d2 d3 d4 d5 : Value) (w : World)
    (HM1 : Hid (On3 w #[a0, a1, a2, a3, a4, a5] #[b0, b1, b2, b3, b4, b5] #[d0, d1, d2, d3, d4, d5] 10 #[.agg #[a0, a1, a2, a3, a4, a5]] (.bool true)))
    (HM2 : Hid (On3 w #[a0, a1, a2, a3, a4, a5] #[b0, b1, b2, b3, b4, b5] #[d0, d1, d2, d3, d4, d5] 10 #[.agg #[b0, b1, b2, b3, b4, b5]] (.bool true)))
    (HM3 : Hid (On3 w #[a0, a1, a2, a3, a4, a5] #[b0, b1, b2, b3, b4, b5] #[d0, d1, d2, d3, d4, d5] 10 #[.agg #[d0, d1, d2, d3, d4, d5]] (.bool false)))
    (HW : Hid (On3 w #[a0, a1, a2, a3, a4, a5] #[b0, b1, b2, b3, b4, b5] #[d0, d1, d2, d3, d4, d5] 15 #[] (.bool true))) :
    Calls Tryd.prog 5 #[.agg #[a0, a1, a2, a3, a4, a5], .agg #[b0, b1, b2, b3, b4, b5], .agg #[d0, d1, d2, d3, d4, d5]] w fun e w' => e = .returned (.bool true) ∧ Below w.heap.size w w' := by
  have h0 := Seen3.new w #[a0, a1, a2, a3, a4, a5] #[b0, b1, b2, b3, b4, b5] #[d0, d1, d2, d3, d4, d5]
  obtain ⟨p0, p1, p2, p3, p4, p5⟩ := h0.b1.cell
  obtain ⟨q0, q1, q2, q3, q4, q5⟩ := h0.b2.cell
  obtain ⟨r0, r1, r2, r3, r4, r5⟩ := h0.b3.cell
  have H0 := Lib.hid h0
  clear h0
  go_enter Tryd.func5, Tryd.ntmps5
  go_wp2_with fail
  refine (HM1.out _ H0.out).mono ?_
  rintro e w1 ⟨rfl, h1⟩
  clear p0 p1 p2 p3 p4 p5 q0 q1 q2 q3 q4 q5 r0 r1 r2 r3 r4 r5
  obtain ⟨p0, p1, p2, p3, p4, p5⟩ := h1.b1.cell
  obtain ⟨q0, q1, q2, q3, q4, q5⟩ := h1.b2.cell
  obtain ⟨r0, r1, r2, r3, r4, r5⟩ := h1.b3.cell
  go_wp2_with fail
  refine (HM2.out _ h1).mono ?_
  rintro e w2 ⟨rfl, h2⟩
  clear p0 p1 p2 p3 p4 p5 q0 q1 q2 q3 q4 q5 r0 r1 r2 r3 r4 r5
  obtain ⟨p0, p1, p2, p3, p4, p5⟩ := h2.b1.cell
  obtain ⟨q0, q1, q2, q3, q4, q5⟩ := h2.b2.cell
  obtain ⟨r0, r1, r2, r3, r4, r5⟩ := h2.b3.cell
  go_wp2_with fail
  refine (HM3.out _ h2).mono ?_
  rintro e w3 ⟨rfl, h3⟩
  go_wp2_with fail
  refine (HW.out _ h3).mono ?_
  rintro e w4 ⟨rfl, h4⟩
  have HE := Lib.hid h4.low
  go_wp2_with fail
  go_ret
  exact ⟨rfl, HE.out⟩
set_option maxRecDepth 100000 in
set_option maxHeartbeats 4000000 in
theorem vord_lll (a0 a1 a2 a3 a4 a5 b0 b1 b2 b3 b4 b5 d0 d1 d2 d3 d4 d5 : Value) (w : World)
    (HM1 : Hid (On3 w #[a0, a1, a2, a3, a4, a5] #[b0, b1, b2, b3, b4, b5] #[d0, d1, d2, d3, d4, d5] 10 #[.agg #[a0, a1, a2, a3, a4, a5]] (.bool true)))
    (HM2 : Hid (On3 w #[a0, a1, a2, a3, a4, a5] #[b0, b1, b2, b3, b4, b5] #[d0, d1, d2, d3, d4, d5] 10 #[.agg #[b0, b1, b2, b3, b4, b5]] (.bool true)))
    (HM3 : Hid (On3 w #[a0, a1, a2, a3, a4, a5] #[b0, b1, b2, b3, b4, b5] #[d0, d1, d2, d3, d4, d5] 10 #[.agg #[d0, d1, d2, d3, d4, d5]] (.bool true)))
    (HO12 : Hid (On3 w #[a0, a1, a2, a3, a4, a5] #[b0, b1, b2, b3, b4, b5] #[d0, d1, d2, d3, d4, d5] 23 #[.agg #[a0, a1, a2, a3, a4, a5], .agg #[b0, b1, b2, b3, b4, b5]] (.int .i64 (-1))))
    (HO23 : Hid (On3 w #[a0, a1, a2, a3, a4, a5] #[b0, b1, b2, b3, b4, b5] #[d0, d1, d2, d3, d4, d5] 23 #[.agg #[b0, b1, b2, b3, b4, b5], .agg #[d0, d1, d2, d3, d4, d5]] (.int .i64 (-1))))
    (HO13 : Hid (On3 w #[a0, a1, a2, a3, a4, a5] #[b0, b1, b2, b3, b4, b5] #[d0, d1, d2, d3, d4, d5] 23 #[.agg #[a0, a1, a2, a3, a4, a5], .agg #[d0, d1, d2, d3, d4, d5]] (.int .i64 (-1))))
    (HO21 : Hid (On3 w #[a0, a1, a2, a3, a4, a5] #[b0, b1, b2, b3, b4, b5] #[d0, d1, d2, d3, d4, d5] 23 #[.agg #[b0, b1, b2, b3, b4, b5], .agg #[a0, a1, a2, a3, a4, a5]] (.int .i64 (1))))
    (HO11 : Hid (On3 w #[a0, a1, a2, a3, a4, a5] #[b0, b1, b2, b3, b4, b5] #[d0, d1, d2, d3, d4, d5] 23 #[.agg #[a0, a1, a2, a3, a4, a5], .agg #[a0, a1, a2, a3, a4, a5]] (.int .i64 (0))))
    (HS : Hid (On3 w #[a0, a1, a2, a3, a4, a5] #[b0, b1, b2, b3, b4, b5] #[d0, d1, d2, d3, d4, d5] 19 #[.agg #[a0, a1, a2, a3, a4, a5], .agg #[b0, b1, b2, b3, b4, b5]] (.bool false)))
    (HW : Hid (On3 w #[a0, a1, a2, a3, a4, a5] #[b0, b1, b2, b3, b4, b5] #[d0, d1, d2, d3, d4, d5] 15 #[] (.bool true))) :
    Calls Tryd.prog 5 #[.agg #[a0, a1, a2, a3, a4, a5], .agg #[b0, b1, b2, b3, b4, b5], .agg #[d0, d1, d2, d3, d4, d5]] w fun e w' => e = .returned (.bool true) ∧ Below w.heap.size w w' := by
  have h0 := Seen3.new w #[a0, a1, a2, a3, a4, a5] #[b0, b1, b2, b3, b4, b5] #[d0, d1, d2, d3, d4, d5]
  obtain ⟨p0, p1, p2, p3, p4, p5⟩ := h0.b1.cell
  obtain ⟨q0, q1, q2, q3, q4, q5⟩ := h0.b2.cell
  obtain ⟨r0, r1, r2, r3, r4, r5⟩ := h0.b3.cell
  have H0 := Lib.hid h0
  clear h0
  go_enter Tryd.func5, Tryd.ntmps5
  go_wp2_with fail
  refine (HM1.out _ H0.out).mono ?_
  rintro e w1 ⟨rfl, h1⟩
  clear p0 p1 p2 p3 p4 p5 q0 q1 q2 q3 q4 q5 r0 r1 r2 r3 r4 r5
  obtain ⟨p0, p1, p2, p3, p4, p5⟩ := h1.b1.cell
  obtain ⟨q0, q1, q2, q3, q4, q5⟩ := h1.b2.cell
  obtain ⟨r0, r1, r2, r3, r4, r5⟩ := h1.b3.cell
  go_wp2_with fail
  refine (HM2.out _ h1).mono ?_
  rintro e w2 ⟨rfl, h2⟩
  clear p0 p1 p2 p3 p4 p5 q0 q1 q2 q3 q4 q5 r0 r1 r2 r3 r4 r5
  obtain ⟨p0, p1, p2, p3, p4, p5⟩ := h2.b1.cell
  obtain ⟨q0, q1, q2, q3, q4, q5⟩ := h2.b2.cell
  obtain ⟨r0, r1, r2, r3, r4, r5⟩ := h2.b3.cell
  go_wp2_with fail
  refine (HM3.out _ h2).mono ?_
  rintro e w3 ⟨rfl, h3⟩
  have H3 := Lib.hid h3.drew
  clear h1 h2 h3 p0 p1 p2 p3 p4 p5 q0 q1 q2 q3 q4 q5 r0 r1 r2 r3 r4 r5
  go_wp2_with fail
  have hS0 := H3.out
  rename_i Q' K1 hK1
  refine wp_region_noPanic ?_
  refine wpIn_wide (n := 5).1 ?_
  refine wpIn_region_text (Seen3 w #[a0, a1, a2, a3, a4, a5] #[b0, b1, b2, b3, b4, b5] #[d0, d1, d2, d3, d4, d5]) [0, 1, 3, 4, 6, 7, 2, 5, 8, 9, 10, 11] rfl (by kernel_rfl) (by kernel_rfl) (by kernel_rfl) (by kernel_rfl) (fun _ _ _ _ _ h => h) hS0 ?_
  refine textS_take (o := _) (.agg #[a0, a1, a2, a3, a4, a5]) (by conv => lhs; simp only [List.getElem?_toArray, List.getElem?_cons_succ, List.getElem?_cons_zero]) (by rfl) (by rfl) ?_ (fun _ => by rfl) (by conv => lhs; simp only [Act.put, List.setIfInBounds_toArray, List.set_cons_succ, List.set_cons_zero]) ?_
  · rintro w1 t0; obtain ⟨c0, c1, c2, c3, c4, c5⟩ := t0.b1.cell; clear t0; go_simp
  refine textS_take (o := _) (.agg #[b0, b1, b2, b3, b4, b5]) (by conv => lhs; simp only [List.getElem?_toArray, List.getElem?_cons_succ, List.getElem?_cons_zero]) (by rfl) (by rfl) ?_ (fun _ => by rfl) (by conv => lhs; simp only [Act.put, List.setIfInBounds_toArray, List.set_cons_succ, List.set_cons_zero]) ?_
  · rintro w1 t0; obtain ⟨c0, c1, c2, c3, c4, c5⟩ := t0.b2.cell; clear t0; go_simp
  refine textS_take (o := _) (.agg #[b0, b1, b2, b3, b4, b5]) (by conv => lhs; simp only [List.getElem?_toArray, List.getElem?_cons_succ, List.getElem?_cons_zero]) (by rfl) (by rfl) ?_ (fun _ => by rfl) (by conv => lhs; simp only [Act.put, List.setIfInBounds_toArray, List.set_cons_succ, List.set_cons_zero]) ?_
  · rintro w1 t0; obtain ⟨c0, c1, c2, c3, c4, c5⟩ := t0.b2.cell; clear t0; go_simp
  refine textS_take (o := _) (.agg #[d0, d1, d2, d3, d4, d5]) (by conv => lhs; simp only [List.getElem?_toArray, List.getElem?_cons_succ, List.getElem?_cons_zero]) (by rfl) (by rfl) ?_ (fun _ => by rfl) (by conv => lhs; simp only [Act.put, List.setIfInBounds_toArray, List.set_cons_succ, List.set_cons_zero]) ?_
  · rintro w1 t0; obtain ⟨c0, c1, c2, c3, c4, c5⟩ := t0.b3.cell; clear t0; go_simp
  refine textS_take (o := _) (.agg #[a0, a1, a2, a3, a4, a5]) (by conv => lhs; simp only [List.getElem?_toArray, List.getElem?_cons_succ, List.getElem?_cons_zero]) (by rfl) (by rfl) ?_ (fun _ => by rfl) (by conv => lhs; simp only [Act.put, List.setIfInBounds_toArray, List.set_cons_succ, List.set_cons_zero]) ?_
  · rintro w1 t0; obtain ⟨c0, c1, c2, c3, c4, c5⟩ := t0.b1.cell; clear t0; go_simp
  refine textS_take (o := _) (.agg #[d0, d1, d2, d3, d4, d5]) (by conv => lhs; simp only [List.getElem?_toArray, List.getElem?_cons_succ, List.getElem?_cons_zero]) (by rfl) (by rfl) ?_ (fun _ => by rfl) (by conv => lhs; simp only [Act.put, List.setIfInBounds_toArray, List.set_cons_succ, List.set_cons_zero]) ?_
  · rintro w1 t0; obtain ⟨c0, c1, c2, c3, c4, c5⟩ := t0.b3.cell; clear t0; go_simp
  refine textS_call (o := _) (by conv => lhs; simp only [List.getElem?_toArray, List.getElem?_cons_succ, List.getElem?_cons_zero]) (by rfl) (by rfl) ?_
  refine wpIn_call rfl ?_ (HO12.out _ hS0) ?_
  · go_simp
  rintro e whS0_1 ⟨rfl, hS0_1⟩
  refine ⟨_, _, rfl, (by conv => lhs; simp only [Act.put, List.setIfInBounds_toArray, List.set_cons_succ, List.set_cons_zero]), hS0_1, ?_⟩
  refine textS_call (o := _) (by conv => lhs; simp only [List.getElem?_toArray, List.getElem?_cons_succ, List.getElem?_cons_zero]) (by rfl) (by rfl) ?_
  refine wpIn_call rfl ?_ (HO23.out _ hS0_1) ?_
  · go_simp
  rintro e whS0_2 ⟨rfl, hS0_2⟩
  refine ⟨_, _, rfl, (by conv => lhs; simp only [Act.put, List.setIfInBounds_toArray, List.set_cons_succ, List.set_cons_zero]), hS0_2, ?_⟩
  refine textS_call (o := _) (by conv => lhs; simp only [List.getElem?_toArray, List.getElem?_cons_succ, List.getElem?_cons_zero]) (by rfl) (by rfl) ?_
  refine wpIn_call rfl ?_ (HO13.out _ hS0_2) ?_
  · go_simp
  rintro e whS0_3 ⟨rfl, hS0_3⟩
  refine ⟨_, _, rfl, (by conv => lhs; simp only [Act.put, List.setIfInBounds_toArray, List.set_cons_succ, List.set_cons_zero]), hS0_3, ?_⟩
  refine textS_take (o := _) (.int .i64 (-1)) (by conv => lhs; simp only [List.getElem?_toArray, List.getElem?_cons_succ, List.getElem?_cons_zero]) (by rfl) (by rfl) ?_ (fun _ => by rfl) (by conv => lhs; simp only [Act.put, List.setIfInBounds_toArray, List.set_cons_succ, List.set_cons_zero]) ?_
  · intro w _; go_simp
  refine textS_take (o := _) (.int .i64 (-1)) (by conv => lhs; simp only [List.getElem?_toArray, List.getElem?_cons_succ, List.getElem?_cons_zero]) (by rfl) (by rfl) ?_ (fun _ => by rfl) (by conv => lhs; simp only [Act.put, List.setIfInBounds_toArray, List.set_cons_succ, List.set_cons_zero]) ?_
  · intro w _; go_simp
  refine textS_take (o := _) (.int .i64 (-1)) (by conv => lhs; simp only [List.getElem?_toArray, List.getElem?_cons_succ, List.getElem?_cons_zero]) (by rfl) (by rfl) ?_ (fun _ => by rfl) (by conv => lhs; simp only [Act.put, List.setIfInBounds_toArray, List.set_cons_succ, List.set_cons_zero]) ?_
  · intro w _; go_simp
  refine NoPanic.normal ?_
  refine hK1 _ _ ?_
  clear hK1
  have H4 := Lib.hid hS0_3
  clear hS0 hS0_1 hS0_2 hS0_3
  obtain ⟨p0, p1, p2, p3, p4, p5⟩ := H4.out.b1.cell
  obtain ⟨q0, q1, q2, q3, q4, q5⟩ := H4.out.b2.cell
  obtain ⟨r0, r1, r2, r3, r4, r5⟩ := H4.out.b3.cell
  go_wp2_with fail
  refine (HO21.out _ H4.out).mono ?_
  rintro e w5 ⟨rfl, h5⟩
  clear p0 p1 p2 p3 p4 p5 q0 q1 q2 q3 q4 q5 r0 r1 r2 r3 r4 r5
  obtain ⟨p0, p1, p2, p3, p4, p5⟩ := h5.b1.cell
  obtain ⟨q0, q1, q2, q3, q4, q5⟩ := h5.b2.cell
  obtain ⟨r0, r1, r2, r3, r4, r5⟩ := h5.b3.cell
  go_wp2_with fail
  refine (HS.out _ h5).mono ?_
  rintro e w6 ⟨rfl, h6⟩
  clear p0 p1 p2 p3 p4 p5 q0 q1 q2 q3 q4 q5 r0 r1 r2 r3 r4 r5
  obtain ⟨p0, p1, p2, p3, p4, p5⟩ := h6.b1.cell
  obtain ⟨q0, q1, q2, q3, q4, q5⟩ := h6.b2.cell
  obtain ⟨r0, r1, r2, r3, r4, r5⟩ := h6.b3.cell
  go_wp2_with fail
  refine (HO11.out _ h6).mono ?_
  rintro e w7 ⟨rfl, h7⟩
  clear p0 p1 p2 p3 p4 p5 q0 q1 q2 q3 q4 q5 r0 r1 r2 r3 r4 r5
  go_wp2_with fail
  refine (HW.out _ h7).mono ?_
  rintro e w8 ⟨rfl, h8⟩
  have HE := Lib.hid h8.low
  go_wp2_with fail
  go_ret
  exact ⟨rfl, HE.out⟩
set_option maxRecDepth 100000 in
set_option maxHeartbeats 4000000 in
theorem vord_lel (a0 a1 a2 a3 a4 a5 b0 b1 b2 b3 b4 b5 d0 d1 d2 d3 d4 d5 : Value) (w : World)
    (HM1 : Hid (On3 w #[a0, a1, a2, a3, a4, a5] #[b0, b1, b2, b3, b4, b5] #[d0, d1, d2, d3, d4, d5] 10 #[.agg #[a0, a1, a2, a3, a4, a5]] (.bool true)))
    (HM2 : Hid (On3 w #[a0, a1, a2, a3, a4, a5] #[b0, b1, b2, b3, b4, b5] #[d0, d1, d2, d3, d4, d5] 10 #[.agg #[b0, b1, b2, b3, b4, b5]] (.bool true)))
    (HM3 : Hid (On3 w #[a0, a1, a2, a3, a4, a5] #[b0, b1, b2, b3, b4, b5] #[d0, d1, d2, d3, d4, d5] 10 #[.agg #[d0, d1, d2, d3, d4, d5]] (.bool true)))
    (HO12 : Hid (On3 w #[a0, a1, a2, a3, a4, a5] #[b0, b1, b2, b3, b4, b5] #[d0, d1, d2, d3, d4, d5] 23 #[.agg #[a0, a1, a2, a3, a4, a5], .agg #[b0, b1, b2, b3, b4, b5]] (.int .i64 (-1))))
    (HO23 : Hid (On3 w #[a0, a1, a2, a3, a4, a5] #[b0, b1, b2, b3, b4, b5] #[d0, d1, d2, d3, d4, d5] 23 #[.agg #[b0, b1, b2, b3, b4, b5], .agg #[d0, d1, d2, d3, d4, d5]] (.int .i64 (0))))
    (HO13 : Hid (On3 w #[a0, a1, a2, a3, a4, a5] #[b0, b1, b2, b3, b4, b5] #[d0, d1, d2, d3, d4, d5] 23 #[.agg #[a0, a1, a2, a3, a4, a5], .agg #[d0, d1, d2, d3, d4, d5]] (.int .i64 (-1))))
    (HO21 : Hid (On3 w #[a0, a1, a2, a3, a4, a5] #[b0, b1, b2, b3, b4, b5] #[d0, d1, d2, d3, d4, d5] 23 #[.agg #[b0, b1, b2, b3, b4, b5], .agg #[a0, a1, a2, a3, a4, a5]] (.int .i64 (1))))
    (HO11 : Hid (On3 w #[a0, a1, a2, a3, a4, a5] #[b0, b1, b2, b3, b4, b5] #[d0, d1, d2, d3, d4, d5] 23 #[.agg #[a0, a1, a2, a3, a4, a5], .agg #[a0, a1, a2, a3, a4, a5]] (.int .i64 (0))))
    (HS : Hid (On3 w #[a0, a1, a2, a3, a4, a5] #[b0, b1, b2, b3, b4, b5] #[d0, d1, d2, d3, d4, d5] 19 #[.agg #[a0, a1, a2, a3, a4, a5], .agg #[b0, b1, b2, b3, b4, b5]] (.bool false)))
    (HW : Hid (On3 w #[a0, a1, a2, a3, a4, a5] #[b0, b1, b2, b3, b4, b5] #[d0, d1, d2, d3, d4, d5] 15 #[] (.bool true))) :
    Calls Tryd.prog 5 #[.agg #[a0, a1, a2, a3, a4, a5], .agg #[b0, b1, b2, b3, b4, b5], .agg #[d0, d1, d2, d3, d4, d5]] w fun e w' => e = .returned (.bool true) ∧ Below w.heap.size w w' := by
  have h0 := Seen3.new w #[a0, a1, a2, a3, a4, a5] #[b0, b1, b2, b3, b4, b5] #[d0, d1, d2, d3, d4, d5]
  obtain ⟨p0, p1, p2, p3, p4, p5⟩ := h0.b1.cell
  obtain ⟨q0, q1, q2, q3, q4, q5⟩ := h0.b2.cell
  obtain ⟨r0, r1, r2, r3, r4, r5⟩ := h0.b3.cell
  have H0 := Lib.hid h0
  clear h0
  go_enter Tryd.func5, Tryd.ntmps5
  go_wp2_with fail
  refine (HM1.out _ H0.out).mono ?_
  rintro e w1 ⟨rfl, h1⟩
  clear p0 p1 p2 p3 p4 p5 q0 q1 q2 q3 q4 q5 r0 r1 r2 r3 r4 r5
  obtain ⟨p0, p1, p2, p3, p4, p5⟩ := h1.b1.cell
  obtain ⟨q0, q1, q2, q3, q4, q5⟩ := h1.b2.cell
  obtain ⟨r0, r1, r2, r3, r4, r5⟩ := h1.b3.cell
  go_wp2_with fail
  refine (HM2.out _ h1).mono ?_
  rintro e w2 ⟨rfl, h2⟩
  clear p0 p1 p2 p3 p4 p5 q0 q1 q2 q3 q4 q5 r0 r1 r2 r3 r4 r5
  obtain ⟨p0, p1, p2, p3, p4, p5⟩ := h2.b1.cell
  obtain ⟨q0, q1, q2, q3, q4, q5⟩ := h2.b2.cell
  obtain ⟨r0, r1, r2, r3, r4, r5⟩ := h2.b3.cell
  go_wp2_with fail
  refine (HM3.out _ h2).mono ?_
  rintro e w3 ⟨rfl, h3⟩
  have H3 := Lib.hid h3.drew
  clear h1 h2 h3 p0 p1 p2 p3 p4 p5 q0 q1 q2 q3 q4 q5 r0 r1 r2 r3 r4 r5
  go_wp2_with fail
  have hS0 := H3.out
  rename_i Q' K1 hK1
  refine wp_region_noPanic ?_
  refine wpIn_wide (n := 5).1 ?_
  refine wpIn_region_text (Seen3 w #[a0, a1, a2, a3, a4, a5] #[b0, b1, b2, b3, b4, b5] #[d0, d1, d2, d3, d4, d5]) [0, 1, 3, 4, 6, 7, 2, 5, 8, 9, 10, 11] rfl (by kernel_rfl) (by kernel_rfl) (by kernel_rfl) (by kernel_rfl) (fun _ _ _ _ _ h => h) hS0 ?_
  refine textS_take (o := _) (.agg #[a0, a1, a2, a3, a4, a5]) (by conv => lhs; simp only [List.getElem?_toArray, List.getElem?_cons_succ, List.getElem?_cons_zero]) (by rfl) (by rfl) ?_ (fun _ => by rfl) (by conv => lhs; simp only [Act.put, List.setIfInBounds_toArray, List.set_cons_succ, List.set_cons_zero]) ?_
  · rintro w1 t0; obtain ⟨c0, c1, c2, c3, c4, c5⟩ := t0.b1.cell; clear t0; go_simp
  refine textS_take (o := _) (.agg #[b0, b1, b2, b3, b4, b5]) (by conv => lhs; simp only [List.getElem?_toArray, List.getElem?_cons_succ, List.getElem?_cons_zero]) (by rfl) (by rfl) ?_ (fun _ => by rfl) (by conv => lhs; simp only [Act.put, List.setIfInBounds_toArray, List.set_cons_succ, List.set_cons_zero]) ?_
  · rintro w1 t0; obtain ⟨c0, c1, c2, c3, c4, c5⟩ := t0.b2.cell; clear t0; go_simp
  refine textS_take (o := _) (.agg #[b0, b1, b2, b3, b4, b5]) (by conv => lhs; simp only [List.getElem?_toArray, List.getElem?_cons_succ, List.getElem?_cons_zero]) (by rfl) (by rfl) ?_ (fun _ => by rfl) (by conv => lhs; simp only [Act.put, List.setIfInBounds_toArray, List.set_cons_succ, List.set_cons_zero]) ?_
  · rintro w1 t0; obtain ⟨c0, c1, c2, c3, c4, c5⟩ := t0.b2.cell; clear t0; go_simp
  refine textS_take (o := _) (.agg #[d0, d1, d2, d3, d4, d5]) (by conv => lhs; simp only [List.getElem?_toArray, List.getElem?_cons_succ, List.getElem?_cons_zero]) (by rfl) (by rfl) ?_ (fun _ => by rfl) (by conv => lhs; simp only [Act.put, List.setIfInBounds_toArray, List.set_cons_succ, List.set_cons_zero]) ?_
  · rintro w1 t0; obtain ⟨c0, c1, c2, c3, c4, c5⟩ := t0.b3.cell; clear t0; go_simp
  refine textS_take (o := _) (.agg #[a0, a1, a2, a3, a4, a5]) (by conv => lhs; simp only [List.getElem?_toArray, List.getElem?_cons_succ, List.getElem?_cons_zero]) (by rfl) (by rfl) ?_ (fun _ => by rfl) (by conv => lhs; simp only [Act.put, List.setIfInBounds_toArray, List.set_cons_succ, List.set_cons_zero]) ?_
  · rintro w1 t0; obtain ⟨c0, c1, c2, c3, c4, c5⟩ := t0.b1.cell; clear t0; go_simp
  refine textS_take (o := _) (.agg #[d0, d1, d2, d3, d4, d5]) (by conv => lhs; simp only [List.getElem?_toArray, List.getElem?_cons_succ, List.getElem?_cons_zero]) (by rfl) (by rfl) ?_ (fun _ => by rfl) (by conv => lhs; simp only [Act.put, List.setIfInBounds_toArray, List.set_cons_succ, List.set_cons_zero]) ?_
  · rintro w1 t0; obtain ⟨c0, c1, c2, c3, c4, c5⟩ := t0.b3.cell; clear t0; go_simp
  refine textS_call (o := _) (by conv => lhs; simp only [List.getElem?_toArray, List.getElem?_cons_succ, List.getElem?_cons_zero]) (by rfl) (by rfl) ?_
  refine wpIn_call rfl ?_ (HO12.out _ hS0) ?_
  · go_simp
  rintro e whS0_1 ⟨rfl, hS0_1⟩
  refine ⟨_, _, rfl, (by conv => lhs; simp only [Act.put, List.setIfInBounds_toArray, List.set_cons_succ, List.set_cons_zero]), hS0_1, ?_⟩
  refine textS_call (o := _) (by conv => lhs; simp only [List.getElem?_toArray, List.getElem?_cons_succ, List.getElem?_cons_zero]) (by rfl) (by rfl) ?_
  refine wpIn_call rfl ?_ (HO23.out _ hS0_1) ?_
  · go_simp
  rintro e whS0_2 ⟨rfl, hS0_2⟩
  refine ⟨_, _, rfl, (by conv => lhs; simp only [Act.put, List.setIfInBounds_toArray, List.set_cons_succ, List.set_cons_zero]), hS0_2, ?_⟩
  refine textS_call (o := _) (by conv => lhs; simp only [List.getElem?_toArray, List.getElem?_cons_succ, List.getElem?_cons_zero]) (by rfl) (by rfl) ?_
  refine wpIn_call rfl ?_ (HO13.out _ hS0_2) ?_
  · go_simp
  rintro e whS0_3 ⟨rfl, hS0_3⟩
  refine ⟨_, _, rfl, (by conv => lhs; simp only [Act.put, List.setIfInBounds_toArray, List.set_cons_succ, List.set_cons_zero]), hS0_3, ?_⟩
  refine textS_take (o := _) (.int .i64 (-1)) (by conv => lhs; simp only [List.getElem?_toArray, List.getElem?_cons_succ, List.getElem?_cons_zero]) (by rfl) (by rfl) ?_ (fun _ => by rfl) (by conv => lhs; simp only [Act.put, List.setIfInBounds_toArray, List.set_cons_succ, List.set_cons_zero]) ?_
  · intro w _; go_simp
  refine textS_take (o := _) (.int .i64 (0)) (by conv => lhs; simp only [List.getElem?_toArray, List.getElem?_cons_succ, List.getElem?_cons_zero]) (by rfl) (by rfl) ?_ (fun _ => by rfl) (by conv => lhs; simp only [Act.put, List.setIfInBounds_toArray, List.set_cons_succ, List.set_cons_zero]) ?_
  · intro w _; go_simp
  refine textS_take (o := _) (.int .i64 (-1)) (by conv => lhs; simp only [List.getElem?_toArray, List.getElem?_cons_succ, List.getElem?_cons_zero]) (by rfl) (by rfl) ?_ (fun _ => by rfl) (by conv => lhs; simp only [Act.put, List.setIfInBounds_toArray, List.set_cons_succ, List.set_cons_zero]) ?_
  · intro w _; go_simp
  refine NoPanic.normal ?_
  refine hK1 _ _ ?_
  clear hK1
  have H4 := Lib.hid hS0_3
  clear hS0 hS0_1 hS0_2 hS0_3
  obtain ⟨p0, p1, p2, p3, p4, p5⟩ := H4.out.b1.cell
  obtain ⟨q0, q1, q2, q3, q4, q5⟩ := H4.out.b2.cell
  obtain ⟨r0, r1, r2, r3, r4, r5⟩ := H4.out.b3.cell
  go_wp2_with fail
  refine (HO21.out _ H4.out).mono ?_
  rintro e w5 ⟨rfl, h5⟩
  clear p0 p1 p2 p3 p4 p5 q0 q1 q2 q3 q4 q5 r0 r1 r2 r3 r4 r5
  obtain ⟨p0, p1, p2, p3, p4, p5⟩ := h5.b1.cell
  obtain ⟨q0, q1, q2, q3, q4, q5⟩ := h5.b2.cell
  obtain ⟨r0, r1, r2, r3, r4, r5⟩ := h5.b3.cell
  go_wp2_with fail
  refine (HS.out _ h5).mono ?_
  rintro e w6 ⟨rfl, h6⟩
  clear p0 p1 p2 p3 p4 p5 q0 q1 q2 q3 q4 q5 r0 r1 r2 r3 r4 r5
  obtain ⟨p0, p1, p2, p3, p4, p5⟩ := h6.b1.cell
  obtain ⟨q0, q1, q2, q3, q4, q5⟩ := h6.b2.cell
  obtain ⟨r0, r1, r2, r3, r4, r5⟩ := h6.b3.cell
  go_wp2_with fail
  refine (HO11.out _ h6).mono ?_
  rintro e w7 ⟨rfl, h7⟩
  clear p0 p1 p2 p3 p4 p5 q0 q1 q2 q3 q4 q5 r0 r1 r2 r3 r4 r5
  go_wp2_with fail
  refine (HW.out _ h7).mono ?_
  rintro e w8 ⟨rfl, h8⟩
  have HE := Lib.hid h8.low
  go_wp2_with fail
  go_ret
  exact ⟨rfl, HE.out⟩
set_option maxRecDepth 100000 in
set_option maxHeartbeats 4000000 in
theorem vord_lgl (a0 a1 a2 a3 a4 a5 b0 b1 b2 b3 b4 b5 d0 d1 d2 d3 d4 d5 : Value) (w : World)
    (HM1 : Hid (On3 w #[a0, a1, a2, a3, a4, a5] #[b0, b1, b2, b3, b4, b5] #[d0, d1, d2, d3, d4, d5] 10 #[.agg #[a0, a1, a2, a3, a4, a5]] (.bool true)))
    (HM2 : Hid (On3 w #[a0, a1, a2, a3, a4, a5] #[b0, b1, b2, b3, b4, b5] #[d0, d1, d2, d3, d4, d5] 10 #[.agg #[b0, b1, b2, b3, b4, b5]] (.bool true)))
    (HM3 : Hid (On3 w #[a0, a1, a2, a3, a4, a5] #[b0, b1, b2, b3, b4, b5] #[d0, d1, d2, d3, d4, d5] 10 #[.agg #[d0, d1, d2, d3, d4, d5]] (.bool true)))
    (HO12 : Hid (On3 w #[a0, a1, a2, a3, a4, a5] #[b0, b1, b2, b3, b4, b5] #[d0, d1, d2, d3, d4, d5] 23 #[.agg #[a0, a1, a2, a3, a4, a5], .agg #[b0, b1, b2, b3, b4, b5]] (.int .i64 (-1))))
    (HO23 : Hid (On3 w #[a0, a1, a2, a3, a4, a5] #[b0, b1, b2, b3, b4, b5] #[d0, d1, d2, d3, d4, d5] 23 #[.agg #[b0, b1, b2, b3, b4, b5], .agg #[d0, d1, d2, d3, d4, d5]] (.int .i64 (1))))
    (HO13 : Hid (On3 w #[a0, a1, a2, a3, a4, a5] #[b0, b1, b2, b3, b4, b5] #[d0, d1, d2, d3, d4, d5] 23 #[.agg #[a0, a1, a2, a3, a4, a5], .agg #[d0, d1, d2, d3, d4, d5]] (.int .i64 (-1))))
    (HO21 : Hid (On3 w #[a0, a1, a2, a3, a4, a5] #[b0, b1, b2, b3, b4, b5] #[d0, d1, d2, d3, d4, d5] 23 #[.agg #[b0, b1, b2, b3, b4, b5], .agg #[a0, a1, a2, a3, a4, a5]] (.int .i64 (1))))
    (HO11 : Hid (On3 w #[a0, a1, a2, a3, a4, a5] #[b0, b1, b2, b3, b4, b5] #[d0, d1, d2, d3, d4, d5] 23 #[.agg #[a0, a1, a2, a3, a4, a5], .agg #[a0, a1, a2, a3, a4, a5]] (.int .i64 (0))))
    (HS : Hid (On3 w #[a0, a1, a2, a3, a4, a5] #[b0, b1, b2, b3, b4, b5] #[d0, d1, d2, d3, d4, d5] 19 #[.agg #[a0, a1, a2, a3, a4, a5], .agg #[b0, b1, b2, b3, b4, b5]] (.bool false)))
    (HW : Hid (On3 w #[a0, a1, a2, a3, a4, a5] #[b0, b1, b2, b3, b4, b5] #[d0, d1, d2, d3, d4, d5] 15 #[] (.bool true))) :
    Calls Tryd.prog 5 #[.agg #[a0, a1, a2, a3, a4, a5], .agg #[b0, b1, b2, b3, b4, b5], .agg #[d0, d1, d2, d3, d4, d5]] w fun e w' => e = .returned (.bool true) ∧ Below w.heap.size w w' := by
  have h0 := Seen3.new w #[a0, a1, a2, a3, a4, a5] #[b0, b1, b2, b3, b4, b5] #[d0, d1, d2, d3, d4, d5]
  obtain ⟨p0, p1, p2, p3, p4, p5⟩ := h0.b1.cell
  obtain ⟨q0, q1, q2, q3, q4, q5⟩ := h0.b2.cell
  obtain ⟨r0, r1, r2, r3, r4, r5⟩ := h0.b3.cell
  have H0 := Lib.hid h0
  clear h0
  go_enter Tryd.func5, Tryd.ntmps5
  go_wp2_with fail
  refine (HM1.out _ H0.out).mono ?_
  rintro e w1 ⟨rfl, h1⟩
  clear p0 p1 p2 p3 p4 p5 q0 q1 q2 q3 q4 q5 r0 r1 r2 r3 r4 r5
  obtain ⟨p0, p1, p2, p3, p4, p5⟩ := h1.b1.cell
  obtain ⟨q0, q1, q2, q3, q4, q5⟩ := h1.b2.cell
  obtain ⟨r0, r1, r2, r3, r4, r5⟩ := h1.b3.cell
  go_wp2_with fail
  refine (HM2.out _ h1).mono ?_
  rintro e w2 ⟨rfl, h2⟩
  clear p0 p1 p2 p3 p4 p5 q0 q1 q2 q3 q4 q5 r0 r1 r2 r3 r4 r5
  obtain ⟨p0, p1, p2, p3, p4, p5⟩ := h2.b1.cell
  obtain ⟨q0, q1, q2, q3, q4, q5⟩ := h2.b2.cell
  obtain ⟨r0, r1, r2, r3, r4, r5⟩ := h2.b3.cell
  go_wp2_with fail
  refine (HM3.out _ h2).mono ?_
  rintro e w3 ⟨rfl, h3⟩
  have H3 := Lib.hid h3.drew
  clear h1 h2 h3 p0 p1 p2 p3 p4 p5 q0 q1 q2 q3 q4 q5 r0 r1 r2 r3 r4 r5
  go_wp2_with fail
  have hS0 := H3.out
  rename_i Q' K1 hK1
  refine wp_region_noPanic ?_
  refine wpIn_wide (n := 5).1 ?_
  refine wpIn_region_text (Seen3 w #[a0, a1, a2, a3, a4, a5] #[b0, b1, b2, b3, b4, b5] #[d0, d1, d2, d3, d4, d5]) [0, 1, 3, 4, 6, 7, 2, 5, 8, 9, 10, 11] rfl (by kernel_rfl) (by kernel_rfl) (by kernel_rfl) (by kernel_rfl) (fun _ _ _ _ _ h => h) hS0 ?_
  refine textS_take (o := _) (.agg #[a0, a1, a2, a3, a4, a5]) (by conv => lhs; simp only [List.getElem?_toArray, List.getElem?_cons_succ, List.getElem?_cons_zero]) (by rfl) (by rfl) ?_ (fun _ => by rfl) (by conv => lhs; simp only [Act.put, List.setIfInBounds_toArray, List.set_cons_succ, List.set_cons_zero]) ?_
  · rintro w1 t0; obtain ⟨c0, c1, c2, c3, c4, c5⟩ := t0.b1.cell; clear t0; go_simp
  refine textS_take (o := _) (.agg #[b0, b1, b2, b3, b4, b5]) (by conv => lhs; simp only [List.getElem?_toArray, List.getElem?_cons_succ, List.getElem?_cons_zero]) (by rfl) (by rfl) ?_ (fun _ => by rfl) (by conv => lhs; simp only [Act.put, List.setIfInBounds_toArray, List.set_cons_succ, List.set_cons_zero]) ?_
  · rintro w1 t0; obtain ⟨c0, c1, c2, c3, c4, c5⟩ := t0.b2.cell; clear t0; go_simp
  refine textS_take (o := _) (.agg #[b0, b1, b2, b3, b4, b5]) (by conv => lhs; simp only [List.getElem?_toArray, List.getElem?_cons_succ, List.getElem?_cons_zero]) (by rfl) (by rfl) ?_ (fun _ => by rfl) (by conv => lhs; simp only [Act.put, List.setIfInBounds_toArray, List.set_cons_succ, List.set_cons_zero]) ?_
  · rintro w1 t0; obtain ⟨c0, c1, c2, c3, c4, c5⟩ := t0.b2.cell; clear t0; go_simp
  refine textS_take (o := _) (.agg #[d0, d1, d2, d3, d4, d5]) (by conv => lhs; simp only [List.getElem?_toArray, List.getElem?_cons_succ, List.getElem?_cons_zero]) (by rfl) (by rfl) ?_ (fun _ => by rfl) (by conv => lhs; simp only [Act.put, List.setIfInBounds_toArray, List.set_cons_succ, List.set_cons_zero]) ?_
  · rintro w1 t0; obtain ⟨c0, c1, c2, c3, c4, c5⟩ := t0.b3.cell; clear t0; go_simp
  refine textS_take (o := _) (.agg #[a0, a1, a2, a3, a4, a5]) (by conv => lhs; simp only [List.getElem?_toArray, List.getElem?_cons_succ, List.getElem?_cons_zero]) (by rfl) (by rfl) ?_ (fun _ => by rfl) (by conv => lhs; simp only [Act.put, List.setIfInBounds_toArray, List.set_cons_succ, List.set_cons_zero]) ?_
  · rintro w1 t0; obtain ⟨c0, c1, c2, c3, c4, c5⟩ := t0.b1.cell; clear t0; go_simp
  refine textS_take (o := _) (.agg #[d0, d1, d2, d3, d4, d5]) (by conv => lhs; simp only [List.getElem?_toArray, List.getElem?_cons_succ, List.getElem?_cons_zero]) (by rfl) (by rfl) ?_ (fun _ => by rfl) (by conv => lhs; simp only [Act.put, List.setIfInBounds_toArray, List.set_cons_succ, List.set_cons_zero]) ?_
  · rintro w1 t0; obtain ⟨c0, c1, c2, c3, c4, c5⟩ := t0.b3.cell; clear t0; go_simp
  refine textS_call (o := _) (by conv => lhs; simp only [List.getElem?_toArray, List.getElem?_cons_succ, List.getElem?_cons_zero]) (by rfl) (by rfl) ?_
  refine wpIn_call rfl ?_ (HO12.out _ hS0) ?_
  · go_simp
  rintro e whS0_1 ⟨rfl, hS0_1⟩
  refine ⟨_, _, rfl, (by conv => lhs; simp only [Act.put, List.setIfInBounds_toArray, List.set_cons_succ, List.set_cons_zero]), hS0_1, ?_⟩
  refine textS_call (o := _) (by conv => lhs; simp only [List.getElem?_toArray, List.getElem?_cons_succ, List.getElem?_cons_zero]) (by rfl) (by rfl) ?_
  refine wpIn_call rfl ?_ (HO23.out _ hS0_1) ?_
  · go_simp
  rintro e whS0_2 ⟨rfl, hS0_2⟩
  refine ⟨_, _, rfl, (by conv => lhs; simp only [Act.put, List.setIfInBounds_toArray, List.set_cons_succ, List.set_cons_zero]), hS0_2, ?_⟩
  refine textS_call (o := _) (by conv => lhs; simp only [List.getElem?_toArray, List.getElem?_cons_succ, List.getElem?_cons_zero]) (by rfl) (by rfl) ?_
  refine wpIn_call rfl ?_ (HO13.out _ hS0_2) ?_
  · go_simp
  rintro e whS0_3 ⟨rfl, hS0_3⟩
  refine ⟨_, _, rfl, (by conv => lhs; simp only [Act.put, List.setIfInBounds_toArray, List.set_cons_succ, List.set_cons_zero]), hS0_3, ?_⟩
  refine textS_take (o := _) (.int .i64 (-1)) (by conv => lhs; simp only [List.getElem?_toArray, List.getElem?_cons_succ, List.getElem?_cons_zero]) (by rfl) (by rfl) ?_ (fun _ => by rfl) (by conv => lhs; simp only [Act.put, List.setIfInBounds_toArray, List.set_cons_succ, List.set_cons_zero]) ?_
  · intro w _; go_simp
  refine textS_take (o := _) (.int .i64 (1)) (by conv => lhs; simp only [List.getElem?_toArray, List.getElem?_cons_succ, List.getElem?_cons_zero]) (by rfl) (by rfl) ?_ (fun _ => by rfl) (by conv => lhs; simp only [Act.put, List.setIfInBounds_toArray, List.set_cons_succ, List.set_cons_zero]) ?_
  · intro w _; go_simp
  refine textS_take (o := _) (.int .i64 (-1)) (by conv => lhs; simp only [List.getElem?_toArray, List.getElem?_cons_succ, List.getElem?_cons_zero]) (by rfl) (by rfl) ?_ (fun _ => by rfl) (by conv => lhs; simp only [Act.put, List.setIfInBounds_toArray, List.set_cons_succ, List.set_cons_zero]) ?_
  · intro w _; go_simp
  refine NoPanic.normal ?_
  refine hK1 _ _ ?_
  clear hK1
  have H4 := Lib.hid hS0_3
  clear hS0 hS0_1 hS0_2 hS0_3
  obtain ⟨p0, p1, p2, p3, p4, p5⟩ := H4.out.b1.cell
  obtain ⟨q0, q1, q2, q3, q4, q5⟩ := H4.out.b2.cell
  obtain ⟨r0, r1, r2, r3, r4, r5⟩ := H4.out.b3.cell
  go_wp2_with fail
  refine (HO21.out _ H4.out).mono ?_
  rintro e w5 ⟨rfl, h5⟩
  clear p0 p1 p2 p3 p4 p5 q0 q1 q2 q3 q4 q5 r0 r1 r2 r3 r4 r5
  obtain ⟨p0, p1, p2, p3, p4, p5⟩ := h5.b1.cell
  obtain ⟨q0, q1, q2, q3, q4, q5⟩ := h5.b2.cell
  obtain ⟨r0, r1, r2, r3, r4, r5⟩ := h5.b3.cell
  go_wp2_with fail
  refine (HS.out _ h5).mono ?_
  rintro e w6 ⟨rfl, h6⟩
  clear p0 p1 p2 p3 p4 p5 q0 q1 q2 q3 q4 q5 r0 r1 r2 r3 r4 r5
  obtain ⟨p0, p1, p2, p3, p4, p5⟩ := h6.b1.cell
  obtain ⟨q0, q1, q2, q3, q4, q5⟩ := h6.b2.cell
  obtain ⟨r0, r1, r2, r3, r4, r5⟩ := h6.b3.cell
  go_wp2_with fail
  refine (HO11.out _ h6).mono ?_
  rintro e w7 ⟨rfl, h7⟩
  clear p0 p1 p2 p3 p4 p5 q0 q1 q2 q3 q4 q5 r0 r1 r2 r3 r4 r5
  go_wp2_with fail
  refine (HW.out _ h7).mono ?_
  rintro e w8 ⟨rfl, h8⟩
  have HE := Lib.hid h8.low
  go_wp2_with fail
  go_ret
  exact ⟨rfl, HE.out⟩
set_option maxRecDepth 100000 in
set_option maxHeartbeats 4000000 in
theorem vord_lge (a0 a1 a2 a3 a4 a5 b0 b1 b2 b3 b4 b5 d0 d1 d2 d3 d4 d5 : Value) (w : World)
    (HM1 : Hid (On3 w #[a0, a1, a2, a3, a4, a5] #[b0, b1, b2, b3, b4, b5] #[d0, d1, d2, d3, d4, d5] 10 #[.agg #[a0, a1, a2, a3, a4, a5]] (.bool true)))
    (HM2 : Hid (On3 w #[a0, a1, a2, a3, a4, a5] #[b0, b1, b2, b3, b4, b5] #[d0, d1, d2, d3, d4, d5] 10 #[.agg #[b0, b1, b2, b3, b4, b5]] (.bool true)))
    (HM3 : Hid (On3 w #[a0, a1, a2, a3, a4, a5] #[b0, b1, b2, b3, b4, b5] #[d0, d1, d2, d3, d4, d5] 10 #[.agg #[d0, d1, d2, d3, d4, d5]] (.bool true)))
    (HO12 : Hid (On3 w #[a0, a1, a2, a3, a4, a5] #[b0, b1, b2, b3, b4, b5] #[d0, d1, d2, d3, d4, d5] 23 #[.agg #[a0, a1, a2, a3, a4, a5], .agg #[b0, b1, b2, b3, b4, b5]] (.int .i64 (-1))))
    (HO23 : Hid (On3 w #[a0, a1, a2, a3, a4, a5] #[b0, b1, b2, b3, b4, b5] #[d0, d1, d2, d3, d4, d5] 23 #[.agg #[b0, b1, b2, b3, b4, b5], .agg #[d0, d1, d2, d3, d4, d5]] (.int .i64 (1))))
    (HO13 : Hid (On3 w #[a0, a1, a2, a3, a4, a5] #[b0, b1, b2, b3, b4, b5] #[d0, d1, d2, d3, d4, d5] 23 #[.agg #[a0, a1, a2, a3, a4, a5], .agg #[d0, d1, d2, d3, d4, d5]] (.int .i64 (0))))
    (HO21 : Hid (On3 w #[a0, a1, a2, a3, a4, a5] #[b0, b1, b2, b3, b4, b5] #[d0, d1, d2, d3, d4, d5] 23 #[.agg #[b0, b1, b2, b3, b4, b5], .agg #[a0, a1, a2, a3, a4, a5]] (.int .i64 (1))))
    (HO11 : Hid (On3 w #[a0, a1, a2, a3, a4, a5] #[b0, b1, b2, b3, b4, b5] #[d0, d1, d2, d3, d4, d5] 23 #[.agg #[a0, a1, a2, a3, a4, a5], .agg #[a0, a1, a2, a3, a4, a5]] (.int .i64 (0))))
    (HS : Hid (On3 w #[a0, a1, a2, a3, a4, a5] #[b0, b1, b2, b3, b4, b5] #[d0, d1, d2, d3, d4, d5] 19 #[.agg #[a0, a1, a2, a3, a4, a5], .agg #[b0, b1, b2, b3, b4, b5]] (.bool false)))
    (HW : Hid (On3 w #[a0, a1, a2, a3, a4, a5] #[b0, b1, b2, b3, b4, b5] #[d0, d1, d2, d3, d4, d5] 15 #[] (.bool true))) :
    Calls Tryd.prog 5 #[.agg #[a0, a1, a2, a3, a4, a5], .agg #[b0, b1, b2, b3, b4, b5], .agg #[d0, d1, d2, d3, d4, d5]] w fun e w' => e = .returned (.bool true) ∧ Below w.heap.size w w' := by
  have h0 := Seen3.new w #[a0, a1, a2, a3, a4, a5] #[b0, b1, b2, b3, b4, b5] #[d0, d1, d2, d3, d4, d5]
  obtain ⟨p0, p1, p2, p3, p4, p5⟩ := h0.b1.cell
  obtain ⟨q0, q1, q2, q3, q4, q5⟩ := h0.b2.cell
  obtain ⟨r0, r1, r2, r3, r4, r5⟩ := h0.b3.cell
  have H0 := Lib.hid h0
  clear h0
  go_enter Tryd.func5, Tryd.ntmps5
  go_wp2_with fail
  refine (HM1.out _ H0.out).mono ?_
  rintro e w1 ⟨rfl, h1⟩
  clear p0 p1 p2 p3 p4 p5 q0 q1 q2 q3 q4 q5 r0 r1 r2 r3 r4 r5
  obtain ⟨p0, p1, p2, p3, p4, p5⟩ := h1.b1.cell
  obtain ⟨q0, q1, q2, q3, q4, q5⟩ := h1.b2.cell
  obtain ⟨r0, r1, r2, r3, r4, r5⟩ := h1.b3.cell
  go_wp2_with fail
  refine (HM2.out _ h1).mono ?_
  rintro e w2 ⟨rfl, h2⟩
  clear p0 p1 p2 p3 p4 p5 q0 q1 q2 q3 q4 q5 r0 r1 r2 r3 r4 r5
  obtain ⟨p0, p1, p2, p3, p4, p5⟩ := h2.b1.cell
  obtain ⟨q0, q1, q2, q3, q4, q5⟩ := h2.b2.cell
  obtain ⟨r0, r1, r2, r3, r4, r5⟩ := h2.b3.cell
  go_wp2_with fail
  refine (HM3.out _ h2).mono ?_
  rintro e w3 ⟨rfl, h3⟩
  have H3 := Lib.hid h3.drew
  clear h1 h2 h3 p0 p1 p2 p3 p4 p5 q0 q1 q2 q3 q4 q5 r0 r1 r2 r3 r4 r5
  go_wp2_with fail
  have hS0 := H3.out
  rename_i Q' K1 hK1
  refine wp_region_noPanic ?_
  refine wpIn_wide (n := 5).1 ?_
  refine wpIn_region_text (Seen3 w #[a0, a1, a2, a3, a4, a5] #[b0, b1, b2, b3, b4, b5] #[d0, d1, d2, d3, d4, d5]) [0, 1, 3, 4, 6, 7, 2, 5, 8, 9, 10, 11] rfl (by kernel_rfl) (by kernel_rfl) (by kernel_rfl) (by kernel_rfl) (fun _ _ _ _ _ h => h) hS0 ?_
  refine textS_take (o := _) (.agg #[a0, a1, a2, a3, a4, a5]) (by conv => lhs; simp only [List.getElem?_toArray, List.getElem?_cons_succ, List.getElem?_cons_zero]) (by rfl) (by rfl) ?_ (fun _ => by rfl) (by conv => lhs; simp only [Act.put, List.setIfInBounds_toArray, List.set_cons_succ, List.set_cons_zero]) ?_
  · rintro w1 t0; obtain ⟨c0, c1, c2, c3, c4, c5⟩ := t0.b1.cell; clear t0; go_simp
  refine textS_take (o := _) (.agg #[b0, b1, b2, b3, b4, b5]) (by conv => lhs; simp only [List.getElem?_toArray, List.getElem?_cons_succ, List.getElem?_cons_zero]) (by rfl) (by rfl) ?_ (fun _ => by rfl) (by conv => lhs; simp only [Act.put, List.setIfInBounds_toArray, List.set_cons_succ, List.set_cons_zero]) ?_
  · rintro w1 t0; obtain ⟨c0, c1, c2, c3, c4, c5⟩ := t0.b2.cell; clear t0; go_simp
  refine textS_take (o := _) (.agg #[b0, b1, b2, b3, b4, b5]) (by conv => lhs; simp only [List.getElem?_toArray, List.getElem?_cons_succ, List.getElem?_cons_zero]) (by rfl) (by rfl) ?_ (fun _ => by rfl) (by conv => lhs; simp only [Act.put, List.setIfInBounds_toArray, List.set_cons_succ, List.set_cons_zero]) ?_
  · rintro w1 t0; obtain ⟨c0, c1, c2, c3, c4, c5⟩ := t0.b2.cell; clear t0; go_simp
  refine textS_take (o := _) (.agg #[d0, d1, d2, d3, d4, d5]) (by conv => lhs; simp only [List.getElem?_toArray, List.getElem?_cons_succ, List.getElem?_cons_zero]) (by rfl) (by rfl) ?_ (fun _ => by rfl) (by conv => lhs; simp only [Act.put, List.setIfInBounds_toArray, List.set_cons_succ, List.set_cons_zero]) ?_
  · rintro w1 t0; obtain ⟨c0, c1, c2, c3, c4, c5⟩ := t0.b3.cell; clear t0; go_simp
  refine textS_take (o := _) (.agg #[a0, a1, a2, a3, a4, a5]) (by conv => lhs; simp only [List.getElem?_toArray, List.getElem?_cons_succ, List.getElem?_cons_zero]) (by rfl) (by rfl) ?_ (fun _ => by rfl) (by conv => lhs; simp only [Act.put, List.setIfInBounds_toArray, List.set_cons_succ, List.set_cons_zero]) ?_
  · rintro w1 t0; obtain ⟨c0, c1, c2, c3, c4, c5⟩ := t0.b1.cell; clear t0; go_simp
  refine textS_take (o := _) (.agg #[d0, d1, d2, d3, d4, d5]) (by conv => lhs; simp only [List.getElem?_toArray, List.getElem?_cons_succ, List.getElem?_cons_zero]) (by rfl) (by rfl) ?_ (fun _ => by rfl) (by conv => lhs; simp only [Act.put, List.setIfInBounds_toArray, List.set_cons_succ, List.set_cons_zero]) ?_
  · rintro w1 t0; obtain ⟨c0, c1, c2, c3, c4, c5⟩ := t0.b3.cell; clear t0; go_simp
  refine textS_call (o := _) (by conv => lhs; simp only [List.getElem?_toArray, List.getElem?_cons_succ, List.getElem?_cons_zero]) (by rfl) (by rfl) ?_
  refine wpIn_call rfl ?_ (HO12.out _ hS0) ?_
  · go_simp
  rintro e whS0_1 ⟨rfl, hS0_1⟩
  refine ⟨_, _, rfl, (by conv => lhs; simp only [Act.put, List.setIfInBounds_toArray, List.set_cons_succ, List.set_cons_zero]), hS0_1, ?_⟩
  refine textS_call (o := _) (by conv => lhs; simp only [List.getElem?_toArray, List.getElem?_cons_succ, List.getElem?_cons_zero]) (by rfl) (by rfl) ?_
  refine wpIn_call rfl ?_ (HO23.out _ hS0_1) ?_
  · go_simp
  rintro e whS0_2 ⟨rfl, hS0_2⟩
  refine ⟨_, _, rfl, (by conv => lhs; simp only [Act.put, List.setIfInBounds_toArray, List.set_cons_succ, List.set_cons_zero]), hS0_2, ?_⟩
  refine textS_call (o := _) (by conv => lhs; simp only [List.getElem?_toArray, List.getElem?_cons_succ, List.getElem?_cons_zero]) (by rfl) (by rfl) ?_
  refine wpIn_call rfl ?_ (HO13.out _ hS0_2) ?_
  · go_simp
  rintro e whS0_3 ⟨rfl, hS0_3⟩
  refine ⟨_, _, rfl, (by conv => lhs; simp only [Act.put, List.setIfInBounds_toArray, List.set_cons_succ, List.set_cons_zero]), hS0_3, ?_⟩
  refine textS_take (o := _) (.int .i64 (-1)) (by conv => lhs; simp only [List.getElem?_toArray, List.getElem?_cons_succ, List.getElem?_cons_zero]) (by rfl) (by rfl) ?_ (fun _ => by rfl) (by conv => lhs; simp only [Act.put, List.setIfInBounds_toArray, List.set_cons_succ, List.set_cons_zero]) ?_
  · intro w _; go_simp
  refine textS_take (o := _) (.int .i64 (1)) (by conv => lhs; simp only [List.getElem?_toArray, List.getElem?_cons_succ, List.getElem?_cons_zero]) (by rfl) (by rfl) ?_ (fun _ => by rfl) (by conv => lhs; simp only [Act.put, List.setIfInBounds_toArray, List.set_cons_succ, List.set_cons_zero]) ?_
  · intro w _; go_simp
  refine textS_take (o := _) (.int .i64 (0)) (by conv => lhs; simp only [List.getElem?_toArray, List.getElem?_cons_succ, List.getElem?_cons_zero]) (by rfl) (by rfl) ?_ (fun _ => by rfl) (by conv => lhs; simp only [Act.put, List.setIfInBounds_toArray, List.set_cons_succ, List.set_cons_zero]) ?_
  · intro w _; go_simp
  refine NoPanic.normal ?_
  refine hK1 _ _ ?_
  clear hK1
  have H4 := Lib.hid hS0_3
  clear hS0 hS0_1 hS0_2 hS0_3
  obtain ⟨p0, p1, p2, p3, p4, p5⟩ := H4.out.b1.cell
  obtain ⟨q0, q1, q2, q3, q4, q5⟩ := H4.out.b2.cell
  obtain ⟨r0, r1, r2, r3, r4, r5⟩ := H4.out.b3.cell
  go_wp2_with fail
  refine (HO21.out _ H4.out).mono ?_
  rintro e w5 ⟨rfl, h5⟩
  clear p0 p1 p2 p3 p4 p5 q0 q1 q2 q3 q4 q5 r0 r1 r2 r3 r4 r5
  obtain ⟨p0, p1, p2, p3, p4, p5⟩ := h5.b1.cell
  obtain ⟨q0, q1, q2, q3, q4, q5⟩ := h5.b2.cell
  obtain ⟨r0, r1, r2, r3, r4, r5⟩ := h5.b3.cell
  go_wp2_with fail
  refine (HS.out _ h5).mono ?_
  rintro e w6 ⟨rfl, h6⟩
  clear p0 p1 p2 p3 p4 p5 q0 q1 q2 q3 q4 q5 r0 r1 r2 r3 r4 r5
  obtain ⟨p0, p1, p2, p3, p4, p5⟩ := h6.b1.cell
  obtain ⟨q0, q1, q2, q3, q4, q5⟩ := h6.b2.cell
  obtain ⟨r0, r1, r2, r3, r4, r5⟩ := h6.b3.cell
  go_wp2_with fail
  refine (HO11.out _ h6).mono ?_
  rintro e w7 ⟨rfl, h7⟩
  clear p0 p1 p2 p3 p4 p5 q0 q1 q2 q3 q4 q5 r0 r1 r2 r3 r4 r5
  go_wp2_with fail
  refine (HW.out _ h7).mono ?_
  rintro e w8 ⟨rfl, h8⟩
  have HE := Lib.hid h8.low
  go_wp2_with fail
  go_ret
  exact ⟨rfl, HE.out⟩
set_option maxRecDepth 100000 in
set_option maxHeartbeats 4000000 in
theorem vord_lgg (a0 a1 a2 a3 a4 a5 b0 b1 b2 b3 b4 b5 d0 d1 d2 d3 d4 d5 : Value) (w : World)
    (HM1 : Hid (On3 w #[a0, a1, a2, a3, a4, a5] #[b0, b1, b2, b3, b4, b5] #[d0, d1, d2, d3, d4, d5] 10 #[.agg #[a0, a1, a2, a3, a4, a5]] (.bool true)))
    (HM2 : Hid (On3 w #[a0, a1, a2, a3, a4, a5] #[b0, b1, b2, b3, b4, b5] #[d0, d1, d2, d3, d4, d5] 10 #[.agg #[b0, b1, b2, b3, b4, b5]] (.bool true)))
    (HM3 : Hid (On3 w #[a0, a1, a2, a3, a4, a5] #[b0, b1, b2, b3, b4, b5] #[d0, d1, d2, d3, d4, d5] 10 #[.agg #[d0, d1, d2, d3, d4, d5]] (.bool true)))
    (HO12 : Hid (On3 w #[a0, a1, a2, a3, a4, a5] #[b0, b1, b2, b3, b4, b5] #[d0, d1, d2, d3, d4, d5] 23 #[.agg #[a0, a1, a2, a3, a4, a5], .agg #[b0, b1, b2, b3, b4, b5]] (.int .i64 (-1))))
    (HO23 : Hid (On3 w #[a0, a1, a2, a3, a4, a5] #[b0, b1, b2, b3, b4, b5] #[d0, d1, d2, d3, d4, d5] 23 #[.agg #[b0, b1, b2, b3, b4, b5], .agg #[d0, d1, d2, d3, d4, d5]] (.int .i64 (1))))
    (HO13 : Hid (On3 w #[a0, a1, a2, a3, a4, a5] #[b0, b1, b2, b3, b4, b5] #[d0, d1, d2, d3, d4, d5] 23 #[.agg #[a0, a1, a2, a3, a4, a5], .agg #[d0, d1, d2, d3, d4, d5]] (.int .i64 (1))))
    (HO21 : Hid (On3 w #[a0, a1, a2, a3, a4, a5] #[b0, b1, b2, b3, b4, b5] #[d0, d1, d2, d3, d4, d5] 23 #[.agg #[b0, b1, b2, b3, b4, b5], .agg #[a0, a1, a2, a3, a4, a5]] (.int .i64 (1))))
    (HO11 : Hid (On3 w #[a0, a1, a2, a3, a4, a5] #[b0, b1, b2, b3, b4, b5] #[d0, d1, d2, d3, d4, d5] 23 #[.agg #[a0, a1, a2, a3, a4, a5], .agg #[a0, a1, a2, a3, a4, a5]] (.int .i64 (0))))
    (HS : Hid (On3 w #[a0, a1, a2, a3, a4, a5] #[b0, b1, b2, b3, b4, b5] #[d0, d1, d2, d3, d4, d5] 19 #[.agg #[a0, a1, a2, a3, a4, a5], .agg #[b0, b1, b2, b3, b4, b5]] (.bool false)))
    (HW : Hid (On3 w #[a0, a1, a2, a3, a4, a5] #[b0, b1, b2, b3, b4, b5] #[d0, d1, d2, d3, d4, d5] 15 #[] (.bool true))) :
    Calls Tryd.prog 5 #[.agg #[a0, a1, a2, a3, a4, a5], .agg #[b0, b1, b2, b3, b4, b5], .agg #[d0, d1, d2, d3, d4, d5]] w fun e w' => e = .returned (.bool true) ∧ Below w.heap.size w w' := by
  have h0 := Seen3.new w #[a0, a1, a2, a3, a4, a5] #[b0, b1, b2, b3, b4, b5] #[d0, d1, d2, d3, d4, d5]
  obtain ⟨p0, p1, p2, p3, p4, p5⟩ := h0.b1.cell
  obtain ⟨q0, q1, q2, q3, q4, q5⟩ := h0.b2.cell
  obtain ⟨r0, r1, r2, r3, r4, r5⟩ := h0.b3.cell
  have H0 := Lib.hid h0
  clear h0
  go_enter Tryd.func5, Tryd.ntmps5
  go_wp2_with fail
  refine (HM1.out _ H0.out).mono ?_
  rintro e w1 ⟨rfl, h1⟩
  clear p0 p1 p2 p3 p4 p5 q0 q1 q2 q3 q4 q5 r0 r1 r2 r3 r4 r5
  obtain ⟨p0, p1, p2, p3, p4, p5⟩ := h1.b1.cell
  obtain ⟨q0, q1, q2, q3, q4, q5⟩ := h1.b2.cell
  obtain ⟨r0, r1, r2, r3, r4, r5⟩ := h1.b3.cell
  go_wp2_with fail
  refine (HM2.out _ h1).mono ?_
  rintro e w2 ⟨rfl, h2⟩
  clear p0 p1 p2 p3 p4 p5 q0 q1 q2 q3 q4 q5 r0 r1 r2 r3 r4 r5
  obtain ⟨p0, p1, p2, p3, p4, p5⟩ := h2.b1.cell
  obtain ⟨q0, q1, q2, q3, q4, q5⟩ := h2.b2.cell
  obtain ⟨r0, r1, r2, r3, r4, r5⟩ := h2.b3.cell
  go_wp2_with fail
  refine (HM3.out _ h2).mono ?_
  rintro e w3 ⟨rfl, h3⟩
  have H3 := Lib.hid h3.drew
  clear h1 h2 h3 p0 p1 p2 p3 p4 p5 q0 q1 q2 q3 q4 q5 r0 r1 r2 r3 r4 r5
  go_wp2_with fail
  have hS0 := H3.out
  rename_i Q' K1 hK1
  refine wp_region_noPanic ?_
  refine wpIn_wide (n := 5).1 ?_
  refine wpIn_region_text (Seen3 w #[a0, a1, a2, a3, a4, a5] #[b0, b1, b2, b3, b4, b5] #[d0, d1, d2, d3, d4, d5]) [0, 1, 3, 4, 6, 7, 2, 5, 8, 9, 10, 11] rfl (by kernel_rfl) (by kernel_rfl) (by kernel_rfl) (by kernel_rfl) (fun _ _ _ _ _ h => h) hS0 ?_
  refine textS_take (o := _) (.agg #[a0, a1, a2, a3, a4, a5]) (by conv => lhs; simp only [List.getElem?_toArray, List.getElem?_cons_succ, List.getElem?_cons_zero]) (by rfl) (by rfl) ?_ (fun _ => by rfl) (by conv => lhs; simp only [Act.put, List.setIfInBounds_toArray, List.set_cons_succ, List.set_cons_zero]) ?_
  · rintro w1 t0; obtain ⟨c0, c1, c2, c3, c4, c5⟩ := t0.b1.cell; clear t0; go_simp
  refine textS_take (o := _) (.agg #[b0, b1, b2, b3, b4, b5]) (by conv => lhs; simp only [List.getElem?_toArray, List.getElem?_cons_succ, List.getElem?_cons_zero]) (by rfl) (by rfl) ?_ (fun _ => by rfl) (by conv => lhs; simp only [Act.put, List.setIfInBounds_toArray, List.set_cons_succ, List.set_cons_zero]) ?_
  · rintro w1 t0; obtain ⟨c0, c1, c2, c3, c4, c5⟩ := t0.b2.cell; clear t0; go_simp
  refine textS_take (o := _) (.agg #[b0, b1, b2, b3, b4, b5]) (by conv => lhs; simp only [List.getElem?_toArray, List.getElem?_cons_succ, List.getElem?_cons_zero]) (by rfl) (by rfl) ?_ (fun _ => by rfl) (by conv => lhs; simp only [Act.put, List.setIfInBounds_toArray, List.set_cons_succ, List.set_cons_zero]) ?_
  · rintro w1 t0; obtain ⟨c0, c1, c2, c3, c4, c5⟩ := t0.b2.cell; clear t0; go_simp
  refine textS_take (o := _) (.agg #[d0, d1, d2, d3, d4, d5]) (by conv => lhs; simp only [List.getElem?_toArray, List.getElem?_cons_succ, List.getElem?_cons_zero]) (by rfl) (by rfl) ?_ (fun _ => by rfl) (by conv => lhs; simp only [Act.put, List.setIfInBounds_toArray, List.set_cons_succ, List.set_cons_zero]) ?_
  · rintro w1 t0; obtain ⟨c0, c1, c2, c3, c4, c5⟩ := t0.b3.cell; clear t0; go_simp
  refine textS_take (o := _) (.agg #[a0, a1, a2, a3, a4, a5]) (by conv => lhs; simp only [List.getElem?_toArray, List.getElem?_cons_succ, List.getElem?_cons_zero]) (by rfl) (by rfl) ?_ (fun _ => by rfl) (by conv => lhs; simp only [Act.put, List.setIfInBounds_toArray, List.set_cons_succ, List.set_cons_zero]) ?_
  · rintro w1 t0; obtain ⟨c0, c1, c2, c3, c4, c5⟩ := t0.b1.cell; clear t0; go_simp
  refine textS_take (o := _) (.agg #[d0, d1, d2, d3, d4, d5]) (by conv => lhs; simp only [List.getElem?_toArray, List.getElem?_cons_succ, List.getElem?_cons_zero]) (by rfl) (by rfl) ?_ (fun _ => by rfl) (by conv => lhs; simp only [Act.put, List.setIfInBounds_toArray, List.set_cons_succ, List.set_cons_zero]) ?_
  · rintro w1 t0; obtain ⟨c0, c1, c2, c3, c4, c5⟩ := t0.b3.cell; clear t0; go_simp
  refine textS_call (o := _) (by conv => lhs; simp only [List.getElem?_toArray, List.getElem?_cons_succ, List.getElem?_cons_zero]) (by rfl) (by rfl) ?_
  refine wpIn_call rfl ?_ (HO12.out _ hS0) ?_
  · go_simp
  rintro e whS0_1 ⟨rfl, hS0_1⟩
  refine ⟨_, _, rfl, (by conv => lhs; simp only [Act.put, List.setIfInBounds_toArray, List.set_cons_succ, List.set_cons_zero]), hS0_1, ?_⟩
  refine textS_call (o := _) (by conv => lhs; simp only [List.getElem?_toArray, List.getElem?_cons_succ, List.getElem?_cons_zero]) (by rfl) (by rfl) ?_
  refine wpIn_call rfl ?_ (HO23.out _ hS0_1) ?_
  · go_simp
  rintro e whS0_2 ⟨rfl, hS0_2⟩
  refine ⟨_, _, rfl, (by conv => lhs; simp only [Act.put, List.setIfInBounds_toArray, List.set_cons_succ, List.set_cons_zero]), hS0_2, ?_⟩
  refine textS_call (o := _) (by conv => lhs; simp only [List.getElem?_toArray, List.getElem?_cons_succ, List.getElem?_cons_zero]) (by rfl) (by rfl) ?_
  refine wpIn_call rfl ?_ (HO13.out _ hS0_2) ?_
  · go_simp
  rintro e whS0_3 ⟨rfl, hS0_3⟩
  refine ⟨_, _, rfl, (by conv => lhs; simp only [Act.put, List.setIfInBounds_toArray, List.set_cons_succ, List.set_cons_zero]), hS0_3, ?_⟩
  refine textS_take (o := _) (.int .i64 (-1)) (by conv => lhs; simp only [List.getElem?_toArray, List.getElem?_cons_succ, List.getElem?_cons_zero]) (by rfl) (by rfl) ?_ (fun _ => by rfl) (by conv => lhs; simp only [Act.put, List.setIfInBounds_toArray, List.set_cons_succ, List.set_cons_zero]) ?_
  · intro w _; go_simp
  refine textS_take (o := _) (.int .i64 (1)) (by conv => lhs; simp only [List.getElem?_toArray, List.getElem?_cons_succ, List.getElem?_cons_zero]) (by rfl) (by rfl) ?_ (fun _ => by rfl) (by conv => lhs; simp only [Act.put, List.setIfInBounds_toArray, List.set_cons_succ, List.set_cons_zero]) ?_
  · intro w _; go_simp
  refine textS_take (o := _) (.int .i64 (1)) (by conv => lhs; simp only [List.getElem?_toArray, List.getElem?_cons_succ, List.getElem?_cons_zero]) (by rfl) (by rfl) ?_ (fun _ => by rfl) (by conv => lhs; simp only [Act.put, List.setIfInBounds_toArray, List.set_cons_succ, List.set_cons_zero]) ?_
  · intro w _; go_simp
  refine NoPanic.normal ?_
  refine hK1 _ _ ?_
  clear hK1
  have H4 := Lib.hid hS0_3
  clear hS0 hS0_1 hS0_2 hS0_3
  obtain ⟨p0, p1, p2, p3, p4, p5⟩ := H4.out.b1.cell
  obtain ⟨q0, q1, q2, q3, q4, q5⟩ := H4.out.b2.cell
  obtain ⟨r0, r1, r2, r3, r4, r5⟩ := H4.out.b3.cell
  go_wp2_with fail
  refine (HO21.out _ H4.out).mono ?_
  rintro e w5 ⟨rfl, h5⟩
  clear p0 p1 p2 p3 p4 p5 q0 q1 q2 q3 q4 q5 r0 r1 r2 r3 r4 r5
  obtain ⟨p0, p1, p2, p3, p4, p5⟩ := h5.b1.cell
  obtain ⟨q0, q1, q2, q3, q4, q5⟩ := h5.b2.cell
  obtain ⟨r0, r1, r2, r3, r4, r5⟩ := h5.b3.cell
  go_wp2_with fail
  refine (HS.out _ h5).mono ?_
  rintro e w6 ⟨rfl, h6⟩
  clear p0 p1 p2 p3 p4 p5 q0 q1 q2 q3 q4 q5 r0 r1 r2 r3 r4 r5
  obtain ⟨p0, p1, p2, p3, p4, p5⟩ := h6.b1.cell
  obtain ⟨q0, q1, q2, q3, q4, q5⟩ := h6.b2.cell
  obtain ⟨r0, r1, r2, r3, r4, r5⟩ := h6.b3.cell
  go_wp2_with fail
  refine (HO11.out _ h6).mono ?_
  rintro e w7 ⟨rfl, h7⟩
  clear p0 p1 p2 p3 p4 p5 q0 q1 q2 q3 q4 q5 r0 r1 r2 r3 r4 r5
  go_wp2_with fail
  refine (HW.out _ h7).mono ?_
  rintro e w8 ⟨rfl, h8⟩
  have HE := Lib.hid h8.low
  go_wp2_with fail
  go_ret
  exact ⟨rfl, HE.out⟩
set_option maxRecDepth 100000 in
set_option maxHeartbeats 4000000 in
theorem vord_ell (a0 a1 a2 a3 a4 a5 b0 b1 b2 b3 b4 b5 d0 d1 d2 d3 d4 d5 : Value) (w : World)
    (HM1 : Hid (On3 w #[a0, a1, a2, a3, a4, a5] #[b0, b1, b2, b3, b4, b5] #[d0, d1, d2, d3, d4, d5] 10 #[.agg #[a0, a1, a2, a3, a4, a5]] (.bool true)))
    (HM2 : Hid (On3 w #[a0, a1, a2, a3, a4, a5] #[b0, b1, b2, b3, b4, b5] #[d0, d1, d2, d3, d4, d5] 10 #[.agg #[b0, b1, b2, b3, b4, b5]] (.bool true)))
    (HM3 : Hid (On3 w #[a0, a1, a2, a3, a4, a5] #[b0, b1, b2, b3, b4, b5] #[d0, d1, d2, d3, d4, d5] 10 #[.agg #[d0, d1, d2, d3, d4, d5]] (.bool true)))
    (HO12 : Hid (On3 w #[a0, a1, a2, a3, a4, a5] #[b0, b1, b2, b3, b4, b5] #[d0, d1, d2, d3, d4, d5] 23 #[.agg #[a0, a1, a2, a3, a4, a5], .agg #[b0, b1, b2, b3, b4, b5]] (.int .i64 (0))))
    (HO23 : Hid (On3 w #[a0, a1, a2, a3, a4, a5] #[b0, b1, b2, b3, b4, b5] #[d0, d1, d2, d3, d4, d5] 23 #[.agg #[b0, b1, b2, b3, b4, b5], .agg #[d0, d1, d2, d3, d4, d5]] (.int .i64 (-1))))
    (HO13 : Hid (On3 w #[a0, a1, a2, a3, a4, a5] #[b0, b1, b2, b3, b4, b5] #[d0, d1, d2, d3, d4, d5] 23 #[.agg #[a0, a1, a2, a3, a4, a5], .agg #[d0, d1, d2, d3, d4, d5]] (.int .i64 (-1))))
    (HO21 : Hid (On3 w #[a0, a1, a2, a3, a4, a5] #[b0, b1, b2, b3, b4, b5] #[d0, d1, d2, d3, d4, d5] 23 #[.agg #[b0, b1, b2, b3, b4, b5], .agg #[a0, a1, a2, a3, a4, a5]] (.int .i64 (0))))
    (HO11 : Hid (On3 w #[a0, a1, a2, a3, a4, a5] #[b0, b1, b2, b3, b4, b5] #[d0, d1, d2, d3, d4, d5] 23 #[.agg #[a0, a1, a2, a3, a4, a5], .agg #[a0, a1, a2, a3, a4, a5]] (.int .i64 (0))))
    (HS : Hid (On3 w #[a0, a1, a2, a3, a4, a5] #[b0, b1, b2, b3, b4, b5] #[d0, d1, d2, d3, d4, d5] 19 #[.agg #[a0, a1, a2, a3, a4, a5], .agg #[b0, b1, b2, b3, b4, b5]] (.bool true)))
    (HW : Hid (On3 w #[a0, a1, a2, a3, a4, a5] #[b0, b1, b2, b3, b4, b5] #[d0, d1, d2, d3, d4, d5] 15 #[] (.bool true))) :
    Calls Tryd.prog 5 #[.agg #[a0, a1, a2, a3, a4, a5], .agg #[b0, b1, b2, b3, b4, b5], .agg #[d0, d1, d2, d3, d4, d5]] w fun e w' => e = .returned (.bool true) ∧ Below w.heap.size w w' := by
  have h0 := Seen3.new w #[a0, a1, a2, a3, a4, a5] #[b0, b1, b2, b3, b4, b5] #[d0, d1, d2, d3, d4, d5]
  obtain ⟨p0, p1, p2, p3, p4, p5⟩ := h0.b1.cell
  obtain ⟨q0, q1, q2, q3, q4, q5⟩ := h0.b2.cell
  obtain ⟨r0, r1, r2, r3, r4, r5⟩ := h0.b3.cell
  have H0 := Lib.hid h0
  clear h0
  go_enter Tryd.func5, Tryd.ntmps5
  go_wp2_with fail
  refine (HM1.out _ H0.out).mono ?_
  rintro e w1 ⟨rfl, h1⟩
  clear p0 p1 p2 p3 p4 p5 q0 q1 q2 q3 q4 q5 r0 r1 r2 r3 r4 r5
  obtain ⟨p0, p1, p2, p3, p4, p5⟩ := h1.b1.cell
  obtain ⟨q0, q1, q2, q3, q4, q5⟩ := h1.b2.cell
  obtain ⟨r0, r1, r2, r3, r4, r5⟩ := h1.b3.cell
  go_wp2_with fail
  refine (HM2.out _ h1).mono ?_
  rintro e w2 ⟨rfl, h2⟩
  clear p0 p1 p2 p3 p4 p5 q0 q1 q2 q3 q4 q5 r0 r1 r2 r3 r4 r5
  obtain ⟨p0, p1, p2, p3, p4, p5⟩ := h2.b1.cell
  obtain ⟨q0, q1, q2, q3, q4, q5⟩ := h2.b2.cell
  obtain ⟨r0, r1, r2, r3, r4, r5⟩ := h2.b3.cell
  go_wp2_with fail
  refine (HM3.out _ h2).mono ?_
  rintro e w3 ⟨rfl, h3⟩
  have H3 := Lib.hid h3.drew
  clear h1 h2 h3 p0 p1 p2 p3 p4 p5 q0 q1 q2 q3 q4 q5 r0 r1 r2 r3 r4 r5
  go_wp2_with fail
  have hS0 := H3.out
  rename_i Q' K1 hK1
  refine wp_region_noPanic ?_
  refine wpIn_wide (n := 5).1 ?_
  refine wpIn_region_text (Seen3 w #[a0, a1, a2, a3, a4, a5] #[b0, b1, b2, b3, b4, b5] #[d0, d1, d2, d3, d4, d5]) [0, 1, 3, 4, 6, 7, 2, 5, 8, 9, 10, 11] rfl (by kernel_rfl) (by kernel_rfl) (by kernel_rfl) (by kernel_rfl) (fun _ _ _ _ _ h => h) hS0 ?_
  refine textS_take (o := _) (.agg #[a0, a1, a2, a3, a4, a5]) (by conv => lhs; simp only [List.getElem?_toArray, List.getElem?_cons_succ, List.getElem?_cons_zero]) (by rfl) (by rfl) ?_ (fun _ => by rfl) (by conv => lhs; simp only [Act.put, List.setIfInBounds_toArray, List.set_cons_succ, List.set_cons_zero]) ?_
  · rintro w1 t0; obtain ⟨c0, c1, c2, c3, c4, c5⟩ := t0.b1.cell; clear t0; go_simp
  refine textS_take (o := _) (.agg #[b0, b1, b2, b3, b4, b5]) (by conv => lhs; simp only [List.getElem?_toArray, List.getElem?_cons_succ, List.getElem?_cons_zero]) (by rfl) (by rfl) ?_ (fun _ => by rfl) (by conv => lhs; simp only [Act.put, List.setIfInBounds_toArray, List.set_cons_succ, List.set_cons_zero]) ?_
  · rintro w1 t0; obtain ⟨c0, c1, c2, c3, c4, c5⟩ := t0.b2.cell; clear t0; go_simp
  refine textS_take (o := _) (.agg #[b0, b1, b2, b3, b4, b5]) (by conv => lhs; simp only [List.getElem?_toArray, List.getElem?_cons_succ, List.getElem?_cons_zero]) (by rfl) (by rfl) ?_ (fun _ => by rfl) (by conv => lhs; simp only [Act.put, List.setIfInBounds_toArray, List.set_cons_succ, List.set_cons_zero]) ?_
  · rintro w1 t0; obtain ⟨c0, c1, c2, c3, c4, c5⟩ := t0.b2.cell; clear t0; go_simp
  refine textS_take (o := _) (.agg #[d0, d1, d2, d3, d4, d5]) (by conv => lhs; simp only [List.getElem?_toArray, List.getElem?_cons_succ, List.getElem?_cons_zero]) (by rfl) (by rfl) ?_ (fun _ => by rfl) (by conv => lhs; simp only [Act.put, List.setIfInBounds_toArray, List.set_cons_succ, List.set_cons_zero]) ?_
  · rintro w1 t0; obtain ⟨c0, c1, c2, c3, c4, c5⟩ := t0.b3.cell; clear t0; go_simp
  refine textS_take (o := _) (.agg #[a0, a1, a2, a3, a4, a5]) (by conv => lhs; simp only [List.getElem?_toArray, List.getElem?_cons_succ, List.getElem?_cons_zero]) (by rfl) (by rfl) ?_ (fun _ => by rfl) (by conv => lhs; simp only [Act.put, List.setIfInBounds_toArray, List.set_cons_succ, List.set_cons_zero]) ?_
  · rintro w1 t0; obtain ⟨c0, c1, c2, c3, c4, c5⟩ := t0.b1.cell; clear t0; go_simp
  refine textS_take (o := _) (.agg #[d0, d1, d2, d3, d4, d5]) (by conv => lhs; simp only [List.getElem?_toArray, List.getElem?_cons_succ, List.getElem?_cons_zero]) (by rfl) (by rfl) ?_ (fun _ => by rfl) (by conv => lhs; simp only [Act.put, List.setIfInBounds_toArray, List.set_cons_succ, List.set_cons_zero]) ?_
  · rintro w1 t0; obtain ⟨c0, c1, c2, c3, c4, c5⟩ := t0.b3.cell; clear t0; go_simp
  refine textS_call (o := _) (by conv => lhs; simp only [List.getElem?_toArray, List.getElem?_cons_succ, List.getElem?_cons_zero]) (by rfl) (by rfl) ?_
  refine wpIn_call rfl ?_ (HO12.out _ hS0) ?_
  · go_simp
  rintro e whS0_1 ⟨rfl, hS0_1⟩
  refine ⟨_, _, rfl, (by conv => lhs; simp only [Act.put, List.setIfInBounds_toArray, List.set_cons_succ, List.set_cons_zero]), hS0_1, ?_⟩
  refine textS_call (o := _) (by conv => lhs; simp only [List.getElem?_toArray, List.getElem?_cons_succ, List.getElem?_cons_zero]) (by rfl) (by rfl) ?_
  refine wpIn_call rfl ?_ (HO23.out _ hS0_1) ?_
  · go_simp
  rintro e whS0_2 ⟨rfl, hS0_2⟩
  refine ⟨_, _, rfl, (by conv => lhs; simp only [Act.put, List.setIfInBounds_toArray, List.set_cons_succ, List.set_cons_zero]), hS0_2, ?_⟩
  refine textS_call (o := _) (by conv => lhs; simp only [List.getElem?_toArray, List.getElem?_cons_succ, List.getElem?_cons_zero]) (by rfl) (by rfl) ?_
  refine wpIn_call rfl ?_ (HO13.out _ hS0_2) ?_
  · go_simp
  rintro e whS0_3 ⟨rfl, hS0_3⟩
  refine ⟨_, _, rfl, (by conv => lhs; simp only [Act.put, List.setIfInBounds_toArray, List.set_cons_succ, List.set_cons_zero]), hS0_3, ?_⟩
  refine textS_take (o := _) (.int .i64 (0)) (by conv => lhs; simp only [List.getElem?_toArray, List.getElem?_cons_succ, List.getElem?_cons_zero]) (by rfl) (by rfl) ?_ (fun _ => by rfl) (by conv => lhs; simp only [Act.put, List.setIfInBounds_toArray, List.set_cons_succ, List.set_cons_zero]) ?_
  · intro w _; go_simp
  refine textS_take (o := _) (.int .i64 (-1)) (by conv => lhs; simp only [List.getElem?_toArray, List.getElem?_cons_succ, List.getElem?_cons_zero]) (by rfl) (by rfl) ?_ (fun _ => by rfl) (by conv => lhs; simp only [Act.put, List.setIfInBounds_toArray, List.set_cons_succ, List.set_cons_zero]) ?_
  · intro w _; go_simp
  refine textS_take (o := _) (.int .i64 (-1)) (by conv => lhs; simp only [List.getElem?_toArray, List.getElem?_cons_succ, List.getElem?_cons_zero]) (by rfl) (by rfl) ?_ (fun _ => by rfl) (by conv => lhs; simp only [Act.put, List.setIfInBounds_toArray, List.set_cons_succ, List.set_cons_zero]) ?_
  · intro w _; go_simp
  refine NoPanic.normal ?_
  refine hK1 _ _ ?_
  clear hK1
  have H4 := Lib.hid hS0_3
  clear hS0 hS0_1 hS0_2 hS0_3
  obtain ⟨p0, p1, p2, p3, p4, p5⟩ := H4.out.b1.cell
  obtain ⟨q0, q1, q2, q3, q4, q5⟩ := H4.out.b2.cell
  obtain ⟨r0, r1, r2, r3, r4, r5⟩ := H4.out.b3.cell
  go_wp2_with fail
  refine (HO21.out _ H4.out).mono ?_
  rintro e w5 ⟨rfl, h5⟩
  clear p0 p1 p2 p3 p4 p5 q0 q1 q2 q3 q4 q5 r0 r1 r2 r3 r4 r5
  obtain ⟨p0, p1, p2, p3, p4, p5⟩ := h5.b1.cell
  obtain ⟨q0, q1, q2, q3, q4, q5⟩ := h5.b2.cell
  obtain ⟨r0, r1, r2, r3, r4, r5⟩ := h5.b3.cell
  go_wp2_with fail
  refine (HS.out _ h5).mono ?_
  rintro e w6 ⟨rfl, h6⟩
  clear p0 p1 p2 p3 p4 p5 q0 q1 q2 q3 q4 q5 r0 r1 r2 r3 r4 r5
  obtain ⟨p0, p1, p2, p3, p4, p5⟩ := h6.b1.cell
  obtain ⟨q0, q1, q2, q3, q4, q5⟩ := h6.b2.cell
  obtain ⟨r0, r1, r2, r3, r4, r5⟩ := h6.b3.cell
  go_wp2_with fail
  refine (HO11.out _ h6).mono ?_
  rintro e w7 ⟨rfl, h7⟩
  clear p0 p1 p2 p3 p4 p5 q0 q1 q2 q3 q4 q5 r0 r1 r2 r3 r4 r5
  go_wp2_with fail
  refine (HW.out _ h7).mono ?_
  rintro e w8 ⟨rfl, h8⟩
  have HE := Lib.hid h8.low
  go_wp2_with fail
  go_ret
  exact ⟨rfl, HE.out⟩
set_option maxRecDepth 100000 in
set_option maxHeartbeats 4000000 in
theorem vord_eee (a0 a1 a2 a3 a4 a5 b0 b1 b2 b3 b4 b5 d0 d1 d2 d3 d4 d5 : Value) (w : World)
    (HM1 : Hid (On3 w #[a0, a1, a2, a3, a4, a5] #[b0, b1, b2, b3, b4, b5] #[d0, d1, d2, d3, d4, d5] 10 #[.agg #[a0, a1, a2, a3, a4, a5]] (.bool true)))
    (HM2 : Hid (On3 w #[a0, a1, a2, a3, a4, a5] #[b0, b1, b2, b3, b4, b5] #[d0, d1, d2, d3, d4, d5] 10 #[.agg #[b0, b1, b2, b3, b4, b5]] (.bool true)))
    (HM3 : Hid (On3 w #[a0, a1, a2, a3, a4, a5] #[b0, b1, b2, b3, b4, b5] #[d0, d1, d2, d3, d4, d5] 10 #[.agg #[d0, d1, d2, d3, d4, d5]] (.bool true)))
    (HO12 : Hid (On3 w #[a0, a1, a2, a3, a4, a5] #[b0, b1, b2, b3, b4, b5] #[d0, d1, d2, d3, d4, d5] 23 #[.agg #[a0, a1, a2, a3, a4, a5], .agg #[b0, b1, b2, b3, b4, b5]] (.int .i64 (0))))
    (HO23 : Hid (On3 w #[a0, a1, a2, a3, a4, a5] #[b0, b1, b2, b3, b4, b5] #[d0, d1, d2, d3, d4, d5] 23 #[.agg #[b0, b1, b2, b3, b4, b5], .agg #[d0, d1, d2, d3, d4, d5]] (.int .i64 (0))))
    (HO13 : Hid (On3 w #[a0, a1, a2, a3, a4, a5] #[b0, b1, b2, b3, b4, b5] #[d0, d1, d2, d3, d4, d5] 23 #[.agg #[a0, a1, a2, a3, a4, a5], .agg #[d0, d1, d2, d3, d4, d5]] (.int .i64 (0))))
    (HO21 : Hid (On3 w #[a0, a1, a2, a3, a4, a5] #[b0, b1, b2, b3, b4, b5] #[d0, d1, d2, d3, d4, d5] 23 #[.agg #[b0, b1, b2, b3, b4, b5], .agg #[a0, a1, a2, a3, a4, a5]] (.int .i64 (0))))
    (HO11 : Hid (On3 w #[a0, a1, a2, a3, a4, a5] #[b0, b1, b2, b3, b4, b5] #[d0, d1, d2, d3, d4, d5] 23 #[.agg #[a0, a1, a2, a3, a4, a5], .agg #[a0, a1, a2, a3, a4, a5]] (.int .i64 (0))))
    (HS : Hid (On3 w #[a0, a1, a2, a3, a4, a5] #[b0, b1, b2, b3, b4, b5] #[d0, d1, d2, d3, d4, d5] 19 #[.agg #[a0, a1, a2, a3, a4, a5], .agg #[b0, b1, b2, b3, b4, b5]] (.bool true)))
    (HW : Hid (On3 w #[a0, a1, a2, a3, a4, a5] #[b0, b1, b2, b3, b4, b5] #[d0, d1, d2, d3, d4, d5] 15 #[] (.bool true))) :
    Calls Tryd.prog 5 #[.agg #[a0, a1, a2, a3, a4, a5], .agg #[b0, b1, b2, b3, b4, b5], .agg #[d0, d1, d2, d3, d4, d5]] w fun e w' => e = .returned (.bool true) ∧ Below w.heap.size w w' := by
  have h0 := Seen3.new w #[a0, a1, a2, a3, a4, a5] #[b0, b1, b2, b3, b4, b5] #[d0, d1, d2, d3, d4, d5]
  obtain ⟨p0, p1, p2, p3, p4, p5⟩ := h0.b1.cell
  obtain ⟨q0, q1, q2, q3, q4, q5⟩ := h0.b2.cell
  obtain ⟨r0, r1, r2, r3, r4, r5⟩ := h0.b3.cell
  have H0 := Lib.hid h0
  clear h0
  go_enter Tryd.func5, Tryd.ntmps5
  go_wp2_with fail
  refine (HM1.out _ H0.out).mono ?_
  rintro e w1 ⟨rfl, h1⟩
  clear p0 p1 p2 p3 p4 p5 q0 q1 q2 q3 q4 q5 r0 r1 r2 r3 r4 r5
  obtain ⟨p0, p1, p2, p3, p4, p5⟩ := h1.b1.cell
  obtain ⟨q0, q1, q2, q3, q4, q5⟩ := h1.b2.cell
  obtain ⟨r0, r1, r2, r3, r4, r5⟩ := h1.b3.cell
  go_wp2_with fail
  refine (HM2.out _ h1).mono ?_
  rintro e w2 ⟨rfl, h2⟩
  clear p0 p1 p2 p3 p4 p5 q0 q1 q2 q3 q4 q5 r0 r1 r2 r3 r4 r5
  obtain ⟨p0, p1, p2, p3, p4, p5⟩ := h2.b1.cell
  obtain ⟨q0, q1, q2, q3, q4, q5⟩ := h2.b2.cell
  obtain ⟨r0, r1, r2, r3, r4, r5⟩ := h2.b3.cell
  go_wp2_with fail
  refine (HM3.out _ h2).mono ?_
  rintro e w3 ⟨rfl, h3⟩
  have H3 := Lib.hid h3.drew
  clear h1 h2 h3 p0 p1 p2 p3 p4 p5 q0 q1 q2 q3 q4 q5 r0 r1 r2 r3 r4 r5
  go_wp2_with fail
  have hS0 := H3.out
  rename_i Q' K1 hK1
  refine wp_region_noPanic ?_
  refine wpIn_wide (n := 5).1 ?_
  refine wpIn_region_text (Seen3 w #[a0, a1, a2, a3, a4, a5] #[b0, b1, b2, b3, b4, b5] #[d0, d1, d2, d3, d4, d5]) [0, 1, 3, 4, 6, 7, 2, 5, 8, 9, 10, 11] rfl (by kernel_rfl) (by kernel_rfl) (by kernel_rfl) (by kernel_rfl) (fun _ _ _ _ _ h => h) hS0 ?_
  refine textS_take (o := _) (.agg #[a0, a1, a2, a3, a4, a5]) (by conv => lhs; simp only [List.getElem?_toArray, List.getElem?_cons_succ, List.getElem?_cons_zero]) (by rfl) (by rfl) ?_ (fun _ => by rfl) (by conv => lhs; simp only [Act.put, List.setIfInBounds_toArray, List.set_cons_succ, List.set_cons_zero]) ?_
  · rintro w1 t0; obtain ⟨c0, c1, c2, c3, c4, c5⟩ := t0.b1.cell; clear t0; go_simp
  refine textS_take (o := _) (.agg #[b0, b1, b2, b3, b4, b5]) (by conv => lhs; simp only [List.getElem?_toArray, List.getElem?_cons_succ, List.getElem?_cons_zero]) (by rfl) (by rfl) ?_ (fun _ => by rfl) (by conv => lhs; simp only [Act.put, List.setIfInBounds_toArray, List.set_cons_succ, List.set_cons_zero]) ?_
  · rintro w1 t0; obtain ⟨c0, c1, c2, c3, c4, c5⟩ := t0.b2.cell; clear t0; go_simp
  refine textS_take (o := _) (.agg #[b0, b1, b2, b3, b4, b5]) (by conv => lhs; simp only [List.getElem?_toArray, List.getElem?_cons_succ, List.getElem?_cons_zero]) (by rfl) (by rfl) ?_ (fun _ => by rfl) (by conv => lhs; simp only [Act.put, List.setIfInBounds_toArray, List.set_cons_succ, List.set_cons_zero]) ?_
  · rintro w1 t0; obtain ⟨c0, c1, c2, c3, c4, c5⟩ := t0.b2.cell; clear t0; go_simp
  refine textS_take (o := _) (.agg #[d0, d1, d2, d3, d4, d5]) (by conv => lhs; simp only [List.getElem?_toArray, List.getElem?_cons_succ, List.getElem?_cons_zero]) (by rfl) (by rfl) ?_ (fun _ => by rfl) (by conv => lhs; simp only [Act.put, List.setIfInBounds_toArray, List.set_cons_succ, List.set_cons_zero]) ?_
  · rintro w1 t0; obtain ⟨c0, c1, c2, c3, c4, c5⟩ := t0.b3.cell; clear t0; go_simp
  refine textS_take (o := _) (.agg #[a0, a1, a2, a3, a4, a5]) (by conv => lhs; simp only [List.getElem?_toArray, List.getElem?_cons_succ, List.getElem?_cons_zero]) (by rfl) (by rfl) ?_ (fun _ => by rfl) (by conv => lhs; simp only [Act.put, List.setIfInBounds_toArray, List.set_cons_succ, List.set_cons_zero]) ?_
  · rintro w1 t0; obtain ⟨c0, c1, c2, c3, c4, c5⟩ := t0.b1.cell; clear t0; go_simp
  refine textS_take (o := _) (.agg #[d0, d1, d2, d3, d4, d5]) (by conv => lhs; simp only [List.getElem?_toArray, List.getElem?_cons_succ, List.getElem?_cons_zero]) (by rfl) (by rfl) ?_ (fun _ => by rfl) (by conv => lhs; simp only [Act.put, List.setIfInBounds_toArray, List.set_cons_succ, List.set_cons_zero]) ?_
  · rintro w1 t0; obtain ⟨c0, c1, c2, c3, c4, c5⟩ := t0.b3.cell; clear t0; go_simp
  refine textS_call (o := _) (by conv => lhs; simp only [List.getElem?_toArray, List.getElem?_cons_succ, List.getElem?_cons_zero]) (by rfl) (by rfl) ?_
  refine wpIn_call rfl ?_ (HO12.out _ hS0) ?_
  · go_simp
  rintro e whS0_1 ⟨rfl, hS0_1⟩
  refine ⟨_, _, rfl, (by conv => lhs; simp only [Act.put, List.setIfInBounds_toArray, List.set_cons_succ, List.set_cons_zero]), hS0_1, ?_⟩
  refine textS_call (o := _) (by conv => lhs; simp only [List.getElem?_toArray, List.getElem?_cons_succ, List.getElem?_cons_zero]) (by rfl) (by rfl) ?_
  refine wpIn_call rfl ?_ (HO23.out _ hS0_1) ?_
  · go_simp
  rintro e whS0_2 ⟨rfl, hS0_2⟩
  refine ⟨_, _, rfl, (by conv => lhs; simp only [Act.put, List.setIfInBounds_toArray, List.set_cons_succ, List.set_cons_zero]), hS0_2, ?_⟩
  refine textS_call (o := _) (by conv => lhs; simp only [List.getElem?_toArray, List.getElem?_cons_succ, List.getElem?_cons_zero]) (by rfl) (by rfl) ?_
  refine wpIn_call rfl ?_ (HO13.out _ hS0_2) ?_
  · go_simp
  rintro e whS0_3 ⟨rfl, hS0_3⟩
  refine ⟨_, _, rfl, (by conv => lhs; simp only [Act.put, List.setIfInBounds_toArray, List.set_cons_succ, List.set_cons_zero]), hS0_3, ?_⟩
  refine textS_take (o := _) (.int .i64 (0)) (by conv => lhs; simp only [List.getElem?_toArray, List.getElem?_cons_succ, List.getElem?_cons_zero]) (by rfl) (by rfl) ?_ (fun _ => by rfl) (by conv => lhs; simp only [Act.put, List.setIfInBounds_toArray, List.set_cons_succ, List.set_cons_zero]) ?_
  · intro w _; go_simp
  refine textS_take (o := _) (.int .i64 (0)) (by conv => lhs; simp only [List.getElem?_toArray, List.getElem?_cons_succ, List.getElem?_cons_zero]) (by rfl) (by rfl) ?_ (fun _ => by rfl) (by conv => lhs; simp only [Act.put, List.setIfInBounds_toArray, List.set_cons_succ, List.set_cons_zero]) ?_
  · intro w _; go_simp
  refine textS_take (o := _) (.int .i64 (0)) (by conv => lhs; simp only [List.getElem?_toArray, List.getElem?_cons_succ, List.getElem?_cons_zero]) (by rfl) (by rfl) ?_ (fun _ => by rfl) (by conv => lhs; simp only [Act.put, List.setIfInBounds_toArray, List.set_cons_succ, List.set_cons_zero]) ?_
  · intro w _; go_simp
  refine NoPanic.normal ?_
  refine hK1 _ _ ?_
  clear hK1
  have H4 := Lib.hid hS0_3
  clear hS0 hS0_1 hS0_2 hS0_3
  obtain ⟨p0, p1, p2, p3, p4, p5⟩ := H4.out.b1.cell
  obtain ⟨q0, q1, q2, q3, q4, q5⟩ := H4.out.b2.cell
  obtain ⟨r0, r1, r2, r3, r4, r5⟩ := H4.out.b3.cell
  go_wp2_with fail
  refine (HO21.out _ H4.out).mono ?_
  rintro e w5 ⟨rfl, h5⟩
  clear p0 p1 p2 p3 p4 p5 q0 q1 q2 q3 q4 q5 r0 r1 r2 r3 r4 r5
  obtain ⟨p0, p1, p2, p3, p4, p5⟩ := h5.b1.cell
  obtain ⟨q0, q1, q2, q3, q4, q5⟩ := h5.b2.cell
  obtain ⟨r0, r1, r2, r3, r4, r5⟩ := h5.b3.cell
  go_wp2_with fail
  refine (HS.out _ h5).mono ?_
  rintro e w6 ⟨rfl, h6⟩
  clear p0 p1 p2 p3 p4 p5 q0 q1 q2 q3 q4 q5 r0 r1 r2 r3 r4 r5
  obtain ⟨p0, p1, p2, p3, p4, p5⟩ := h6.b1.cell
  obtain ⟨q0, q1, q2, q3, q4, q5⟩ := h6.b2.cell
  obtain ⟨r0, r1, r2, r3, r4, r5⟩ := h6.b3.cell
  go_wp2_with fail
  refine (HO11.out _ h6).mono ?_
  rintro e w7 ⟨rfl, h7⟩
  clear p0 p1 p2 p3 p4 p5 q0 q1 q2 q3 q4 q5 r0 r1 r2 r3 r4 r5
  go_wp2_with fail
  refine (HW.out _ h7).mono ?_
  rintro e w8 ⟨rfl, h8⟩
  have HE := Lib.hid h8.low
  go_wp2_with fail
  go_ret
  exact ⟨rfl, HE.out⟩
set_option maxRecDepth 100000 in
set_option maxHeartbeats 4000000 in
theorem vord_egg (a0 a1 a2 a3 a4 a5 b0 b1 b2 b3 b4 b5 d0 d1 d2 d3 d4 d5 : Value) (w : World)
    (HM1 : Hid (On3 w #[a0, a1, a2, a3, a4, a5] #[b0, b1, b2, b3, b4, b5] #[d0, d1, d2, d3, d4, d5] 10 #[.agg #[a0, a1, a2, a3, a4, a5]] (.bool true)))
    (HM2 : Hid (On3 w #[a0, a1, a2, a3, a4, a5] #[b0, b1, b2, b3, b4, b5] #[d0, d1, d2, d3, d4, d5] 10 #[.agg #[b0, b1, b2, b3, b4, b5]] (.bool true)))
    (HM3 : Hid (On3 w #[a0, a1, a2, a3, a4, a5] #[b0, b1, b2, b3, b4, b5] #[d0, d1, d2, d3, d4, d5] 10 #[.agg #[d0, d1, d2, d3, d4, d5]] (.bool true)))
    (HO12 : Hid (On3 w #[a0, a1, a2, a3, a4, a5] #[b0, b1, b2, b3, b4, b5] #[d0, d1, d2, d3, d4, d5] 23 #[.agg #[a0, a1, a2, a3, a4, a5], .agg #[b0, b1, b2, b3, b4, b5]] (.int .i64 (0))))
    (HO23 : Hid (On3 w #[a0, a1, a2, a3, a4, a5] #[b0, b1, b2, b3, b4, b5] #[d0, d1, d2, d3, d4, d5] 23 #[.agg #[b0, b1, b2, b3, b4, b5], .agg #[d0, d1, d2, d3, d4, d5]] (.int .i64 (1))))
    (HO13 : Hid (On3 w #[a0, a1, a2, a3, a4, a5] #[b0, b1, b2, b3, b4, b5] #[d0, d1, d2, d3, d4, d5] 23 #[.agg #[a0, a1, a2, a3, a4, a5], .agg #[d0, d1, d2, d3, d4, d5]] (.int .i64 (1))))
    (HO21 : Hid (On3 w #[a0, a1, a2, a3, a4, a5] #[b0, b1, b2, b3, b4, b5] #[d0, d1, d2, d3, d4, d5] 23 #[.agg #[b0, b1, b2, b3, b4, b5], .agg #[a0, a1, a2, a3, a4, a5]] (.int .i64 (0))))
    (HO11 : Hid (On3 w #[a0, a1, a2, a3, a4, a5] #[b0, b1, b2, b3, b4, b5] #[d0, d1, d2, d3, d4, d5] 23 #[.agg #[a0, a1, a2, a3, a4, a5], .agg #[a0, a1, a2, a3, a4, a5]] (.int .i64 (0))))
    (HS : Hid (On3 w #[a0, a1, a2, a3, a4, a5] #[b0, b1, b2, b3, b4, b5] #[d0, d1, d2, d3, d4, d5] 19 #[.agg #[a0, a1, a2, a3, a4, a5], .agg #[b0, b1, b2, b3, b4, b5]] (.bool true)))
    (HW : Hid (On3 w #[a0, a1, a2, a3, a4, a5] #[b0, b1, b2, b3, b4, b5] #[d0, d1, d2, d3, d4, d5] 15 #[] (.bool true))) :
    Calls Tryd.prog 5 #[.agg #[a0, a1, a2, a3, a4, a5], .agg #[b0, b1, b2, b3, b4, b5], .agg #[d0, d1, d2, d3, d4, d5]] w fun e w' => e = .returned (.bool true) ∧ Below w.heap.size w w' := by
  have h0 := Seen3.new w #[a0, a1, a2, a3, a4, a5] #[b0, b1, b2, b3, b4, b5] #[d0, d1, d2, d3, d4, d5]
  obtain ⟨p0, p1, p2, p3, p4, p5⟩ := h0.b1.cell
  obtain ⟨q0, q1, q2, q3, q4, q5⟩ := h0.b2.cell
  obtain ⟨r0, r1, r2, r3, r4, r5⟩ := h0.b3.cell
  have H0 := Lib.hid h0
  clear h0
  go_enter Tryd.func5, Tryd.ntmps5
  go_wp2_with fail
  refine (HM1.out _ H0.out).mono ?_
  rintro e w1 ⟨rfl, h1⟩
  clear p0 p1 p2 p3 p4 p5 q0 q1 q2 q3 q4 q5 r0 r1 r2 r3 r4 r5
  obtain ⟨p0, p1, p2, p3, p4, p5⟩ := h1.b1.cell
  obtain ⟨q0, q1, q2, q3, q4, q5⟩ := h1.b2.cell
  obtain ⟨r0, r1, r2, r3, r4, r5⟩ := h1.b3.cell
  go_wp2_with fail
  refine (HM2.out _ h1).mono ?_
  rintro e w2 ⟨rfl, h2⟩
  clear p0 p1 p2 p3 p4 p5 q0 q1 q2 q3 q4 q5 r0 r1 r2 r3 r4 r5
  obtain ⟨p0, p1, p2, p3, p4, p5⟩ := h2.b1.cell
  obtain ⟨q0, q1, q2, q3, q4, q5⟩ := h2.b2.cell
  obtain ⟨r0, r1, r2, r3, r4, r5⟩ := h2.b3.cell
  go_wp2_with fail
  refine (HM3.out _ h2).mono ?_
  rintro e w3 ⟨rfl, h3⟩
  have H3 := Lib.hid h3.drew
  clear h1 h2 h3 p0 p1 p2 p3 p4 p5 q0 q1 q2 q3 q4 q5 r0 r1 r2 r3 r4 r5
  go_wp2_with fail
  have hS0 := H3.out
  rename_i Q' K1 hK1
  refine wp_region_noPanic ?_
  refine wpIn_wide (n := 5).1 ?_
  refine wpIn_region_text (Seen3 w #[a0, a1, a2, a3, a4, a5] #[b0, b1, b2, b3, b4, b5] #[d0, d1, d2, d3, d4, d5]) [0, 1, 3, 4, 6, 7, 2, 5, 8, 9, 10, 11] rfl (by kernel_rfl) (by kernel_rfl) (by kernel_rfl) (by kernel_rfl) (fun _ _ _ _ _ h => h) hS0 ?_
  refine textS_take (o := _) (.agg #[a0, a1, a2, a3, a4, a5]) (by conv => lhs; simp only [List.getElem?_toArray, List.getElem?_cons_succ, List.getElem?_cons_zero]) (by rfl) (by rfl) ?_ (fun _ => by rfl) (by conv => lhs; simp only [Act.put, List.setIfInBounds_toArray, List.set_cons_succ, List.set_cons_zero]) ?_
  · rintro w1 t0; obtain ⟨c0, c1, c2, c3, c4, c5⟩ := t0.b1.cell; clear t0; go_simp
  refine textS_take (o := _) (.agg #[b0, b1, b2, b3, b4, b5]) (by conv => lhs; simp only [List.getElem?_toArray, List.getElem?_cons_succ, List.getElem?_cons_zero]) (by rfl) (by rfl) ?_ (fun _ => by rfl) (by conv => lhs; simp only [Act.put, List.setIfInBounds_toArray, List.set_cons_succ, List.set_cons_zero]) ?_
  · rintro w1 t0; obtain ⟨c0, c1, c2, c3, c4, c5⟩ := t0.b2.cell; clear t0; go_simp
  refine textS_take (o := _) (.agg #[b0, b1, b2, b3, b4, b5]) (by conv => lhs; simp only [List.getElem?_toArray, List.getElem?_cons_succ, List.getElem?_cons_zero]) (by rfl) (by rfl) ?_ (fun _ => by rfl) (by conv => lhs; simp only [Act.put, List.setIfInBounds_toArray, List.set_cons_succ, List.set_cons_zero]) ?_
  · rintro w1 t0; obtain ⟨c0, c1, c2, c3, c4, c5⟩ := t0.b2.cell; clear t0; go_simp
  refine textS_take (o := _) (.agg #[d0, d1, d2, d3, d4, d5]) (by conv => lhs; simp only [List.getElem?_toArray, List.getElem?_cons_succ, List.getElem?_cons_zero]) (by rfl) (by rfl) ?_ (fun _ => by rfl) (by conv => lhs; simp only [Act.put, List.setIfInBounds_toArray, List.set_cons_succ, List.set_cons_zero]) ?_
  · rintro w1 t0; obtain ⟨c0, c1, c2, c3, c4, c5⟩ := t0.b3.cell; clear t0; go_simp
  refine textS_take (o := _) (.agg #[a0, a1, a2, a3, a4, a5]) (by conv => lhs; simp only [List.getElem?_toArray, List.getElem?_cons_succ, List.getElem?_cons_zero]) (by rfl) (by rfl) ?_ (fun _ => by rfl) (by conv => lhs; simp only [Act.put, List.setIfInBounds_toArray, List.set_cons_succ, List.set_cons_zero]) ?_
  · rintro w1 t0; obtain ⟨c0, c1, c2, c3, c4, c5⟩ := t0.b1.cell; clear t0; go_simp
  refine textS_take (o := _) (.agg #[d0, d1, d2, d3, d4, d5]) (by conv => lhs; simp only [List.getElem?_toArray, List.getElem?_cons_succ, List.getElem?_cons_zero]) (by rfl) (by rfl) ?_ (fun _ => by rfl) (by conv => lhs; simp only [Act.put, List.setIfInBounds_toArray, List.set_cons_succ, List.set_cons_zero]) ?_
  · rintro w1 t0; obtain ⟨c0, c1, c2, c3, c4, c5⟩ := t0.b3.cell; clear t0; go_simp
  refine textS_call (o := _) (by conv => lhs; simp only [List.getElem?_toArray, List.getElem?_cons_succ, List.getElem?_cons_zero]) (by rfl) (by rfl) ?_
  refine wpIn_call rfl ?_ (HO12.out _ hS0) ?_
  · go_simp
  rintro e whS0_1 ⟨rfl, hS0_1⟩
  refine ⟨_, _, rfl, (by conv => lhs; simp only [Act.put, List.setIfInBounds_toArray, List.set_cons_succ, List.set_cons_zero]), hS0_1, ?_⟩
  refine textS_call (o := _) (by conv => lhs; simp only [List.getElem?_toArray, List.getElem?_cons_succ, List.getElem?_cons_zero]) (by rfl) (by rfl) ?_
  refine wpIn_call rfl ?_ (HO23.out _ hS0_1) ?_
  · go_simp
  rintro e whS0_2 ⟨rfl, hS0_2⟩
  refine ⟨_, _, rfl, (by conv => lhs; simp only [Act.put, List.setIfInBounds_toArray, List.set_cons_succ, List.set_cons_zero]), hS0_2, ?_⟩
  refine textS_call (o := _) (by conv => lhs; simp only [List.getElem?_toArray, List.getElem?_cons_succ, List.getElem?_cons_zero]) (by rfl) (by rfl) ?_
  refine wpIn_call rfl ?_ (HO13.out _ hS0_2) ?_
  · go_simp
  rintro e whS0_3 ⟨rfl, hS0_3⟩
  refine ⟨_, _, rfl, (by conv => lhs; simp only [Act.put, List.setIfInBounds_toArray, List.set_cons_succ, List.set_cons_zero]), hS0_3, ?_⟩
  refine textS_take (o := _) (.int .i64 (0)) (by conv => lhs; simp only [List.getElem?_toArray, List.getElem?_cons_succ, List.getElem?_cons_zero]) (by rfl) (by rfl) ?_ (fun _ => by rfl) (by conv => lhs; simp only [Act.put, List.setIfInBounds_toArray, List.set_cons_succ, List.set_cons_zero]) ?_
  · intro w _; go_simp
  refine textS_take (o := _) (.int .i64 (1)) (by conv => lhs; simp only [List.getElem?_toArray, List.getElem?_cons_succ, List.getElem?_cons_zero]) (by rfl) (by rfl) ?_ (fun _ => by rfl) (by conv => lhs; simp only [Act.put, List.setIfInBounds_toArray, List.set_cons_succ, List.set_cons_zero]) ?_
  · intro w _; go_simp
  refine textS_take (o := _) (.int .i64 (1)) (by conv => lhs; simp only [List.getElem?_toArray, List.getElem?_cons_succ, List.getElem?_cons_zero]) (by rfl) (by rfl) ?_ (fun _ => by rfl) (by conv => lhs; simp only [Act.put, List.setIfInBounds_toArray, List.set_cons_succ, List.set_cons_zero]) ?_
  · intro w _; go_simp
  refine NoPanic.normal ?_
  refine hK1 _ _ ?_
  clear hK1
  have H4 := Lib.hid hS0_3
  clear hS0 hS0_1 hS0_2 hS0_3
  obtain ⟨p0, p1, p2, p3, p4, p5⟩ := H4.out.b1.cell
  obtain ⟨q0, q1, q2, q3, q4, q5⟩ := H4.out.b2.cell
  obtain ⟨r0, r1, r2, r3, r4, r5⟩ := H4.out.b3.cell
  go_wp2_with fail
  refine (HO21.out _ H4.out).mono ?_
  rintro e w5 ⟨rfl, h5⟩
  clear p0 p1 p2 p3 p4 p5 q0 q1 q2 q3 q4 q5 r0 r1 r2 r3 r4 r5
  obtain ⟨p0, p1, p2, p3, p4, p5⟩ := h5.b1.cell
  obtain ⟨q0, q1, q2, q3, q4, q5⟩ := h5.b2.cell
  obtain ⟨r0, r1, r2, r3, r4, r5⟩ := h5.b3.cell
  go_wp2_with fail
  refine (HS.out _ h5).mono ?_
  rintro e w6 ⟨rfl, h6⟩
  clear p0 p1 p2 p3 p4 p5 q0 q1 q2 q3 q4 q5 r0 r1 r2 r3 r4 r5
  obtain ⟨p0, p1, p2, p3, p4, p5⟩ := h6.b1.cell
  obtain ⟨q0, q1, q2, q3, q4, q5⟩ := h6.b2.cell
  obtain ⟨r0, r1, r2, r3, r4, r5⟩ := h6.b3.cell
  go_wp2_with fail
  refine (HO11.out _ h6).mono ?_
  rintro e w7 ⟨rfl, h7⟩
  clear p0 p1 p2 p3 p4 p5 q0 q1 q2 q3 q4 q5 r0 r1 r2 r3 r4 r5
  go_wp2_with fail
  refine (HW.out _ h7).mono ?_
  rintro e w8 ⟨rfl, h8⟩
  have HE := Lib.hid h8.low
  go_wp2_with fail
  go_ret
  exact ⟨rfl, HE.out⟩
set_option maxRecDepth 100000 in
set_option maxHeartbeats 4000000 in
theorem vord_gll (a0 a1 a2 a3 a4 a5 b0 b1 b2 b3 b4 b5 d0 d1 d2 d3 d4 d5 : Value) (w : World)
    (HM1 : Hid (On3 w #[a0, a1, a2, a3, a4, a5] #[b0, b1, b2, b3, b4, b5] #[d0, d1, d2, d3, d4, d5] 10 #[.agg #[a0, a1, a2, a3, a4, a5]] (.bool true)))
    (HM2 : Hid (On3 w #[a0, a1, a2, a3, a4, a5] #[b0, b1, b2, b3, b4, b5] #[d0, d1, d2, d3, d4, d5] 10 #[.agg #[b0, b1, b2, b3, b4, b5]] (.bool true)))
    (HM3 : Hid (On3 w #[a0, a1, a2, a3, a4, a5] #[b0, b1, b2, b3, b4, b5] #[d0, d1, d2, d3, d4, d5] 10 #[.agg #[d0, d1, d2, d3, d4, d5]] (.bool true)))
    (HO12 : Hid (On3 w #[a0, a1, a2, a3, a4, a5] #[b0, b1, b2, b3, b4, b5] #[d0, d1, d2, d3, d4, d5] 23 #[.agg #[a0, a1, a2, a3, a4, a5], .agg #[b0, b1, b2, b3, b4, b5]] (.int .i64 (1))))
    (HO23 : Hid (On3 w #[a0, a1, a2, a3, a4, a5] #[b0, b1, b2, b3, b4, b5] #[d0, d1, d2, d3, d4, d5] 23 #[.agg #[b0, b1, b2, b3, b4, b5], .agg #[d0, d1, d2, d3, d4, d5]] (.int .i64 (-1))))
    (HO13 : Hid (On3 w #[a0, a1, a2, a3, a4, a5] #[b0, b1, b2, b3, b4, b5] #[d0, d1, d2, d3, d4, d5] 23 #[.agg #[a0, a1, a2, a3, a4, a5], .agg #[d0, d1, d2, d3, d4, d5]] (.int .i64 (-1))))
    (HO21 : Hid (On3 w #[a0, a1, a2, a3, a4, a5] #[b0, b1, b2, b3, b4, b5] #[d0, d1, d2, d3, d4, d5] 23 #[.agg #[b0, b1, b2, b3, b4, b5], .agg #[a0, a1, a2, a3, a4, a5]] (.int .i64 (-1))))
    (HO11 : Hid (On3 w #[a0, a1, a2, a3, a4, a5] #[b0, b1, b2, b3, b4, b5] #[d0, d1, d2, d3, d4, d5] 23 #[.agg #[a0, a1, a2, a3, a4, a5], .agg #[a0, a1, a2, a3, a4, a5]] (.int .i64 (0))))
    (HS : Hid (On3 w #[a0, a1, a2, a3, a4, a5] #[b0, b1, b2, b3, b4, b5] #[d0, d1, d2, d3, d4, d5] 19 #[.agg #[a0, a1, a2, a3, a4, a5], .agg #[b0, b1, b2, b3, b4, b5]] (.bool false)))
    (HW : Hid (On3 w #[a0, a1, a2, a3, a4, a5] #[b0, b1, b2, b3, b4, b5] #[d0, d1, d2, d3, d4, d5] 15 #[] (.bool true))) :
    Calls Tryd.prog 5 #[.agg #[a0, a1, a2, a3, a4, a5], .agg #[b0, b1, b2, b3, b4, b5], .agg #[d0, d1, d2, d3, d4, d5]] w fun e w' => e = .returned (.bool true) ∧ Below w.heap.size w w' := by
  have h0 := Seen3.new w #[a0, a1, a2, a3, a4, a5] #[b0, b1, b2, b3, b4, b5] #[d0, d1, d2, d3, d4, d5]
  obtain ⟨p0, p1, p2, p3, p4, p5⟩ := h0.b1.cell
  obtain ⟨q0, q1, q2, q3, q4, q5⟩ := h0.b2.cell
  obtain ⟨r0, r1, r2, r3, r4, r5⟩ := h0.b3.cell
  have H0 := Lib.hid h0
  clear h0
  go_enter Tryd.func5, Tryd.ntmps5
  go_wp2_with fail
  refine (HM1.out _ H0.out).mono ?_
  rintro e w1 ⟨rfl, h1⟩
  clear p0 p1 p2 p3 p4 p5 q0 q1 q2 q3 q4 q5 r0 r1 r2 r3 r4 r5
  obtain ⟨p0, p1, p2, p3, p4, p5⟩ := h1.b1.cell
  obtain ⟨q0, q1, q2, q3, q4, q5⟩ := h1.b2.cell
  obtain ⟨r0, r1, r2, r3, r4, r5⟩ := h1.b3.cell
  go_wp2_with fail
  refine (HM2.out _ h1).mono ?_
  rintro e w2 ⟨rfl, h2⟩
  clear p0 p1 p2 p3 p4 p5 q0 q1 q2 q3 q4 q5 r0 r1 r2 r3 r4 r5
  obtain ⟨p0, p1, p2, p3, p4, p5⟩ := h2.b1.cell
  obtain ⟨q0, q1, q2, q3, q4, q5⟩ := h2.b2.cell
  obtain ⟨r0, r1, r2, r3, r4, r5⟩ := h2.b3.cell
  go_wp2_with fail
  refine (HM3.out _ h2).mono ?_
  rintro e w3 ⟨rfl, h3⟩
  have H3 := Lib.hid h3.drew
  clear h1 h2 h3 p0 p1 p2 p3 p4 p5 q0 q1 q2 q3 q4 q5 r0 r1 r2 r3 r4 r5
  go_wp2_with fail
  have hS0 := H3.out
  rename_i Q' K1 hK1
  refine wp_region_noPanic ?_
  refine wpIn_wide (n := 5).1 ?_
  refine wpIn_region_text (Seen3 w #[a0, a1, a2, a3, a4, a5] #[b0, b1, b2, b3, b4, b5] #[d0, d1, d2, d3, d4, d5]) [0, 1, 3, 4, 6, 7, 2, 5, 8, 9, 10, 11] rfl (by kernel_rfl) (by kernel_rfl) (by kernel_rfl) (by kernel_rfl) (fun _ _ _ _ _ h => h) hS0 ?_
  refine textS_take (o := _) (.agg #[a0, a1, a2, a3, a4, a5]) (by conv => lhs; simp only [List.getElem?_toArray, List.getElem?_cons_succ, List.getElem?_cons_zero]) (by rfl) (by rfl) ?_ (fun _ => by rfl) (by conv => lhs; simp only [Act.put, List.setIfInBounds_toArray, List.set_cons_succ, List.set_cons_zero]) ?_
  · rintro w1 t0; obtain ⟨c0, c1, c2, c3, c4, c5⟩ := t0.b1.cell; clear t0; go_simp
  refine textS_take (o := _) (.agg #[b0, b1, b2, b3, b4, b5]) (by conv => lhs; simp only [List.getElem?_toArray, List.getElem?_cons_succ, List.getElem?_cons_zero]) (by rfl) (by rfl) ?_ (fun _ => by rfl) (by conv => lhs; simp only [Act.put, List.setIfInBounds_toArray, List.set_cons_succ, List.set_cons_zero]) ?_
  · rintro w1 t0; obtain ⟨c0, c1, c2, c3, c4, c5⟩ := t0.b2.cell; clear t0; go_simp
  refine textS_take (o := _) (.agg #[b0, b1, b2, b3, b4, b5]) (by conv => lhs; simp only [List.getElem?_toArray, List.getElem?_cons_succ, List.getElem?_cons_zero]) (by rfl) (by rfl) ?_ (fun _ => by rfl) (by conv => lhs; simp only [Act.put, List.setIfInBounds_toArray, List.set_cons_succ, List.set_cons_zero]) ?_
  · rintro w1 t0; obtain ⟨c0, c1, c2, c3, c4, c5⟩ := t0.b2.cell; clear t0; go_simp
  refine textS_take (o := _) (.agg #[d0, d1, d2, d3, d4, d5]) (by conv => lhs; simp only [List.getElem?_toArray, List.getElem?_cons_succ, List.getElem?_cons_zero]) (by rfl) (by rfl) ?_ (fun _ => by rfl) (by conv => lhs; simp only [Act.put, List.setIfInBounds_toArray, List.set_cons_succ, List.set_cons_zero]) ?_
  · rintro w1 t0; obtain ⟨c0, c1, c2, c3, c4, c5⟩ := t0.b3.cell; clear t0; go_simp
  refine textS_take (o := _) (.agg #[a0, a1, a2, a3, a4, a5]) (by conv => lhs; simp only [List.getElem?_toArray, List.getElem?_cons_succ, List.getElem?_cons_zero]) (by rfl) (by rfl) ?_ (fun _ => by rfl) (by conv => lhs; simp only [Act.put, List.setIfInBounds_toArray, List.set_cons_succ, List.set_cons_zero]) ?_
  · rintro w1 t0; obtain ⟨c0, c1, c2, c3, c4, c5⟩ := t0.b1.cell; clear t0; go_simp
  refine textS_take (o := _) (.agg #[d0, d1, d2, d3, d4, d5]) (by conv => lhs; simp only [List.getElem?_toArray, List.getElem?_cons_succ, List.getElem?_cons_zero]) (by rfl) (by rfl) ?_ (fun _ => by rfl) (by conv => lhs; simp only [Act.put, List.setIfInBounds_toArray, List.set_cons_succ, List.set_cons_zero]) ?_
  · rintro w1 t0; obtain ⟨c0, c1, c2, c3, c4, c5⟩ := t0.b3.cell; clear t0; go_simp
  refine textS_call (o := _) (by conv => lhs; simp only [List.getElem?_toArray, List.getElem?_cons_succ, List.getElem?_cons_zero]) (by rfl) (by rfl) ?_
  refine wpIn_call rfl ?_ (HO12.out _ hS0) ?_
  · go_simp
  rintro e whS0_1 ⟨rfl, hS0_1⟩
  refine ⟨_, _, rfl, (by conv => lhs; simp only [Act.put, List.setIfInBounds_toArray, List.set_cons_succ, List.set_cons_zero]), hS0_1, ?_⟩
  refine textS_call (o := _) (by conv => lhs; simp only [List.getElem?_toArray, List.getElem?_cons_succ, List.getElem?_cons_zero]) (by rfl) (by rfl) ?_
  refine wpIn_call rfl ?_ (HO23.out _ hS0_1) ?_
  · go_simp
  rintro e whS0_2 ⟨rfl, hS0_2⟩
  refine ⟨_, _, rfl, (by conv => lhs; simp only [Act.put, List.setIfInBounds_toArray, List.set_cons_succ, List.set_cons_zero]), hS0_2, ?_⟩
  refine textS_call (o := _) (by conv => lhs; simp only [List.getElem?_toArray, List.getElem?_cons_succ, List.getElem?_cons_zero]) (by rfl) (by rfl) ?_
  refine wpIn_call rfl ?_ (HO13.out _ hS0_2) ?_
  · go_simp
  rintro e whS0_3 ⟨rfl, hS0_3⟩
  refine ⟨_, _, rfl, (by conv => lhs; simp only [Act.put, List.setIfInBounds_toArray, List.set_cons_succ, List.set_cons_zero]), hS0_3, ?_⟩
  refine textS_take (o := _) (.int .i64 (1)) (by conv => lhs; simp only [List.getElem?_toArray, List.getElem?_cons_succ, List.getElem?_cons_zero]) (by rfl) (by rfl) ?_ (fun _ => by rfl) (by conv => lhs; simp only [Act.put, List.setIfInBounds_toArray, List.set_cons_succ, List.set_cons_zero]) ?_
  · intro w _; go_simp
  refine textS_take (o := _) (.int .i64 (-1)) (by conv => lhs; simp only [List.getElem?_toArray, List.getElem?_cons_succ, List.getElem?_cons_zero]) (by rfl) (by rfl) ?_ (fun _ => by rfl) (by conv => lhs; simp only [Act.put, List.setIfInBounds_toArray, List.set_cons_succ, List.set_cons_zero]) ?_
  · intro w _; go_simp
  refine textS_take (o := _) (.int .i64 (-1)) (by conv => lhs; simp only [List.getElem?_toArray, List.getElem?_cons_succ, List.getElem?_cons_zero]) (by rfl) (by rfl) ?_ (fun _ => by rfl) (by conv => lhs; simp only [Act.put, List.setIfInBounds_toArray, List.set_cons_succ, List.set_cons_zero]) ?_
  · intro w _; go_simp
  refine NoPanic.normal ?_
  refine hK1 _ _ ?_
  clear hK1
  have H4 := Lib.hid hS0_3
  clear hS0 hS0_1 hS0_2 hS0_3
  obtain ⟨p0, p1, p2, p3, p4, p5⟩ := H4.out.b1.cell
  obtain ⟨q0, q1, q2, q3, q4, q5⟩ := H4.out.b2.cell
  obtain ⟨r0, r1, r2, r3, r4, r5⟩ := H4.out.b3.cell
  go_wp2_with fail
  refine (HO21.out _ H4.out).mono ?_
  rintro e w5 ⟨rfl, h5⟩
  clear p0 p1 p2 p3 p4 p5 q0 q1 q2 q3 q4 q5 r0 r1 r2 r3 r4 r5
  obtain ⟨p0, p1, p2, p3, p4, p5⟩ := h5.b1.cell
  obtain ⟨q0, q1, q2, q3, q4, q5⟩ := h5.b2.cell
  obtain ⟨r0, r1, r2, r3, r4, r5⟩ := h5.b3.cell
  go_wp2_with fail
  refine (HS.out _ h5).mono ?_
  rintro e w6 ⟨rfl, h6⟩
  clear p0 p1 p2 p3 p4 p5 q0 q1 q2 q3 q4 q5 r0 r1 r2 r3 r4 r5
  obtain ⟨p0, p1, p2, p3, p4, p5⟩ := h6.b1.cell
  obtain ⟨q0, q1, q2, q3, q4, q5⟩ := h6.b2.cell
  obtain ⟨r0, r1, r2, r3, r4, r5⟩ := h6.b3.cell
  go_wp2_with fail
  refine (HO11.out _ h6).mono ?_
  rintro e w7 ⟨rfl, h7⟩
  clear p0 p1 p2 p3 p4 p5 q0 q1 q2 q3 q4 q5 r0 r1 r2 r3 r4 r5
  go_wp2_with fail
  refine (HW.out _ h7).mono ?_
  rintro e w8 ⟨rfl, h8⟩
  have HE := Lib.hid h8.low
  go_wp2_with fail
  go_ret
  exact ⟨rfl, HE.out⟩
set_option maxRecDepth 100000 in
set_option maxHeartbeats 4000000 in
theorem vord_gle (a0 a1 a2 a3 a4 a5 b0 b1 b2 b3 b4 b5 d0 d1 d2 d3 d4 d5 : Value) (w : World)
    (HM1 : Hid (On3 w #[a0, a1, a2, a3, a4, a5] #[b0, b1, b2, b3, b4, b5] #[d0, d1, d2, d3, d4, d5] 10 #[.agg #[a0, a1, a2, a3, a4, a5]] (.bool true)))
    (HM2 : Hid (On3 w #[a0, a1, a2, a3, a4, a5] #[b0, b1, b2, b3, b4, b5] #[d0, d1, d2, d3, d4, d5] 10 #[.agg #[b0, b1, b2, b3, b4, b5]] (.bool true)))
    (HM3 : Hid (On3 w #[a0, a1, a2, a3, a4, a5] #[b0, b1, b2, b3, b4, b5] #[d0, d1, d2, d3, d4, d5] 10 #[.agg #[d0, d1, d2, d3, d4, d5]] (.bool true)))
    (HO12 : Hid (On3 w #[a0, a1, a2, a3, a4, a5] #[b0, b1, b2, b3, b4, b5] #[d0, d1, d2, d3, d4, d5] 23 #[.agg #[a0, a1, a2, a3, a4, a5], .agg #[b0, b1, b2, b3, b4, b5]] (.int .i64 (1))))
    (HO23 : Hid (On3 w #[a0, a1, a2, a3, a4, a5] #[b0, b1, b2, b3, b4, b5] #[d0, d1, d2, d3, d4, d5] 23 #[.agg #[b0, b1, b2, b3, b4, b5], .agg #[d0, d1, d2, d3, d4, d5]] (.int .i64 (-1))))
    (HO13 : Hid (On3 w #[a0, a1, a2, a3, a4, a5] #[b0, b1, b2, b3, b4, b5] #[d0, d1, d2, d3, d4, d5] 23 #[.agg #[a0, a1, a2, a3, a4, a5], .agg #[d0, d1, d2, d3, d4, d5]] (.int .i64 (0))))
    (HO21 : Hid (On3 w #[a0, a1, a2, a3, a4, a5] #[b0, b1, b2, b3, b4, b5] #[d0, d1, d2, d3, d4, d5] 23 #[.agg #[b0, b1, b2, b3, b4, b5], .agg #[a0, a1, a2, a3, a4, a5]] (.int .i64 (-1))))
    (HO11 : Hid (On3 w #[a0, a1, a2, a3, a4, a5] #[b0, b1, b2, b3, b4, b5] #[d0, d1, d2, d3, d4, d5] 23 #[.agg #[a0, a1, a2, a3, a4, a5], .agg #[a0, a1, a2, a3, a4, a5]] (.int .i64 (0))))
    (HS : Hid (On3 w #[a0, a1, a2, a3, a4, a5] #[b0, b1, b2, b3, b4, b5] #[d0, d1, d2, d3, d4, d5] 19 #[.agg #[a0, a1, a2, a3, a4, a5], .agg #[b0, b1, b2, b3, b4, b5]] (.bool false)))
    (HW : Hid (On3 w #[a0, a1, a2, a3, a4, a5] #[b0, b1, b2, b3, b4, b5] #[d0, d1, d2, d3, d4, d5] 15 #[] (.bool true))) :
    Calls Tryd.prog 5 #[.agg #[a0, a1, a2, a3, a4, a5], .agg #[b0, b1, b2, b3, b4, b5], .agg #[d0, d1, d2, d3, d4, d5]] w fun e w' => e = .returned (.bool true) ∧ Below w.heap.size w w' := by
  have h0 := Seen3.new w #[a0, a1, a2, a3, a4, a5] #[b0, b1, b2, b3, b4, b5] #[d0, d1, d2, d3, d4, d5]
  obtain ⟨p0, p1, p2, p3, p4, p5⟩ := h0.b1.cell
  obtain ⟨q0, q1, q2, q3, q4, q5⟩ := h0.b2.cell
  obtain ⟨r0, r1, r2, r3, r4, r5⟩ := h0.b3.cell
  have H0 := Lib.hid h0
  clear h0
  go_enter Tryd.func5, Tryd.ntmps5
  go_wp2_with fail
  refine (HM1.out _ H0.out).mono ?_
  rintro e w1 ⟨rfl, h1⟩
  clear p0 p1 p2 p3 p4 p5 q0 q1 q2 q3 q4 q5 r0 r1 r2 r3 r4 r5
  obtain ⟨p0, p1, p2, p3, p4, p5⟩ := h1.b1.cell
  obtain ⟨q0, q1, q2, q3, q4, q5⟩ := h1.b2.cell
  obtain ⟨r0, r1, r2, r3, r4, r5⟩ := h1.b3.cell
  go_wp2_with fail
  refine (HM2.out _ h1).mono ?_
  rintro e w2 ⟨rfl, h2⟩
  clear p0 p1 p2 p3 p4 p5 q0 q1 q2 q3 q4 q5 r0 r1 r2 r3 r4 r5
  obtain ⟨p0, p1, p2, p3, p4, p5⟩ := h2.b1.cell
  obtain ⟨q0, q1, q2, q3, q4, q5⟩ := h2.b2.cell
  obtain ⟨r0, r1, r2, r3, r4, r5⟩ := h2.b3.cell
  go_wp2_with fail
  refine (HM3.out _ h2).mono ?_
  rintro e w3 ⟨rfl, h3⟩
  have H3 := Lib.hid h3.drew
  clear h1 h2 h3 p0 p1 p2 p3 p4 p5 q0 q1 q2 q3 q4 q5 r0 r1 r2 r3 r4 r5
  go_wp2_with fail
  have hS0 := H3.out
  rename_i Q' K1 hK1
  refine wp_region_noPanic ?_
  refine wpIn_wide (n := 5).1 ?_
  refine wpIn_region_text (Seen3 w #[a0, a1, a2, a3, a4, a5] #[b0, b1, b2, b3, b4, b5] #[d0, d1, d2, d3, d4, d5]) [0, 1, 3, 4, 6, 7, 2, 5, 8, 9, 10, 11] rfl (by kernel_rfl) (by kernel_rfl) (by kernel_rfl) (by kernel_rfl) (fun _ _ _ _ _ h => h) hS0 ?_
  refine textS_take (o := _) (.agg #[a0, a1, a2, a3, a4, a5]) (by conv => lhs; simp only [List.getElem?_toArray, List.getElem?_cons_succ, List.getElem?_cons_zero]) (by rfl) (by rfl) ?_ (fun _ => by rfl) (by conv => lhs; simp only [Act.put, List.setIfInBounds_toArray, List.set_cons_succ, List.set_cons_zero]) ?_
  · rintro w1 t0; obtain ⟨c0, c1, c2, c3, c4, c5⟩ := t0.b1.cell; clear t0; go_simp
  refine textS_take (o := _) (.agg #[b0, b1, b2, b3, b4, b5]) (by conv => lhs; simp only [List.getElem?_toArray, List.getElem?_cons_succ, List.getElem?_cons_zero]) (by rfl) (by rfl) ?_ (fun _ => by rfl) (by conv => lhs; simp only [Act.put, List.setIfInBounds_toArray, List.set_cons_succ, List.set_cons_zero]) ?_
  · rintro w1 t0; obtain ⟨c0, c1, c2, c3, c4, c5⟩ := t0.b2.cell; clear t0; go_simp
  refine textS_take (o := _) (.agg #[b0, b1, b2, b3, b4, b5]) (by conv => lhs; simp only [List.getElem?_toArray, List.getElem?_cons_succ, List.getElem?_cons_zero]) (by rfl) (by rfl) ?_ (fun _ => by rfl) (by conv => lhs; simp only [Act.put, List.setIfInBounds_toArray, List.set_cons_succ, List.set_cons_zero]) ?_
  · rintro w1 t0; obtain ⟨c0, c1, c2, c3, c4, c5⟩ := t0.b2.cell; clear t0; go_simp
  refine textS_take (o := _) (.agg #[d0, d1, d2, d3, d4, d5]) (by conv => lhs; simp only [List.getElem?_toArray, List.getElem?_cons_succ, List.getElem?_cons_zero]) (by rfl) (by rfl) ?_ (fun _ => by rfl) (by conv => lhs; simp only [Act.put, List.setIfInBounds_toArray, List.set_cons_succ, List.set_cons_zero]) ?_
  · rintro w1 t0; obtain ⟨c0, c1, c2, c3, c4, c5⟩ := t0.b3.cell; clear t0; go_simp
  refine textS_take (o := _) (.agg #[a0, a1, a2, a3, a4, a5]) (by conv => lhs; simp only [List.getElem?_toArray, List.getElem?_cons_succ, List.getElem?_cons_zero]) (by rfl) (by rfl) ?_ (fun _ => by rfl) (by conv => lhs; simp only [Act.put, List.setIfInBounds_toArray, List.set_cons_succ, List.set_cons_zero]) ?_
  · rintro w1 t0; obtain ⟨c0, c1, c2, c3, c4, c5⟩ := t0.b1.cell; clear t0; go_simp
  refine textS_take (o := _) (.agg #[d0, d1, d2, d3, d4, d5]) (by conv => lhs; simp only [List.getElem?_toArray, List.getElem?_cons_succ, List.getElem?_cons_zero]) (by rfl) (by rfl) ?_ (fun _ => by rfl) (by conv => lhs; simp only [Act.put, List.setIfInBounds_toArray, List.set_cons_succ, List.set_cons_zero]) ?_
  · rintro w1 t0; obtain ⟨c0, c1, c2, c3, c4, c5⟩ := t0.b3.cell; clear t0; go_simp
  refine textS_call (o := _) (by conv => lhs; simp only [List.getElem?_toArray, List.getElem?_cons_succ, List.getElem?_cons_zero]) (by rfl) (by rfl) ?_
  refine wpIn_call rfl ?_ (HO12.out _ hS0) ?_
  · go_simp
  rintro e whS0_1 ⟨rfl, hS0_1⟩
  refine ⟨_, _, rfl, (by conv => lhs; simp only [Act.put, List.setIfInBounds_toArray, List.set_cons_succ, List.set_cons_zero]), hS0_1, ?_⟩
  refine textS_call (o := _) (by conv => lhs; simp only [List.getElem?_toArray, List.getElem?_cons_succ, List.getElem?_cons_zero]) (by rfl) (by rfl) ?_
  refine wpIn_call rfl ?_ (HO23.out _ hS0_1) ?_
  · go_simp
  rintro e whS0_2 ⟨rfl, hS0_2⟩
  refine ⟨_, _, rfl, (by conv => lhs; simp only [Act.put, List.setIfInBounds_toArray, List.set_cons_succ, List.set_cons_zero]), hS0_2, ?_⟩
  refine textS_call (o := _) (by conv => lhs; simp only [List.getElem?_toArray, List.getElem?_cons_succ, List.getElem?_cons_zero]) (by rfl) (by rfl) ?_
  refine wpIn_call rfl ?_ (HO13.out _ hS0_2) ?_
  · go_simp
  rintro e whS0_3 ⟨rfl, hS0_3⟩
  refine ⟨_, _, rfl, (by conv => lhs; simp only [Act.put, List.setIfInBounds_toArray, List.set_cons_succ, List.set_cons_zero]), hS0_3, ?_⟩
  refine textS_take (o := _) (.int .i64 (1)) (by conv => lhs; simp only [List.getElem?_toArray, List.getElem?_cons_succ, List.getElem?_cons_zero]) (by rfl) (by rfl) ?_ (fun _ => by rfl) (by conv => lhs; simp only [Act.put, List.setIfInBounds_toArray, List.set_cons_succ, List.set_cons_zero]) ?_
  · intro w _; go_simp
  refine textS_take (o := _) (.int .i64 (-1)) (by conv => lhs; simp only [List.getElem?_toArray, List.getElem?_cons_succ, List.getElem?_cons_zero]) (by rfl) (by rfl) ?_ (fun _ => by rfl) (by conv => lhs; simp only [Act.put, List.setIfInBounds_toArray, List.set_cons_succ, List.set_cons_zero]) ?_
  · intro w _; go_simp
  refine textS_take (o := _) (.int .i64 (0)) (by conv => lhs; simp only [List.getElem?_toArray, List.getElem?_cons_succ, List.getElem?_cons_zero]) (by rfl) (by rfl) ?_ (fun _ => by rfl) (by conv => lhs; simp only [Act.put, List.setIfInBounds_toArray, List.set_cons_succ, List.set_cons_zero]) ?_
  · intro w _; go_simp
  refine NoPanic.normal ?_
  refine hK1 _ _ ?_
  clear hK1
  have H4 := Lib.hid hS0_3
  clear hS0 hS0_1 hS0_2 hS0_3
  obtain ⟨p0, p1, p2, p3, p4, p5⟩ := H4.out.b1.cell
  obtain ⟨q0, q1, q2, q3, q4, q5⟩ := H4.out.b2.cell
  obtain ⟨r0, r1, r2, r3, r4, r5⟩ := H4.out.b3.cell
  go_wp2_with fail
  refine (HO21.out _ H4.out).mono ?_
  rintro e w5 ⟨rfl, h5⟩
  clear p0 p1 p2 p3 p4 p5 q0 q1 q2 q3 q4 q5 r0 r1 r2 r3 r4 r5
  obtain ⟨p0, p1, p2, p3, p4, p5⟩ := h5.b1.cell
  obtain ⟨q0, q1, q2, q3, q4, q5⟩ := h5.b2.cell
  obtain ⟨r0, r1, r2, r3, r4, r5⟩ := h5.b3.cell
  go_wp2_with fail
  refine (HS.out _ h5).mono ?_
  rintro e w6 ⟨rfl, h6⟩
  clear p0 p1 p2 p3 p4 p5 q0 q1 q2 q3 q4 q5 r0 r1 r2 r3 r4 r5
  obtain ⟨p0, p1, p2, p3, p4, p5⟩ := h6.b1.cell
  obtain ⟨q0, q1, q2, q3, q4, q5⟩ := h6.b2.cell
  obtain ⟨r0, r1, r2, r3, r4, r5⟩ := h6.b3.cell
  go_wp2_with fail
  refine (HO11.out _ h6).mono ?_
  rintro e w7 ⟨rfl, h7⟩
  clear p0 p1 p2 p3 p4 p5 q0 q1 q2 q3 q4 q5 r0 r1 r2 r3 r4 r5
  go_wp2_with fail
  refine (HW.out _ h7).mono ?_
  rintro e w8 ⟨rfl, h8⟩
  have HE := Lib.hid h8.low
  go_wp2_with fail
  go_ret
  exact ⟨rfl, HE.out⟩
set_option maxRecDepth 100000 in
set_option maxHeartbeats 4000000 in
theorem vord_glg (a0 a1 a2 a3 a4 a5 b0 b1 b2 b3 b4 b5 d0 d1 d2 d3 d4 d5 : Value) (w : World)
    (HM1 : Hid (On3 w #[a0, a1, a2, a3, a4, a5] #[b0, b1, b2, b3, b4, b5] #[d0, d1, d2, d3, d4, d5] 10 #[.agg #[a0, a1, a2, a3, a4, a5]] (.bool true)))
    (HM2 : Hid (On3 w #[a0, a1, a2, a3, a4, a5] #[b0, b1, b2, b3, b4, b5] #[d0, d1, d2, d3, d4, d5] 10 #[.agg #[b0, b1, b2, b3, b4, b5]] (.bool true)))
    (HM3 : Hid (On3 w #[a0, a1, a2, a3, a4, a5] #[b0, b1, b2, b3, b4, b5] #[d0, d1, d2, d3, d4, d5] 10 #[.agg #[d0, d1, d2, d3, d4, d5]] (.bool true)))
    (HO12 : Hid (On3 w #[a0, a1, a2, a3, a4, a5] #[b0, b1, b2, b3, b4, b5] #[d0, d1, d2, d3, d4, d5] 23 #[.agg #[a0, a1, a2, a3, a4, a5], .agg #[b0, b1, b2, b3, b4, b5]] (.int .i64 (1))))
    (HO23 : Hid (On3 w #[a0, a1, a2, a3, a4, a5] #[b0, b1, b2, b3, b4, b5] #[d0, d1, d2, d3, d4, d5] 23 #[.agg #[b0, b1, b2, b3, b4, b5], .agg #[d0, d1, d2, d3, d4, d5]] (.int .i64 (-1))))
    (HO13 : Hid (On3 w #[a0, a1, a2, a3, a4, a5] #[b0, b1, b2, b3, b4, b5] #[d0, d1, d2, d3, d4, d5] 23 #[.agg #[a0, a1, a2, a3, a4, a5], .agg #[d0, d1, d2, d3, d4, d5]] (.int .i64 (1))))
    (HO21 : Hid (On3 w #[a0, a1, a2, a3, a4, a5] #[b0, b1, b2, b3, b4, b5] #[d0, d1, d2, d3, d4, d5] 23 #[.agg #[b0, b1, b2, b3, b4, b5], .agg #[a0, a1, a2, a3, a4, a5]] (.int .i64 (-1))))
    (HO11 : Hid (On3 w #[a0, a1, a2, a3, a4, a5] #[b0, b1, b2, b3, b4, b5] #[d0, d1, d2, d3, d4, d5] 23 #[.agg #[a0, a1, a2, a3, a4, a5], .agg #[a0, a1, a2, a3, a4, a5]] (.int .i64 (0))))
    (HS : Hid (On3 w #[a0, a1, a2, a3, a4, a5] #[b0, b1, b2, b3, b4, b5] #[d0, d1, d2, d3, d4, d5] 19 #[.agg #[a0, a1, a2, a3, a4, a5], .agg #[b0, b1, b2, b3, b4, b5]] (.bool false)))
    (HW : Hid (On3 w #[a0, a1, a2, a3, a4, a5] #[b0, b1, b2, b3, b4, b5] #[d0, d1, d2, d3, d4, d5] 15 #[] (.bool true))) :
    Calls Tryd.prog 5 #[.agg #[a0, a1, a2, a3, a4, a5], .agg #[b0, b1, b2, b3, b4, b5], .agg #[d0, d1, d2, d3, d4, d5]] w fun e w' => e = .returned (.bool true) ∧ Below w.heap.size w w' := by
  have h0 := Seen3.new w #[a0, a1, a2, a3, a4, a5] #[b0, b1, b2, b3, b4, b5] #[d0, d1, d2, d3, d4, d5]
  obtain ⟨p0, p1, p2, p3, p4, p5⟩ := h0.b1.cell
  obtain ⟨q0, q1, q2, q3, q4, q5⟩ := h0.b2.cell
  obtain ⟨r0, r1, r2, r3, r4, r5⟩ := h0.b3.cell
  have H0 := Lib.hid h0
  clear h0
  go_enter Tryd.func5, Tryd.ntmps5
  go_wp2_with fail
  refine (HM1.out _ H0.out).mono ?_
  rintro e w1 ⟨rfl, h1⟩
  clear p0 p1 p2 p3 p4 p5 q0 q1 q2 q3 q4 q5 r0 r1 r2 r3 r4 r5
  obtain ⟨p0, p1, p2, p3, p4, p5⟩ := h1.b1.cell
  obtain ⟨q0, q1, q2, q3, q4, q5⟩ := h1.b2.cell
  obtain ⟨r0, r1, r2, r3, r4, r5⟩ := h1.b3.cell
  go_wp2_with fail
  refine (HM2.out _ h1).mono ?_
  rintro e w2 ⟨rfl, h2⟩
  clear p0 p1 p2 p3 p4 p5 q0 q1 q2 q3 q4 q5 r0 r1 r2 r3 r4 r5
  obtain ⟨p0, p1, p2, p3, p4, p5⟩ := h2.b1.cell
  obtain ⟨q0, q1, q2, q3, q4, q5⟩ := h2.b2.cell
  obtain ⟨r0, r1, r2, r3, r4, r5⟩ := h2.b3.cell
  go_wp2_with fail
  refine (HM3.out _ h2).mono ?_
  rintro e w3 ⟨rfl, h3⟩
  have H3 := Lib.hid h3.drew
  clear h1 h2 h3 p0 p1 p2 p3 p4 p5 q0 q1 q2 q3 q4 q5 r0 r1 r2 r3 r4 r5
  go_wp2_with fail
  have hS0 := H3.out
  rename_i Q' K1 hK1
  refine wp_region_noPanic ?_
  refine wpIn_wide (n := 5).1 ?_
  refine wpIn_region_text (Seen3 w #[a0, a1, a2, a3, a4, a5] #[b0, b1, b2, b3, b4, b5] #[d0, d1, d2, d3, d4, d5]) [0, 1, 3, 4, 6, 7, 2, 5, 8, 9, 10, 11] rfl (by kernel_rfl) (by kernel_rfl) (by kernel_rfl) (by kernel_rfl) (fun _ _ _ _ _ h => h) hS0 ?_
  refine textS_take (o := _) (.agg #[a0, a1, a2, a3, a4, a5]) (by conv => lhs; simp only [List.getElem?_toArray, List.getElem?_cons_succ, List.getElem?_cons_zero]) (by rfl) (by rfl) ?_ (fun _ => by rfl) (by conv => lhs; simp only [Act.put, List.setIfInBounds_toArray, List.set_cons_succ, List.set_cons_zero]) ?_
  · rintro w1 t0; obtain ⟨c0, c1, c2, c3, c4, c5⟩ := t0.b1.cell; clear t0; go_simp
  refine textS_take (o := _) (.agg #[b0, b1, b2, b3, b4, b5]) (by conv => lhs; simp only [List.getElem?_toArray, List.getElem?_cons_succ, List.getElem?_cons_zero]) (by rfl) (by rfl) ?_ (fun _ => by rfl) (by conv => lhs; simp only [Act.put, List.setIfInBounds_toArray, List.set_cons_succ, List.set_cons_zero]) ?_
  · rintro w1 t0; obtain ⟨c0, c1, c2, c3, c4, c5⟩ := t0.b2.cell; clear t0; go_simp
  refine textS_take (o := _) (.agg #[b0, b1, b2, b3, b4, b5]) (by conv => lhs; simp only [List.getElem?_toArray, List.getElem?_cons_succ, List.getElem?_cons_zero]) (by rfl) (by rfl) ?_ (fun _ => by rfl) (by conv => lhs; simp only [Act.put, List.setIfInBounds_toArray, List.set_cons_succ, List.set_cons_zero]) ?_
  · rintro w1 t0; obtain ⟨c0, c1, c2, c3, c4, c5⟩ := t0.b2.cell; clear t0; go_simp
  refine textS_take (o := _) (.agg #[d0, d1, d2, d3, d4, d5]) (by conv => lhs; simp only [List.getElem?_toArray, List.getElem?_cons_succ, List.getElem?_cons_zero]) (by rfl) (by rfl) ?_ (fun _ => by rfl) (by conv => lhs; simp only [Act.put, List.setIfInBounds_toArray, List.set_cons_succ, List.set_cons_zero]) ?_
  · rintro w1 t0; obtain ⟨c0, c1, c2, c3, c4, c5⟩ := t0.b3.cell; clear t0; go_simp
  refine textS_take (o := _) (.agg #[a0, a1, a2, a3, a4, a5]) (by conv => lhs; simp only [List.getElem?_toArray, List.getElem?_cons_succ, List.getElem?_cons_zero]) (by rfl) (by rfl) ?_ (fun _ => by rfl) (by conv => lhs; simp only [Act.put, List.setIfInBounds_toArray, List.set_cons_succ, List.set_cons_zero]) ?_
  · rintro w1 t0; obtain ⟨c0, c1, c2, c3, c4, c5⟩ := t0.b1.cell; clear t0; go_simp
  refine textS_take (o := _) (.agg #[d0, d1, d2, d3, d4, d5]) (by conv => lhs; simp only [List.getElem?_toArray, List.getElem?_cons_succ, List.getElem?_cons_zero]) (by rfl) (by rfl) ?_ (fun _ => by rfl) (by conv => lhs; simp only [Act.put, List.setIfInBounds_toArray, List.set_cons_succ, List.set_cons_zero]) ?_
  · rintro w1 t0; obtain ⟨c0, c1, c2, c3, c4, c5⟩ := t0.b3.cell; clear t0; go_simp
  refine textS_call (o := _) (by conv => lhs; simp only [List.getElem?_toArray, List.getElem?_cons_succ, List.getElem?_cons_zero]) (by rfl) (by rfl) ?_
  refine wpIn_call rfl ?_ (HO12.out _ hS0) ?_
  · go_simp
  rintro e whS0_1 ⟨rfl, hS0_1⟩
  refine ⟨_, _, rfl, (by conv => lhs; simp only [Act.put, List.setIfInBounds_toArray, List.set_cons_succ, List.set_cons_zero]), hS0_1, ?_⟩
  refine textS_call (o := _) (by conv => lhs; simp only [List.getElem?_toArray, List.getElem?_cons_succ, List.getElem?_cons_zero]) (by rfl) (by rfl) ?_
  refine wpIn_call rfl ?_ (HO23.out _ hS0_1) ?_
  · go_simp
  rintro e whS0_2 ⟨rfl, hS0_2⟩
  refine ⟨_, _, rfl, (by conv => lhs; simp only [Act.put, List.setIfInBounds_toArray, List.set_cons_succ, List.set_cons_zero]), hS0_2, ?_⟩
  refine textS_call (o := _) (by conv => lhs; simp only [List.getElem?_toArray, List.getElem?_cons_succ, List.getElem?_cons_zero]) (by rfl) (by rfl) ?_
  refine wpIn_call rfl ?_ (HO13.out _ hS0_2) ?_
  · go_simp
  rintro e whS0_3 ⟨rfl, hS0_3⟩
  refine ⟨_, _, rfl, (by conv => lhs; simp only [Act.put, List.setIfInBounds_toArray, List.set_cons_succ, List.set_cons_zero]), hS0_3, ?_⟩
  refine textS_take (o := _) (.int .i64 (1)) (by conv => lhs; simp only [List.getElem?_toArray, List.getElem?_cons_succ, List.getElem?_cons_zero]) (by rfl) (by rfl) ?_ (fun _ => by rfl) (by conv => lhs; simp only [Act.put, List.setIfInBounds_toArray, List.set_cons_succ, List.set_cons_zero]) ?_
  · intro w _; go_simp
  refine textS_take (o := _) (.int .i64 (-1)) (by conv => lhs; simp only [List.getElem?_toArray, List.getElem?_cons_succ, List.getElem?_cons_zero]) (by rfl) (by rfl) ?_ (fun _ => by rfl) (by conv => lhs; simp only [Act.put, List.setIfInBounds_toArray, List.set_cons_succ, List.set_cons_zero]) ?_
  · intro w _; go_simp
  refine textS_take (o := _) (.int .i64 (1)) (by conv => lhs; simp only [List.getElem?_toArray, List.getElem?_cons_succ, List.getElem?_cons_zero]) (by rfl) (by rfl) ?_ (fun _ => by rfl) (by conv => lhs; simp only [Act.put, List.setIfInBounds_toArray, List.set_cons_succ, List.set_cons_zero]) ?_
  · intro w _; go_simp
  refine NoPanic.normal ?_
  refine hK1 _ _ ?_
  clear hK1
  have H4 := Lib.hid hS0_3
  clear hS0 hS0_1 hS0_2 hS0_3
  obtain ⟨p0, p1, p2, p3, p4, p5⟩ := H4.out.b1.cell
  obtain ⟨q0, q1, q2, q3, q4, q5⟩ := H4.out.b2.cell
  obtain ⟨r0, r1, r2, r3, r4, r5⟩ := H4.out.b3.cell
  go_wp2_with fail
  refine (HO21.out _ H4.out).mono ?_
  rintro e w5 ⟨rfl, h5⟩
  clear p0 p1 p2 p3 p4 p5 q0 q1 q2 q3 q4 q5 r0 r1 r2 r3 r4 r5
  obtain ⟨p0, p1, p2, p3, p4, p5⟩ := h5.b1.cell
  obtain ⟨q0, q1, q2, q3, q4, q5⟩ := h5.b2.cell
  obtain ⟨r0, r1, r2, r3, r4, r5⟩ := h5.b3.cell
  go_wp2_with fail
  refine (HS.out _ h5).mono ?_
  rintro e w6 ⟨rfl, h6⟩
  clear p0 p1 p2 p3 p4 p5 q0 q1 q2 q3 q4 q5 r0 r1 r2 r3 r4 r5
  obtain ⟨p0, p1, p2, p3, p4, p5⟩ := h6.b1.cell
  obtain ⟨q0, q1, q2, q3, q4, q5⟩ := h6.b2.cell
  obtain ⟨r0, r1, r2, r3, r4, r5⟩ := h6.b3.cell
  go_wp2_with fail
  refine (HO11.out _ h6).mono ?_
  rintro e w7 ⟨rfl, h7⟩
  clear p0 p1 p2 p3 p4 p5 q0 q1 q2 q3 q4 q5 r0 r1 r2 r3 r4 r5
  go_wp2_with fail
  refine (HW.out _ h7).mono ?_
  rintro e w8 ⟨rfl, h8⟩
  have HE := Lib.hid h8.low
  go_wp2_with fail
  go_ret
  exact ⟨rfl, HE.out⟩
set_option maxRecDepth 100000 in
set_option maxHeartbeats 4000000 in
theorem vord_geg (a0 a1 a2 a3 a4 a5 b0 b1 b2 b3 b4 b5 d0 d1 d2 d3 d4 d5 : Value) (w : World)
    (HM1 : Hid (On3 w #[a0, a1, a2, a3, a4, a5] #[b0, b1, b2, b3, b4, b5] #[d0, d1, d2, d3, d4, d5] 10 #[.agg #[a0, a1, a2, a3, a4, a5]] (.bool true)))
    (HM2 : Hid (On3 w #[a0, a1, a2, a3, a4, a5] #[b0, b1, b2, b3, b4, b5] #[d0, d1, d2, d3, d4, d5] 10 #[.agg #[b0, b1, b2, b3, b4, b5]] (.bool true)))
    (HM3 : Hid (On3 w #[a0, a1, a2, a3, a4, a5] #[b0, b1, b2, b3, b4, b5] #[d0, d1, d2, d3, d4, d5] 10 #[.agg #[d0, d1, d2, d3, d4, d5]] (.bool true)))
    (HO12 : Hid (On3 w #[a0, a1, a2, a3, a4, a5] #[b0, b1, b2, b3, b4, b5] #[d0, d1, d2, d3, d4, d5] 23 #[.agg #[a0, a1, a2, a3, a4, a5], .agg #[b0, b1, b2, b3, b4, b5]] (.int .i64 (1))))
    (HO23 : Hid (On3 w #[a0, a1, a2, a3, a4, a5] #[b0, b1, b2, b3, b4, b5] #[d0, d1, d2, d3, d4, d5] 23 #[.agg #[b0, b1, b2, b3, b4, b5], .agg #[d0, d1, d2, d3, d4, d5]] (.int .i64 (0))))
    (HO13 : Hid (On3 w #[a0, a1, a2, a3, a4, a5] #[b0, b1, b2, b3, b4, b5] #[d0, d1, d2, d3, d4, d5] 23 #[.agg #[a0, a1, a2, a3, a4, a5], .agg #[d0, d1, d2, d3, d4, d5]] (.int .i64 (1))))
    (HO21 : Hid (On3 w #[a0, a1, a2, a3, a4, a5] #[b0, b1, b2, b3, b4, b5] #[d0, d1, d2, d3, d4, d5] 23 #[.agg #[b0, b1, b2, b3, b4, b5], .agg #[a0, a1, a2, a3, a4, a5]] (.int .i64 (-1))))
    (HO11 : Hid (On3 w #[a0, a1, a2, a3, a4, a5] #[b0, b1, b2, b3, b4, b5] #[d0, d1, d2, d3, d4, d5] 23 #[.agg #[a0, a1, a2, a3, a4, a5], .agg #[a0, a1, a2, a3, a4, a5]] (.int .i64 (0))))
    (HS : Hid (On3 w #[a0, a1, a2, a3, a4, a5] #[b0, b1, b2, b3, b4, b5] #[d0, d1, d2, d3, d4, d5] 19 #[.agg #[a0, a1, a2, a3, a4, a5], .agg #[b0, b1, b2, b3, b4, b5]] (.bool false)))
    (HW : Hid (On3 w #[a0, a1, a2, a3, a4, a5] #[b0, b1, b2, b3, b4, b5] #[d0, d1, d2, d3, d4, d5] 15 #[] (.bool true))) :
    Calls Tryd.prog 5 #[.agg #[a0, a1, a2, a3, a4, a5], .agg #[b0, b1, b2, b3, b4, b5], .agg #[d0, d1, d2, d3, d4, d5]] w fun e w' => e = .returned (.bool true) ∧ Below w.heap.size w w' := by
  have h0 := Seen3.new w #[a0, a1, a2, a3, a4, a5] #[b0, b1, b2, b3, b4, b5] #[d0, d1, d2, d3, d4, d5]
  obtain ⟨p0, p1, p2, p3, p4, p5⟩ := h0.b1.cell
  obtain ⟨q0, q1, q2, q3, q4, q5⟩ := h0.b2.cell
  obtain ⟨r0, r1, r2, r3, r4, r5⟩ := h0.b3.cell
  have H0 := Lib.hid h0
  clear h0
  go_enter Tryd.func5, Tryd.ntmps5
  go_wp2_with fail
  refine (HM1.out _ H0.out).mono ?_
  rintro e w1 ⟨rfl, h1⟩
  clear p0 p1 p2 p3 p4 p5 q0 q1 q2 q3 q4 q5 r0 r1 r2 r3 r4 r5
  obtain ⟨p0, p1, p2, p3, p4, p5⟩ := h1.b1.cell
  obtain ⟨q0, q1, q2, q3, q4, q5⟩ := h1.b2.cell
  obtain ⟨r0, r1, r2, r3, r4, r5⟩ := h1.b3.cell
  go_wp2_with fail
  refine (HM2.out _ h1).mono ?_
  rintro e w2 ⟨rfl, h2⟩
  clear p0 p1 p2 p3 p4 p5 q0 q1 q2 q3 q4 q5 r0 r1 r2 r3 r4 r5
  obtain ⟨p0, p1, p2, p3, p4, p5⟩ := h2.b1.cell
  obtain ⟨q0, q1, q2, q3, q4, q5⟩ := h2.b2.cell
  obtain ⟨r0, r1, r2, r3, r4, r5⟩ := h2.b3.cell
  go_wp2_with fail
  refine (HM3.out _ h2).mono ?_
  rintro e w3 ⟨rfl, h3⟩
  have H3 := Lib.hid h3.drew
  clear h1 h2 h3 p0 p1 p2 p3 p4 p5 q0 q1 q2 q3 q4 q5 r0 r1 r2 r3 r4 r5
  go_wp2_with fail
  have hS0 := H3.out
  rename_i Q' K1 hK1
  refine wp_region_noPanic ?_
  refine wpIn_wide (n := 5).1 ?_
  refine wpIn_region_text (Seen3 w #[a0, a1, a2, a3, a4, a5] #[b0, b1, b2, b3, b4, b5] #[d0, d1, d2, d3, d4, d5]) [0, 1, 3, 4, 6, 7, 2, 5, 8, 9, 10, 11] rfl (by kernel_rfl) (by kernel_rfl) (by kernel_rfl) (by kernel_rfl) (fun _ _ _ _ _ h => h) hS0 ?_
  refine textS_take (o := _) (.agg #[a0, a1, a2, a3, a4, a5]) (by conv => lhs; simp only [List.getElem?_toArray, List.getElem?_cons_succ, List.getElem?_cons_zero]) (by rfl) (by rfl) ?_ (fun _ => by rfl) (by conv => lhs; simp only [Act.put, List.setIfInBounds_toArray, List.set_cons_succ, List.set_cons_zero]) ?_
  · rintro w1 t0; obtain ⟨c0, c1, c2, c3, c4, c5⟩ := t0.b1.cell; clear t0; go_simp
  refine textS_take (o := _) (.agg #[b0, b1, b2, b3, b4, b5]) (by conv => lhs; simp only [List.getElem?_toArray, List.getElem?_cons_succ, List.getElem?_cons_zero]) (by rfl) (by rfl) ?_ (fun _ => by rfl) (by conv => lhs; simp only [Act.put, List.setIfInBounds_toArray, List.set_cons_succ, List.set_cons_zero]) ?_
  · rintro w1 t0; obtain ⟨c0, c1, c2, c3, c4, c5⟩ := t0.b2.cell; clear t0; go_simp
  refine textS_take (o := _) (.agg #[b0, b1, b2, b3, b4, b5]) (by conv => lhs; simp only [List.getElem?_toArray, List.getElem?_cons_succ, List.getElem?_cons_zero]) (by rfl) (by rfl) ?_ (fun _ => by rfl) (by conv => lhs; simp only [Act.put, List.setIfInBounds_toArray, List.set_cons_succ, List.set_cons_zero]) ?_
  · rintro w1 t0; obtain ⟨c0, c1, c2, c3, c4, c5⟩ := t0.b2.cell; clear t0; go_simp
  refine textS_take (o := _) (.agg #[d0, d1, d2, d3, d4, d5]) (by conv => lhs; simp only [List.getElem?_toArray, List.getElem?_cons_succ, List.getElem?_cons_zero]) (by rfl) (by rfl) ?_ (fun _ => by rfl) (by conv => lhs; simp only [Act.put, List.setIfInBounds_toArray, List.set_cons_succ, List.set_cons_zero]) ?_
  · rintro w1 t0; obtain ⟨c0, c1, c2, c3, c4, c5⟩ := t0.b3.cell; clear t0; go_simp
  refine textS_take (o := _) (.agg #[a0, a1, a2, a3, a4, a5]) (by conv => lhs; simp only [List.getElem?_toArray, List.getElem?_cons_succ, List.getElem?_cons_zero]) (by rfl) (by rfl) ?_ (fun _ => by rfl) (by conv => lhs; simp only [Act.put, List.setIfInBounds_toArray, List.set_cons_succ, List.set_cons_zero]) ?_
  · rintro w1 t0; obtain ⟨c0, c1, c2, c3, c4, c5⟩ := t0.b1.cell; clear t0; go_simp
  refine textS_take (o := _) (.agg #[d0, d1, d2, d3, d4, d5]) (by conv => lhs; simp only [List.getElem?_toArray, List.getElem?_cons_succ, List.getElem?_cons_zero]) (by rfl) (by rfl) ?_ (fun _ => by rfl) (by conv => lhs; simp only [Act.put, List.setIfInBounds_toArray, List.set_cons_succ, List.set_cons_zero]) ?_
  · rintro w1 t0; obtain ⟨c0, c1, c2, c3, c4, c5⟩ := t0.b3.cell; clear t0; go_simp
  refine textS_call (o := _) (by conv => lhs; simp only [List.getElem?_toArray, List.getElem?_cons_succ, List.getElem?_cons_zero]) (by rfl) (by rfl) ?_
  refine wpIn_call rfl ?_ (HO12.out _ hS0) ?_
  · go_simp
  rintro e whS0_1 ⟨rfl, hS0_1⟩
  refine ⟨_, _, rfl, (by conv => lhs; simp only [Act.put, List.setIfInBounds_toArray, List.set_cons_succ, List.set_cons_zero]), hS0_1, ?_⟩
  refine textS_call (o := _) (by conv => lhs; simp only [List.getElem?_toArray, List.getElem?_cons_succ, List.getElem?_cons_zero]) (by rfl) (by rfl) ?_
  refine wpIn_call rfl ?_ (HO23.out _ hS0_1) ?_
  · go_simp
  rintro e whS0_2 ⟨rfl, hS0_2⟩
  refine ⟨_, _, rfl, (by conv => lhs; simp only [Act.put, List.setIfInBounds_toArray, List.set_cons_succ, List.set_cons_zero]), hS0_2, ?_⟩
  refine textS_call (o := _) (by conv => lhs; simp only [List.getElem?_toArray, List.getElem?_cons_succ, List.getElem?_cons_zero]) (by rfl) (by rfl) ?_
  refine wpIn_call rfl ?_ (HO13.out _ hS0_2) ?_
  · go_simp
  rintro e whS0_3 ⟨rfl, hS0_3⟩
  refine ⟨_, _, rfl, (by conv => lhs; simp only [Act.put, List.setIfInBounds_toArray, List.set_cons_succ, List.set_cons_zero]), hS0_3, ?_⟩
  refine textS_take (o := _) (.int .i64 (1)) (by conv => lhs; simp only [List.getElem?_toArray, List.getElem?_cons_succ, List.getElem?_cons_zero]) (by rfl) (by rfl) ?_ (fun _ => by rfl) (by conv => lhs; simp only [Act.put, List.setIfInBounds_toArray, List.set_cons_succ, List.set_cons_zero]) ?_
  · intro w _; go_simp
  refine textS_take (o := _) (.int .i64 (0)) (by conv => lhs; simp only [List.getElem?_toArray, List.getElem?_cons_succ, List.getElem?_cons_zero]) (by rfl) (by rfl) ?_ (fun _ => by rfl) (by conv => lhs; simp only [Act.put, List.setIfInBounds_toArray, List.set_cons_succ, List.set_cons_zero]) ?_
  · intro w _; go_simp
  refine textS_take (o := _) (.int .i64 (1)) (by conv => lhs; simp only [List.getElem?_toArray, List.getElem?_cons_succ, List.getElem?_cons_zero]) (by rfl) (by rfl) ?_ (fun _ => by rfl) (by conv => lhs; simp only [Act.put, List.setIfInBounds_toArray, List.set_cons_succ, List.set_cons_zero]) ?_
  · intro w _; go_simp
  refine NoPanic.normal ?_
  refine hK1 _ _ ?_
  clear hK1
  have H4 := Lib.hid hS0_3
  clear hS0 hS0_1 hS0_2 hS0_3
  obtain ⟨p0, p1, p2, p3, p4, p5⟩ := H4.out.b1.cell
  obtain ⟨q0, q1, q2, q3, q4, q5⟩ := H4.out.b2.cell
  obtain ⟨r0, r1, r2, r3, r4, r5⟩ := H4.out.b3.cell
  go_wp2_with fail
  refine (HO21.out _ H4.out).mono ?_
  rintro e w5 ⟨rfl, h5⟩
  clear p0 p1 p2 p3 p4 p5 q0 q1 q2 q3 q4 q5 r0 r1 r2 r3 r4 r5
  obtain ⟨p0, p1, p2, p3, p4, p5⟩ := h5.b1.cell
  obtain ⟨q0, q1, q2, q3, q4, q5⟩ := h5.b2.cell
  obtain ⟨r0, r1, r2, r3, r4, r5⟩ := h5.b3.cell
  go_wp2_with fail
  refine (HS.out _ h5).mono ?_
  rintro e w6 ⟨rfl, h6⟩
  clear p0 p1 p2 p3 p4 p5 q0 q1 q2 q3 q4 q5 r0 r1 r2 r3 r4 r5
  obtain ⟨p0, p1, p2, p3, p4, p5⟩ := h6.b1.cell
  obtain ⟨q0, q1, q2, q3, q4, q5⟩ := h6.b2.cell
  obtain ⟨r0, r1, r2, r3, r4, r5⟩ := h6.b3.cell
  go_wp2_with fail
  refine (HO11.out _ h6).mono ?_
  rintro e w7 ⟨rfl, h7⟩
  clear p0 p1 p2 p3 p4 p5 q0 q1 q2 q3 q4 q5 r0 r1 r2 r3 r4 r5
  go_wp2_with fail
  refine (HW.out _ h7).mono ?_
  rintro e w8 ⟨rfl, h8⟩
  have HE := Lib.hid h8.low
  go_wp2_with fail
  go_ret
  exact ⟨rfl, HE.out⟩
set_option maxRecDepth 100000 in
set_option maxHeartbeats 4000000 in
theorem vord_ggg (a0 a1 a2 a3 a4 a5 b0 b1 b2 b3 b4 b5 d0 d1 d2 d3 d4 d5 : Value) (w : World)
    (HM1 : Hid (On3 w #[a0, a1, a2, a3, a4, a5] #[b0, b1, b2, b3, b4, b5] #[d0, d1, d2, d3, d4, d5] 10 #[.agg #[a0, a1, a2, a3, a4, a5]] (.bool true)))
    (HM2 : Hid (On3 w #[a0, a1, a2, a3, a4, a5] #[b0, b1, b2, b3, b4, b5] #[d0, d1, d2, d3, d4, d5] 10 #[.agg #[b0, b1, b2, b3, b4, b5]] (.bool true)))
    (HM3 : Hid (On3 w #[a0, a1, a2, a3, a4, a5] #[b0, b1, b2, b3, b4, b5] #[d0, d1, d2, d3, d4, d5] 10 #[.agg #[d0, d1, d2, d3, d4, d5]] (.bool true)))
    (HO12 : Hid (On3 w #[a0, a1, a2, a3, a4, a5] #[b0, b1, b2, b3, b4, b5] #[d0, d1, d2, d3, d4, d5] 23 #[.agg #[a0, a1, a2, a3, a4, a5], .agg #[b0, b1, b2, b3, b4, b5]] (.int .i64 (1))))
    (HO23 : Hid (On3 w #[a0, a1, a2, a3, a4, a5] #[b0, b1, b2, b3, b4, b5] #[d0, d1, d2, d3, d4, d5] 23 #[.agg #[b0, b1, b2, b3, b4, b5], .agg #[d0, d1, d2, d3, d4, d5]] (.int .i64 (1))))
    (HO13 : Hid (On3 w #[a0, a1, a2, a3, a4, a5] #[b0, b1, b2, b3, b4, b5] #[d0, d1, d2, d3, d4, d5] 23 #[.agg #[a0, a1, a2, a3, a4, a5], .agg #[d0, d1, d2, d3, d4, d5]] (.int .i64 (1))))
    (HO21 : Hid (On3 w #[a0, a1, a2, a3, a4, a5] #[b0, b1, b2, b3, b4, b5] #[d0, d1, d2, d3, d4, d5] 23 #[.agg #[b0, b1, b2, b3, b4, b5], .agg #[a0, a1, a2, a3, a4, a5]] (.int .i64 (-1))))
    (HO11 : Hid (On3 w #[a0, a1, a2, a3, a4, a5] #[b0, b1, b2, b3, b4, b5] #[d0, d1, d2, d3, d4, d5] 23 #[.agg #[a0, a1, a2, a3, a4, a5], .agg #[a0, a1, a2, a3, a4, a5]] (.int .i64 (0))))
    (HS : Hid (On3 w #[a0, a1, a2, a3, a4, a5] #[b0, b1, b2, b3, b4, b5] #[d0, d1, d2, d3, d4, d5] 19 #[.agg #[a0, a1, a2, a3, a4, a5], .agg #[b0, b1, b2, b3, b4, b5]] (.bool false)))
    (HW : Hid (On3 w #[a0, a1, a2, a3, a4, a5] #[b0, b1, b2, b3, b4, b5] #[d0, d1, d2, d3, d4, d5] 15 #[] (.bool true))) :
    Calls Tryd.prog 5 #[.agg #[a0, a1, a2, a3, a4, a5], .agg #[b0, b1, b2, b3, b4, b5], .agg #[d0, d1, d2, d3, d4, d5]] w fun e w' => e = .returned (.bool true) ∧ Below w.heap.size w w' := by
  have h0 := Seen3.new w #[a0, a1, a2, a3, a4, a5] #[b0, b1, b2, b3, b4, b5] #[d0, d1, d2, d3, d4, d5]
  obtain ⟨p0, p1, p2, p3, p4, p5⟩ := h0.b1.cell
  obtain ⟨q0, q1, q2, q3, q4, q5⟩ := h0.b2.cell
  obtain ⟨r0, r1, r2, r3, r4, r5⟩ := h0.b3.cell
  have H0 := Lib.hid h0
  clear h0
  go_enter Tryd.func5, Tryd.ntmps5
  go_wp2_with fail
  refine (HM1.out _ H0.out).mono ?_
  rintro e w1 ⟨rfl, h1⟩
  clear p0 p1 p2 p3 p4 p5 q0 q1 q2 q3 q4 q5 r0 r1 r2 r3 r4 r5
  obtain ⟨p0, p1, p2, p3, p4, p5⟩ := h1.b1.cell
  obtain ⟨q0, q1, q2, q3, q4, q5⟩ := h1.b2.cell
  obtain ⟨r0, r1, r2, r3, r4, r5⟩ := h1.b3.cell
  go_wp2_with fail
  refine (HM2.out _ h1).mono ?_
  rintro e w2 ⟨rfl, h2⟩
  clear p0 p1 p2 p3 p4 p5 q0 q1 q2 q3 q4 q5 r0 r1 r2 r3 r4 r5
  obtain ⟨p0, p1, p2, p3, p4, p5⟩ := h2.b1.cell
  obtain ⟨q0, q1, q2, q3, q4, q5⟩ := h2.b2.cell
  obtain ⟨r0, r1, r2, r3, r4, r5⟩ := h2.b3.cell
  go_wp2_with fail
  refine (HM3.out _ h2).mono ?_
  rintro e w3 ⟨rfl, h3⟩
  have H3 := Lib.hid h3.drew
  clear h1 h2 h3 p0 p1 p2 p3 p4 p5 q0 q1 q2 q3 q4 q5 r0 r1 r2 r3 r4 r5
  go_wp2_with fail
  have hS0 := H3.out
  rename_i Q' K1 hK1
  refine wp_region_noPanic ?_
  refine wpIn_wide (n := 5).1 ?_
  refine wpIn_region_text (Seen3 w #[a0, a1, a2, a3, a4, a5] #[b0, b1, b2, b3, b4, b5] #[d0, d1, d2, d3, d4, d5]) [0, 1, 3, 4, 6, 7, 2, 5, 8, 9, 10, 11] rfl (by kernel_rfl) (by kernel_rfl) (by kernel_rfl) (by kernel_rfl) (fun _ _ _ _ _ h => h) hS0 ?_
  refine textS_take (o := _) (.agg #[a0, a1, a2, a3, a4, a5]) (by conv => lhs; simp only [List.getElem?_toArray, List.getElem?_cons_succ, List.getElem?_cons_zero]) (by rfl) (by rfl) ?_ (fun _ => by rfl) (by conv => lhs; simp only [Act.put, List.setIfInBounds_toArray, List.set_cons_succ, List.set_cons_zero]) ?_
  · rintro w1 t0; obtain ⟨c0, c1, c2, c3, c4, c5⟩ := t0.b1.cell; clear t0; go_simp
  refine textS_take (o := _) (.agg #[b0, b1, b2, b3, b4, b5]) (by conv => lhs; simp only [List.getElem?_toArray, List.getElem?_cons_succ, List.getElem?_cons_zero]) (by rfl) (by rfl) ?_ (fun _ => by rfl) (by conv => lhs; simp only [Act.put, List.setIfInBounds_toArray, List.set_cons_succ, List.set_cons_zero]) ?_
  · rintro w1 t0; obtain ⟨c0, c1, c2, c3, c4, c5⟩ := t0.b2.cell; clear t0; go_simp
  refine textS_take (o := _) (.agg #[b0, b1, b2, b3, b4, b5]) (by conv => lhs; simp only [List.getElem?_toArray, List.getElem?_cons_succ, List.getElem?_cons_zero]) (by rfl) (by rfl) ?_ (fun _ => by rfl) (by conv => lhs; simp only [Act.put, List.setIfInBounds_toArray, List.set_cons_succ, List.set_cons_zero]) ?_
  · rintro w1 t0; obtain ⟨c0, c1, c2, c3, c4, c5⟩ := t0.b2.cell; clear t0; go_simp
  refine textS_take (o := _) (.agg #[d0, d1, d2, d3, d4, d5]) (by conv => lhs; simp only [List.getElem?_toArray, List.getElem?_cons_succ, List.getElem?_cons_zero]) (by rfl) (by rfl) ?_ (fun _ => by rfl) (by conv => lhs; simp only [Act.put, List.setIfInBounds_toArray, List.set_cons_succ, List.set_cons_zero]) ?_
  · rintro w1 t0; obtain ⟨c0, c1, c2, c3, c4, c5⟩ := t0.b3.cell; clear t0; go_simp
  refine textS_take (o := _) (.agg #[a0, a1, a2, a3, a4, a5]) (by conv => lhs; simp only [List.getElem?_toArray, List.getElem?_cons_succ, List.getElem?_cons_zero]) (by rfl) (by rfl) ?_ (fun _ => by rfl) (by conv => lhs; simp only [Act.put, List.setIfInBounds_toArray, List.set_cons_succ, List.set_cons_zero]) ?_
  · rintro w1 t0; obtain ⟨c0, c1, c2, c3, c4, c5⟩ := t0.b1.cell; clear t0; go_simp
  refine textS_take (o := _) (.agg #[d0, d1, d2, d3, d4, d5]) (by conv => lhs; simp only [List.getElem?_toArray, List.getElem?_cons_succ, List.getElem?_cons_zero]) (by rfl) (by rfl) ?_ (fun _ => by rfl) (by conv => lhs; simp only [Act.put, List.setIfInBounds_toArray, List.set_cons_succ, List.set_cons_zero]) ?_
  · rintro w1 t0; obtain ⟨c0, c1, c2, c3, c4, c5⟩ := t0.b3.cell; clear t0; go_simp
  refine textS_call (o := _) (by conv => lhs; simp only [List.getElem?_toArray, List.getElem?_cons_succ, List.getElem?_cons_zero]) (by rfl) (by rfl) ?_
  refine wpIn_call rfl ?_ (HO12.out _ hS0) ?_
  · go_simp
  rintro e whS0_1 ⟨rfl, hS0_1⟩
  refine ⟨_, _, rfl, (by conv => lhs; simp only [Act.put, List.setIfInBounds_toArray, List.set_cons_succ, List.set_cons_zero]), hS0_1, ?_⟩
  refine textS_call (o := _) (by conv => lhs; simp only [List.getElem?_toArray, List.getElem?_cons_succ, List.getElem?_cons_zero]) (by rfl) (by rfl) ?_
  refine wpIn_call rfl ?_ (HO23.out _ hS0_1) ?_
  · go_simp
  rintro e whS0_2 ⟨rfl, hS0_2⟩
  refine ⟨_, _, rfl, (by conv => lhs; simp only [Act.put, List.setIfInBounds_toArray, List.set_cons_succ, List.set_cons_zero]), hS0_2, ?_⟩
  refine textS_call (o := _) (by conv => lhs; simp only [List.getElem?_toArray, List.getElem?_cons_succ, List.getElem?_cons_zero]) (by rfl) (by rfl) ?_
  refine wpIn_call rfl ?_ (HO13.out _ hS0_2) ?_
  · go_simp
  rintro e whS0_3 ⟨rfl, hS0_3⟩
  refine ⟨_, _, rfl, (by conv => lhs; simp only [Act.put, List.setIfInBounds_toArray, List.set_cons_succ, List.set_cons_zero]), hS0_3, ?_⟩
  refine textS_take (o := _) (.int .i64 (1)) (by conv => lhs; simp only [List.getElem?_toArray, List.getElem?_cons_succ, List.getElem?_cons_zero]) (by rfl) (by rfl) ?_ (fun _ => by rfl) (by conv => lhs; simp only [Act.put, List.setIfInBounds_toArray, List.set_cons_succ, List.set_cons_zero]) ?_
  · intro w _; go_simp
  refine textS_take (o := _) (.int .i64 (1)) (by conv => lhs; simp only [List.getElem?_toArray, List.getElem?_cons_succ, List.getElem?_cons_zero]) (by rfl) (by rfl) ?_ (fun _ => by rfl) (by conv => lhs; simp only [Act.put, List.setIfInBounds_toArray, List.set_cons_succ, List.set_cons_zero]) ?_
  · intro w _; go_simp
  refine textS_take (o := _) (.int .i64 (1)) (by conv => lhs; simp only [List.getElem?_toArray, List.getElem?_cons_succ, List.getElem?_cons_zero]) (by rfl) (by rfl) ?_ (fun _ => by rfl) (by conv => lhs; simp only [Act.put, List.setIfInBounds_toArray, List.set_cons_succ, List.set_cons_zero]) ?_
  · intro w _; go_simp
  refine NoPanic.normal ?_
  refine hK1 _ _ ?_
  clear hK1
  have H4 := Lib.hid hS0_3
  clear hS0 hS0_1 hS0_2 hS0_3
  obtain ⟨p0, p1, p2, p3, p4, p5⟩ := H4.out.b1.cell
  obtain ⟨q0, q1, q2, q3, q4, q5⟩ := H4.out.b2.cell
  obtain ⟨r0, r1, r2, r3, r4, r5⟩ := H4.out.b3.cell
  go_wp2_with fail
  refine (HO21.out _ H4.out).mono ?_
  rintro e w5 ⟨rfl, h5⟩
  clear p0 p1 p2 p3 p4 p5 q0 q1 q2 q3 q4 q5 r0 r1 r2 r3 r4 r5
  obtain ⟨p0, p1, p2, p3, p4, p5⟩ := h5.b1.cell
  obtain ⟨q0, q1, q2, q3, q4, q5⟩ := h5.b2.cell
  obtain ⟨r0, r1, r2, r3, r4, r5⟩ := h5.b3.cell
  go_wp2_with fail
  refine (HS.out _ h5).mono ?_
  rintro e w6 ⟨rfl, h6⟩
  clear p0 p1 p2 p3 p4 p5 q0 q1 q2 q3 q4 q5 r0 r1 r2 r3 r4 r5
  obtain ⟨p0, p1, p2, p3, p4, p5⟩ := h6.b1.cell
  obtain ⟨q0, q1, q2, q3, q4, q5⟩ := h6.b2.cell
  obtain ⟨r0, r1, r2, r3, r4, r5⟩ := h6.b3.cell
  go_wp2_with fail
  refine (HO11.out _ h6).mono ?_
  rintro e w7 ⟨rfl, h7⟩
  clear p0 p1 p2 p3 p4 p5 q0 q1 q2 q3 q4 q5 r0 r1 r2 r3 r4 r5
  go_wp2_with fail
  refine (HW.out _ h7).mono ?_
  rintro e w8 ⟨rfl, h8⟩
  have HE := Lib.hid h8.low
  go_wp2_with fail
  go_ret
  exact ⟨rfl, HE.out⟩
end Val
end Go.Proofs.YtiphegccaijbgaaDoor
