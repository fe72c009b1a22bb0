/- The law ValueEqual: its walk. -/
import Derived.Test.YtiphegccaijbgaaDoorRows
import Derived.Test.YtiphegccaijbgaaDoorHeld
import Derived.Test.YtiphegccaijbgaaDoorValBase
import Derived.Test.YtiphegccaijbgaaDoorVal
import Derived.Test.YtiphegccaijbgaaDoorValCmp
import Derived.Test.YtiphegccaijbgaaDoorValOrd
import Derived.Test.YtiphegccaijbgaaDoorValWalk
import Derived.Test.YtiphegccaijbgaaDoorValRef
import Derived.Test.YtiphegccaijbgaaDoorValSame
import Derived.Test.YtiphegccaijbgaaDoorValCopy
import Derived.Test.YtiphegccaijbgaaDoorEqAll
import Derived.Test.YtiphegccaijbgaaDoorEqPlain
import Derived.Test.YtiphegccaijbgaaDoorEqWalk
import Derived.Test.YtiphegccaijbgaaDoorEqDeep
import Derived.Test.YtiphegccaijbgaaDoorEqFace
import Derived.Test.YtiphegccaijbgaaDoorValWorks
import Derived.Test.YtiphegccaijbgaaDoorValCopyR
import Derived.WalkKit
import Derived.Lib.Hide
import Derived.WalkSpells
import Derived.WalkLawsBesides
import Derived.Laws.AppendOwn
import Derived.Laws.OwnMore
import Derived.OwnWalk
import Derived.Defers
import Derived.Outline
import Derived.Lib.SmallJoins
namespace Go.Proofs.YtiphegccaijbgaaDoor
open Go.RowKit
set_option linter.unusedVariables false
set_option linter.unusedSimpArgs false
namespace Val
/-- Two values' boxes stand, and all that was there. -/
structure Seen2 (w : World) (ca cb : Array Value) (V : World) : Prop where
  b1 : Box V w.heap.size ca
  b2 : Box V (w.heap.size + 1) cb
  low : Below w.heap.size w V
theorem Seen2.step {w V V' : World} {ca cb : Array Value} (h : Seen2 w ca cb V) (hb : Below V.heap.size V V') : Seen2 w ca cb V' := ⟨(hb.block _ h.b1.lt).trans h.b1, (hb.block _ h.b2.lt).trans h.b2, h.low.trans (hb.mono h.low.size)⟩
theorem Seen2.drew {w V : World} {ca cb : Array Value} (h : Seen2 w ca cb V) : Seen2 w ca cb V.drew := ⟨h.b1, h.b2, h.low.drew⟩
theorem Seen2.new (w : World) (ca cb : Array Value) : Seen2 w ca cb ((w.alloc (.cells ca 25)).alloc (.cells cb 25)) := ⟨(Box.new w ca).alloc _, by have := Box.new (w.alloc (.cells ca 25)) cb; rwa [World.size_alloc] at this, ((Below.refl _ w).alloc (Nat.le_refl _) _).alloc (by simp) _⟩
theorem is_any (t : Int) (w : World) : Calls Tryd.prog 26 #[.int .i64 t] w fun e w' => e = .returned (.bool (t == 1)) ∧ w = w' := by
  go_enter Tryd.func26, Tryd.ntmps26
  go_wp2
  go_ret
  exact ⟨rfl, rfl⟩
/-- A contract in every world in which the boxes stand. -/
def On2 (w : World) (ca cb : Array Value) (f : FuncId) (args : Array Value) (x : Value) : Prop := ∀ V, Seen2 w ca cb V → Calls Tryd.prog f args V fun e w' => e = .returned x ∧ Seen2 w ca cb w'
set_option maxRecDepth 100000 in
set_option maxHeartbeats 4000000 in
theorem veq_no1 (a0 a1 a2 a3 a4 a5 b0 b1 b2 b3 b4 b5 : Value) (w : World)
    (HM1 : Hid (On2 w #[a0, a1, a2, a3, a4, a5] #[b0, b1, b2, b3, b4, b5] 10 #[.agg #[a0, a1, a2, a3, a4, a5]] (.bool false)))
    (HW : Hid (On2 w #[a0, a1, a2, a3, a4, a5] #[b0, b1, b2, b3, b4, b5] 15 #[] (.bool true))) :
    Calls Tryd.prog 6 #[.agg #[a0, a1, a2, a3, a4, a5], .agg #[b0, b1, b2, b3, b4, b5]] w fun e w' => e = .returned (.bool true) ∧ Below w.heap.size w w' := by
  have h0 := Seen2.new w #[a0, a1, a2, a3, a4, a5] #[b0, b1, b2, b3, b4, b5]
  obtain ⟨p0, p1, p2, p3, p4, p5⟩ := h0.b1.cell
  obtain ⟨q0, q1, q2, q3, q4, q5⟩ := h0.b2.cell
  have H0 := Lib.hid h0
  clear h0
  go_enter Tryd.func6, Tryd.ntmps6
  go_wp2_with fail
  refine (HM1.out _ H0.out).mono ?_
  rintro e w1 ⟨rfl, h1⟩
  go_wp2_with fail
  refine (HW.out _ h1).mono ?_
  rintro e w2 ⟨rfl, h2⟩
  have HE := Lib.hid h2.low
  go_wp2_with fail
  go_ret
  exact ⟨rfl, HE.out⟩
set_option maxRecDepth 100000 in
set_option maxHeartbeats 4000000 in
theorem veq_no2 (a0 a1 a2 a3 a4 a5 b0 b1 b2 b3 b4 b5 : Value) (w : World)
    (HM1 : Hid (On2 w #[a0, a1, a2, a3, a4, a5] #[b0, b1, b2, b3, b4, b5] 10 #[.agg #[a0, a1, a2, a3, a4, a5]] (.bool true)))
    (HM2 : Hid (On2 w #[a0, a1, a2, a3, a4, a5] #[b0, b1, b2, b3, b4, b5] 10 #[.agg #[b0, b1, b2, b3, b4, b5]] (.bool false)))
    (HW : Hid (On2 w #[a0, a1, a2, a3, a4, a5] #[b0, b1, b2, b3, b4, b5] 15 #[] (.bool true))) :
    Calls Tryd.prog 6 #[.agg #[a0, a1, a2, a3, a4, a5], .agg #[b0, b1, b2, b3, b4, b5]] w fun e w' => e = .returned (.bool true) ∧ Below w.heap.size w w' := by
  have h0 := Seen2.new w #[a0, a1, a2, a3, a4, a5] #[b0, b1, b2, b3, b4, b5]
  obtain ⟨p0, p1, p2, p3, p4, p5⟩ := h0.b1.cell
  obtain ⟨q0, q1, q2, q3, q4, q5⟩ := h0.b2.cell
  have H0 := Lib.hid h0
  clear h0
  go_enter Tryd.func6, Tryd.ntmps6
  go_wp2_with fail
  refine (HM1.out _ H0.out).mono ?_
  rintro e w1 ⟨rfl, h1⟩
  clear p0 p1 p2 p3 p4 p5 q0 q1 q2 q3 q4 q5
  obtain ⟨p0, p1, p2, p3, p4, p5⟩ := h1.b1.cell
  obtain ⟨q0, q1, q2, q3, q4, q5⟩ := h1.b2.cell
  go_wp2_with fail
  refine (HM2.out _ h1).mono ?_
  rintro e w2 ⟨rfl, h2⟩
  go_wp2_with fail
  refine (HW.out _ h2).mono ?_
  rintro e w3 ⟨rfl, h3⟩
  have HE := Lib.hid h3.low
  go_wp2_with fail
  go_ret
  exact ⟨rfl, HE.out⟩
set_option maxRecDepth 100000 in
set_option maxHeartbeats 4000000 in
theorem veq_U1 (a0 a1 a2 a3 a4 a5 b0 b1 b2 b3 b4 b5 : Value) (r : Int) (hr : (r == 0) = false) (w : World)
    (HM1 : Hid (On2 w #[a0, a1, a2, a3, a4, a5] #[b0, b1, b2, b3, b4, b5] 10 #[.agg #[a0, a1, a2, a3, a4, a5]] (.bool true)))
    (HM2 : Hid (On2 w #[a0, a1, a2, a3, a4, a5] #[b0, b1, b2, b3, b4, b5] 10 #[.agg #[b0, b1, b2, b3, b4, b5]] (.bool true)))
    (HE12 : Hid (On2 w #[a0, a1, a2, a3, a4, a5] #[b0, b1, b2, b3, b4, b5] 24 #[.agg #[a0, a1, a2, a3, a4, a5], .agg #[b0, b1, b2, b3, b4, b5]] (.int .i64 1)))
    (HE21 : Hid (On2 w #[a0, a1, a2, a3, a4, a5] #[b0, b1, b2, b3, b4, b5] 24 #[.agg #[b0, b1, b2, b3, b4, b5], .agg #[a0, a1, a2, a3, a4, a5]] (.int .i64 1)))
    (HE11 : Hid (On2 w #[a0, a1, a2, a3, a4, a5] #[b0, b1, b2, b3, b4, b5] 24 #[.agg #[a0, a1, a2, a3, a4, a5], .agg #[a0, a1, a2, a3, a4, a5]] (.int .i64 r)))
    (HL12 : Hid (On2 w #[a0, a1, a2, a3, a4, a5] #[b0, b1, b2, b3, b4, b5] 25 #[.agg #[a0, a1, a2, a3, a4, a5], .agg #[b0, b1, b2, b3, b4, b5]] (.int .i64 2)))
    (HL21 : Hid (On2 w #[a0, a1, a2, a3, a4, a5] #[b0, b1, b2, b3, b4, b5] 25 #[.agg #[b0, b1, b2, b3, b4, b5], .agg #[a0, a1, a2, a3, a4, a5]] (.int .i64 2)))
    (HW : Hid (On2 w #[a0, a1, a2, a3, a4, a5] #[b0, b1, b2, b3, b4, b5] 15 #[] (.bool true)))
    (HS : Hid (On2 w #[a0, a1, a2, a3, a4, a5] #[b0, b1, b2, b3, b4, b5] 19 #[.agg #[a0, a1, a2, a3, a4, a5], .agg #[b0, b1, b2, b3, b4, b5]] (.bool true))) :
    Calls Tryd.prog 6 #[.agg #[a0, a1, a2, a3, a4, a5], .agg #[b0, b1, b2, b3, b4, b5]] w fun e w' => e = .returned (.bool true) ∧ Below w.heap.size w w' := by
  have h0 := Seen2.new w #[a0, a1, a2, a3, a4, a5] #[b0, b1, b2, b3, b4, b5]
  obtain ⟨p0, p1, p2, p3, p4, p5⟩ := h0.b1.cell
  obtain ⟨q0, q1, q2, q3, q4, q5⟩ := h0.b2.cell
  have H0 := Lib.hid h0
  clear h0
  go_enter Tryd.func6, Tryd.ntmps6
  go_wp2_with fail
  refine (HM1.out _ H0.out).mono ?_
  rintro e w1 ⟨rfl, h1⟩
  clear p0 p1 p2 p3 p4 p5 q0 q1 q2 q3 q4 q5
  obtain ⟨p0, p1, p2, p3, p4, p5⟩ := h1.b1.cell
  obtain ⟨q0, q1, q2, q3, q4, q5⟩ := h1.b2.cell
  go_wp2_with fail
  refine (HM2.out _ h1).mono ?_
  rintro e w2 ⟨rfl, h2⟩
  have H2 := Lib.hid h2.drew
  clear h1 h2 p0 p1 p2 p3 p4 p5 q0 q1 q2 q3 q4 q5
  go_wp2_with fail
  have hS0 := H2.out
  rename_i Q' K1 hK1
  refine wp_region_noPanic ?_
  refine wpIn_wide (n := 5).1 ?_
  refine wpIn_region_text (Seen2 w #[a0, a1, a2, a3, a4, a5] #[b0, b1, b2, b3, b4, b5]) [0, 1, 3, 4, 2, 5, 6, 7, 8, 9, 10, 11, 12, 13, 14, 15, 16, 17, 18, 19, 20, 21, 22, 23, 24] rfl (by kernel_rfl) (by kernel_rfl) (by kernel_rfl) (by kernel_rfl) (fun _ _ _ _ _ h => h) hS0 ?_
  refine textS_take (o := _) (.agg #[a0, a1, a2, a3, a4, a5]) (by conv => lhs; simp only [List.getElem?_toArray, List.getElem?_cons_succ, List.getElem?_cons_zero]) (by rfl) (by rfl) ?_ (fun _ => by rfl) (by conv => lhs; simp only [Act.put, List.setIfInBounds_toArray, List.set_cons_succ, List.set_cons_zero]) ?_
  · rintro w1 t0; obtain ⟨c0, c1, c2, c3, c4, c5⟩ := t0.b1.cell; clear t0; go_simp
  refine textS_take (o := _) (.agg #[b0, b1, b2, b3, b4, b5]) (by conv => lhs; simp only [List.getElem?_toArray, List.getElem?_cons_succ, List.getElem?_cons_zero]) (by rfl) (by rfl) ?_ (fun _ => by rfl) (by conv => lhs; simp only [Act.put, List.setIfInBounds_toArray, List.set_cons_succ, List.set_cons_zero]) ?_
  · rintro w1 t0; obtain ⟨c0, c1, c2, c3, c4, c5⟩ := t0.b2.cell; clear t0; go_simp
  refine textS_take (o := _) (.agg #[b0, b1, b2, b3, b4, b5]) (by conv => lhs; simp only [List.getElem?_toArray, List.getElem?_cons_succ, List.getElem?_cons_zero]) (by rfl) (by rfl) ?_ (fun _ => by rfl) (by conv => lhs; simp only [Act.put, List.setIfInBounds_toArray, List.set_cons_succ, List.set_cons_zero]) ?_
  · rintro w1 t0; obtain ⟨c0, c1, c2, c3, c4, c5⟩ := t0.b2.cell; clear t0; go_simp
  refine textS_take (o := _) (.agg #[a0, a1, a2, a3, a4, a5]) (by conv => lhs; simp only [List.getElem?_toArray, List.getElem?_cons_succ, List.getElem?_cons_zero]) (by rfl) (by rfl) ?_ (fun _ => by rfl) (by conv => lhs; simp only [Act.put, List.setIfInBounds_toArray, List.set_cons_succ, List.set_cons_zero]) ?_
  · rintro w1 t0; obtain ⟨c0, c1, c2, c3, c4, c5⟩ := t0.b1.cell; clear t0; go_simp
  refine textS_call (o := _) (by conv => lhs; simp only [List.getElem?_toArray, List.getElem?_cons_succ, List.getElem?_cons_zero]) (by rfl) (by rfl) ?_
  refine wpIn_call rfl ?_ (HE12.out _ hS0) ?_
  · go_simp
  rintro e whS0_1 ⟨rfl, hS0_1⟩
  refine ⟨_, _, rfl, (by conv => lhs; simp only [Act.put, List.setIfInBounds_toArray, List.set_cons_succ, List.set_cons_zero]), hS0_1, ?_⟩
  refine textS_call (o := _) (by conv => lhs; simp only [List.getElem?_toArray, List.getElem?_cons_succ, List.getElem?_cons_zero]) (by rfl) (by rfl) ?_
  refine wpIn_call rfl ?_ (HE21.out _ hS0_1) ?_
  · go_simp
  rintro e whS0_2 ⟨rfl, hS0_2⟩
  refine ⟨_, _, rfl, (by conv => lhs; simp only [Act.put, List.setIfInBounds_toArray, List.set_cons_succ, List.set_cons_zero]), hS0_2, ?_⟩
  refine textS_take (o := _) (.bool false) (by conv => lhs; simp only [List.getElem?_toArray, List.getElem?_cons_succ, List.getElem?_cons_zero]) (by rfl) (by rfl) ?_ (fun _ => by rfl) (by conv => lhs; simp only [Act.put, List.setIfInBounds_toArray, List.set_cons_succ, List.set_cons_zero]) ?_
  · intro w _; go_simp
  refine textS_take (o := _) (.bool false) (by conv => lhs; simp only [List.getElem?_toArray, List.getElem?_cons_succ, List.getElem?_cons_zero]) (by rfl) (by rfl) ?_ (fun _ => by rfl) (by conv => lhs; simp only [Act.put, List.setIfInBounds_toArray, List.set_cons_succ, List.set_cons_zero]) ?_
  · intro w _; go_simp
  refine textS_take (o := _) (.agg #[a0, a1, a2, a3, a4, a5]) (by conv => lhs; simp only [List.getElem?_toArray, List.getElem?_cons_succ, List.getElem?_cons_zero]) (by rfl) (by rfl) ?_ (fun _ => by rfl) (by conv => lhs; simp only [Act.put, List.setIfInBounds_toArray, List.set_cons_succ, List.set_cons_zero]) ?_
  · rintro w1 t0; obtain ⟨c0, c1, c2, c3, c4, c5⟩ := t0.b1.cell; clear t0; go_simp
  refine textS_take (o := _) (.agg #[a0, a1, a2, a3, a4, a5]) (by conv => lhs; simp only [List.getElem?_toArray, List.getElem?_cons_succ, List.getElem?_cons_zero]) (by rfl) (by rfl) ?_ (fun _ => by rfl) (by conv => lhs; simp only [Act.put, List.setIfInBounds_toArray, List.set_cons_succ, List.set_cons_zero]) ?_
  · rintro w1 t0; obtain ⟨c0, c1, c2, c3, c4, c5⟩ := t0.b1.cell; clear t0; go_simp
  refine textS_call (o := _) (by conv => lhs; simp only [List.getElem?_toArray, List.getElem?_cons_succ, List.getElem?_cons_zero]) (by rfl) (by rfl) ?_
  refine wpIn_call rfl ?_ (HE11.out _ hS0_2) ?_
  · go_simp
  rintro e whS0_3 ⟨rfl, hS0_3⟩
  refine ⟨_, _, rfl, (by conv => lhs; simp only [Act.put, List.setIfInBounds_toArray, List.set_cons_succ, List.set_cons_zero]), hS0_3, ?_⟩
  refine textS_take (o := _) (.bool false) (by conv => lhs; simp only [List.getElem?_toArray, List.getElem?_cons_succ, List.getElem?_cons_zero]) (by rfl) (by rfl) ?_ (fun _ => by rfl) (by conv => lhs; simp only [Act.put, List.setIfInBounds_toArray, List.set_cons_succ, List.set_cons_zero]) ?_
  · intro w _; go_simp
  refine textS_take (o := _) (.bool false) (by conv => lhs; simp only [List.getElem?_toArray, List.getElem?_cons_succ, List.getElem?_cons_zero]) (by rfl) (by rfl) ?_ (fun _ => by rfl) (by conv => lhs; simp only [Act.put, List.setIfInBounds_toArray, List.set_cons_succ, List.set_cons_zero]) ?_
  · intro w _; go_simp
  refine textS_take (o := _) (.bool false) (by conv => lhs; simp only [List.getElem?_toArray, List.getElem?_cons_succ, List.getElem?_cons_zero]) (by rfl) (by rfl) ?_ (fun _ => by rfl) (by conv => lhs; simp only [Act.put, List.setIfInBounds_toArray, List.set_cons_succ, List.set_cons_zero]) ?_
  · intro w _; go_simp
  refine textS_take (o := _) (.agg #[a0, a1, a2, a3, a4, a5]) (by conv => lhs; simp only [List.getElem?_toArray, List.getElem?_cons_succ, List.getElem?_cons_zero]) (by rfl) (by rfl) ?_ (fun _ => by rfl) (by conv => lhs; simp only [Act.put, List.setIfInBounds_toArray, List.set_cons_succ, List.set_cons_zero]) ?_
  · rintro w1 t0; obtain ⟨c0, c1, c2, c3, c4, c5⟩ := t0.b1.cell; clear t0; go_simp
  refine textS_take (o := _) (.agg #[b0, b1, b2, b3, b4, b5]) (by conv => lhs; simp only [List.getElem?_toArray, List.getElem?_cons_succ, List.getElem?_cons_zero]) (by rfl) (by rfl) ?_ (fun _ => by rfl) (by conv => lhs; simp only [Act.put, List.setIfInBounds_toArray, List.set_cons_succ, List.set_cons_zero]) ?_
  · rintro w1 t0; obtain ⟨c0, c1, c2, c3, c4, c5⟩ := t0.b2.cell; clear t0; go_simp
  refine textS_call (o := _) (by conv => lhs; simp only [List.getElem?_toArray, List.getElem?_cons_succ, List.getElem?_cons_zero]) (by rfl) (by rfl) ?_
  refine wpIn_call rfl ?_ (HE12.out _ hS0_3) ?_
  · go_simp
  rintro e whS0_4 ⟨rfl, hS0_4⟩
  refine ⟨_, _, rfl, (by conv => lhs; simp only [Act.put, List.setIfInBounds_toArray, List.set_cons_succ, List.set_cons_zero]), hS0_4, ?_⟩
  refine textS_take (o := _) (.bool true) (by conv => lhs; simp only [List.getElem?_toArray, List.getElem?_cons_succ, List.getElem?_cons_zero]) (by rfl) (by rfl) ?_ (fun _ => by rfl) (by conv => lhs; simp only [Act.put, List.setIfInBounds_toArray, List.set_cons_succ, List.set_cons_zero]) ?_
  · intro w _; go_simp
  refine textS_take (o := _) (.bool true) (by conv => lhs; simp only [List.getElem?_toArray, List.getElem?_cons_succ, List.getElem?_cons_zero]) (by rfl) (by rfl) ?_ (fun _ => by rfl) (by conv => lhs; simp only [Act.put, List.setIfInBounds_toArray, List.set_cons_succ, List.set_cons_zero]) ?_
  · intro w _; go_simp
  refine textS_take (o := _) (.agg #[a0, a1, a2, a3, a4, a5]) (by conv => lhs; simp only [List.getElem?_toArray, List.getElem?_cons_succ, List.getElem?_cons_zero]) (by rfl) (by rfl) ?_ (fun _ => by rfl) (by conv => lhs; simp only [Act.put, List.setIfInBounds_toArray, List.set_cons_succ, List.set_cons_zero]) ?_
  · rintro w1 t0; obtain ⟨c0, c1, c2, c3, c4, c5⟩ := t0.b1.cell; clear t0; go_simp
  refine textS_take (o := _) (.agg #[b0, b1, b2, b3, b4, b5]) (by conv => lhs; simp only [List.getElem?_toArray, List.getElem?_cons_succ, List.getElem?_cons_zero]) (by rfl) (by rfl) ?_ (fun _ => by rfl) (by conv => lhs; simp only [Act.put, List.setIfInBounds_toArray, List.set_cons_succ, List.set_cons_zero]) ?_
  · rintro w1 t0; obtain ⟨c0, c1, c2, c3, c4, c5⟩ := t0.b2.cell; clear t0; go_simp
  refine textS_call (o := _) (by conv => lhs; simp only [List.getElem?_toArray, List.getElem?_cons_succ, List.getElem?_cons_zero]) (by rfl) (by rfl) ?_
  refine wpIn_call rfl ?_ (HS.out _ hS0_4) ?_
  · go_simp
  rintro e whS0_5 ⟨rfl, hS0_5⟩
  refine ⟨_, _, rfl, (by conv => lhs; simp only [Act.put, List.setIfInBounds_toArray, List.set_cons_succ, List.set_cons_zero]), hS0_5, ?_⟩
  refine textS_take (o := _) (.bool false) (by conv => lhs; simp only [List.getElem?_toArray, List.getElem?_cons_succ, List.getElem?_cons_zero]) (by rfl) (by rfl) ?_ (fun _ => by rfl) (by conv => lhs; simp only [Act.put, List.setIfInBounds_toArray, List.set_cons_succ, List.set_cons_zero]) ?_
  · intro w _; go_simp
  refine textS_take (o := _) (.bool false) (by conv => lhs; simp only [List.getElem?_toArray, List.getElem?_cons_succ, List.getElem?_cons_zero]) (by rfl) (by rfl) ?_ (fun _ => by rfl) (by conv => lhs; simp only [Act.put, List.setIfInBounds_toArray, List.set_cons_succ, List.set_cons_zero]) ?_
  · intro w _; go_simp
  refine textS_take (o := _) (.bool false) (by conv => lhs; simp only [List.getElem?_toArray, List.getElem?_cons_succ, List.getElem?_cons_zero]) (by rfl) (by rfl) ?_ (fun _ => by rfl) (by conv => lhs; simp only [Act.put, List.setIfInBounds_toArray, List.set_cons_succ, List.set_cons_zero]) ?_
  · intro w _; go_simp
  refine NoPanic.normal ?_
  refine hK1 _ _ ?_
  clear hK1
  have H3 := Lib.hid hS0_5.drew
  clear hS0 hS0_1 hS0_2 hS0_3 hS0_4 hS0_5
  go_wp2_with fail
  have hT0 := H3.out
  rename_i Q' K2 hK2
  refine wp_region_noPanic ?_
  refine wpIn_wide (n := 5).1 ?_
  refine wpIn_region_text (Seen2 w #[a0, a1, a2, a3, a4, a5] #[b0, b1, b2, b3, b4, b5]) [0, 1, 3, 4, 2, 5, 6, 7] rfl (by kernel_rfl) (by kernel_rfl) (by kernel_rfl) (by kernel_rfl) (fun _ _ _ _ _ h => h) hT0 ?_
  refine textS_take (o := _) (.agg #[a0, a1, a2, a3, a4, a5]) (by conv => lhs; simp only [List.getElem?_toArray, List.getElem?_cons_succ, List.getElem?_cons_zero]) (by rfl) (by rfl) ?_ (fun _ => by rfl) (by conv => lhs; simp only [Act.put, List.setIfInBounds_toArray, List.set_cons_succ, List.set_cons_zero]) ?_
  · rintro w1 t0; obtain ⟨c0, c1, c2, c3, c4, c5⟩ := t0.b1.cell; clear t0; go_simp
  refine textS_take (o := _) (.agg #[b0, b1, b2, b3, b4, b5]) (by conv => lhs; simp only [List.getElem?_toArray, List.getElem?_cons_succ, List.getElem?_cons_zero]) (by rfl) (by rfl) ?_ (fun _ => by rfl) (by conv => lhs; simp only [Act.put, List.setIfInBounds_toArray, List.set_cons_succ, List.set_cons_zero]) ?_
  · rintro w1 t0; obtain ⟨c0, c1, c2, c3, c4, c5⟩ := t0.b2.cell; clear t0; go_simp
  refine textS_take (o := _) (.agg #[b0, b1, b2, b3, b4, b5]) (by conv => lhs; simp only [List.getElem?_toArray, List.getElem?_cons_succ, List.getElem?_cons_zero]) (by rfl) (by rfl) ?_ (fun _ => by rfl) (by conv => lhs; simp only [Act.put, List.setIfInBounds_toArray, List.set_cons_succ, List.set_cons_zero]) ?_
  · rintro w1 t0; obtain ⟨c0, c1, c2, c3, c4, c5⟩ := t0.b2.cell; clear t0; go_simp
  refine textS_take (o := _) (.agg #[a0, a1, a2, a3, a4, a5]) (by conv => lhs; simp only [List.getElem?_toArray, List.getElem?_cons_succ, List.getElem?_cons_zero]) (by rfl) (by rfl) ?_ (fun _ => by rfl) (by conv => lhs; simp only [Act.put, List.setIfInBounds_toArray, List.set_cons_succ, List.set_cons_zero]) ?_
  · rintro w1 t0; obtain ⟨c0, c1, c2, c3, c4, c5⟩ := t0.b1.cell; clear t0; go_simp
  refine textS_call (o := _) (by conv => lhs; simp only [List.getElem?_toArray, List.getElem?_cons_succ, List.getElem?_cons_zero]) (by rfl) (by rfl) ?_
  refine wpIn_call rfl ?_ (HL12.out _ hT0) ?_
  · go_simp
  rintro e whT0_1 ⟨rfl, hT0_1⟩
  refine ⟨_, _, rfl, (by conv => lhs; simp only [Act.put, List.setIfInBounds_toArray, List.set_cons_succ, List.set_cons_zero]), hT0_1, ?_⟩
  refine textS_call (o := _) (by conv => lhs; simp only [List.getElem?_toArray, List.getElem?_cons_succ, List.getElem?_cons_zero]) (by rfl) (by rfl) ?_
  refine wpIn_call rfl ?_ (HL21.out _ hT0_1) ?_
  · go_simp
  rintro e whT0_2 ⟨rfl, hT0_2⟩
  refine ⟨_, _, rfl, (by conv => lhs; simp only [Act.put, List.setIfInBounds_toArray, List.set_cons_succ, List.set_cons_zero]), hT0_2, ?_⟩
  refine textS_take (o := _) (.int .i64 2) (by conv => lhs; simp only [List.getElem?_toArray, List.getElem?_cons_succ, List.getElem?_cons_zero]) (by rfl) (by rfl) ?_ (fun _ => by rfl) (by conv => lhs; simp only [Act.put, List.setIfInBounds_toArray, List.set_cons_succ, List.set_cons_zero]) ?_
  · intro w _; go_simp
  refine textS_take (o := _) (.int .i64 2) (by conv => lhs; simp only [List.getElem?_toArray, List.getElem?_cons_succ, List.getElem?_cons_zero]) (by rfl) (by rfl) ?_ (fun _ => by rfl) (by conv => lhs; simp only [Act.put, List.setIfInBounds_toArray, List.set_cons_succ, List.set_cons_zero]) ?_
  · intro w _; go_simp
  refine NoPanic.normal ?_
  refine hK2 _ _ ?_
  clear hK2
  have H4 := Lib.hid hT0_2
  clear hT0 hT0_1 hT0_2
  go_wp2_with fail
  refine (HW.out _ H4.out).mono ?_
  rintro e w5 ⟨rfl, h5⟩
  have HE := Lib.hid h5.low
  go_wp2_with fail
  go_ret
  exact ⟨rfl, HE.out⟩
set_option maxRecDepth 100000 in
set_option maxHeartbeats 4000000 in
theorem veq_U0 (a0 a1 a2 a3 a4 a5 b0 b1 b2 b3 b4 b5 : Value) (r : Int) (hr : (r == 0) = false) (q : Int) (hq : (q == 1) = false) (w : World)
    (HM1 : Hid (On2 w #[a0, a1, a2, a3, a4, a5] #[b0, b1, b2, b3, b4, b5] 10 #[.agg #[a0, a1, a2, a3, a4, a5]] (.bool true)))
    (HM2 : Hid (On2 w #[a0, a1, a2, a3, a4, a5] #[b0, b1, b2, b3, b4, b5] 10 #[.agg #[b0, b1, b2, b3, b4, b5]] (.bool true)))
    (HE12 : Hid (On2 w #[a0, a1, a2, a3, a4, a5] #[b0, b1, b2, b3, b4, b5] 24 #[.agg #[a0, a1, a2, a3, a4, a5], .agg #[b0, b1, b2, b3, b4, b5]] (.int .i64 q)))
    (HE21 : Hid (On2 w #[a0, a1, a2, a3, a4, a5] #[b0, b1, b2, b3, b4, b5] 24 #[.agg #[b0, b1, b2, b3, b4, b5], .agg #[a0, a1, a2, a3, a4, a5]] (.int .i64 q)))
    (HE11 : Hid (On2 w #[a0, a1, a2, a3, a4, a5] #[b0, b1, b2, b3, b4, b5] 24 #[.agg #[a0, a1, a2, a3, a4, a5], .agg #[a0, a1, a2, a3, a4, a5]] (.int .i64 r)))
    (HL12 : Hid (On2 w #[a0, a1, a2, a3, a4, a5] #[b0, b1, b2, b3, b4, b5] 25 #[.agg #[a0, a1, a2, a3, a4, a5], .agg #[b0, b1, b2, b3, b4, b5]] (.int .i64 2)))
    (HL21 : Hid (On2 w #[a0, a1, a2, a3, a4, a5] #[b0, b1, b2, b3, b4, b5] 25 #[.agg #[b0, b1, b2, b3, b4, b5], .agg #[a0, a1, a2, a3, a4, a5]] (.int .i64 2)))
    (HW : Hid (On2 w #[a0, a1, a2, a3, a4, a5] #[b0, b1, b2, b3, b4, b5] 15 #[] (.bool true))) :
    Calls Tryd.prog 6 #[.agg #[a0, a1, a2, a3, a4, a5], .agg #[b0, b1, b2, b3, b4, b5]] w fun e w' => e = .returned (.bool true) ∧ Below w.heap.size w w' := by
  have h0 := Seen2.new w #[a0, a1, a2, a3, a4, a5] #[b0, b1, b2, b3, b4, b5]
  obtain ⟨p0, p1, p2, p3, p4, p5⟩ := h0.b1.cell
  obtain ⟨q0, q1, q2, q3, q4, q5⟩ := h0.b2.cell
  have H0 := Lib.hid h0
  clear h0
  go_enter Tryd.func6, Tryd.ntmps6
  go_wp2_with fail
  refine (HM1.out _ H0.out).mono ?_
  rintro e w1 ⟨rfl, h1⟩
  clear p0 p1 p2 p3 p4 p5 q0 q1 q2 q3 q4 q5
  obtain ⟨p0, p1, p2, p3, p4, p5⟩ := h1.b1.cell
  obtain ⟨q0, q1, q2, q3, q4, q5⟩ := h1.b2.cell
  go_wp2_with fail
  refine (HM2.out _ h1).mono ?_
  rintro e w2 ⟨rfl, h2⟩
  have H2 := Lib.hid h2.drew
  clear h1 h2 p0 p1 p2 p3 p4 p5 q0 q1 q2 q3 q4 q5
  go_wp2_with fail
  have hS0 := H2.out
  rename_i Q' K1 hK1
  refine wp_region_noPanic ?_
  refine wpIn_wide (n := 5).1 ?_
  refine wpIn_region_text (Seen2 w #[a0, a1, a2, a3, a4, a5] #[b0, b1, b2, b3, b4, b5]) [0, 1, 3, 4, 2, 5, 6, 7, 8, 9, 10, 11, 12, 13, 14, 15, 16, 17, 18, 19, 20, 21, 22, 23, 24] rfl (by kernel_rfl) (by kernel_rfl) (by kernel_rfl) (by kernel_rfl) (fun _ _ _ _ _ h => h) hS0 ?_
  refine textS_take (o := _) (.agg #[a0, a1, a2, a3, a4, a5]) (by conv => lhs; simp only [List.getElem?_toArray, List.getElem?_cons_succ, List.getElem?_cons_zero]) (by rfl) (by rfl) ?_ (fun _ => by rfl) (by conv => lhs; simp only [Act.put, List.setIfInBounds_toArray, List.set_cons_succ, List.set_cons_zero]) ?_
  · rintro w1 t0; obtain ⟨c0, c1, c2, c3, c4, c5⟩ := t0.b1.cell; clear t0; go_simp
  refine textS_take (o := _) (.agg #[b0, b1, b2, b3, b4, b5]) (by conv => lhs; simp only [List.getElem?_toArray, List.getElem?_cons_succ, List.getElem?_cons_zero]) (by rfl) (by rfl) ?_ (fun _ => by rfl) (by conv => lhs; simp only [Act.put, List.setIfInBounds_toArray, List.set_cons_succ, List.set_cons_zero]) ?_
  · rintro w1 t0; obtain ⟨c0, c1, c2, c3, c4, c5⟩ := t0.b2.cell; clear t0; go_simp
  refine textS_take (o := _) (.agg #[b0, b1, b2, b3, b4, b5]) (by conv => lhs; simp only [List.getElem?_toArray, List.getElem?_cons_succ, List.getElem?_cons_zero]) (by rfl) (by rfl) ?_ (fun _ => by rfl) (by conv => lhs; simp only [Act.put, List.setIfInBounds_toArray, List.set_cons_succ, List.set_cons_zero]) ?_
  · rintro w1 t0; obtain ⟨c0, c1, c2, c3, c4, c5⟩ := t0.b2.cell; clear t0; go_simp
  refine textS_take (o := _) (.agg #[a0, a1, a2, a3, a4, a5]) (by conv => lhs; simp only [List.getElem?_toArray, List.getElem?_cons_succ, List.getElem?_cons_zero]) (by rfl) (by rfl) ?_ (fun _ => by rfl) (by conv => lhs; simp only [Act.put, List.setIfInBounds_toArray, List.set_cons_succ, List.set_cons_zero]) ?_
  · rintro w1 t0; obtain ⟨c0, c1, c2, c3, c4, c5⟩ := t0.b1.cell; clear t0; go_simp
  refine textS_call (o := _) (by conv => lhs; simp only [List.getElem?_toArray, List.getElem?_cons_succ, List.getElem?_cons_zero]) (by rfl) (by rfl) ?_
  refine wpIn_call rfl ?_ (HE12.out _ hS0) ?_
  · go_simp
  rintro e whS0_1 ⟨rfl, hS0_1⟩
  refine ⟨_, _, rfl, (by conv => lhs; simp only [Act.put, List.setIfInBounds_toArray, List.set_cons_succ, List.set_cons_zero]), hS0_1, ?_⟩
  refine textS_call (o := _) (by conv => lhs; simp only [List.getElem?_toArray, List.getElem?_cons_succ, List.getElem?_cons_zero]) (by rfl) (by rfl) ?_
  refine wpIn_call rfl ?_ (HE21.out _ hS0_1) ?_
  · go_simp
  rintro e whS0_2 ⟨rfl, hS0_2⟩
  refine ⟨_, _, rfl, (by conv => lhs; simp only [Act.put, List.setIfInBounds_toArray, List.set_cons_succ, List.set_cons_zero]), hS0_2, ?_⟩
  refine textS_take (o := _) (.bool false) (by conv => lhs; simp only [List.getElem?_toArray, List.getElem?_cons_succ, List.getElem?_cons_zero]) (by rfl) (by rfl) ?_ (fun _ => by rfl) (by conv => lhs; simp only [Act.put, List.setIfInBounds_toArray, List.set_cons_succ, List.set_cons_zero]) ?_
  · intro w _; go_simp
  refine textS_take (o := _) (.bool false) (by conv => lhs; simp only [List.getElem?_toArray, List.getElem?_cons_succ, List.getElem?_cons_zero]) (by rfl) (by rfl) ?_ (fun _ => by rfl) (by conv => lhs; simp only [Act.put, List.setIfInBounds_toArray, List.set_cons_succ, List.set_cons_zero]) ?_
  · intro w _; go_simp
  refine textS_take (o := _) (.agg #[a0, a1, a2, a3, a4, a5]) (by conv => lhs; simp only [List.getElem?_toArray, List.getElem?_cons_succ, List.getElem?_cons_zero]) (by rfl) (by rfl) ?_ (fun _ => by rfl) (by conv => lhs; simp only [Act.put, List.setIfInBounds_toArray, List.set_cons_succ, List.set_cons_zero]) ?_
  · rintro w1 t0; obtain ⟨c0, c1, c2, c3, c4, c5⟩ := t0.b1.cell; clear t0; go_simp
  refine textS_take (o := _) (.agg #[a0, a1, a2, a3, a4, a5]) (by conv => lhs; simp only [List.getElem?_toArray, List.getElem?_cons_succ, List.getElem?_cons_zero]) (by rfl) (by rfl) ?_ (fun _ => by rfl) (by conv => lhs; simp only [Act.put, List.setIfInBounds_toArray, List.set_cons_succ, List.set_cons_zero]) ?_
  · rintro w1 t0; obtain ⟨c0, c1, c2, c3, c4, c5⟩ := t0.b1.cell; clear t0; go_simp
  refine textS_call (o := _) (by conv => lhs; simp only [List.getElem?_toArray, List.getElem?_cons_succ, List.getElem?_cons_zero]) (by rfl) (by rfl) ?_
  refine wpIn_call rfl ?_ (HE11.out _ hS0_2) ?_
  · go_simp
  rintro e whS0_3 ⟨rfl, hS0_3⟩
  refine ⟨_, _, rfl, (by conv => lhs; simp only [Act.put, List.setIfInBounds_toArray, List.set_cons_succ, List.set_cons_zero]), hS0_3, ?_⟩
  refine textS_take (o := _) (.bool false) (by conv => lhs; simp only [List.getElem?_toArray, List.getElem?_cons_succ, List.getElem?_cons_zero]) (by rfl) (by rfl) ?_ (fun _ => by rfl) (by conv => lhs; simp only [Act.put, List.setIfInBounds_toArray, List.set_cons_succ, List.set_cons_zero]) ?_
  · intro w _; go_simp
  refine textS_take (o := _) (.bool false) (by conv => lhs; simp only [List.getElem?_toArray, List.getElem?_cons_succ, List.getElem?_cons_zero]) (by rfl) (by rfl) ?_ (fun _ => by rfl) (by conv => lhs; simp only [Act.put, List.setIfInBounds_toArray, List.set_cons_succ, List.set_cons_zero]) ?_
  · intro w _; go_simp
  refine textS_take (o := _) (.bool false) (by conv => lhs; simp only [List.getElem?_toArray, List.getElem?_cons_succ, List.getElem?_cons_zero]) (by rfl) (by rfl) ?_ (fun _ => by rfl) (by conv => lhs; simp only [Act.put, List.setIfInBounds_toArray, List.set_cons_succ, List.set_cons_zero]) ?_
  · intro w _; go_simp
  refine textS_take (o := _) (.agg #[a0, a1, a2, a3, a4, a5]) (by conv => lhs; simp only [List.getElem?_toArray, List.getElem?_cons_succ, List.getElem?_cons_zero]) (by rfl) (by rfl) ?_ (fun _ => by rfl) (by conv => lhs; simp only [Act.put, List.setIfInBounds_toArray, List.set_cons_succ, List.set_cons_zero]) ?_
  · rintro w1 t0; obtain ⟨c0, c1, c2, c3, c4, c5⟩ := t0.b1.cell; clear t0; go_simp
  refine textS_take (o := _) (.agg #[b0, b1, b2, b3, b4, b5]) (by conv => lhs; simp only [List.getElem?_toArray, List.getElem?_cons_succ, List.getElem?_cons_zero]) (by rfl) (by rfl) ?_ (fun _ => by rfl) (by conv => lhs; simp only [Act.put, List.setIfInBounds_toArray, List.set_cons_succ, List.set_cons_zero]) ?_
  · rintro w1 t0; obtain ⟨c0, c1, c2, c3, c4, c5⟩ := t0.b2.cell; clear t0; go_simp
  refine textS_call (o := _) (by conv => lhs; simp only [List.getElem?_toArray, List.getElem?_cons_succ, List.getElem?_cons_zero]) (by rfl) (by rfl) ?_
  refine wpIn_call rfl ?_ (HE12.out _ hS0_3) ?_
  · go_simp
  rintro e whS0_4 ⟨rfl, hS0_4⟩
  refine ⟨_, _, rfl, (by conv => lhs; simp only [Act.put, List.setIfInBounds_toArray, List.set_cons_succ, List.set_cons_zero]), hS0_4, ?_⟩
  refine textS_take (o := _) (.bool false) (by conv => lhs; simp only [List.getElem?_toArray, List.getElem?_cons_succ, List.getElem?_cons_zero]) (by rfl) (by rfl) ?_ (fun _ => by rfl) (by conv => lhs; simp only [Act.put, List.setIfInBounds_toArray, List.set_cons_succ, List.set_cons_zero]) ?_
  · intro w _; go_simp
  refine textS_take (o := _) (.bool false) (by conv => lhs; simp only [List.getElem?_toArray, List.getElem?_cons_succ, List.getElem?_cons_zero]) (by rfl) (by rfl) ?_ (fun _ => by rfl) (by conv => lhs; simp only [Act.put, List.setIfInBounds_toArray, List.set_cons_succ, List.set_cons_zero]) ?_
  · intro w _; go_simp
  refine textS_skip (o := _) (by conv => lhs; simp only [List.getElem?_toArray, List.getElem?_cons_succ, List.getElem?_cons_zero]) (by rfl) (by rfl) (fun _ => by rfl) (by conv => lhs; simp only [Act.put, List.setIfInBounds_toArray, List.set_cons_succ, List.set_cons_zero]) ?_
  refine textS_skip (o := _) (by conv => lhs; simp only [List.getElem?_toArray, List.getElem?_cons_succ, List.getElem?_cons_zero]) (by rfl) (by rfl) (fun _ => by rfl) (by conv => lhs; simp only [Act.put, List.setIfInBounds_toArray, List.set_cons_succ, List.set_cons_zero]) ?_
  refine textS_callSkip (o := _) (by conv => lhs; simp only [List.getElem?_toArray, List.getElem?_cons_succ, List.getElem?_cons_zero]) (by rfl) (by rfl) (fun _ => trivial) hS0_4 (by conv => lhs; simp only [Act.put, List.setIfInBounds_toArray, List.set_cons_succ, List.set_cons_zero]) ?_
  refine textS_skip (o := _) (by conv => lhs; simp only [List.getElem?_toArray, List.getElem?_cons_succ, List.getElem?_cons_zero]) (by rfl) (by rfl) (fun _ => by rfl) (by conv => lhs; simp only [Act.put, List.setIfInBounds_toArray, List.set_cons_succ, List.set_cons_zero]) ?_
  refine textS_take (o := _) (.bool false) (by conv => lhs; simp only [List.getElem?_toArray, List.getElem?_cons_succ, List.getElem?_cons_zero]) (by rfl) (by rfl) ?_ (fun _ => by rfl) (by conv => lhs; simp only [Act.put, List.setIfInBounds_toArray, List.set_cons_succ, List.set_cons_zero]) ?_
  · intro w _; go_simp
  refine textS_take (o := _) (.bool false) (by conv => lhs; simp only [List.getElem?_toArray, List.getElem?_cons_succ, List.getElem?_cons_zero]) (by rfl) (by rfl) ?_ (fun _ => by rfl) (by conv => lhs; simp only [Act.put, List.setIfInBounds_toArray, List.set_cons_succ, List.set_cons_zero]) ?_
  · intro w _; go_simp
  refine NoPanic.normal ?_
  refine hK1 _ _ ?_
  clear hK1
  have H3 := Lib.hid hS0_4.drew
  clear hS0 hS0_1 hS0_2 hS0_3 hS0_4
  go_wp2_with fail
  have hT0 := H3.out
  rename_i Q' K2 hK2
  refine wp_region_noPanic ?_
  refine wpIn_wide (n := 5).1 ?_
  refine wpIn_region_text (Seen2 w #[a0, a1, a2, a3, a4, a5] #[b0, b1, b2, b3, b4, b5]) [0, 1, 3, 4, 2, 5, 6, 7] rfl (by kernel_rfl) (by kernel_rfl) (by kernel_rfl) (by kernel_rfl) (fun _ _ _ _ _ h => h) hT0 ?_
  refine textS_take (o := _) (.agg #[a0, a1, a2, a3, a4, a5]) (by conv => lhs; simp only [List.getElem?_toArray, List.getElem?_cons_succ, List.getElem?_cons_zero]) (by rfl) (by rfl) ?_ (fun _ => by rfl) (by conv => lhs; simp only [Act.put, List.setIfInBounds_toArray, List.set_cons_succ, List.set_cons_zero]) ?_
  · rintro w1 t0; obtain ⟨c0, c1, c2, c3, c4, c5⟩ := t0.b1.cell; clear t0; go_simp
  refine textS_take (o := _) (.agg #[b0, b1, b2, b3, b4, b5]) (by conv => lhs; simp only [List.getElem?_toArray, List.getElem?_cons_succ, List.getElem?_cons_zero]) (by rfl) (by rfl) ?_ (fun _ => by rfl) (by conv => lhs; simp only [Act.put, List.setIfInBounds_toArray, List.set_cons_succ, List.set_cons_zero]) ?_
  · rintro w1 t0; obtain ⟨c0, c1, c2, c3, c4, c5⟩ := t0.b2.cell; clear t0; go_simp
  refine textS_take (o := _) (.agg #[b0, b1, b2, b3, b4, b5]) (by conv => lhs; simp only [List.getElem?_toArray, List.getElem?_cons_succ, List.getElem?_cons_zero]) (by rfl) (by rfl) ?_ (fun _ => by rfl) (by conv => lhs; simp only [Act.put, List.setIfInBounds_toArray, List.set_cons_succ, List.set_cons_zero]) ?_
  · rintro w1 t0; obtain ⟨c0, c1, c2, c3, c4, c5⟩ := t0.b2.cell; clear t0; go_simp
  refine textS_take (o := _) (.agg #[a0, a1, a2, a3, a4, a5]) (by conv => lhs; simp only [List.getElem?_toArray, List.getElem?_cons_succ, List.getElem?_cons_zero]) (by rfl) (by rfl) ?_ (fun _ => by rfl) (by conv => lhs; simp only [Act.put, List.setIfInBounds_toArray, List.set_cons_succ, List.set_cons_zero]) ?_
  · rintro w1 t0; obtain ⟨c0, c1, c2, c3, c4, c5⟩ := t0.b1.cell; clear t0; go_simp
  refine textS_call (o := _) (by conv => lhs; simp only [List.getElem?_toArray, List.getElem?_cons_succ, List.getElem?_cons_zero]) (by rfl) (by rfl) ?_
  refine wpIn_call rfl ?_ (HL12.out _ hT0) ?_
  · go_simp
  rintro e whT0_1 ⟨rfl, hT0_1⟩
  refine ⟨_, _, rfl, (by conv => lhs; simp only [Act.put, List.setIfInBounds_toArray, List.set_cons_succ, List.set_cons_zero]), hT0_1, ?_⟩
  refine textS_call (o := _) (by conv => lhs; simp only [List.getElem?_toArray, List.getElem?_cons_succ, List.getElem?_cons_zero]) (by rfl) (by rfl) ?_
  refine wpIn_call rfl ?_ (HL21.out _ hT0_1) ?_
  · go_simp
  rintro e whT0_2 ⟨rfl, hT0_2⟩
  refine ⟨_, _, rfl, (by conv => lhs; simp only [Act.put, List.setIfInBounds_toArray, List.set_cons_succ, List.set_cons_zero]), hT0_2, ?_⟩
  refine textS_take (o := _) (.int .i64 2) (by conv => lhs; simp only [List.getElem?_toArray, List.getElem?_cons_succ, List.getElem?_cons_zero]) (by rfl) (by rfl) ?_ (fun _ => by rfl) (by conv => lhs; simp only [Act.put, List.setIfInBounds_toArray, List.set_cons_succ, List.set_cons_zero]) ?_
  · intro w _; go_simp
  refine textS_take (o := _) (.int .i64 2) (by conv => lhs; simp only [List.getElem?_toArray, List.getElem?_cons_succ, List.getElem?_cons_zero]) (by rfl) (by rfl) ?_ (fun _ => by rfl) (by conv => lhs; simp only [Act.put, List.setIfInBounds_toArray, List.set_cons_succ, List.set_cons_zero]) ?_
  · intro w _; go_simp
  refine NoPanic.normal ?_
  refine hK2 _ _ ?_
  clear hK2
  have H4 := Lib.hid hT0_2
  clear hT0 hT0_1 hT0_2
  go_wp2_with fail
  refine (HW.out _ H4.out).mono ?_
  rintro e w5 ⟨rfl, h5⟩
  have HE := Lib.hid h5.low
  go_wp2_with fail
  go_ret
  exact ⟨rfl, HE.out⟩
set_option maxRecDepth 100000 in
set_option maxHeartbeats 4000000 in
theorem veq_lt (a0 a1 a2 a3 a4 a5 b0 b1 b2 b3 b4 b5 : Value) (r : Int) (hr : (r == 0) = false) (f : Int) (hf : f < 0) (w : World)
    (HM1 : Hid (On2 w #[a0, a1, a2, a3, a4, a5] #[b0, b1, b2, b3, b4, b5] 10 #[.agg #[a0, a1, a2, a3, a4, a5]] (.bool true)))
    (HM2 : Hid (On2 w #[a0, a1, a2, a3, a4, a5] #[b0, b1, b2, b3, b4, b5] 10 #[.agg #[b0, b1, b2, b3, b4, b5]] (.bool true)))
    (HE12 : Hid (On2 w #[a0, a1, a2, a3, a4, a5] #[b0, b1, b2, b3, b4, b5] 24 #[.agg #[a0, a1, a2, a3, a4, a5], .agg #[b0, b1, b2, b3, b4, b5]] (.int .i64 0)))
    (HE21 : Hid (On2 w #[a0, a1, a2, a3, a4, a5] #[b0, b1, b2, b3, b4, b5] 24 #[.agg #[b0, b1, b2, b3, b4, b5], .agg #[a0, a1, a2, a3, a4, a5]] (.int .i64 0)))
    (HE11 : Hid (On2 w #[a0, a1, a2, a3, a4, a5] #[b0, b1, b2, b3, b4, b5] 24 #[.agg #[a0, a1, a2, a3, a4, a5], .agg #[a0, a1, a2, a3, a4, a5]] (.int .i64 r)))
    (HL12 : Hid (On2 w #[a0, a1, a2, a3, a4, a5] #[b0, b1, b2, b3, b4, b5] 25 #[.agg #[a0, a1, a2, a3, a4, a5], .agg #[b0, b1, b2, b3, b4, b5]] (.int .i64 1)))
    (HL21 : Hid (On2 w #[a0, a1, a2, a3, a4, a5] #[b0, b1, b2, b3, b4, b5] 25 #[.agg #[b0, b1, b2, b3, b4, b5], .agg #[a0, a1, a2, a3, a4, a5]] (.int .i64 0)))
    (HW : Hid (On2 w #[a0, a1, a2, a3, a4, a5] #[b0, b1, b2, b3, b4, b5] 15 #[] (.bool true)))
    (HO : Hid (On2 w #[a0, a1, a2, a3, a4, a5] #[b0, b1, b2, b3, b4, b5] 23 #[.agg #[a0, a1, a2, a3, a4, a5], .agg #[b0, b1, b2, b3, b4, b5]] (.int .i64 f))) :
    Calls Tryd.prog 6 #[.agg #[a0, a1, a2, a3, a4, a5], .agg #[b0, b1, b2, b3, b4, b5]] w fun e w' => e = .returned (.bool true) ∧ Below w.heap.size w w' := by
  have h0 := Seen2.new w #[a0, a1, a2, a3, a4, a5] #[b0, b1, b2, b3, b4, b5]
  obtain ⟨p0, p1, p2, p3, p4, p5⟩ := h0.b1.cell
  obtain ⟨q0, q1, q2, q3, q4, q5⟩ := h0.b2.cell
  have H0 := Lib.hid h0
  clear h0
  go_enter Tryd.func6, Tryd.ntmps6
  go_wp2_with fail
  refine (HM1.out _ H0.out).mono ?_
  rintro e w1 ⟨rfl, h1⟩
  clear p0 p1 p2 p3 p4 p5 q0 q1 q2 q3 q4 q5
  obtain ⟨p0, p1, p2, p3, p4, p5⟩ := h1.b1.cell
  obtain ⟨q0, q1, q2, q3, q4, q5⟩ := h1.b2.cell
  go_wp2_with fail
  refine (HM2.out _ h1).mono ?_
  rintro e w2 ⟨rfl, h2⟩
  have H2 := Lib.hid h2.drew
  clear h1 h2 p0 p1 p2 p3 p4 p5 q0 q1 q2 q3 q4 q5
  go_wp2_with fail
  have hS0 := H2.out
  rename_i Q' K1 hK1
  refine wp_region_noPanic ?_
  refine wpIn_wide (n := 5).1 ?_
  refine wpIn_region_text (Seen2 w #[a0, a1, a2, a3, a4, a5] #[b0, b1, b2, b3, b4, b5]) [0, 1, 3, 4, 2, 5, 6, 7, 8, 9, 10, 11, 12, 13, 14, 15, 16, 17, 18, 19, 20, 21, 22, 23, 24] rfl (by kernel_rfl) (by kernel_rfl) (by kernel_rfl) (by kernel_rfl) (fun _ _ _ _ _ h => h) hS0 ?_
  refine textS_take (o := _) (.agg #[a0, a1, a2, a3, a4, a5]) (by conv => lhs; simp only [List.getElem?_toArray, List.getElem?_cons_succ, List.getElem?_cons_zero]) (by rfl) (by rfl) ?_ (fun _ => by rfl) (by conv => lhs; simp only [Act.put, List.setIfInBounds_toArray, List.set_cons_succ, List.set_cons_zero]) ?_
  · rintro w1 t0; obtain ⟨c0, c1, c2, c3, c4, c5⟩ := t0.b1.cell; clear t0; go_simp
  refine textS_take (o := _) (.agg #[b0, b1, b2, b3, b4, b5]) (by conv => lhs; simp only [List.getElem?_toArray, List.getElem?_cons_succ, List.getElem?_cons_zero]) (by rfl) (by rfl) ?_ (fun _ => by rfl) (by conv => lhs; simp only [Act.put, List.setIfInBounds_toArray, List.set_cons_succ, List.set_cons_zero]) ?_
  · rintro w1 t0; obtain ⟨c0, c1, c2, c3, c4, c5⟩ := t0.b2.cell; clear t0; go_simp
  refine textS_take (o := _) (.agg #[b0, b1, b2, b3, b4, b5]) (by conv => lhs; simp only [List.getElem?_toArray, List.getElem?_cons_succ, List.getElem?_cons_zero]) (by rfl) (by rfl) ?_ (fun _ => by rfl) (by conv => lhs; simp only [Act.put, List.setIfInBounds_toArray, List.set_cons_succ, List.set_cons_zero]) ?_
  · rintro w1 t0; obtain ⟨c0, c1, c2, c3, c4, c5⟩ := t0.b2.cell; clear t0; go_simp
  refine textS_take (o := _) (.agg #[a0, a1, a2, a3, a4, a5]) (by conv => lhs; simp only [List.getElem?_toArray, List.getElem?_cons_succ, List.getElem?_cons_zero]) (by rfl) (by rfl) ?_ (fun _ => by rfl) (by conv => lhs; simp only [Act.put, List.setIfInBounds_toArray, List.set_cons_succ, List.set_cons_zero]) ?_
  · rintro w1 t0; obtain ⟨c0, c1, c2, c3, c4, c5⟩ := t0.b1.cell; clear t0; go_simp
  refine textS_call (o := _) (by conv => lhs; simp only [List.getElem?_toArray, List.getElem?_cons_succ, List.getElem?_cons_zero]) (by rfl) (by rfl) ?_
  refine wpIn_call rfl ?_ (HE12.out _ hS0) ?_
  · go_simp
  rintro e whS0_1 ⟨rfl, hS0_1⟩
  refine ⟨_, _, rfl, (by conv => lhs; simp only [Act.put, List.setIfInBounds_toArray, List.set_cons_succ, List.set_cons_zero]), hS0_1, ?_⟩
  refine textS_call (o := _) (by conv => lhs; simp only [List.getElem?_toArray, List.getElem?_cons_succ, List.getElem?_cons_zero]) (by rfl) (by rfl) ?_
  refine wpIn_call rfl ?_ (HE21.out _ hS0_1) ?_
  · go_simp
  rintro e whS0_2 ⟨rfl, hS0_2⟩
  refine ⟨_, _, rfl, (by conv => lhs; simp only [Act.put, List.setIfInBounds_toArray, List.set_cons_succ, List.set_cons_zero]), hS0_2, ?_⟩
  refine textS_take (o := _) (.bool false) (by conv => lhs; simp only [List.getElem?_toArray, List.getElem?_cons_succ, List.getElem?_cons_zero]) (by rfl) (by rfl) ?_ (fun _ => by rfl) (by conv => lhs; simp only [Act.put, List.setIfInBounds_toArray, List.set_cons_succ, List.set_cons_zero]) ?_
  · intro w _; go_simp
  refine textS_take (o := _) (.bool false) (by conv => lhs; simp only [List.getElem?_toArray, List.getElem?_cons_succ, List.getElem?_cons_zero]) (by rfl) (by rfl) ?_ (fun _ => by rfl) (by conv => lhs; simp only [Act.put, List.setIfInBounds_toArray, List.set_cons_succ, List.set_cons_zero]) ?_
  · intro w _; go_simp
  refine textS_take (o := _) (.agg #[a0, a1, a2, a3, a4, a5]) (by conv => lhs; simp only [List.getElem?_toArray, List.getElem?_cons_succ, List.getElem?_cons_zero]) (by rfl) (by rfl) ?_ (fun _ => by rfl) (by conv => lhs; simp only [Act.put, List.setIfInBounds_toArray, List.set_cons_succ, List.set_cons_zero]) ?_
  · rintro w1 t0; obtain ⟨c0, c1, c2, c3, c4, c5⟩ := t0.b1.cell; clear t0; go_simp
  refine textS_take (o := _) (.agg #[a0, a1, a2, a3, a4, a5]) (by conv => lhs; simp only [List.getElem?_toArray, List.getElem?_cons_succ, List.getElem?_cons_zero]) (by rfl) (by rfl) ?_ (fun _ => by rfl) (by conv => lhs; simp only [Act.put, List.setIfInBounds_toArray, List.set_cons_succ, List.set_cons_zero]) ?_
  · rintro w1 t0; obtain ⟨c0, c1, c2, c3, c4, c5⟩ := t0.b1.cell; clear t0; go_simp
  refine textS_call (o := _) (by conv => lhs; simp only [List.getElem?_toArray, List.getElem?_cons_succ, List.getElem?_cons_zero]) (by rfl) (by rfl) ?_
  refine wpIn_call rfl ?_ (HE11.out _ hS0_2) ?_
  · go_simp
  rintro e whS0_3 ⟨rfl, hS0_3⟩
  refine ⟨_, _, rfl, (by conv => lhs; simp only [Act.put, List.setIfInBounds_toArray, List.set_cons_succ, List.set_cons_zero]), hS0_3, ?_⟩
  refine textS_take (o := _) (.bool false) (by conv => lhs; simp only [List.getElem?_toArray, List.getElem?_cons_succ, List.getElem?_cons_zero]) (by rfl) (by rfl) ?_ (fun _ => by rfl) (by conv => lhs; simp only [Act.put, List.setIfInBounds_toArray, List.set_cons_succ, List.set_cons_zero]) ?_
  · intro w _; go_simp
  refine textS_take (o := _) (.bool false) (by conv => lhs; simp only [List.getElem?_toArray, List.getElem?_cons_succ, List.getElem?_cons_zero]) (by rfl) (by rfl) ?_ (fun _ => by rfl) (by conv => lhs; simp only [Act.put, List.setIfInBounds_toArray, List.set_cons_succ, List.set_cons_zero]) ?_
  · intro w _; go_simp
  refine textS_take (o := _) (.bool false) (by conv => lhs; simp only [List.getElem?_toArray, List.getElem?_cons_succ, List.getElem?_cons_zero]) (by rfl) (by rfl) ?_ (fun _ => by rfl) (by conv => lhs; simp only [Act.put, List.setIfInBounds_toArray, List.set_cons_succ, List.set_cons_zero]) ?_
  · intro w _; go_simp
  refine textS_take (o := _) (.agg #[a0, a1, a2, a3, a4, a5]) (by conv => lhs; simp only [List.getElem?_toArray, List.getElem?_cons_succ, List.getElem?_cons_zero]) (by rfl) (by rfl) ?_ (fun _ => by rfl) (by conv => lhs; simp only [Act.put, List.setIfInBounds_toArray, List.set_cons_succ, List.set_cons_zero]) ?_
  · rintro w1 t0; obtain ⟨c0, c1, c2, c3, c4, c5⟩ := t0.b1.cell; clear t0; go_simp
  refine textS_take (o := _) (.agg #[b0, b1, b2, b3, b4, b5]) (by conv => lhs; simp only [List.getElem?_toArray, List.getElem?_cons_succ, List.getElem?_cons_zero]) (by rfl) (by rfl) ?_ (fun _ => by rfl) (by conv => lhs; simp only [Act.put, List.setIfInBounds_toArray, List.set_cons_succ, List.set_cons_zero]) ?_
  · rintro w1 t0; obtain ⟨c0, c1, c2, c3, c4, c5⟩ := t0.b2.cell; clear t0; go_simp
  refine textS_call (o := _) (by conv => lhs; simp only [List.getElem?_toArray, List.getElem?_cons_succ, List.getElem?_cons_zero]) (by rfl) (by rfl) ?_
  refine wpIn_call rfl ?_ (HE12.out _ hS0_3) ?_
  · go_simp
  rintro e whS0_4 ⟨rfl, hS0_4⟩
  refine ⟨_, _, rfl, (by conv => lhs; simp only [Act.put, List.setIfInBounds_toArray, List.set_cons_succ, List.set_cons_zero]), hS0_4, ?_⟩
  refine textS_take (o := _) (.bool false) (by conv => lhs; simp only [List.getElem?_toArray, List.getElem?_cons_succ, List.getElem?_cons_zero]) (by rfl) (by rfl) ?_ (fun _ => by rfl) (by conv => lhs; simp only [Act.put, List.setIfInBounds_toArray, List.set_cons_succ, List.set_cons_zero]) ?_
  · intro w _; go_simp
  refine textS_take (o := _) (.bool false) (by conv => lhs; simp only [List.getElem?_toArray, List.getElem?_cons_succ, List.getElem?_cons_zero]) (by rfl) (by rfl) ?_ (fun _ => by rfl) (by conv => lhs; simp only [Act.put, List.setIfInBounds_toArray, List.set_cons_succ, List.set_cons_zero]) ?_
  · intro w _; go_simp
  refine textS_skip (o := _) (by conv => lhs; simp only [List.getElem?_toArray, List.getElem?_cons_succ, List.getElem?_cons_zero]) (by rfl) (by rfl) (fun _ => by rfl) (by conv => lhs; simp only [Act.put, List.setIfInBounds_toArray, List.set_cons_succ, List.set_cons_zero]) ?_
  refine textS_skip (o := _) (by conv => lhs; simp only [List.getElem?_toArray, List.getElem?_cons_succ, List.getElem?_cons_zero]) (by rfl) (by rfl) (fun _ => by rfl) (by conv => lhs; simp only [Act.put, List.setIfInBounds_toArray, List.set_cons_succ, List.set_cons_zero]) ?_
  refine textS_callSkip (o := _) (by conv => lhs; simp only [List.getElem?_toArray, List.getElem?_cons_succ, List.getElem?_cons_zero]) (by rfl) (by rfl) (fun _ => trivial) hS0_4 (by conv => lhs; simp only [Act.put, List.setIfInBounds_toArray, List.set_cons_succ, List.set_cons_zero]) ?_
  refine textS_skip (o := _) (by conv => lhs; simp only [List.getElem?_toArray, List.getElem?_cons_succ, List.getElem?_cons_zero]) (by rfl) (by rfl) (fun _ => by rfl) (by conv => lhs; simp only [Act.put, List.setIfInBounds_toArray, List.set_cons_succ, List.set_cons_zero]) ?_
  refine textS_take (o := _) (.bool false) (by conv => lhs; simp only [List.getElem?_toArray, List.getElem?_cons_succ, List.getElem?_cons_zero]) (by rfl) (by rfl) ?_ (fun _ => by rfl) (by conv => lhs; simp only [Act.put, List.setIfInBounds_toArray, List.set_cons_succ, List.set_cons_zero]) ?_
  · intro w _; go_simp
  refine textS_take (o := _) (.bool false) (by conv => lhs; simp only [List.getElem?_toArray, List.getElem?_cons_succ, List.getElem?_cons_zero]) (by rfl) (by rfl) ?_ (fun _ => by rfl) (by conv => lhs; simp only [Act.put, List.setIfInBounds_toArray, List.set_cons_succ, List.set_cons_zero]) ?_
  · intro w _; go_simp
  refine NoPanic.normal ?_
  refine hK1 _ _ ?_
  clear hK1
  have H3 := Lib.hid hS0_4.drew
  clear hS0 hS0_1 hS0_2 hS0_3 hS0_4
  go_wp2_with fail
  have hT0 := H3.out
  rename_i Q' K2 hK2
  refine wp_region_noPanic ?_
  refine wpIn_wide (n := 5).1 ?_
  refine wpIn_region_text (Seen2 w #[a0, a1, a2, a3, a4, a5] #[b0, b1, b2, b3, b4, b5]) [0, 1, 3, 4, 2, 5, 6, 7] rfl (by kernel_rfl) (by kernel_rfl) (by kernel_rfl) (by kernel_rfl) (fun _ _ _ _ _ h => h) hT0 ?_
  refine textS_take (o := _) (.agg #[a0, a1, a2, a3, a4, a5]) (by conv => lhs; simp only [List.getElem?_toArray, List.getElem?_cons_succ, List.getElem?_cons_zero]) (by rfl) (by rfl) ?_ (fun _ => by rfl) (by conv => lhs; simp only [Act.put, List.setIfInBounds_toArray, List.set_cons_succ, List.set_cons_zero]) ?_
  · rintro w1 t0; obtain ⟨c0, c1, c2, c3, c4, c5⟩ := t0.b1.cell; clear t0; go_simp
  refine textS_take (o := _) (.agg #[b0, b1, b2, b3, b4, b5]) (by conv => lhs; simp only [List.getElem?_toArray, List.getElem?_cons_succ, List.getElem?_cons_zero]) (by rfl) (by rfl) ?_ (fun _ => by rfl) (by conv => lhs; simp only [Act.put, List.setIfInBounds_toArray, List.set_cons_succ, List.set_cons_zero]) ?_
  · rintro w1 t0; obtain ⟨c0, c1, c2, c3, c4, c5⟩ := t0.b2.cell; clear t0; go_simp
  refine textS_take (o := _) (.agg #[b0, b1, b2, b3, b4, b5]) (by conv => lhs; simp only [List.getElem?_toArray, List.getElem?_cons_succ, List.getElem?_cons_zero]) (by rfl) (by rfl) ?_ (fun _ => by rfl) (by conv => lhs; simp only [Act.put, List.setIfInBounds_toArray, List.set_cons_succ, List.set_cons_zero]) ?_
  · rintro w1 t0; obtain ⟨c0, c1, c2, c3, c4, c5⟩ := t0.b2.cell; clear t0; go_simp
  refine textS_take (o := _) (.agg #[a0, a1, a2, a3, a4, a5]) (by conv => lhs; simp only [List.getElem?_toArray, List.getElem?_cons_succ, List.getElem?_cons_zero]) (by rfl) (by rfl) ?_ (fun _ => by rfl) (by conv => lhs; simp only [Act.put, List.setIfInBounds_toArray, List.set_cons_succ, List.set_cons_zero]) ?_
  · rintro w1 t0; obtain ⟨c0, c1, c2, c3, c4, c5⟩ := t0.b1.cell; clear t0; go_simp
  refine textS_call (o := _) (by conv => lhs; simp only [List.getElem?_toArray, List.getElem?_cons_succ, List.getElem?_cons_zero]) (by rfl) (by rfl) ?_
  refine wpIn_call rfl ?_ (HL12.out _ hT0) ?_
  · go_simp
  rintro e whT0_1 ⟨rfl, hT0_1⟩
  refine ⟨_, _, rfl, (by conv => lhs; simp only [Act.put, List.setIfInBounds_toArray, List.set_cons_succ, List.set_cons_zero]), hT0_1, ?_⟩
  refine textS_call (o := _) (by conv => lhs; simp only [List.getElem?_toArray, List.getElem?_cons_succ, List.getElem?_cons_zero]) (by rfl) (by rfl) ?_
  refine wpIn_call rfl ?_ (HL21.out _ hT0_1) ?_
  · go_simp
  rintro e whT0_2 ⟨rfl, hT0_2⟩
  refine ⟨_, _, rfl, (by conv => lhs; simp only [Act.put, List.setIfInBounds_toArray, List.set_cons_succ, List.set_cons_zero]), hT0_2, ?_⟩
  refine textS_take (o := _) (.int .i64 1) (by conv => lhs; simp only [List.getElem?_toArray, List.getElem?_cons_succ, List.getElem?_cons_zero]) (by rfl) (by rfl) ?_ (fun _ => by rfl) (by conv => lhs; simp only [Act.put, List.setIfInBounds_toArray, List.set_cons_succ, List.set_cons_zero]) ?_
  · intro w _; go_simp
  refine textS_take (o := _) (.int .i64 0) (by conv => lhs; simp only [List.getElem?_toArray, List.getElem?_cons_succ, List.getElem?_cons_zero]) (by rfl) (by rfl) ?_ (fun _ => by rfl) (by conv => lhs; simp only [Act.put, List.setIfInBounds_toArray, List.set_cons_succ, List.set_cons_zero]) ?_
  · intro w _; go_simp
  refine NoPanic.normal ?_
  refine hK2 _ _ ?_
  clear hK2
  have H4 := Lib.hid hT0_2
  clear hT0 hT0_1 hT0_2
  obtain ⟨p0, p1, p2, p3, p4, p5⟩ := H4.out.b1.cell
  obtain ⟨q0, q1, q2, q3, q4, q5⟩ := H4.out.b2.cell
  go_wp2_with fail
  refine (is_any 1 _).mono ?_
  rintro e w5 ⟨rfl, rfl⟩
  go_wp2_with fail
  refine (is_any 0 _).mono ?_
  rintro e w5 ⟨rfl, rfl⟩
  go_wp2_with fail
  refine (HE12.out _ H4.out).mono ?_
  rintro e w6 ⟨rfl, h6⟩
  go_wp2_with fail
  refine (is_any 0 _).mono ?_
  rintro e w7 ⟨rfl, rfl⟩
  have H6 := Lib.hid h6.drew
  clear h6 p0 p1 p2 p3 p4 p5 q0 q1 q2 q3 q4 q5
  go_wp2_with fail
  have hU0 := H6.out
  have hIs : On2 w #[a0, a1, a2, a3, a4, a5] #[b0, b1, b2, b3, b4, b5] 26 #[.int .i64 1] (.bool true) := fun V hV => (is_any 1 V).mono fun e w' h => ⟨h.1, h.2 ▸ hV⟩
  refine wp_region_noPanic ?_
  refine wpIn_wide (n := 5).1 ?_
  refine wpIn_region_text (Seen2 w #[a0, a1, a2, a3, a4, a5] #[b0, b1, b2, b3, b4, b5]) [0, 1, 2, 3, 5, 6, 4, 7, 8, 9, 10, 11, 12, 13, 14] rfl (by kernel_rfl) (by kernel_rfl) (by kernel_rfl) (by kernel_rfl) (fun _ _ _ _ _ h => h) hU0 ?_
  refine textS_take (o := _) (.int .i64 1) (by conv => lhs; simp only [List.getElem?_toArray, List.getElem?_cons_succ, List.getElem?_cons_zero]) (by rfl) (by rfl) ?_ (fun _ => by rfl) (by conv => lhs; simp only [Act.put, List.setIfInBounds_toArray, List.set_cons_succ, List.set_cons_zero]) ?_
  · intro w _; go_simp
  refine textS_take (o := _) (.bool true) (by conv => lhs; simp only [List.getElem?_toArray, List.getElem?_cons_succ, List.getElem?_cons_zero]) (by rfl) (by rfl) ?_ (fun _ => by rfl) (by conv => lhs; simp only [Act.put, List.setIfInBounds_toArray, List.set_cons_succ, List.set_cons_zero]) ?_
  · intro w _; go_simp
  refine textS_take (o := _) (.bool true) (by conv => lhs; simp only [List.getElem?_toArray, List.getElem?_cons_succ, List.getElem?_cons_zero]) (by rfl) (by rfl) ?_ (fun _ => by rfl) (by conv => lhs; simp only [Act.put, List.setIfInBounds_toArray, List.set_cons_succ, List.set_cons_zero]) ?_
  · intro w _; go_simp
  refine textS_take (o := _) (.int .i64 1) (by conv => lhs; simp only [List.getElem?_toArray, List.getElem?_cons_succ, List.getElem?_cons_zero]) (by rfl) (by rfl) ?_ (fun _ => by rfl) (by conv => lhs; simp only [Act.put, List.setIfInBounds_toArray, List.set_cons_succ, List.set_cons_zero]) ?_
  · intro w _; go_simp
  refine textS_take (o := _) (.agg #[a0, a1, a2, a3, a4, a5]) (by conv => lhs; simp only [List.getElem?_toArray, List.getElem?_cons_succ, List.getElem?_cons_zero]) (by rfl) (by rfl) ?_ (fun _ => by rfl) (by conv => lhs; simp only [Act.put, List.setIfInBounds_toArray, List.set_cons_succ, List.set_cons_zero]) ?_
  · rintro w1 t0; obtain ⟨c0, c1, c2, c3, c4, c5⟩ := t0.b1.cell; clear t0; go_simp
  refine textS_take (o := _) (.agg #[b0, b1, b2, b3, b4, b5]) (by conv => lhs; simp only [List.getElem?_toArray, List.getElem?_cons_succ, List.getElem?_cons_zero]) (by rfl) (by rfl) ?_ (fun _ => by rfl) (by conv => lhs; simp only [Act.put, List.setIfInBounds_toArray, List.set_cons_succ, List.set_cons_zero]) ?_
  · rintro w1 t0; obtain ⟨c0, c1, c2, c3, c4, c5⟩ := t0.b2.cell; clear t0; go_simp
  refine textS_call (o := _) (by conv => lhs; simp only [List.getElem?_toArray, List.getElem?_cons_succ, List.getElem?_cons_zero]) (by rfl) (by rfl) ?_
  refine wpIn_call rfl ?_ (hIs _ hU0) ?_
  · go_simp
  rintro e whU0_1 ⟨rfl, hU0_1⟩
  refine ⟨_, _, rfl, (by conv => lhs; simp only [Act.put, List.setIfInBounds_toArray, List.set_cons_succ, List.set_cons_zero]), hU0_1, ?_⟩
  refine textS_call (o := _) (by conv => lhs; simp only [List.getElem?_toArray, List.getElem?_cons_succ, List.getElem?_cons_zero]) (by rfl) (by rfl) ?_
  refine wpIn_call rfl ?_ (HO.out _ hU0_1) ?_
  · go_simp
  rintro e whU0_2 ⟨rfl, hU0_2⟩
  refine ⟨_, _, rfl, (by conv => lhs; simp only [Act.put, List.setIfInBounds_toArray, List.set_cons_succ, List.set_cons_zero]), hU0_2, ?_⟩
  refine textS_take (o := _) (.bool true) (by conv => lhs; simp only [List.getElem?_toArray, List.getElem?_cons_succ, List.getElem?_cons_zero]) (by rfl) (by rfl) ?_ (fun _ => by rfl) (by conv => lhs; simp only [Act.put, List.setIfInBounds_toArray, List.set_cons_succ, List.set_cons_zero]) ?_
  · intro w _; go_simp
  refine textS_take (o := _) (.bool true) (by conv => lhs; simp only [List.getElem?_toArray, List.getElem?_cons_succ, List.getElem?_cons_zero]) (by rfl) (by rfl) ?_ (fun _ => by rfl) (by conv => lhs; simp only [Act.put, List.setIfInBounds_toArray, List.set_cons_succ, List.set_cons_zero]) ?_
  · intro w _; go_simp
  refine textS_take (o := _) (.bool true) (by conv => lhs; simp only [List.getElem?_toArray, List.getElem?_cons_succ, List.getElem?_cons_zero]) (by rfl) (by rfl) ?_ (fun _ => by rfl) (by conv => lhs; simp only [Act.put, List.setIfInBounds_toArray, List.set_cons_succ, List.set_cons_zero]) ?_
  · intro w _; go_simp
  refine textS_take (o := _) (.bool true) (by conv => lhs; simp only [List.getElem?_toArray, List.getElem?_cons_succ, List.getElem?_cons_zero]) (by rfl) (by rfl) ?_ (fun _ => by rfl) (by conv => lhs; simp only [Act.put, List.setIfInBounds_toArray, List.set_cons_succ, List.set_cons_zero]) ?_
  · intro w _; go_simp
  refine textS_call (o := _) (by conv => lhs; simp only [List.getElem?_toArray, List.getElem?_cons_succ, List.getElem?_cons_zero]) (by rfl) (by rfl) ?_
  refine wpIn_call rfl ?_ (HW.out _ hU0_2) ?_
  · go_simp
  rintro e whU0_3 ⟨rfl, hU0_3⟩
  refine ⟨_, _, rfl, (by conv => lhs; simp only [Act.put, List.setIfInBounds_toArray, List.set_cons_succ, List.set_cons_zero]), hU0_3, ?_⟩
  refine textS_take (o := _) (.bool true) (by conv => lhs; simp only [List.getElem?_toArray, List.getElem?_cons_succ, List.getElem?_cons_zero]) (by rfl) (by rfl) ?_ (fun _ => by rfl) (by conv => lhs; simp only [Act.put, List.setIfInBounds_toArray, List.set_cons_succ, List.set_cons_zero]) ?_
  · intro w _; go_simp
  refine textS_take (o := _) (.bool true) (by conv => lhs; simp only [List.getElem?_toArray, List.getElem?_cons_succ, List.getElem?_cons_zero]) (by rfl) (by rfl) ?_ (fun _ => by rfl) (by conv => lhs; simp only [Act.put, List.setIfInBounds_toArray, List.set_cons_succ, List.set_cons_zero]) ?_
  · intro w _; go_simp
  refine NoPanic.normal ?_
  have HE := Lib.hid hU0_3.low
  go_wp2_with fail
  go_ret
  exact ⟨rfl, HE.out⟩
set_option maxRecDepth 100000 in
set_option maxHeartbeats 4000000 in
theorem veq_gt (a0 a1 a2 a3 a4 a5 b0 b1 b2 b3 b4 b5 : Value) (r : Int) (hr : (r == 0) = false) (f : Int) (hf : decide (f < 0) = false) (w : World)
    (HM1 : Hid (On2 w #[a0, a1, a2, a3, a4, a5] #[b0, b1, b2, b3, b4, b5] 10 #[.agg #[a0, a1, a2, a3, a4, a5]] (.bool true)))
    (HM2 : Hid (On2 w #[a0, a1, a2, a3, a4, a5] #[b0, b1, b2, b3, b4, b5] 10 #[.agg #[b0, b1, b2, b3, b4, b5]] (.bool true)))
    (HE12 : Hid (On2 w #[a0, a1, a2, a3, a4, a5] #[b0, b1, b2, b3, b4, b5] 24 #[.agg #[a0, a1, a2, a3, a4, a5], .agg #[b0, b1, b2, b3, b4, b5]] (.int .i64 0)))
    (HE21 : Hid (On2 w #[a0, a1, a2, a3, a4, a5] #[b0, b1, b2, b3, b4, b5] 24 #[.agg #[b0, b1, b2, b3, b4, b5], .agg #[a0, a1, a2, a3, a4, a5]] (.int .i64 0)))
    (HE11 : Hid (On2 w #[a0, a1, a2, a3, a4, a5] #[b0, b1, b2, b3, b4, b5] 24 #[.agg #[a0, a1, a2, a3, a4, a5], .agg #[a0, a1, a2, a3, a4, a5]] (.int .i64 r)))
    (HL12 : Hid (On2 w #[a0, a1, a2, a3, a4, a5] #[b0, b1, b2, b3, b4, b5] 25 #[.agg #[a0, a1, a2, a3, a4, a5], .agg #[b0, b1, b2, b3, b4, b5]] (.int .i64 0)))
    (HL21 : Hid (On2 w #[a0, a1, a2, a3, a4, a5] #[b0, b1, b2, b3, b4, b5] 25 #[.agg #[b0, b1, b2, b3, b4, b5], .agg #[a0, a1, a2, a3, a4, a5]] (.int .i64 1)))
    (HW : Hid (On2 w #[a0, a1, a2, a3, a4, a5] #[b0, b1, b2, b3, b4, b5] 15 #[] (.bool true)))
    (HO : Hid (On2 w #[a0, a1, a2, a3, a4, a5] #[b0, b1, b2, b3, b4, b5] 23 #[.agg #[a0, a1, a2, a3, a4, a5], .agg #[b0, b1, b2, b3, b4, b5]] (.int .i64 f))) :
    Calls Tryd.prog 6 #[.agg #[a0, a1, a2, a3, a4, a5], .agg #[b0, b1, b2, b3, b4, b5]] w fun e w' => e = .returned (.bool true) ∧ Below w.heap.size w w' := by
  have h0 := Seen2.new w #[a0, a1, a2, a3, a4, a5] #[b0, b1, b2, b3, b4, b5]
  obtain ⟨p0, p1, p2, p3, p4, p5⟩ := h0.b1.cell
  obtain ⟨q0, q1, q2, q3, q4, q5⟩ := h0.b2.cell
  have H0 := Lib.hid h0
  clear h0
  go_enter Tryd.func6, Tryd.ntmps6
  go_wp2_with fail
  refine (HM1.out _ H0.out).mono ?_
  rintro e w1 ⟨rfl, h1⟩
  clear p0 p1 p2 p3 p4 p5 q0 q1 q2 q3 q4 q5
  obtain ⟨p0, p1, p2, p3, p4, p5⟩ := h1.b1.cell
  obtain ⟨q0, q1, q2, q3, q4, q5⟩ := h1.b2.cell
  go_wp2_with fail
  refine (HM2.out _ h1).mono ?_
  rintro e w2 ⟨rfl, h2⟩
  have H2 := Lib.hid h2.drew
  clear h1 h2 p0 p1 p2 p3 p4 p5 q0 q1 q2 q3 q4 q5
  go_wp2_with fail
  have hS0 := H2.out
  rename_i Q' K1 hK1
  refine wp_region_noPanic ?_
  refine wpIn_wide (n := 5).1 ?_
  refine wpIn_region_text (Seen2 w #[a0, a1, a2, a3, a4, a5] #[b0, b1, b2, b3, b4, b5]) [0, 1, 3, 4, 2, 5, 6, 7, 8, 9, 10, 11, 12, 13, 14, 15, 16, 17, 18, 19, 20, 21, 22, 23, 24] rfl (by kernel_rfl) (by kernel_rfl) (by kernel_rfl) (by kernel_rfl) (fun _ _ _ _ _ h => h) hS0 ?_
  refine textS_take (o := _) (.agg #[a0, a1, a2, a3, a4, a5]) (by conv => lhs; simp only [List.getElem?_toArray, List.getElem?_cons_succ, List.getElem?_cons_zero]) (by rfl) (by rfl) ?_ (fun _ => by rfl) (by conv => lhs; simp only [Act.put, List.setIfInBounds_toArray, List.set_cons_succ, List.set_cons_zero]) ?_
  · rintro w1 t0; obtain ⟨c0, c1, c2, c3, c4, c5⟩ := t0.b1.cell; clear t0; go_simp
  refine textS_take (o := _) (.agg #[b0, b1, b2, b3, b4, b5]) (by conv => lhs; simp only [List.getElem?_toArray, List.getElem?_cons_succ, List.getElem?_cons_zero]) (by rfl) (by rfl) ?_ (fun _ => by rfl) (by conv => lhs; simp only [Act.put, List.setIfInBounds_toArray, List.set_cons_succ, List.set_cons_zero]) ?_
  · rintro w1 t0; obtain ⟨c0, c1, c2, c3, c4, c5⟩ := t0.b2.cell; clear t0; go_simp
  refine textS_take (o := _) (.agg #[b0, b1, b2, b3, b4, b5]) (by conv => lhs; simp only [List.getElem?_toArray, List.getElem?_cons_succ, List.getElem?_cons_zero]) (by rfl) (by rfl) ?_ (fun _ => by rfl) (by conv => lhs; simp only [Act.put, List.setIfInBounds_toArray, List.set_cons_succ, List.set_cons_zero]) ?_
  · rintro w1 t0; obtain ⟨c0, c1, c2, c3, c4, c5⟩ := t0.b2.cell; clear t0; go_simp
  refine textS_take (o := _) (.agg #[a0, a1, a2, a3, a4, a5]) (by conv => lhs; simp only [List.getElem?_toArray, List.getElem?_cons_succ, List.getElem?_cons_zero]) (by rfl) (by rfl) ?_ (fun _ => by rfl) (by conv => lhs; simp only [Act.put, List.setIfInBounds_toArray, List.set_cons_succ, List.set_cons_zero]) ?_
  · rintro w1 t0; obtain ⟨c0, c1, c2, c3, c4, c5⟩ := t0.b1.cell; clear t0; go_simp
  refine textS_call (o := _) (by conv => lhs; simp only [List.getElem?_toArray, List.getElem?_cons_succ, List.getElem?_cons_zero]) (by rfl) (by rfl) ?_
  refine wpIn_call rfl ?_ (HE12.out _ hS0) ?_
  · go_simp
  rintro e whS0_1 ⟨rfl, hS0_1⟩
  refine ⟨_, _, rfl, (by conv => lhs; simp only [Act.put, List.setIfInBounds_toArray, List.set_cons_succ, List.set_cons_zero]), hS0_1, ?_⟩
  refine textS_call (o := _) (by conv => lhs; simp only [List.getElem?_toArray, List.getElem?_cons_succ, List.getElem?_cons_zero]) (by rfl) (by rfl) ?_
  refine wpIn_call rfl ?_ (HE21.out _ hS0_1) ?_
  · go_simp
  rintro e whS0_2 ⟨rfl, hS0_2⟩
  refine ⟨_, _, rfl, (by conv => lhs; simp only [Act.put, List.setIfInBounds_toArray, List.set_cons_succ, List.set_cons_zero]), hS0_2, ?_⟩
  refine textS_take (o := _) (.bool false) (by conv => lhs; simp only [List.getElem?_toArray, List.getElem?_cons_succ, List.getElem?_cons_zero]) (by rfl) (by rfl) ?_ (fun _ => by rfl) (by conv => lhs; simp only [Act.put, List.setIfInBounds_toArray, List.set_cons_succ, List.set_cons_zero]) ?_
  · intro w _; go_simp
  refine textS_take (o := _) (.bool false) (by conv => lhs; simp only [List.getElem?_toArray, List.getElem?_cons_succ, List.getElem?_cons_zero]) (by rfl) (by rfl) ?_ (fun _ => by rfl) (by conv => lhs; simp only [Act.put, List.setIfInBounds_toArray, List.set_cons_succ, List.set_cons_zero]) ?_
  · intro w _; go_simp
  refine textS_take (o := _) (.agg #[a0, a1, a2, a3, a4, a5]) (by conv => lhs; simp only [List.getElem?_toArray, List.getElem?_cons_succ, List.getElem?_cons_zero]) (by rfl) (by rfl) ?_ (fun _ => by rfl) (by conv => lhs; simp only [Act.put, List.setIfInBounds_toArray, List.set_cons_succ, List.set_cons_zero]) ?_
  · rintro w1 t0; obtain ⟨c0, c1, c2, c3, c4, c5⟩ := t0.b1.cell; clear t0; go_simp
  refine textS_take (o := _) (.agg #[a0, a1, a2, a3, a4, a5]) (by conv => lhs; simp only [List.getElem?_toArray, List.getElem?_cons_succ, List.getElem?_cons_zero]) (by rfl) (by rfl) ?_ (fun _ => by rfl) (by conv => lhs; simp only [Act.put, List.setIfInBounds_toArray, List.set_cons_succ, List.set_cons_zero]) ?_
  · rintro w1 t0; obtain ⟨c0, c1, c2, c3, c4, c5⟩ := t0.b1.cell; clear t0; go_simp
  refine textS_call (o := _) (by conv => lhs; simp only [List.getElem?_toArray, List.getElem?_cons_succ, List.getElem?_cons_zero]) (by rfl) (by rfl) ?_
  refine wpIn_call rfl ?_ (HE11.out _ hS0_2) ?_
  · go_simp
  rintro e whS0_3 ⟨rfl, hS0_3⟩
  refine ⟨_, _, rfl, (by conv => lhs; simp only [Act.put, List.setIfInBounds_toArray, List.set_cons_succ, List.set_cons_zero]), hS0_3, ?_⟩
  refine textS_take (o := _) (.bool false) (by conv => lhs; simp only [List.getElem?_toArray, List.getElem?_cons_succ, List.getElem?_cons_zero]) (by rfl) (by rfl) ?_ (fun _ => by rfl) (by conv => lhs; simp only [Act.put, List.setIfInBounds_toArray, List.set_cons_succ, List.set_cons_zero]) ?_
  · intro w _; go_simp
  refine textS_take (o := _) (.bool false) (by conv => lhs; simp only [List.getElem?_toArray, List.getElem?_cons_succ, List.getElem?_cons_zero]) (by rfl) (by rfl) ?_ (fun _ => by rfl) (by conv => lhs; simp only [Act.put, List.setIfInBounds_toArray, List.set_cons_succ, List.set_cons_zero]) ?_
  · intro w _; go_simp
  refine textS_take (o := _) (.bool false) (by conv => lhs; simp only [List.getElem?_toArray, List.getElem?_cons_succ, List.getElem?_cons_zero]) (by rfl) (by rfl) ?_ (fun _ => by rfl) (by conv => lhs; simp only [Act.put, List.setIfInBounds_toArray, List.set_cons_succ, List.set_cons_zero]) ?_
  · intro w _; go_simp
  refine textS_take (o := _) (.agg #[a0, a1, a2, a3, a4, a5]) (by conv => lhs; simp only [List.getElem?_toArray, List.getElem?_cons_succ, List.getElem?_cons_zero]) (by rfl) (by rfl) ?_ (fun _ => by rfl) (by conv => lhs; simp only [Act.put, List.setIfInBounds_toArray, List.set_cons_succ, List.set_cons_zero]) ?_
  · rintro w1 t0; obtain ⟨c0, c1, c2, c3, c4, c5⟩ := t0.b1.cell; clear t0; go_simp
  refine textS_take (o := _) (.agg #[b0, b1, b2, b3, b4, b5]) (by conv => lhs; simp only [List.getElem?_toArray, List.getElem?_cons_succ, List.getElem?_cons_zero]) (by rfl) (by rfl) ?_ (fun _ => by rfl) (by conv => lhs; simp only [Act.put, List.setIfInBounds_toArray, List.set_cons_succ, List.set_cons_zero]) ?_
  · rintro w1 t0; obtain ⟨c0, c1, c2, c3, c4, c5⟩ := t0.b2.cell; clear t0; go_simp
  refine textS_call (o := _) (by conv => lhs; simp only [List.getElem?_toArray, List.getElem?_cons_succ, List.getElem?_cons_zero]) (by rfl) (by rfl) ?_
  refine wpIn_call rfl ?_ (HE12.out _ hS0_3) ?_
  · go_simp
  rintro e whS0_4 ⟨rfl, hS0_4⟩
  refine ⟨_, _, rfl, (by conv => lhs; simp only [Act.put, List.setIfInBounds_toArray, List.set_cons_succ, List.set_cons_zero]), hS0_4, ?_⟩
  refine textS_take (o := _) (.bool false) (by conv => lhs; simp only [List.getElem?_toArray, List.getElem?_cons_succ, List.getElem?_cons_zero]) (by rfl) (by rfl) ?_ (fun _ => by rfl) (by conv => lhs; simp only [Act.put, List.setIfInBounds_toArray, List.set_cons_succ, List.set_cons_zero]) ?_
  · intro w _; go_simp
  refine textS_take (o := _) (.bool false) (by conv => lhs; simp only [List.getElem?_toArray, List.getElem?_cons_succ, List.getElem?_cons_zero]) (by rfl) (by rfl) ?_ (fun _ => by rfl) (by conv => lhs; simp only [Act.put, List.setIfInBounds_toArray, List.set_cons_succ, List.set_cons_zero]) ?_
  · intro w _; go_simp
  refine textS_skip (o := _) (by conv => lhs; simp only [List.getElem?_toArray, List.getElem?_cons_succ, List.getElem?_cons_zero]) (by rfl) (by rfl) (fun _ => by rfl) (by conv => lhs; simp only [Act.put, List.setIfInBounds_toArray, List.set_cons_succ, List.set_cons_zero]) ?_
  refine textS_skip (o := _) (by conv => lhs; simp only [List.getElem?_toArray, List.getElem?_cons_succ, List.getElem?_cons_zero]) (by rfl) (by rfl) (fun _ => by rfl) (by conv => lhs; simp only [Act.put, List.setIfInBounds_toArray, List.set_cons_succ, List.set_cons_zero]) ?_
  refine textS_callSkip (o := _) (by conv => lhs; simp only [List.getElem?_toArray, List.getElem?_cons_succ, List.getElem?_cons_zero]) (by rfl) (by rfl) (fun _ => trivial) hS0_4 (by conv => lhs; simp only [Act.put, List.setIfInBounds_toArray, List.set_cons_succ, List.set_cons_zero]) ?_
  refine textS_skip (o := _) (by conv => lhs; simp only [List.getElem?_toArray, List.getElem?_cons_succ, List.getElem?_cons_zero]) (by rfl) (by rfl) (fun _ => by rfl) (by conv => lhs; simp only [Act.put, List.setIfInBounds_toArray, List.set_cons_succ, List.set_cons_zero]) ?_
  refine textS_take (o := _) (.bool false) (by conv => lhs; simp only [List.getElem?_toArray, List.getElem?_cons_succ, List.getElem?_cons_zero]) (by rfl) (by rfl) ?_ (fun _ => by rfl) (by conv => lhs; simp only [Act.put, List.setIfInBounds_toArray, List.set_cons_succ, List.set_cons_zero]) ?_
  · intro w _; go_simp
  refine textS_take (o := _) (.bool false) (by conv => lhs; simp only [List.getElem?_toArray, List.getElem?_cons_succ, List.getElem?_cons_zero]) (by rfl) (by rfl) ?_ (fun _ => by rfl) (by conv => lhs; simp only [Act.put, List.setIfInBounds_toArray, List.set_cons_succ, List.set_cons_zero]) ?_
  · intro w _; go_simp
  refine NoPanic.normal ?_
  refine hK1 _ _ ?_
  clear hK1
  have H3 := Lib.hid hS0_4.drew
  clear hS0 hS0_1 hS0_2 hS0_3 hS0_4
  go_wp2_with fail
  have hT0 := H3.out
  rename_i Q' K2 hK2
  refine wp_region_noPanic ?_
  refine wpIn_wide (n := 5).1 ?_
  refine wpIn_region_text (Seen2 w #[a0, a1, a2, a3, a4, a5] #[b0, b1, b2, b3, b4, b5]) [0, 1, 3, 4, 2, 5, 6, 7] rfl (by kernel_rfl) (by kernel_rfl) (by kernel_rfl) (by kernel_rfl) (fun _ _ _ _ _ h => h) hT0 ?_
  refine textS_take (o := _) (.agg #[a0, a1, a2, a3, a4, a5]) (by conv => lhs; simp only [List.getElem?_toArray, List.getElem?_cons_succ, List.getElem?_cons_zero]) (by rfl) (by rfl) ?_ (fun _ => by rfl) (by conv => lhs; simp only [Act.put, List.setIfInBounds_toArray, List.set_cons_succ, List.set_cons_zero]) ?_
  · rintro w1 t0; obtain ⟨c0, c1, c2, c3, c4, c5⟩ := t0.b1.cell; clear t0; go_simp
  refine textS_take (o := _) (.agg #[b0, b1, b2, b3, b4, b5]) (by conv => lhs; simp only [List.getElem?_toArray, List.getElem?_cons_succ, List.getElem?_cons_zero]) (by rfl) (by rfl) ?_ (fun _ => by rfl) (by conv => lhs; simp only [Act.put, List.setIfInBounds_toArray, List.set_cons_succ, List.set_cons_zero]) ?_
  · rintro w1 t0; obtain ⟨c0, c1, c2, c3, c4, c5⟩ := t0.b2.cell; clear t0; go_simp
  refine textS_take (o := _) (.agg #[b0, b1, b2, b3, b4, b5]) (by conv => lhs; simp only [List.getElem?_toArray, List.getElem?_cons_succ, List.getElem?_cons_zero]) (by rfl) (by rfl) ?_ (fun _ => by rfl) (by conv => lhs; simp only [Act.put, List.setIfInBounds_toArray, List.set_cons_succ, List.set_cons_zero]) ?_
  · rintro w1 t0; obtain ⟨c0, c1, c2, c3, c4, c5⟩ := t0.b2.cell; clear t0; go_simp
  refine textS_take (o := _) (.agg #[a0, a1, a2, a3, a4, a5]) (by conv => lhs; simp only [List.getElem?_toArray, List.getElem?_cons_succ, List.getElem?_cons_zero]) (by rfl) (by rfl) ?_ (fun _ => by rfl) (by conv => lhs; simp only [Act.put, List.setIfInBounds_toArray, List.set_cons_succ, List.set_cons_zero]) ?_
  · rintro w1 t0; obtain ⟨c0, c1, c2, c3, c4, c5⟩ := t0.b1.cell; clear t0; go_simp
  refine textS_call (o := _) (by conv => lhs; simp only [List.getElem?_toArray, List.getElem?_cons_succ, List.getElem?_cons_zero]) (by rfl) (by rfl) ?_
  refine wpIn_call rfl ?_ (HL12.out _ hT0) ?_
  · go_simp
  rintro e whT0_1 ⟨rfl, hT0_1⟩
  refine ⟨_, _, rfl, (by conv => lhs; simp only [Act.put, List.setIfInBounds_toArray, List.set_cons_succ, List.set_cons_zero]), hT0_1, ?_⟩
  refine textS_call (o := _) (by conv => lhs; simp only [List.getElem?_toArray, List.getElem?_cons_succ, List.getElem?_cons_zero]) (by rfl) (by rfl) ?_
  refine wpIn_call rfl ?_ (HL21.out _ hT0_1) ?_
  · go_simp
  rintro e whT0_2 ⟨rfl, hT0_2⟩
  refine ⟨_, _, rfl, (by conv => lhs; simp only [Act.put, List.setIfInBounds_toArray, List.set_cons_succ, List.set_cons_zero]), hT0_2, ?_⟩
  refine textS_take (o := _) (.int .i64 0) (by conv => lhs; simp only [List.getElem?_toArray, List.getElem?_cons_succ, List.getElem?_cons_zero]) (by rfl) (by rfl) ?_ (fun _ => by rfl) (by conv => lhs; simp only [Act.put, List.setIfInBounds_toArray, List.set_cons_succ, List.set_cons_zero]) ?_
  · intro w _; go_simp
  refine textS_take (o := _) (.int .i64 1) (by conv => lhs; simp only [List.getElem?_toArray, List.getElem?_cons_succ, List.getElem?_cons_zero]) (by rfl) (by rfl) ?_ (fun _ => by rfl) (by conv => lhs; simp only [Act.put, List.setIfInBounds_toArray, List.set_cons_succ, List.set_cons_zero]) ?_
  · intro w _; go_simp
  refine NoPanic.normal ?_
  refine hK2 _ _ ?_
  clear hK2
  have H4 := Lib.hid hT0_2
  clear hT0 hT0_1 hT0_2
  obtain ⟨p0, p1, p2, p3, p4, p5⟩ := H4.out.b1.cell
  obtain ⟨q0, q1, q2, q3, q4, q5⟩ := H4.out.b2.cell
  go_wp2_with fail
  refine (is_any 0 _).mono ?_
  rintro e w5 ⟨rfl, rfl⟩
  go_wp2_with fail
  refine (is_any 1 _).mono ?_
  rintro e w5 ⟨rfl, rfl⟩
  go_wp2_with fail
  refine (HE12.out _ H4.out).mono ?_
  rintro e w6 ⟨rfl, h6⟩
  go_wp2_with fail
  refine (is_any 0 _).mono ?_
  rintro e w7 ⟨rfl, rfl⟩
  have H6 := Lib.hid h6.drew
  clear h6 p0 p1 p2 p3 p4 p5 q0 q1 q2 q3 q4 q5
  go_wp2_with fail
  have hU0 := H6.out
  have hIs : On2 w #[a0, a1, a2, a3, a4, a5] #[b0, b1, b2, b3, b4, b5] 26 #[.int .i64 0] (.bool false) := fun V hV => (is_any 0 V).mono fun e w' h => ⟨h.1, h.2 ▸ hV⟩
  refine wp_region_noPanic ?_
  refine wpIn_wide (n := 5).1 ?_
  refine wpIn_region_text (Seen2 w #[a0, a1, a2, a3, a4, a5] #[b0, b1, b2, b3, b4, b5]) [0, 1, 2, 3, 5, 6, 4, 7, 8, 9, 10, 11, 12, 13, 14] rfl (by kernel_rfl) (by kernel_rfl) (by kernel_rfl) (by kernel_rfl) (fun _ _ _ _ _ h => h) hU0 ?_
  refine textS_take (o := _) (.int .i64 1) (by conv => lhs; simp only [List.getElem?_toArray, List.getElem?_cons_succ, List.getElem?_cons_zero]) (by rfl) (by rfl) ?_ (fun _ => by rfl) (by conv => lhs; simp only [Act.put, List.setIfInBounds_toArray, List.set_cons_succ, List.set_cons_zero]) ?_
  · intro w _; go_simp
  refine textS_take (o := _) (.bool true) (by conv => lhs; simp only [List.getElem?_toArray, List.getElem?_cons_succ, List.getElem?_cons_zero]) (by rfl) (by rfl) ?_ (fun _ => by rfl) (by conv => lhs; simp only [Act.put, List.setIfInBounds_toArray, List.set_cons_succ, List.set_cons_zero]) ?_
  · intro w _; go_simp
  refine textS_take (o := _) (.bool true) (by conv => lhs; simp only [List.getElem?_toArray, List.getElem?_cons_succ, List.getElem?_cons_zero]) (by rfl) (by rfl) ?_ (fun _ => by rfl) (by conv => lhs; simp only [Act.put, List.setIfInBounds_toArray, List.set_cons_succ, List.set_cons_zero]) ?_
  · intro w _; go_simp
  refine textS_take (o := _) (.int .i64 0) (by conv => lhs; simp only [List.getElem?_toArray, List.getElem?_cons_succ, List.getElem?_cons_zero]) (by rfl) (by rfl) ?_ (fun _ => by rfl) (by conv => lhs; simp only [Act.put, List.setIfInBounds_toArray, List.set_cons_succ, List.set_cons_zero]) ?_
  · intro w _; go_simp
  refine textS_take (o := _) (.agg #[a0, a1, a2, a3, a4, a5]) (by conv => lhs; simp only [List.getElem?_toArray, List.getElem?_cons_succ, List.getElem?_cons_zero]) (by rfl) (by rfl) ?_ (fun _ => by rfl) (by conv => lhs; simp only [Act.put, List.setIfInBounds_toArray, List.set_cons_succ, List.set_cons_zero]) ?_
  · rintro w1 t0; obtain ⟨c0, c1, c2, c3, c4, c5⟩ := t0.b1.cell; clear t0; go_simp
  refine textS_take (o := _) (.agg #[b0, b1, b2, b3, b4, b5]) (by conv => lhs; simp only [List.getElem?_toArray, List.getElem?_cons_succ, List.getElem?_cons_zero]) (by rfl) (by rfl) ?_ (fun _ => by rfl) (by conv => lhs; simp only [Act.put, List.setIfInBounds_toArray, List.set_cons_succ, List.set_cons_zero]) ?_
  · rintro w1 t0; obtain ⟨c0, c1, c2, c3, c4, c5⟩ := t0.b2.cell; clear t0; go_simp
  refine textS_call (o := _) (by conv => lhs; simp only [List.getElem?_toArray, List.getElem?_cons_succ, List.getElem?_cons_zero]) (by rfl) (by rfl) ?_
  refine wpIn_call rfl ?_ (hIs _ hU0) ?_
  · go_simp
  rintro e whU0_1 ⟨rfl, hU0_1⟩
  refine ⟨_, _, rfl, (by conv => lhs; simp only [Act.put, List.setIfInBounds_toArray, List.set_cons_succ, List.set_cons_zero]), hU0_1, ?_⟩
  refine textS_call (o := _) (by conv => lhs; simp only [List.getElem?_toArray, List.getElem?_cons_succ, List.getElem?_cons_zero]) (by rfl) (by rfl) ?_
  refine wpIn_call rfl ?_ (HO.out _ hU0_1) ?_
  · go_simp
  rintro e whU0_2 ⟨rfl, hU0_2⟩
  refine ⟨_, _, rfl, (by conv => lhs; simp only [Act.put, List.setIfInBounds_toArray, List.set_cons_succ, List.set_cons_zero]), hU0_2, ?_⟩
  refine textS_take (o := _) (.bool false) (by conv => lhs; simp only [List.getElem?_toArray, List.getElem?_cons_succ, List.getElem?_cons_zero]) (by rfl) (by rfl) ?_ (fun _ => by rfl) (by conv => lhs; simp only [Act.put, List.setIfInBounds_toArray, List.set_cons_succ, List.set_cons_zero]) ?_
  · intro w _; go_simp
  refine textS_take (o := _) (.bool true) (by conv => lhs; simp only [List.getElem?_toArray, List.getElem?_cons_succ, List.getElem?_cons_zero]) (by rfl) (by rfl) ?_ (fun _ => by rfl) (by conv => lhs; simp only [Act.put, List.setIfInBounds_toArray, List.set_cons_succ, List.set_cons_zero]) ?_
  · intro w _; go_simp
  refine textS_take (o := _) (.bool true) (by conv => lhs; simp only [List.getElem?_toArray, List.getElem?_cons_succ, List.getElem?_cons_zero]) (by rfl) (by rfl) ?_ (fun _ => by rfl) (by conv => lhs; simp only [Act.put, List.setIfInBounds_toArray, List.set_cons_succ, List.set_cons_zero]) ?_
  · intro w _; go_simp
  refine textS_take (o := _) (.bool true) (by conv => lhs; simp only [List.getElem?_toArray, List.getElem?_cons_succ, List.getElem?_cons_zero]) (by rfl) (by rfl) ?_ (fun _ => by rfl) (by conv => lhs; simp only [Act.put, List.setIfInBounds_toArray, List.set_cons_succ, List.set_cons_zero]) ?_
  · intro w _; go_simp
  refine textS_call (o := _) (by conv => lhs; simp only [List.getElem?_toArray, List.getElem?_cons_succ, List.getElem?_cons_zero]) (by rfl) (by rfl) ?_
  refine wpIn_call rfl ?_ (HW.out _ hU0_2) ?_
  · go_simp
  rintro e whU0_3 ⟨rfl, hU0_3⟩
  refine ⟨_, _, rfl, (by conv => lhs; simp only [Act.put, List.setIfInBounds_toArray, List.set_cons_succ, List.set_cons_zero]), hU0_3, ?_⟩
  refine textS_take (o := _) (.bool true) (by conv => lhs; simp only [List.getElem?_toArray, List.getElem?_cons_succ, List.getElem?_cons_zero]) (by rfl) (by rfl) ?_ (fun _ => by rfl) (by conv => lhs; simp only [Act.put, List.setIfInBounds_toArray, List.set_cons_succ, List.set_cons_zero]) ?_
  · intro w _; go_simp
  refine textS_take (o := _) (.bool true) (by conv => lhs; simp only [List.getElem?_toArray, List.getElem?_cons_succ, List.getElem?_cons_zero]) (by rfl) (by rfl) ?_ (fun _ => by rfl) (by conv => lhs; simp only [Act.put, List.setIfInBounds_toArray, List.set_cons_succ, List.set_cons_zero]) ?_
  · intro w _; go_simp
  refine NoPanic.normal ?_
  have HE := Lib.hid hU0_3.low
  go_wp2_with fail
  go_ret
  exact ⟨rfl, HE.out⟩
set_option maxRecDepth 100000 in
set_option maxHeartbeats 4000000 in
theorem veq_eq (a0 a1 a2 a3 a4 a5 b0 b1 b2 b3 b4 b5 : Value) (r : Int) (hr : (r == 0) = false) (f : Int) (hf : decide (f < 0) = false) (w : World)
    (HM1 : Hid (On2 w #[a0, a1, a2, a3, a4, a5] #[b0, b1, b2, b3, b4, b5] 10 #[.agg #[a0, a1, a2, a3, a4, a5]] (.bool true)))
    (HM2 : Hid (On2 w #[a0, a1, a2, a3, a4, a5] #[b0, b1, b2, b3, b4, b5] 10 #[.agg #[b0, b1, b2, b3, b4, b5]] (.bool true)))
    (HE12 : Hid (On2 w #[a0, a1, a2, a3, a4, a5] #[b0, b1, b2, b3, b4, b5] 24 #[.agg #[a0, a1, a2, a3, a4, a5], .agg #[b0, b1, b2, b3, b4, b5]] (.int .i64 1)))
    (HE21 : Hid (On2 w #[a0, a1, a2, a3, a4, a5] #[b0, b1, b2, b3, b4, b5] 24 #[.agg #[b0, b1, b2, b3, b4, b5], .agg #[a0, a1, a2, a3, a4, a5]] (.int .i64 1)))
    (HE11 : Hid (On2 w #[a0, a1, a2, a3, a4, a5] #[b0, b1, b2, b3, b4, b5] 24 #[.agg #[a0, a1, a2, a3, a4, a5], .agg #[a0, a1, a2, a3, a4, a5]] (.int .i64 r)))
    (HL12 : Hid (On2 w #[a0, a1, a2, a3, a4, a5] #[b0, b1, b2, b3, b4, b5] 25 #[.agg #[a0, a1, a2, a3, a4, a5], .agg #[b0, b1, b2, b3, b4, b5]] (.int .i64 0)))
    (HL21 : Hid (On2 w #[a0, a1, a2, a3, a4, a5] #[b0, b1, b2, b3, b4, b5] 25 #[.agg #[b0, b1, b2, b3, b4, b5], .agg #[a0, a1, a2, a3, a4, a5]] (.int .i64 0)))
    (HW : Hid (On2 w #[a0, a1, a2, a3, a4, a5] #[b0, b1, b2, b3, b4, b5] 15 #[] (.bool true)))
    (HS : Hid (On2 w #[a0, a1, a2, a3, a4, a5] #[b0, b1, b2, b3, b4, b5] 19 #[.agg #[a0, a1, a2, a3, a4, a5], .agg #[b0, b1, b2, b3, b4, b5]] (.bool true)))
    (HO : Hid (On2 w #[a0, a1, a2, a3, a4, a5] #[b0, b1, b2, b3, b4, b5] 23 #[.agg #[a0, a1, a2, a3, a4, a5], .agg #[b0, b1, b2, b3, b4, b5]] (.int .i64 f))) :
    Calls Tryd.prog 6 #[.agg #[a0, a1, a2, a3, a4, a5], .agg #[b0, b1, b2, b3, b4, b5]] w fun e w' => e = .returned (.bool true) ∧ Below w.heap.size w w' := by
  have h0 := Seen2.new w #[a0, a1, a2, a3, a4, a5] #[b0, b1, b2, b3, b4, b5]
  obtain ⟨p0, p1, p2, p3, p4, p5⟩ := h0.b1.cell
  obtain ⟨q0, q1, q2, q3, q4, q5⟩ := h0.b2.cell
  have H0 := Lib.hid h0
  clear h0
  go_enter Tryd.func6, Tryd.ntmps6
  go_wp2_with fail
  refine (HM1.out _ H0.out).mono ?_
  rintro e w1 ⟨rfl, h1⟩
  clear p0 p1 p2 p3 p4 p5 q0 q1 q2 q3 q4 q5
  obtain ⟨p0, p1, p2, p3, p4, p5⟩ := h1.b1.cell
  obtain ⟨q0, q1, q2, q3, q4, q5⟩ := h1.b2.cell
  go_wp2_with fail
  refine (HM2.out _ h1).mono ?_
  rintro e w2 ⟨rfl, h2⟩
  have H2 := Lib.hid h2.drew
  clear h1 h2 p0 p1 p2 p3 p4 p5 q0 q1 q2 q3 q4 q5
  go_wp2_with fail
  have hS0 := H2.out
  rename_i Q' K1 hK1
  refine wp_region_noPanic ?_
  refine wpIn_wide (n := 5).1 ?_
  refine wpIn_region_text (Seen2 w #[a0, a1, a2, a3, a4, a5] #[b0, b1, b2, b3, b4, b5]) [0, 1, 3, 4, 2, 5, 6, 7, 8, 9, 10, 11, 12, 13, 14, 15, 16, 17, 18, 19, 20, 21, 22, 23, 24] rfl (by kernel_rfl) (by kernel_rfl) (by kernel_rfl) (by kernel_rfl) (fun _ _ _ _ _ h => h) hS0 ?_
  refine textS_take (o := _) (.agg #[a0, a1, a2, a3, a4, a5]) (by conv => lhs; simp only [List.getElem?_toArray, List.getElem?_cons_succ, List.getElem?_cons_zero]) (by rfl) (by rfl) ?_ (fun _ => by rfl) (by conv => lhs; simp only [Act.put, List.setIfInBounds_toArray, List.set_cons_succ, List.set_cons_zero]) ?_
  · rintro w1 t0; obtain ⟨c0, c1, c2, c3, c4, c5⟩ := t0.b1.cell; clear t0; go_simp
  refine textS_take (o := _) (.agg #[b0, b1, b2, b3, b4, b5]) (by conv => lhs; simp only [List.getElem?_toArray, List.getElem?_cons_succ, List.getElem?_cons_zero]) (by rfl) (by rfl) ?_ (fun _ => by rfl) (by conv => lhs; simp only [Act.put, List.setIfInBounds_toArray, List.set_cons_succ, List.set_cons_zero]) ?_
  · rintro w1 t0; obtain ⟨c0, c1, c2, c3, c4, c5⟩ := t0.b2.cell; clear t0; go_simp
  refine textS_take (o := _) (.agg #[b0, b1, b2, b3, b4, b5]) (by conv => lhs; simp only [List.getElem?_toArray, List.getElem?_cons_succ, List.getElem?_cons_zero]) (by rfl) (by rfl) ?_ (fun _ => by rfl) (by conv => lhs; simp only [Act.put, List.setIfInBounds_toArray, List.set_cons_succ, List.set_cons_zero]) ?_
  · rintro w1 t0; obtain ⟨c0, c1, c2, c3, c4, c5⟩ := t0.b2.cell; clear t0; go_simp
  refine textS_take (o := _) (.agg #[a0, a1, a2, a3, a4, a5]) (by conv => lhs; simp only [List.getElem?_toArray, List.getElem?_cons_succ, List.getElem?_cons_zero]) (by rfl) (by rfl) ?_ (fun _ => by rfl) (by conv => lhs; simp only [Act.put, List.setIfInBounds_toArray, List.set_cons_succ, List.set_cons_zero]) ?_
  · rintro w1 t0; obtain ⟨c0, c1, c2, c3, c4, c5⟩ := t0.b1.cell; clear t0; go_simp
  refine textS_call (o := _) (by conv => lhs; simp only [List.getElem?_toArray, List.getElem?_cons_succ, List.getElem?_cons_zero]) (by rfl) (by rfl) ?_
  refine wpIn_call rfl ?_ (HE12.out _ hS0) ?_
  · go_simp
  rintro e whS0_1 ⟨rfl, hS0_1⟩
  refine ⟨_, _, rfl, (by conv => lhs; simp only [Act.put, List.setIfInBounds_toArray, List.set_cons_succ, List.set_cons_zero]), hS0_1, ?_⟩
  refine textS_call (o := _) (by conv => lhs; simp only [List.getElem?_toArray, List.getElem?_cons_succ, List.getElem?_cons_zero]) (by rfl) (by rfl) ?_
  refine wpIn_call rfl ?_ (HE21.out _ hS0_1) ?_
  · go_simp
  rintro e whS0_2 ⟨rfl, hS0_2⟩
  refine ⟨_, _, rfl, (by conv => lhs; simp only [Act.put, List.setIfInBounds_toArray, List.set_cons_succ, List.set_cons_zero]), hS0_2, ?_⟩
  refine textS_take (o := _) (.bool false) (by conv => lhs; simp only [List.getElem?_toArray, List.getElem?_cons_succ, List.getElem?_cons_zero]) (by rfl) (by rfl) ?_ (fun _ => by rfl) (by conv => lhs; simp only [Act.put, List.setIfInBounds_toArray, List.set_cons_succ, List.set_cons_zero]) ?_
  · intro w _; go_simp
  refine textS_take (o := _) (.bool false) (by conv => lhs; simp only [List.getElem?_toArray, List.getElem?_cons_succ, List.getElem?_cons_zero]) (by rfl) (by rfl) ?_ (fun _ => by rfl) (by conv => lhs; simp only [Act.put, List.setIfInBounds_toArray, List.set_cons_succ, List.set_cons_zero]) ?_
  · intro w _; go_simp
  refine textS_take (o := _) (.agg #[a0, a1, a2, a3, a4, a5]) (by conv => lhs; simp only [List.getElem?_toArray, List.getElem?_cons_succ, List.getElem?_cons_zero]) (by rfl) (by rfl) ?_ (fun _ => by rfl) (by conv => lhs; simp only [Act.put, List.setIfInBounds_toArray, List.set_cons_succ, List.set_cons_zero]) ?_
  · rintro w1 t0; obtain ⟨c0, c1, c2, c3, c4, c5⟩ := t0.b1.cell; clear t0; go_simp
  refine textS_take (o := _) (.agg #[a0, a1, a2, a3, a4, a5]) (by conv => lhs; simp only [List.getElem?_toArray, List.getElem?_cons_succ, List.getElem?_cons_zero]) (by rfl) (by rfl) ?_ (fun _ => by rfl) (by conv => lhs; simp only [Act.put, List.setIfInBounds_toArray, List.set_cons_succ, List.set_cons_zero]) ?_
  · rintro w1 t0; obtain ⟨c0, c1, c2, c3, c4, c5⟩ := t0.b1.cell; clear t0; go_simp
  refine textS_call (o := _) (by conv => lhs; simp only [List.getElem?_toArray, List.getElem?_cons_succ, List.getElem?_cons_zero]) (by rfl) (by rfl) ?_
  refine wpIn_call rfl ?_ (HE11.out _ hS0_2) ?_
  · go_simp
  rintro e whS0_3 ⟨rfl, hS0_3⟩
  refine ⟨_, _, rfl, (by conv => lhs; simp only [Act.put, List.setIfInBounds_toArray, List.set_cons_succ, List.set_cons_zero]), hS0_3, ?_⟩
  refine textS_take (o := _) (.bool false) (by conv => lhs; simp only [List.getElem?_toArray, List.getElem?_cons_succ, List.getElem?_cons_zero]) (by rfl) (by rfl) ?_ (fun _ => by rfl) (by conv => lhs; simp only [Act.put, List.setIfInBounds_toArray, List.set_cons_succ, List.set_cons_zero]) ?_
  · intro w _; go_simp
  refine textS_take (o := _) (.bool false) (by conv => lhs; simp only [List.getElem?_toArray, List.getElem?_cons_succ, List.getElem?_cons_zero]) (by rfl) (by rfl) ?_ (fun _ => by rfl) (by conv => lhs; simp only [Act.put, List.setIfInBounds_toArray, List.set_cons_succ, List.set_cons_zero]) ?_
  · intro w _; go_simp
  refine textS_take (o := _) (.bool false) (by conv => lhs; simp only [List.getElem?_toArray, List.getElem?_cons_succ, List.getElem?_cons_zero]) (by rfl) (by rfl) ?_ (fun _ => by rfl) (by conv => lhs; simp only [Act.put, List.setIfInBounds_toArray, List.set_cons_succ, List.set_cons_zero]) ?_
  · intro w _; go_simp
  refine textS_take (o := _) (.agg #[a0, a1, a2, a3, a4, a5]) (by conv => lhs; simp only [List.getElem?_toArray, List.getElem?_cons_succ, List.getElem?_cons_zero]) (by rfl) (by rfl) ?_ (fun _ => by rfl) (by conv => lhs; simp only [Act.put, List.setIfInBounds_toArray, List.set_cons_succ, List.set_cons_zero]) ?_
  · rintro w1 t0; obtain ⟨c0, c1, c2, c3, c4, c5⟩ := t0.b1.cell; clear t0; go_simp
  refine textS_take (o := _) (.agg #[b0, b1, b2, b3, b4, b5]) (by conv => lhs; simp only [List.getElem?_toArray, List.getElem?_cons_succ, List.getElem?_cons_zero]) (by rfl) (by rfl) ?_ (fun _ => by rfl) (by conv => lhs; simp only [Act.put, List.setIfInBounds_toArray, List.set_cons_succ, List.set_cons_zero]) ?_
  · rintro w1 t0; obtain ⟨c0, c1, c2, c3, c4, c5⟩ := t0.b2.cell; clear t0; go_simp
  refine textS_call (o := _) (by conv => lhs; simp only [List.getElem?_toArray, List.getElem?_cons_succ, List.getElem?_cons_zero]) (by rfl) (by rfl) ?_
  refine wpIn_call rfl ?_ (HE12.out _ hS0_3) ?_
  · go_simp
  rintro e whS0_4 ⟨rfl, hS0_4⟩
  refine ⟨_, _, rfl, (by conv => lhs; simp only [Act.put, List.setIfInBounds_toArray, List.set_cons_succ, List.set_cons_zero]), hS0_4, ?_⟩
  refine textS_take (o := _) (.bool true) (by conv => lhs; simp only [List.getElem?_toArray, List.getElem?_cons_succ, List.getElem?_cons_zero]) (by rfl) (by rfl) ?_ (fun _ => by rfl) (by conv => lhs; simp only [Act.put, List.setIfInBounds_toArray, List.set_cons_succ, List.set_cons_zero]) ?_
  · intro w _; go_simp
  refine textS_take (o := _) (.bool true) (by conv => lhs; simp only [List.getElem?_toArray, List.getElem?_cons_succ, List.getElem?_cons_zero]) (by rfl) (by rfl) ?_ (fun _ => by rfl) (by conv => lhs; simp only [Act.put, List.setIfInBounds_toArray, List.set_cons_succ, List.set_cons_zero]) ?_
  · intro w _; go_simp
  refine textS_take (o := _) (.agg #[a0, a1, a2, a3, a4, a5]) (by conv => lhs; simp only [List.getElem?_toArray, List.getElem?_cons_succ, List.getElem?_cons_zero]) (by rfl) (by rfl) ?_ (fun _ => by rfl) (by conv => lhs; simp only [Act.put, List.setIfInBounds_toArray, List.set_cons_succ, List.set_cons_zero]) ?_
  · rintro w1 t0; obtain ⟨c0, c1, c2, c3, c4, c5⟩ := t0.b1.cell; clear t0; go_simp
  refine textS_take (o := _) (.agg #[b0, b1, b2, b3, b4, b5]) (by conv => lhs; simp only [List.getElem?_toArray, List.getElem?_cons_succ, List.getElem?_cons_zero]) (by rfl) (by rfl) ?_ (fun _ => by rfl) (by conv => lhs; simp only [Act.put, List.setIfInBounds_toArray, List.set_cons_succ, List.set_cons_zero]) ?_
  · rintro w1 t0; obtain ⟨c0, c1, c2, c3, c4, c5⟩ := t0.b2.cell; clear t0; go_simp
  refine textS_call (o := _) (by conv => lhs; simp only [List.getElem?_toArray, List.getElem?_cons_succ, List.getElem?_cons_zero]) (by rfl) (by rfl) ?_
  refine wpIn_call rfl ?_ (HS.out _ hS0_4) ?_
  · go_simp
  rintro e whS0_5 ⟨rfl, hS0_5⟩
  refine ⟨_, _, rfl, (by conv => lhs; simp only [Act.put, List.setIfInBounds_toArray, List.set_cons_succ, List.set_cons_zero]), hS0_5, ?_⟩
  refine textS_take (o := _) (.bool false) (by conv => lhs; simp only [List.getElem?_toArray, List.getElem?_cons_succ, List.getElem?_cons_zero]) (by rfl) (by rfl) ?_ (fun _ => by rfl) (by conv => lhs; simp only [Act.put, List.setIfInBounds_toArray, List.set_cons_succ, List.set_cons_zero]) ?_
  · intro w _; go_simp
  refine textS_take (o := _) (.bool false) (by conv => lhs; simp only [List.getElem?_toArray, List.getElem?_cons_succ, List.getElem?_cons_zero]) (by rfl) (by rfl) ?_ (fun _ => by rfl) (by conv => lhs; simp only [Act.put, List.setIfInBounds_toArray, List.set_cons_succ, List.set_cons_zero]) ?_
  · intro w _; go_simp
  refine textS_take (o := _) (.bool false) (by conv => lhs; simp only [List.getElem?_toArray, List.getElem?_cons_succ, List.getElem?_cons_zero]) (by rfl) (by rfl) ?_ (fun _ => by rfl) (by conv => lhs; simp only [Act.put, List.setIfInBounds_toArray, List.set_cons_succ, List.set_cons_zero]) ?_
  · intro w _; go_simp
  refine NoPanic.normal ?_
  refine hK1 _ _ ?_
  clear hK1
  have H3 := Lib.hid hS0_5.drew
  clear hS0 hS0_1 hS0_2 hS0_3 hS0_4 hS0_5
  go_wp2_with fail
  have hT0 := H3.out
  rename_i Q' K2 hK2
  refine wp_region_noPanic ?_
  refine wpIn_wide (n := 5).1 ?_
  refine wpIn_region_text (Seen2 w #[a0, a1, a2, a3, a4, a5] #[b0, b1, b2, b3, b4, b5]) [0, 1, 3, 4, 2, 5, 6, 7] rfl (by kernel_rfl) (by kernel_rfl) (by kernel_rfl) (by kernel_rfl) (fun _ _ _ _ _ h => h) hT0 ?_
  refine textS_take (o := _) (.agg #[a0, a1, a2, a3, a4, a5]) (by conv => lhs; simp only [List.getElem?_toArray, List.getElem?_cons_succ, List.getElem?_cons_zero]) (by rfl) (by rfl) ?_ (fun _ => by rfl) (by conv => lhs; simp only [Act.put, List.setIfInBounds_toArray, List.set_cons_succ, List.set_cons_zero]) ?_
  · rintro w1 t0; obtain ⟨c0, c1, c2, c3, c4, c5⟩ := t0.b1.cell; clear t0; go_simp
  refine textS_take (o := _) (.agg #[b0, b1, b2, b3, b4, b5]) (by conv => lhs; simp only [List.getElem?_toArray, List.getElem?_cons_succ, List.getElem?_cons_zero]) (by rfl) (by rfl) ?_ (fun _ => by rfl) (by conv => lhs; simp only [Act.put, List.setIfInBounds_toArray, List.set_cons_succ, List.set_cons_zero]) ?_
  · rintro w1 t0; obtain ⟨c0, c1, c2, c3, c4, c5⟩ := t0.b2.cell; clear t0; go_simp
  refine textS_take (o := _) (.agg #[b0, b1, b2, b3, b4, b5]) (by conv => lhs; simp only [List.getElem?_toArray, List.getElem?_cons_succ, List.getElem?_cons_zero]) (by rfl) (by rfl) ?_ (fun _ => by rfl) (by conv => lhs; simp only [Act.put, List.setIfInBounds_toArray, List.set_cons_succ, List.set_cons_zero]) ?_
  · rintro w1 t0; obtain ⟨c0, c1, c2, c3, c4, c5⟩ := t0.b2.cell; clear t0; go_simp
  refine textS_take (o := _) (.agg #[a0, a1, a2, a3, a4, a5]) (by conv => lhs; simp only [List.getElem?_toArray, List.getElem?_cons_succ, List.getElem?_cons_zero]) (by rfl) (by rfl) ?_ (fun _ => by rfl) (by conv => lhs; simp only [Act.put, List.setIfInBounds_toArray, List.set_cons_succ, List.set_cons_zero]) ?_
  · rintro w1 t0; obtain ⟨c0, c1, c2, c3, c4, c5⟩ := t0.b1.cell; clear t0; go_simp
  refine textS_call (o := _) (by conv => lhs; simp only [List.getElem?_toArray, List.getElem?_cons_succ, List.getElem?_cons_zero]) (by rfl) (by rfl) ?_
  refine wpIn_call rfl ?_ (HL12.out _ hT0) ?_
  · go_simp
  rintro e whT0_1 ⟨rfl, hT0_1⟩
  refine ⟨_, _, rfl, (by conv => lhs; simp only [Act.put, List.setIfInBounds_toArray, List.set_cons_succ, List.set_cons_zero]), hT0_1, ?_⟩
  refine textS_call (o := _) (by conv => lhs; simp only [List.getElem?_toArray, List.getElem?_cons_succ, List.getElem?_cons_zero]) (by rfl) (by rfl) ?_
  refine wpIn_call rfl ?_ (HL21.out _ hT0_1) ?_
  · go_simp
  rintro e whT0_2 ⟨rfl, hT0_2⟩
  refine ⟨_, _, rfl, (by conv => lhs; simp only [Act.put, List.setIfInBounds_toArray, List.set_cons_succ, List.set_cons_zero]), hT0_2, ?_⟩
  refine textS_take (o := _) (.int .i64 0) (by conv => lhs; simp only [List.getElem?_toArray, List.getElem?_cons_succ, List.getElem?_cons_zero]) (by rfl) (by rfl) ?_ (fun _ => by rfl) (by conv => lhs; simp only [Act.put, List.setIfInBounds_toArray, List.set_cons_succ, List.set_cons_zero]) ?_
  · intro w _; go_simp
  refine textS_take (o := _) (.int .i64 0) (by conv => lhs; simp only [List.getElem?_toArray, List.getElem?_cons_succ, List.getElem?_cons_zero]) (by rfl) (by rfl) ?_ (fun _ => by rfl) (by conv => lhs; simp only [Act.put, List.setIfInBounds_toArray, List.set_cons_succ, List.set_cons_zero]) ?_
  · intro w _; go_simp
  refine NoPanic.normal ?_
  refine hK2 _ _ ?_
  clear hK2
  have H4 := Lib.hid hT0_2
  clear hT0 hT0_1 hT0_2
  obtain ⟨p0, p1, p2, p3, p4, p5⟩ := H4.out.b1.cell
  obtain ⟨q0, q1, q2, q3, q4, q5⟩ := H4.out.b2.cell
  go_wp2_with fail
  refine (is_any 0 _).mono ?_
  rintro e w5 ⟨rfl, rfl⟩
  go_wp2_with fail
  refine (is_any 0 _).mono ?_
  rintro e w5 ⟨rfl, rfl⟩
  go_wp2_with fail
  refine (HE12.out _ H4.out).mono ?_
  rintro e w6 ⟨rfl, h6⟩
  go_wp2_with fail
  refine (is_any 1 _).mono ?_
  rintro e w7 ⟨rfl, rfl⟩
  have H6 := Lib.hid h6.drew
  clear h6 p0 p1 p2 p3 p4 p5 q0 q1 q2 q3 q4 q5
  go_wp2_with fail
  have hU0 := H6.out
  have hIs : On2 w #[a0, a1, a2, a3, a4, a5] #[b0, b1, b2, b3, b4, b5] 26 #[.int .i64 0] (.bool false) := fun V hV => (is_any 0 V).mono fun e w' h => ⟨h.1, h.2 ▸ hV⟩
  refine wp_region_noPanic ?_
  refine wpIn_wide (n := 5).1 ?_
  refine wpIn_region_text (Seen2 w #[a0, a1, a2, a3, a4, a5] #[b0, b1, b2, b3, b4, b5]) [0, 1, 2, 3, 5, 6, 4, 7, 8, 9, 10, 11, 12, 13, 14] rfl (by kernel_rfl) (by kernel_rfl) (by kernel_rfl) (by kernel_rfl) (fun _ _ _ _ _ h => h) hU0 ?_
  refine textS_take (o := _) (.int .i64 1) (by conv => lhs; simp only [List.getElem?_toArray, List.getElem?_cons_succ, List.getElem?_cons_zero]) (by rfl) (by rfl) ?_ (fun _ => by rfl) (by conv => lhs; simp only [Act.put, List.setIfInBounds_toArray, List.set_cons_succ, List.set_cons_zero]) ?_
  · intro w _; go_simp
  refine textS_take (o := _) (.bool true) (by conv => lhs; simp only [List.getElem?_toArray, List.getElem?_cons_succ, List.getElem?_cons_zero]) (by rfl) (by rfl) ?_ (fun _ => by rfl) (by conv => lhs; simp only [Act.put, List.setIfInBounds_toArray, List.set_cons_succ, List.set_cons_zero]) ?_
  · intro w _; go_simp
  refine textS_take (o := _) (.bool true) (by conv => lhs; simp only [List.getElem?_toArray, List.getElem?_cons_succ, List.getElem?_cons_zero]) (by rfl) (by rfl) ?_ (fun _ => by rfl) (by conv => lhs; simp only [Act.put, List.setIfInBounds_toArray, List.set_cons_succ, List.set_cons_zero]) ?_
  · intro w _; go_simp
  refine textS_take (o := _) (.int .i64 0) (by conv => lhs; simp only [List.getElem?_toArray, List.getElem?_cons_succ, List.getElem?_cons_zero]) (by rfl) (by rfl) ?_ (fun _ => by rfl) (by conv => lhs; simp only [Act.put, List.setIfInBounds_toArray, List.set_cons_succ, List.set_cons_zero]) ?_
  · intro w _; go_simp
  refine textS_take (o := _) (.agg #[a0, a1, a2, a3, a4, a5]) (by conv => lhs; simp only [List.getElem?_toArray, List.getElem?_cons_succ, List.getElem?_cons_zero]) (by rfl) (by rfl) ?_ (fun _ => by rfl) (by conv => lhs; simp only [Act.put, List.setIfInBounds_toArray, List.set_cons_succ, List.set_cons_zero]) ?_
  · rintro w1 t0; obtain ⟨c0, c1, c2, c3, c4, c5⟩ := t0.b1.cell; clear t0; go_simp
  refine textS_take (o := _) (.agg #[b0, b1, b2, b3, b4, b5]) (by conv => lhs; simp only [List.getElem?_toArray, List.getElem?_cons_succ, List.getElem?_cons_zero]) (by rfl) (by rfl) ?_ (fun _ => by rfl) (by conv => lhs; simp only [Act.put, List.setIfInBounds_toArray, List.set_cons_succ, List.set_cons_zero]) ?_
  · rintro w1 t0; obtain ⟨c0, c1, c2, c3, c4, c5⟩ := t0.b2.cell; clear t0; go_simp
  refine textS_call (o := _) (by conv => lhs; simp only [List.getElem?_toArray, List.getElem?_cons_succ, List.getElem?_cons_zero]) (by rfl) (by rfl) ?_
  refine wpIn_call rfl ?_ (hIs _ hU0) ?_
  · go_simp
  rintro e whU0_1 ⟨rfl, hU0_1⟩
  refine ⟨_, _, rfl, (by conv => lhs; simp only [Act.put, List.setIfInBounds_toArray, List.set_cons_succ, List.set_cons_zero]), hU0_1, ?_⟩
  refine textS_call (o := _) (by conv => lhs; simp only [List.getElem?_toArray, List.getElem?_cons_succ, List.getElem?_cons_zero]) (by rfl) (by rfl) ?_
  refine wpIn_call rfl ?_ (HO.out _ hU0_1) ?_
  · go_simp
  rintro e whU0_2 ⟨rfl, hU0_2⟩
  refine ⟨_, _, rfl, (by conv => lhs; simp only [Act.put, List.setIfInBounds_toArray, List.set_cons_succ, List.set_cons_zero]), hU0_2, ?_⟩
  refine textS_take (o := _) (.bool false) (by conv => lhs; simp only [List.getElem?_toArray, List.getElem?_cons_succ, List.getElem?_cons_zero]) (by rfl) (by rfl) ?_ (fun _ => by rfl) (by conv => lhs; simp only [Act.put, List.setIfInBounds_toArray, List.set_cons_succ, List.set_cons_zero]) ?_
  · intro w _; go_simp
  refine textS_take (o := _) (.bool true) (by conv => lhs; simp only [List.getElem?_toArray, List.getElem?_cons_succ, List.getElem?_cons_zero]) (by rfl) (by rfl) ?_ (fun _ => by rfl) (by conv => lhs; simp only [Act.put, List.setIfInBounds_toArray, List.set_cons_succ, List.set_cons_zero]) ?_
  · intro w _; go_simp
  refine textS_take (o := _) (.bool true) (by conv => lhs; simp only [List.getElem?_toArray, List.getElem?_cons_succ, List.getElem?_cons_zero]) (by rfl) (by rfl) ?_ (fun _ => by rfl) (by conv => lhs; simp only [Act.put, List.setIfInBounds_toArray, List.set_cons_succ, List.set_cons_zero]) ?_
  · intro w _; go_simp
  refine textS_take (o := _) (.bool true) (by conv => lhs; simp only [List.getElem?_toArray, List.getElem?_cons_succ, List.getElem?_cons_zero]) (by rfl) (by rfl) ?_ (fun _ => by rfl) (by conv => lhs; simp only [Act.put, List.setIfInBounds_toArray, List.set_cons_succ, List.set_cons_zero]) ?_
  · intro w _; go_simp
  refine textS_call (o := _) (by conv => lhs; simp only [List.getElem?_toArray, List.getElem?_cons_succ, List.getElem?_cons_zero]) (by rfl) (by rfl) ?_
  refine wpIn_call rfl ?_ (HW.out _ hU0_2) ?_
  · go_simp
  rintro e whU0_3 ⟨rfl, hU0_3⟩
  refine ⟨_, _, rfl, (by conv => lhs; simp only [Act.put, List.setIfInBounds_toArray, List.set_cons_succ, List.set_cons_zero]), hU0_3, ?_⟩
  refine textS_take (o := _) (.bool true) (by conv => lhs; simp only [List.getElem?_toArray, List.getElem?_cons_succ, List.getElem?_cons_zero]) (by rfl) (by rfl) ?_ (fun _ => by rfl) (by conv => lhs; simp only [Act.put, List.setIfInBounds_toArray, List.set_cons_succ, List.set_cons_zero]) ?_
  · intro w _; go_simp
  refine textS_take (o := _) (.bool true) (by conv => lhs; simp only [List.getElem?_toArray, List.getElem?_cons_succ, List.getElem?_cons_zero]) (by rfl) (by rfl) ?_ (fun _ => by rfl) (by conv => lhs; simp only [Act.put, List.setIfInBounds_toArray, List.set_cons_succ, List.set_cons_zero]) ?_
  · intro w _; go_simp
  refine NoPanic.normal ?_
  have HE := Lib.hid hU0_3.low
  go_wp2_with fail
  go_ret
  exact ⟨rfl, HE.out⟩
end Val
end Go.Proofs.YtiphegccaijbgaaDoor
