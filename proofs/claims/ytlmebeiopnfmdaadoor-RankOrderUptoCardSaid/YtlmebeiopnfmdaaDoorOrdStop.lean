/- THE WALKS over (*reach).compare of any two trees. -/
import Derived.Test.YtlmebeiopnfmdaaDoorRows
import Derived.Test.YtlmebeiopnfmdaaDoorHeld
import Derived.Test.YtlmebeiopnfmdaaDoorValBase
import Derived.Test.YtlmebeiopnfmdaaDoorValCmp
import Derived.Test.YtlmebeiopnfmdaaDoorValFlat
import Derived.Test.YtlmebeiopnfmdaaDoorValOrd
import Derived.Test.YtlmebeiopnfmdaaDoorVal
import Derived.Test.YtlmebeiopnfmdaaDoorValCopy
import Derived.Test.YtlmebeiopnfmdaaDoorValSame
import Derived.Test.YtlmebeiopnfmdaaDoorOrdPlain
import Derived.Test.YtlmebeiopnfmdaaDoorOrdNames
import Derived.WalkKit
import Derived.Lib.Hide
import Derived.Outline
import Derived.WalkSpells
import Derived.WalkLawsBesides
import Derived.Deep.Cut
import Derived.Deep.CutRange
import Derived.Deep.DeepCutAuto
import Derived.Deep.RegionHeld3
import Derived.RangeFuncNested
import Derived.RangeFuncBound
import Derived.RangeFuncCalls
import Derived.RangeFuncLeaves
import Derived.OwnWalkIn
import Derived.TacticsInMore
namespace Go.Proofs.YtlmebeiopnfmdaaDoor
open Go.RowKit
set_option linter.unusedVariables false
set_option linter.unusedSimpArgs false
namespace Val
structure Fy (B R : Nat) (Wl W : World) (ca cb : Array Value) (d m : Int) (w : World) : Prop where
  fx : Fx B W.heap.size R Wl ca cb d m w
  keeps : Keeps (· = R) W w
namespace Fy
variable {B R : Nat} {Wl W w w' : World} {ca cb : Array Value} {d m : Int}
theorem two (h : Fy B R Wl W ca cb d m w) : Two W.heap.size ca cb w := h.fx.two
theorem places (h : Fy B R Wl W ca cb d m w) : Places w := h.fx.places
theorem low (h : Fy B R Wl W ca cb d m w) : Below B Wl w := h.fx.low
theorem reach (h : Fy B R Wl W ca cb d m w) : Reach w R d m := h.fx.reach
theorem start (ca cb : Array Value) (hB : B ≤ Wl.heap.size) (hlow : Below B Wl W) (hP : Places W) (hR : Reach W R d m) : Fy B R Wl W ca cb d m ((W.alloc (.cells ca 26)).alloc (.cells cb 26)).drew :=
  ⟨Fx.start ca cb hB hlow hP hR, (((Keeps.refl _ W).alloc _).alloc _).drew⟩
theorem enter {d' m' : Int} (h : Fy B R Wl W ca cb d m w) (hRB : B ≤ R) (hRA : R < W.heap.size) (hg : 1 < B) (hw : w' = (w.setCell ⟨R, 0, none⟩ (.int .i64 d')).setCell ⟨R, 1, none⟩ (.int .i64 m')) : Fy B R Wl W ca cb d' m' w' := by
  refine ⟨h.fx.enter hRB hRA hg hw, ?_⟩
  subst hw
  exact (h.keeps.setCell (p := ⟨R, 0, none⟩) (.inl rfl) _).setCell (p := ⟨R, 1, none⟩) (.inl rfl) _
theorem zero (h : Fy B R Wl W ca cb d m w) (hB : B ≤ Wl.heap.size) (hb : Below w.heap.size w w') : Fy B R Wl W ca cb d m w' := ⟨h.fx.zero hB hb, h.keeps.trans (Keeps.of_below hb)⟩
end Fy
/-- What lies at B and above is as it was, but for R. -/
def AboveR (B R : Nat) (W W' : World) : Prop := W.heap.size ≤ W'.heap.size ∧ ∀ k, B ≤ k → k < W.heap.size → k ≠ R → W'.heap[k]? = W.heap[k]?
theorem AboveR.after {B R : Nat} {W w W' : World} (h : AboveR B R w W') (hk : Keeps (· = R) W w) : AboveR B R W W' :=
  ⟨Nat.le_trans hk.size h.1, fun k hB hl hR => (h.2 k hB (Nat.lt_of_lt_of_le hl hk.size) hR).trans (hk.block k hl hR)⟩
structure Fz (B R : Nat) (WS W : World) (ca cb : Array Value) (w : World) : Prop where
  two : Two W.heap.size ca cb w
  low : Below B WS w
  above : AboveR B R W w
theorem Fy.stop {B R : Nat} {Wl W w w' W2 : World} {ca cb : Array Value} {d m : Int} (h : Fy B R Wl W ca cb d m w) (hBA : B ≤ W.heap.size) (hs : Below B W2 w' ∧ Above B w w') : Fz B R W2 W ca cb w' := by
  have h1 := h.fx.stop hBA hs
  refine ⟨h1.two, h1.low, Nat.le_trans h.keeps.size hs.2.1, fun k hB hl hR => ?_⟩
  exact (hs.2.2 k hB (Nat.lt_of_lt_of_le hl h.keeps.size)).trans (h.keeps.block k hl hR)
def CmpPost (B R d m : Nat) (WS : Int → World) (c : Int) (np : Nat) (W : World) (e : Ending) (W' : World) : Prop :=
  (c = 0 ∧ e = .returned (.bool true) ∧ Keeps (· = R) W W' ∧ ∃ m' : Nat, Reach W' R d m' ∧ m' ≤ m ∧ m ≤ m' + np) ∨ (c ≠ 0 ∧ e = .returned (.bool false) ∧ Below B (WS c) W' ∧ AboveR B R W W')
set_option maxRecDepth 100000 in
set_option maxHeartbeats 4000000 in
theorem compare_stopY0 {lo B l R : Nat} {Wl W : World} {WS : Int → World} (hY : Yld lo l B Wl WS) (hB : B ≤ Wl.heap.size) (hRB : B ≤ R) (hg : 1 < B) (ka na kb nb : Int) (ba bb : Bool) (sa sb : ByteArray) (la qa lb qb : Value) (d m : Int) (hR : Reach W R d m) (hP : Places W) (hlow : Below B Wl W) (hd : 0 < d) (hm : 0 < m) (hd' : d ≤ 65536) (hm' : m ≤ 4194304)  (x0 : cmpV (placeV ka) (placeV kb) ≠ 0) :
    Calls Tryd.prog 66 #[.pointer (some ⟨R, 0, none⟩), .agg #[.int .i64 ka, .bool ba, .int .i64 na, .string sa, la, qa], .agg #[.int .i64 kb, .bool bb, .int .i64 nb, .string sb, lb, qb], .func (.yield l) #[] #[]] W fun e w' => e = .returned (.bool false) ∧ Below B (WS (cmpV (placeV ka) (placeV kb))) w' ∧ AboveR B R W w' := by
  have hRA : R < W.heap.size := hR.lt
  have hBA : B ≤ W.heap.size := Nat.le_trans hB hlow.size
  have F := Fy.start #[.int .i64 ka, .bool ba, .int .i64 na, .string sa, la, qa] #[.int .i64 kb, .bool bb, .int .i64 nb, .string sb, lb, qb] hB hlow hP hR
  go_enter Tryd.func66, Tryd.ntmps66
  go_wp2
  rename_i Q' K1 hK1 K2 hK2
  refine wp_region_noPanic ?_
  refine wpIn_wide (n := 5).1 ?_
  refine wpIn_region_text (Two W.heap.size #[.int .i64 ka, .bool ba, .int .i64 na, .string sa, la, qa] #[.int .i64 kb, .bool bb, .int .i64 nb, .string sb, lb, qb]) [0, 1, 2, 3, 4, 5, 6, 8, 9, 7, 10, 11, 12, 13, 14, 15, 16, 17, 18, 20, 21, 19, 22, 23, 24, 25, 26, 27, 28, 29, 30, 31, 32, 33, 34, 35, 36, 37, 38, 39, 40, 41, 42, 43, 44, 45, 46] rfl (by kernel_rfl) (by kernel_rfl) (by kernel_rfl) (by kernel_rfl) (fun _ _ _ _ _ h => h) F.two ?_
  generalize ((W.alloc (.cells #[.int .i64 ka, .bool ba, .int .i64 na, .string sa, la, qa] 26)).alloc (.cells #[.int .i64 kb, .bool bb, .int .i64 nb, .string sb, lb, qb] 26)).drew = w0 at F ⊢
  refine textS_take (o := _) (.pointer (some ⟨R, 0, none⟩)) (by conv => lhs; simp only [List.getElem?_toArray, List.getElem?_cons_succ, List.getElem?_cons_zero]) (by rfl) (by rfl) ?_ (fun _ => by rfl) (by conv => lhs; simp only [Act.put, List.setIfInBounds_toArray, List.set_cons_succ, List.set_cons_zero]) ?_
  · intro w _; go_simp
  refine textS_call (o := _) (by conv => lhs; simp only [List.getElem?_toArray, List.getElem?_cons_succ, List.getElem?_cons_zero]) (by rfl) (by rfl) ?_
  refine wpIn_call (f := 67) (args := #[.pointer (some ⟨R, 0, none⟩)]) rfl ?_ (enter_yes R d m _ F.reach hd hm hd' hm') ?_
  · go_simp
  rintro e w1 ⟨rfl, hw1⟩
  replace F := F.enter hRB hRA hg hw1
  clear hw1
  refine ⟨_, _, rfl, (by conv => lhs; simp only [Act.put, List.setIfInBounds_toArray, List.set_cons_succ, List.set_cons_zero]), F.two, ?_⟩
  refine textS_take (o := _) (.bool false) (by conv => lhs; simp only [List.getElem?_toArray, List.getElem?_cons_succ, List.getElem?_cons_zero]) (by rfl) (by rfl) ?_ (fun _ => by rfl) (by conv => lhs; simp only [Act.put, List.setIfInBounds_toArray, List.set_cons_succ, List.set_cons_zero]) ?_
  · intro w _; go_simp
  refine textS_take (o := _) (.bool false) (by conv => lhs; simp only [List.getElem?_toArray, List.getElem?_cons_succ, List.getElem?_cons_zero]) (by rfl) (by rfl) ?_ (fun _ => by rfl) (by conv => lhs; simp only [Act.put, List.setIfInBounds_toArray, List.set_cons_succ, List.set_cons_zero]) ?_
  · intro w _; go_simp
  refine textS_take (o := _) (.func (.yield l) #[] #[]) (by conv => lhs; simp only [List.getElem?_toArray, List.getElem?_cons_succ, List.getElem?_cons_zero]) (by rfl) (by rfl) ?_ (fun _ => by rfl) (by conv => lhs; simp only [Act.put, List.setIfInBounds_toArray, List.set_cons_succ, List.set_cons_zero]) ?_
  · intro w _; go_simp
  refine textS_take (o := _) (.pointer (some ⟨W.heap.size, 0, none⟩)) (by conv => lhs; simp only [List.getElem?_toArray, List.getElem?_cons_succ, List.getElem?_cons_zero]) (by rfl) (by rfl) ?_ (fun _ => by rfl) (by conv => lhs; simp only [Act.put, List.setIfInBounds_toArray, List.set_cons_succ, List.set_cons_zero]) ?_
  · intro w _; go_simp
  refine textS_take (o := _) (.int .i64 ka) (by conv => lhs; simp only [List.getElem?_toArray, List.getElem?_cons_succ, List.getElem?_cons_zero]) (by rfl) (by rfl) ?_ (fun _ => by rfl) (by conv => lhs; simp only [Act.put, List.setIfInBounds_toArray, List.set_cons_succ, List.set_cons_zero]) ?_
  · rintro w ⟨t0, t1⟩; obtain ⟨c0, c1, c2, c3, c4, c5⟩ := t0.cell; clear t0 t1; go_simp
  refine textS_take (o := _) (.pointer (some ⟨(W.heap.size + 1), 0, none⟩)) (by conv => lhs; simp only [List.getElem?_toArray, List.getElem?_cons_succ, List.getElem?_cons_zero]) (by rfl) (by rfl) ?_ (fun _ => by rfl) (by conv => lhs; simp only [Act.put, List.setIfInBounds_toArray, List.set_cons_succ, List.set_cons_zero]) ?_
  · intro w _; go_simp
  refine textS_take (o := _) (.int .i64 kb) (by conv => lhs; simp only [List.getElem?_toArray, List.getElem?_cons_succ, List.getElem?_cons_zero]) (by rfl) (by rfl) ?_ (fun _ => by rfl) (by conv => lhs; simp only [Act.put, List.setIfInBounds_toArray, List.set_cons_succ, List.set_cons_zero]) ?_
  · rintro w ⟨t0, t1⟩; obtain ⟨c0, c1, c2, c3, c4, c5⟩ := t1.cell; clear t0 t1; go_simp
  refine textS_call (o := _) (by conv => lhs; simp only [List.getElem?_toArray, List.getElem?_cons_succ, List.getElem?_cons_zero]) (by rfl) (by rfl) ?_
  refine wpIn_call (f := 79) (args := #[.int .i64 ka]) rfl ?_ (place_any ka w1 F.places) ?_
  · go_simp
  rintro e w2 ⟨rfl, rfl⟩
  refine ⟨_, _, rfl, (by conv => lhs; simp only [Act.put, List.setIfInBounds_toArray, List.set_cons_succ, List.set_cons_zero]), F.two, ?_⟩
  refine textS_call (o := _) (by conv => lhs; simp only [List.getElem?_toArray, List.getElem?_cons_succ, List.getElem?_cons_zero]) (by rfl) (by rfl) ?_
  refine wpIn_call (f := 79) (args := #[.int .i64 kb]) rfl ?_ (place_any kb w1 F.places) ?_
  · go_simp
  rintro e w2 ⟨rfl, rfl⟩
  refine ⟨_, _, rfl, (by conv => lhs; simp only [Act.put, List.setIfInBounds_toArray, List.set_cons_succ, List.set_cons_zero]), F.two, ?_⟩
  refine textS_call (o := _) (by conv => lhs; simp only [List.getElem?_toArray, List.getElem?_cons_succ, List.getElem?_cons_zero]) (by rfl) (by rfl) ?_
  refine wpIn_call (f := 46) (args := #[.int .i64 (placeV ka), .int .i64 (placeV kb)]) rfl ?_ (cmp_int _ _ w1) ?_
  · go_simp
  rintro e w2 ⟨rfl, rfl⟩
  refine ⟨_, _, rfl, (by conv => lhs; simp only [Act.put, List.setIfInBounds_toArray, List.set_cons_succ, List.set_cons_zero]), F.two, ?_⟩
  refine textS_call (o := _) (by conv => lhs; simp only [List.getElem?_toArray, List.getElem?_cons_succ, List.getElem?_cons_zero]) (by rfl) (by rfl) ?_
  obtain ⟨fn, tm, as1, bd, hy, hr⟩ := hY.stop 4 _ _ x0 F.low
  refine wpIn_yield rfl ?_ hr ?_
  · go_simp
  rintro e y0 ⟨rfl, hlow⟩
  clear hy hr
  replace F := F.stop hBA hlow
  refine ⟨_, _, rfl, (by conv => lhs; simp only [Act.put, List.setIfInBounds_toArray, List.set_cons_succ, List.set_cons_zero]), F.two, ?_⟩
  refine textS_take (o := _) (.bool true) (by conv => lhs; simp only [List.getElem?_toArray, List.getElem?_cons_succ, List.getElem?_cons_zero]) (by rfl) (by rfl) ?_ (fun _ => by rfl) (by conv => lhs; simp only [Act.put, List.setIfInBounds_toArray, List.set_cons_succ, List.set_cons_zero]) ?_
  · intro w _; go_simp
  refine textS_take (o := _) (.bool true) (by conv => lhs; simp only [List.getElem?_toArray, List.getElem?_cons_succ, List.getElem?_cons_zero]) (by rfl) (by rfl) ?_ (fun _ => by rfl) (by conv => lhs; simp only [Act.put, List.setIfInBounds_toArray, List.set_cons_succ, List.set_cons_zero]) ?_
  · intro w _; go_simp
  refine textS_take (o := _) (.bool true) (by conv => lhs; simp only [List.getElem?_toArray, List.getElem?_cons_succ, List.getElem?_cons_zero]) (by rfl) (by rfl) ?_ (fun _ => by rfl) (by conv => lhs; simp only [Act.put, List.setIfInBounds_toArray, List.set_cons_succ, List.set_cons_zero]) ?_
  · intro w _; go_simp
  refine textS_skip (o := _) (by conv => lhs; simp only [List.getElem?_toArray, List.getElem?_cons_succ, List.getElem?_cons_zero]) (by rfl) (by rfl) (fun _ => by rfl) (by conv => lhs; simp only [Act.put, List.setIfInBounds_toArray, List.set_cons_succ, List.set_cons_zero]) ?_
  refine textS_skip (o := _) (by conv => lhs; simp only [List.getElem?_toArray, List.getElem?_cons_succ, List.getElem?_cons_zero]) (by rfl) (by rfl) (fun _ => by rfl) (by conv => lhs; simp only [Act.put, List.setIfInBounds_toArray, List.set_cons_succ, List.set_cons_zero]) ?_
  refine textS_skip (o := _) (by conv => lhs; simp only [List.getElem?_toArray, List.getElem?_cons_succ, List.getElem?_cons_zero]) (by rfl) (by rfl) (fun _ => by rfl) (by conv => lhs; simp only [Act.put, List.setIfInBounds_toArray, List.set_cons_succ, List.set_cons_zero]) ?_
  refine textS_skip (o := _) (by conv => lhs; simp only [List.getElem?_toArray, List.getElem?_cons_succ, List.getElem?_cons_zero]) (by rfl) (by rfl) (fun _ => by rfl) (by conv => lhs; simp only [Act.put, List.setIfInBounds_toArray, List.set_cons_succ, List.set_cons_zero]) ?_
  refine textS_skip (o := _) (by conv => lhs; simp only [List.getElem?_toArray, List.getElem?_cons_succ, List.getElem?_cons_zero]) (by rfl) (by rfl) (fun _ => by rfl) (by conv => lhs; simp only [Act.put, List.setIfInBounds_toArray, List.set_cons_succ, List.set_cons_zero]) ?_
  refine textS_callSkip (o := _) (by conv => lhs; simp only [List.getElem?_toArray, List.getElem?_cons_succ, List.getElem?_cons_zero]) (by rfl) (by rfl) (fun _ => trivial) F.two (by conv => lhs; simp only [Act.put, List.setIfInBounds_toArray, List.set_cons_succ, List.set_cons_zero]) ?_
  refine textS_callSkip (o := _) (by conv => lhs; simp only [List.getElem?_toArray, List.getElem?_cons_succ, List.getElem?_cons_zero]) (by rfl) (by rfl) (fun _ => trivial) F.two (by conv => lhs; simp only [Act.put, List.setIfInBounds_toArray, List.set_cons_succ, List.set_cons_zero]) ?_
  refine textS_callSkip (o := _) (by conv => lhs; simp only [List.getElem?_toArray, List.getElem?_cons_succ, List.getElem?_cons_zero]) (by rfl) (by rfl) (fun _ => trivial) F.two (by conv => lhs; simp only [Act.put, List.setIfInBounds_toArray, List.set_cons_succ, List.set_cons_zero]) ?_
  refine textS_callSkip (o := _) (by conv => lhs; simp only [List.getElem?_toArray, List.getElem?_cons_succ, List.getElem?_cons_zero]) (by rfl) (by rfl) (fun _ => trivial) F.two (by conv => lhs; simp only [Act.put, List.setIfInBounds_toArray, List.set_cons_succ, List.set_cons_zero]) ?_
  refine textS_skip (o := _) (by conv => lhs; simp only [List.getElem?_toArray, List.getElem?_cons_succ, List.getElem?_cons_zero]) (by rfl) (by rfl) (fun _ => by rfl) (by conv => lhs; simp only [Act.put, List.setIfInBounds_toArray, List.set_cons_succ, List.set_cons_zero]) ?_
  refine textS_take (o := _) (.bool true) (by conv => lhs; simp only [List.getElem?_toArray, List.getElem?_cons_succ, List.getElem?_cons_zero]) (by rfl) (by rfl) ?_ (fun _ => by rfl) (by conv => lhs; simp only [Act.put, List.setIfInBounds_toArray, List.set_cons_succ, List.set_cons_zero]) ?_
  · intro w _; go_simp
  refine textS_take (o := _) (.bool true) (by conv => lhs; simp only [List.getElem?_toArray, List.getElem?_cons_succ, List.getElem?_cons_zero]) (by rfl) (by rfl) ?_ (fun _ => by rfl) (by conv => lhs; simp only [Act.put, List.setIfInBounds_toArray, List.set_cons_succ, List.set_cons_zero]) ?_
  · intro w _; go_simp
  refine textS_skip (o := _) (by conv => lhs; simp only [List.getElem?_toArray, List.getElem?_cons_succ, List.getElem?_cons_zero]) (by rfl) (by rfl) (fun _ => by rfl) (by conv => lhs; simp only [Act.put, List.setIfInBounds_toArray, List.set_cons_succ, List.set_cons_zero]) ?_
  refine textS_skip (o := _) (by conv => lhs; simp only [List.getElem?_toArray, List.getElem?_cons_succ, List.getElem?_cons_zero]) (by rfl) (by rfl) (fun _ => by rfl) (by conv => lhs; simp only [Act.put, List.setIfInBounds_toArray, List.set_cons_succ, List.set_cons_zero]) ?_
  refine textS_skip (o := _) (by conv => lhs; simp only [List.getElem?_toArray, List.getElem?_cons_succ, List.getElem?_cons_zero]) (by rfl) (by rfl) (fun _ => by rfl) (by conv => lhs; simp only [Act.put, List.setIfInBounds_toArray, List.set_cons_succ, List.set_cons_zero]) ?_
  refine textS_skip (o := _) (by conv => lhs; simp only [List.getElem?_toArray, List.getElem?_cons_succ, List.getElem?_cons_zero]) (by rfl) (by rfl) (fun _ => by rfl) (by conv => lhs; simp only [Act.put, List.setIfInBounds_toArray, List.set_cons_succ, List.set_cons_zero]) ?_
  refine textS_skip (o := _) (by conv => lhs; simp only [List.getElem?_toArray, List.getElem?_cons_succ, List.getElem?_cons_zero]) (by rfl) (by rfl) (fun _ => by rfl) (by conv => lhs; simp only [Act.put, List.setIfInBounds_toArray, List.set_cons_succ, List.set_cons_zero]) ?_
  refine textS_callSkip (o := _) (by conv => lhs; simp only [List.getElem?_toArray, List.getElem?_cons_succ, List.getElem?_cons_zero]) (by rfl) (by rfl) (fun _ => trivial) F.two (by conv => lhs; simp only [Act.put, List.setIfInBounds_toArray, List.set_cons_succ, List.set_cons_zero]) ?_
  refine textS_callSkip (o := _) (by conv => lhs; simp only [List.getElem?_toArray, List.getElem?_cons_succ, List.getElem?_cons_zero]) (by rfl) (by rfl) (fun _ => trivial) F.two (by conv => lhs; simp only [Act.put, List.setIfInBounds_toArray, List.set_cons_succ, List.set_cons_zero]) ?_
  refine textS_skip (o := _) (by conv => lhs; simp only [List.getElem?_toArray, List.getElem?_cons_succ, List.getElem?_cons_zero]) (by rfl) (by rfl) (fun _ => by rfl) (by conv => lhs; simp only [Act.put, List.setIfInBounds_toArray, List.set_cons_succ, List.set_cons_zero]) ?_
  refine textS_take (o := _) (.bool true) (by conv => lhs; simp only [List.getElem?_toArray, List.getElem?_cons_succ, List.getElem?_cons_zero]) (by rfl) (by rfl) ?_ (fun _ => by rfl) (by conv => lhs; simp only [Act.put, List.setIfInBounds_toArray, List.set_cons_succ, List.set_cons_zero]) ?_
  · intro w _; go_simp
  refine textS_take (o := _) (.bool true) (by conv => lhs; simp only [List.getElem?_toArray, List.getElem?_cons_succ, List.getElem?_cons_zero]) (by rfl) (by rfl) ?_ (fun _ => by rfl) (by conv => lhs; simp only [Act.put, List.setIfInBounds_toArray, List.set_cons_succ, List.set_cons_zero]) ?_
  · intro w _; go_simp
  refine textS_skip (o := _) (by conv => lhs; simp only [List.getElem?_toArray, List.getElem?_cons_succ, List.getElem?_cons_zero]) (by rfl) (by rfl) (fun _ => by rfl) (by conv => lhs; simp only [Act.put, List.setIfInBounds_toArray, List.set_cons_succ, List.set_cons_zero]) ?_
  refine textS_skip (o := _) (by conv => lhs; simp only [List.getElem?_toArray, List.getElem?_cons_succ, List.getElem?_cons_zero]) (by rfl) (by rfl) (fun _ => by rfl) (by conv => lhs; simp only [Act.put, List.setIfInBounds_toArray, List.set_cons_succ, List.set_cons_zero]) ?_
  refine textS_skip (o := _) (by conv => lhs; simp only [List.getElem?_toArray, List.getElem?_cons_succ, List.getElem?_cons_zero]) (by rfl) (by rfl) (fun _ => by rfl) (by conv => lhs; simp only [Act.put, List.setIfInBounds_toArray, List.set_cons_succ, List.set_cons_zero]) ?_
  refine textS_skip (o := _) (by conv => lhs; simp only [List.getElem?_toArray, List.getElem?_cons_succ, List.getElem?_cons_zero]) (by rfl) (by rfl) (fun _ => by rfl) (by conv => lhs; simp only [Act.put, List.setIfInBounds_toArray, List.set_cons_succ, List.set_cons_zero]) ?_
  refine textS_skip (o := _) (by conv => lhs; simp only [List.getElem?_toArray, List.getElem?_cons_succ, List.getElem?_cons_zero]) (by rfl) (by rfl) (fun _ => by rfl) (by conv => lhs; simp only [Act.put, List.setIfInBounds_toArray, List.set_cons_succ, List.set_cons_zero]) ?_
  refine textS_callSkip (o := _) (by conv => lhs; simp only [List.getElem?_toArray, List.getElem?_cons_succ, List.getElem?_cons_zero]) (by rfl) (by rfl) (fun _ => trivial) F.two (by conv => lhs; simp only [Act.put, List.setIfInBounds_toArray, List.set_cons_succ, List.set_cons_zero]) ?_
  refine textS_callSkip (o := _) (by conv => lhs; simp only [List.getElem?_toArray, List.getElem?_cons_succ, List.getElem?_cons_zero]) (by rfl) (by rfl) (fun _ => trivial) F.two (by conv => lhs; simp only [Act.put, List.setIfInBounds_toArray, List.set_cons_succ, List.set_cons_zero]) ?_
  refine textS_skip (o := _) (by conv => lhs; simp only [List.getElem?_toArray, List.getElem?_cons_succ, List.getElem?_cons_zero]) (by rfl) (by rfl) (fun _ => by rfl) (by conv => lhs; simp only [Act.put, List.setIfInBounds_toArray, List.set_cons_succ, List.set_cons_zero]) ?_
  refine textS_take (o := _) (.bool true) (by conv => lhs; simp only [List.getElem?_toArray, List.getElem?_cons_succ, List.getElem?_cons_zero]) (by rfl) (by rfl) ?_ (fun _ => by rfl) (by conv => lhs; simp only [Act.put, List.setIfInBounds_toArray, List.set_cons_succ, List.set_cons_zero]) ?_
  · intro w _; go_simp
  refine NoPanic.normal ?_
  refine hK2 _ _ ?_
  clear hK1 hK2
  have low := F.low
  have above := F.above
  clear F hY hR hP hlow
  go_wp2
  go_ret
  exact ⟨rfl, low, above⟩
set_option maxRecDepth 100000 in
set_option maxHeartbeats 4000000 in
theorem compare_stopY1 {lo B l R : Nat} {Wl W : World} {WS : Int → World} (hY : Yld lo l B Wl WS) (hB : B ≤ Wl.heap.size) (hRB : B ≤ R) (hg : 1 < B) (ka na kb nb : Int) (ba bb : Bool) (sa sb : ByteArray) (la qa lb qb : Value) (d m : Int) (hR : Reach W R d m) (hP : Places W) (hlow : Below B Wl W) (hd : 0 < d) (hm : 0 < m) (hd' : d ≤ 65536) (hm' : m ≤ 4194304) (x0 : cmpV (placeV ka) (placeV kb) = 0) (x1 : cmpV (ofV ba) (ofV bb) ≠ 0) :
    Calls Tryd.prog 66 #[.pointer (some ⟨R, 0, none⟩), .agg #[.int .i64 ka, .bool ba, .int .i64 na, .string sa, la, qa], .agg #[.int .i64 kb, .bool bb, .int .i64 nb, .string sb, lb, qb], .func (.yield l) #[] #[]] W fun e w' => e = .returned (.bool false) ∧ Below B (WS (cmpV (ofV ba) (ofV bb))) w' ∧ AboveR B R W w' := by
  have hRA : R < W.heap.size := hR.lt
  have hBA : B ≤ W.heap.size := Nat.le_trans hB hlow.size
  have F := Fy.start #[.int .i64 ka, .bool ba, .int .i64 na, .string sa, la, qa] #[.int .i64 kb, .bool bb, .int .i64 nb, .string sb, lb, qb] hB hlow hP hR
  go_enter Tryd.func66, Tryd.ntmps66
  go_wp2
  rename_i Q' K1 hK1 K2 hK2
  refine wp_region_noPanic ?_
  refine wpIn_wide (n := 5).1 ?_
  refine wpIn_region_text (Two W.heap.size #[.int .i64 ka, .bool ba, .int .i64 na, .string sa, la, qa] #[.int .i64 kb, .bool bb, .int .i64 nb, .string sb, lb, qb]) [0, 1, 2, 3, 4, 5, 6, 8, 9, 7, 10, 11, 12, 13, 14, 15, 16, 17, 18, 20, 21, 19, 22, 23, 24, 25, 26, 27, 28, 29, 30, 31, 32, 33, 34, 35, 36, 37, 38, 39, 40, 41, 42, 43, 44, 45, 46] rfl (by kernel_rfl) (by kernel_rfl) (by kernel_rfl) (by kernel_rfl) (fun _ _ _ _ _ h => h) F.two ?_
  generalize ((W.alloc (.cells #[.int .i64 ka, .bool ba, .int .i64 na, .string sa, la, qa] 26)).alloc (.cells #[.int .i64 kb, .bool bb, .int .i64 nb, .string sb, lb, qb] 26)).drew = w0 at F ⊢
  refine textS_take (o := _) (.pointer (some ⟨R, 0, none⟩)) (by conv => lhs; simp only [List.getElem?_toArray, List.getElem?_cons_succ, List.getElem?_cons_zero]) (by rfl) (by rfl) ?_ (fun _ => by rfl) (by conv => lhs; simp only [Act.put, List.setIfInBounds_toArray, List.set_cons_succ, List.set_cons_zero]) ?_
  · intro w _; go_simp
  refine textS_call (o := _) (by conv => lhs; simp only [List.getElem?_toArray, List.getElem?_cons_succ, List.getElem?_cons_zero]) (by rfl) (by rfl) ?_
  refine wpIn_call (f := 67) (args := #[.pointer (some ⟨R, 0, none⟩)]) rfl ?_ (enter_yes R d m _ F.reach hd hm hd' hm') ?_
  · go_simp
  rintro e w1 ⟨rfl, hw1⟩
  replace F := F.enter hRB hRA hg hw1
  clear hw1
  refine ⟨_, _, rfl, (by conv => lhs; simp only [Act.put, List.setIfInBounds_toArray, List.set_cons_succ, List.set_cons_zero]), F.two, ?_⟩
  refine textS_take (o := _) (.bool false) (by conv => lhs; simp only [List.getElem?_toArray, List.getElem?_cons_succ, List.getElem?_cons_zero]) (by rfl) (by rfl) ?_ (fun _ => by rfl) (by conv => lhs; simp only [Act.put, List.setIfInBounds_toArray, List.set_cons_succ, List.set_cons_zero]) ?_
  · intro w _; go_simp
  refine textS_take (o := _) (.bool false) (by conv => lhs; simp only [List.getElem?_toArray, List.getElem?_cons_succ, List.getElem?_cons_zero]) (by rfl) (by rfl) ?_ (fun _ => by rfl) (by conv => lhs; simp only [Act.put, List.setIfInBounds_toArray, List.set_cons_succ, List.set_cons_zero]) ?_
  · intro w _; go_simp
  refine textS_take (o := _) (.func (.yield l) #[] #[]) (by conv => lhs; simp only [List.getElem?_toArray, List.getElem?_cons_succ, List.getElem?_cons_zero]) (by rfl) (by rfl) ?_ (fun _ => by rfl) (by conv => lhs; simp only [Act.put, List.setIfInBounds_toArray, List.set_cons_succ, List.set_cons_zero]) ?_
  · intro w _; go_simp
  refine textS_take (o := _) (.pointer (some ⟨W.heap.size, 0, none⟩)) (by conv => lhs; simp only [List.getElem?_toArray, List.getElem?_cons_succ, List.getElem?_cons_zero]) (by rfl) (by rfl) ?_ (fun _ => by rfl) (by conv => lhs; simp only [Act.put, List.setIfInBounds_toArray, List.set_cons_succ, List.set_cons_zero]) ?_
  · intro w _; go_simp
  refine textS_take (o := _) (.int .i64 ka) (by conv => lhs; simp only [List.getElem?_toArray, List.getElem?_cons_succ, List.getElem?_cons_zero]) (by rfl) (by rfl) ?_ (fun _ => by rfl) (by conv => lhs; simp only [Act.put, List.setIfInBounds_toArray, List.set_cons_succ, List.set_cons_zero]) ?_
  · rintro w ⟨t0, t1⟩; obtain ⟨c0, c1, c2, c3, c4, c5⟩ := t0.cell; clear t0 t1; go_simp
  refine textS_take (o := _) (.pointer (some ⟨(W.heap.size + 1), 0, none⟩)) (by conv => lhs; simp only [List.getElem?_toArray, List.getElem?_cons_succ, List.getElem?_cons_zero]) (by rfl) (by rfl) ?_ (fun _ => by rfl) (by conv => lhs; simp only [Act.put, List.setIfInBounds_toArray, List.set_cons_succ, List.set_cons_zero]) ?_
  · intro w _; go_simp
  refine textS_take (o := _) (.int .i64 kb) (by conv => lhs; simp only [List.getElem?_toArray, List.getElem?_cons_succ, List.getElem?_cons_zero]) (by rfl) (by rfl) ?_ (fun _ => by rfl) (by conv => lhs; simp only [Act.put, List.setIfInBounds_toArray, List.set_cons_succ, List.set_cons_zero]) ?_
  · rintro w ⟨t0, t1⟩; obtain ⟨c0, c1, c2, c3, c4, c5⟩ := t1.cell; clear t0 t1; go_simp
  refine textS_call (o := _) (by conv => lhs; simp only [List.getElem?_toArray, List.getElem?_cons_succ, List.getElem?_cons_zero]) (by rfl) (by rfl) ?_
  refine wpIn_call (f := 79) (args := #[.int .i64 ka]) rfl ?_ (place_any ka w1 F.places) ?_
  · go_simp
  rintro e w2 ⟨rfl, rfl⟩
  refine ⟨_, _, rfl, (by conv => lhs; simp only [Act.put, List.setIfInBounds_toArray, List.set_cons_succ, List.set_cons_zero]), F.two, ?_⟩
  refine textS_call (o := _) (by conv => lhs; simp only [List.getElem?_toArray, List.getElem?_cons_succ, List.getElem?_cons_zero]) (by rfl) (by rfl) ?_
  refine wpIn_call (f := 79) (args := #[.int .i64 kb]) rfl ?_ (place_any kb w1 F.places) ?_
  · go_simp
  rintro e w2 ⟨rfl, rfl⟩
  refine ⟨_, _, rfl, (by conv => lhs; simp only [Act.put, List.setIfInBounds_toArray, List.set_cons_succ, List.set_cons_zero]), F.two, ?_⟩
  refine textS_call (o := _) (by conv => lhs; simp only [List.getElem?_toArray, List.getElem?_cons_succ, List.getElem?_cons_zero]) (by rfl) (by rfl) ?_
  refine wpIn_call (f := 46) (args := #[.int .i64 (placeV ka), .int .i64 (placeV kb)]) rfl ?_ (zero_of x0 (cmp_int _ _ w1)) ?_
  · go_simp
  rintro e w2 ⟨rfl, rfl⟩
  refine ⟨_, _, rfl, (by conv => lhs; simp only [Act.put, List.setIfInBounds_toArray, List.set_cons_succ, List.set_cons_zero]), F.two, ?_⟩
  refine textS_call (o := _) (by conv => lhs; simp only [List.getElem?_toArray, List.getElem?_cons_succ, List.getElem?_cons_zero]) (by rfl) (by rfl) ?_
  obtain ⟨fn, tm, as1, bd, hy, hr⟩ := hY.zero 4 _ F.low
  refine wpIn_yield rfl ?_ hr ?_
  · go_simp
  rintro e y0 ⟨rfl, hlow⟩
  replace F := F.zero hB hlow
  clear hy hr hlow
  refine ⟨_, _, rfl, (by conv => lhs; simp only [Act.put, List.setIfInBounds_toArray, List.set_cons_succ, List.set_cons_zero]), F.two, ?_⟩
  refine textS_take (o := _) (.bool false) (by conv => lhs; simp only [List.getElem?_toArray, List.getElem?_cons_succ, List.getElem?_cons_zero]) (by rfl) (by rfl) ?_ (fun _ => by rfl) (by conv => lhs; simp only [Act.put, List.setIfInBounds_toArray, List.set_cons_succ, List.set_cons_zero]) ?_
  · intro w _; go_simp
  refine textS_take (o := _) (.bool false) (by conv => lhs; simp only [List.getElem?_toArray, List.getElem?_cons_succ, List.getElem?_cons_zero]) (by rfl) (by rfl) ?_ (fun _ => by rfl) (by conv => lhs; simp only [Act.put, List.setIfInBounds_toArray, List.set_cons_succ, List.set_cons_zero]) ?_
  · intro w _; go_simp
  refine textS_take (o := _) (.bool false) (by conv => lhs; simp only [List.getElem?_toArray, List.getElem?_cons_succ, List.getElem?_cons_zero]) (by rfl) (by rfl) ?_ (fun _ => by rfl) (by conv => lhs; simp only [Act.put, List.setIfInBounds_toArray, List.set_cons_succ, List.set_cons_zero]) ?_
  · intro w _; go_simp
  refine textS_take (o := _) (.func (.yield l) #[] #[]) (by conv => lhs; simp only [List.getElem?_toArray, List.getElem?_cons_succ, List.getElem?_cons_zero]) (by rfl) (by rfl) ?_ (fun _ => by rfl) (by conv => lhs; simp only [Act.put, List.setIfInBounds_toArray, List.set_cons_succ, List.set_cons_zero]) ?_
  · intro w _; go_simp
  refine textS_take (o := _) (.pointer (some ⟨W.heap.size, 1, none⟩)) (by conv => lhs; simp only [List.getElem?_toArray, List.getElem?_cons_succ, List.getElem?_cons_zero]) (by rfl) (by rfl) ?_ (fun _ => by rfl) (by conv => lhs; simp only [Act.put, List.setIfInBounds_toArray, List.set_cons_succ, List.set_cons_zero]) ?_
  · intro w _; go_simp
  refine textS_take (o := _) (.bool ba) (by conv => lhs; simp only [List.getElem?_toArray, List.getElem?_cons_succ, List.getElem?_cons_zero]) (by rfl) (by rfl) ?_ (fun _ => by rfl) (by conv => lhs; simp only [Act.put, List.setIfInBounds_toArray, List.set_cons_succ, List.set_cons_zero]) ?_
  · rintro w ⟨t0, t1⟩; obtain ⟨c0, c1, c2, c3, c4, c5⟩ := t0.cell; clear t0 t1; go_simp
  refine textS_take (o := _) (.pointer (some ⟨(W.heap.size + 1), 1, none⟩)) (by conv => lhs; simp only [List.getElem?_toArray, List.getElem?_cons_succ, List.getElem?_cons_zero]) (by rfl) (by rfl) ?_ (fun _ => by rfl) (by conv => lhs; simp only [Act.put, List.setIfInBounds_toArray, List.set_cons_succ, List.set_cons_zero]) ?_
  · intro w _; go_simp
  refine textS_take (o := _) (.bool bb) (by conv => lhs; simp only [List.getElem?_toArray, List.getElem?_cons_succ, List.getElem?_cons_zero]) (by rfl) (by rfl) ?_ (fun _ => by rfl) (by conv => lhs; simp only [Act.put, List.setIfInBounds_toArray, List.set_cons_succ, List.set_cons_zero]) ?_
  · rintro w ⟨t0, t1⟩; obtain ⟨c0, c1, c2, c3, c4, c5⟩ := t1.cell; clear t0 t1; go_simp
  refine textS_call (o := _) (by conv => lhs; simp only [List.getElem?_toArray, List.getElem?_cons_succ, List.getElem?_cons_zero]) (by rfl) (by rfl) ?_
  refine wpIn_call (f := 81) (args := #[.bool ba]) rfl ?_ (of_any ba y0) ?_
  · go_simp
  rintro e w2 ⟨rfl, rfl⟩
  refine ⟨_, _, rfl, (by conv => lhs; simp only [Act.put, List.setIfInBounds_toArray, List.set_cons_succ, List.set_cons_zero]), F.two, ?_⟩
  refine textS_call (o := _) (by conv => lhs; simp only [List.getElem?_toArray, List.getElem?_cons_succ, List.getElem?_cons_zero]) (by rfl) (by rfl) ?_
  refine wpIn_call (f := 81) (args := #[.bool bb]) rfl ?_ (of_any bb y0) ?_
  · go_simp
  rintro e w2 ⟨rfl, rfl⟩
  refine ⟨_, _, rfl, (by conv => lhs; simp only [Act.put, List.setIfInBounds_toArray, List.set_cons_succ, List.set_cons_zero]), F.two, ?_⟩
  refine textS_call (o := _) (by conv => lhs; simp only [List.getElem?_toArray, List.getElem?_cons_succ, List.getElem?_cons_zero]) (by rfl) (by rfl) ?_
  refine wpIn_call (f := 80) (args := #[.int .i64 (ofV ba), .int .i64 (ofV bb)]) rfl ?_ (cmp_truth _ _ y0) ?_
  · go_simp
  rintro e w2 ⟨rfl, rfl⟩
  refine ⟨_, _, rfl, (by conv => lhs; simp only [Act.put, List.setIfInBounds_toArray, List.set_cons_succ, List.set_cons_zero]), F.two, ?_⟩
  refine textS_call (o := _) (by conv => lhs; simp only [List.getElem?_toArray, List.getElem?_cons_succ, List.getElem?_cons_zero]) (by rfl) (by rfl) ?_
  obtain ⟨fn, tm, as1, bd, hy, hr⟩ := hY.stop 4 _ _ x1 F.low
  refine wpIn_yield rfl ?_ hr ?_
  · go_simp
  rintro e y1 ⟨rfl, hlow⟩
  clear hy hr
  replace F := F.stop hBA hlow
  refine ⟨_, _, rfl, (by conv => lhs; simp only [Act.put, List.setIfInBounds_toArray, List.set_cons_succ, List.set_cons_zero]), F.two, ?_⟩
  refine textS_take (o := _) (.bool true) (by conv => lhs; simp only [List.getElem?_toArray, List.getElem?_cons_succ, List.getElem?_cons_zero]) (by rfl) (by rfl) ?_ (fun _ => by rfl) (by conv => lhs; simp only [Act.put, List.setIfInBounds_toArray, List.set_cons_succ, List.set_cons_zero]) ?_
  · intro w _; go_simp
  refine textS_take (o := _) (.bool true) (by conv => lhs; simp only [List.getElem?_toArray, List.getElem?_cons_succ, List.getElem?_cons_zero]) (by rfl) (by rfl) ?_ (fun _ => by rfl) (by conv => lhs; simp only [Act.put, List.setIfInBounds_toArray, List.set_cons_succ, List.set_cons_zero]) ?_
  · intro w _; go_simp
  refine textS_take (o := _) (.bool true) (by conv => lhs; simp only [List.getElem?_toArray, List.getElem?_cons_succ, List.getElem?_cons_zero]) (by rfl) (by rfl) ?_ (fun _ => by rfl) (by conv => lhs; simp only [Act.put, List.setIfInBounds_toArray, List.set_cons_succ, List.set_cons_zero]) ?_
  · intro w _; go_simp
  refine textS_skip (o := _) (by conv => lhs; simp only [List.getElem?_toArray, List.getElem?_cons_succ, List.getElem?_cons_zero]) (by rfl) (by rfl) (fun _ => by rfl) (by conv => lhs; simp only [Act.put, List.setIfInBounds_toArray, List.set_cons_succ, List.set_cons_zero]) ?_
  refine textS_skip (o := _) (by conv => lhs; simp only [List.getElem?_toArray, List.getElem?_cons_succ, List.getElem?_cons_zero]) (by rfl) (by rfl) (fun _ => by rfl) (by conv => lhs; simp only [Act.put, List.setIfInBounds_toArray, List.set_cons_succ, List.set_cons_zero]) ?_
  refine textS_skip (o := _) (by conv => lhs; simp only [List.getElem?_toArray, List.getElem?_cons_succ, List.getElem?_cons_zero]) (by rfl) (by rfl) (fun _ => by rfl) (by conv => lhs; simp only [Act.put, List.setIfInBounds_toArray, List.set_cons_succ, List.set_cons_zero]) ?_
  refine textS_skip (o := _) (by conv => lhs; simp only [List.getElem?_toArray, List.getElem?_cons_succ, List.getElem?_cons_zero]) (by rfl) (by rfl) (fun _ => by rfl) (by conv => lhs; simp only [Act.put, List.setIfInBounds_toArray, List.set_cons_succ, List.set_cons_zero]) ?_
  refine textS_skip (o := _) (by conv => lhs; simp only [List.getElem?_toArray, List.getElem?_cons_succ, List.getElem?_cons_zero]) (by rfl) (by rfl) (fun _ => by rfl) (by conv => lhs; simp only [Act.put, List.setIfInBounds_toArray, List.set_cons_succ, List.set_cons_zero]) ?_
  refine textS_callSkip (o := _) (by conv => lhs; simp only [List.getElem?_toArray, List.getElem?_cons_succ, List.getElem?_cons_zero]) (by rfl) (by rfl) (fun _ => trivial) F.two (by conv => lhs; simp only [Act.put, List.setIfInBounds_toArray, List.set_cons_succ, List.set_cons_zero]) ?_
  refine textS_callSkip (o := _) (by conv => lhs; simp only [List.getElem?_toArray, List.getElem?_cons_succ, List.getElem?_cons_zero]) (by rfl) (by rfl) (fun _ => trivial) F.two (by conv => lhs; simp only [Act.put, List.setIfInBounds_toArray, List.set_cons_succ, List.set_cons_zero]) ?_
  refine textS_skip (o := _) (by conv => lhs; simp only [List.getElem?_toArray, List.getElem?_cons_succ, List.getElem?_cons_zero]) (by rfl) (by rfl) (fun _ => by rfl) (by conv => lhs; simp only [Act.put, List.setIfInBounds_toArray, List.set_cons_succ, List.set_cons_zero]) ?_
  refine textS_take (o := _) (.bool true) (by conv => lhs; simp only [List.getElem?_toArray, List.getElem?_cons_succ, List.getElem?_cons_zero]) (by rfl) (by rfl) ?_ (fun _ => by rfl) (by conv => lhs; simp only [Act.put, List.setIfInBounds_toArray, List.set_cons_succ, List.set_cons_zero]) ?_
  · intro w _; go_simp
  refine textS_take (o := _) (.bool true) (by conv => lhs; simp only [List.getElem?_toArray, List.getElem?_cons_succ, List.getElem?_cons_zero]) (by rfl) (by rfl) ?_ (fun _ => by rfl) (by conv => lhs; simp only [Act.put, List.setIfInBounds_toArray, List.set_cons_succ, List.set_cons_zero]) ?_
  · intro w _; go_simp
  refine textS_skip (o := _) (by conv => lhs; simp only [List.getElem?_toArray, List.getElem?_cons_succ, List.getElem?_cons_zero]) (by rfl) (by rfl) (fun _ => by rfl) (by conv => lhs; simp only [Act.put, List.setIfInBounds_toArray, List.set_cons_succ, List.set_cons_zero]) ?_
  refine textS_skip (o := _) (by conv => lhs; simp only [List.getElem?_toArray, List.getElem?_cons_succ, List.getElem?_cons_zero]) (by rfl) (by rfl) (fun _ => by rfl) (by conv => lhs; simp only [Act.put, List.setIfInBounds_toArray, List.set_cons_succ, List.set_cons_zero]) ?_
  refine textS_skip (o := _) (by conv => lhs; simp only [List.getElem?_toArray, List.getElem?_cons_succ, List.getElem?_cons_zero]) (by rfl) (by rfl) (fun _ => by rfl) (by conv => lhs; simp only [Act.put, List.setIfInBounds_toArray, List.set_cons_succ, List.set_cons_zero]) ?_
  refine textS_skip (o := _) (by conv => lhs; simp only [List.getElem?_toArray, List.getElem?_cons_succ, List.getElem?_cons_zero]) (by rfl) (by rfl) (fun _ => by rfl) (by conv => lhs; simp only [Act.put, List.setIfInBounds_toArray, List.set_cons_succ, List.set_cons_zero]) ?_
  refine textS_skip (o := _) (by conv => lhs; simp only [List.getElem?_toArray, List.getElem?_cons_succ, List.getElem?_cons_zero]) (by rfl) (by rfl) (fun _ => by rfl) (by conv => lhs; simp only [Act.put, List.setIfInBounds_toArray, List.set_cons_succ, List.set_cons_zero]) ?_
  refine textS_callSkip (o := _) (by conv => lhs; simp only [List.getElem?_toArray, List.getElem?_cons_succ, List.getElem?_cons_zero]) (by rfl) (by rfl) (fun _ => trivial) F.two (by conv => lhs; simp only [Act.put, List.setIfInBounds_toArray, List.set_cons_succ, List.set_cons_zero]) ?_
  refine textS_callSkip (o := _) (by conv => lhs; simp only [List.getElem?_toArray, List.getElem?_cons_succ, List.getElem?_cons_zero]) (by rfl) (by rfl) (fun _ => trivial) F.two (by conv => lhs; simp only [Act.put, List.setIfInBounds_toArray, List.set_cons_succ, List.set_cons_zero]) ?_
  refine textS_skip (o := _) (by conv => lhs; simp only [List.getElem?_toArray, List.getElem?_cons_succ, List.getElem?_cons_zero]) (by rfl) (by rfl) (fun _ => by rfl) (by conv => lhs; simp only [Act.put, List.setIfInBounds_toArray, List.set_cons_succ, List.set_cons_zero]) ?_
  refine textS_take (o := _) (.bool true) (by conv => lhs; simp only [List.getElem?_toArray, List.getElem?_cons_succ, List.getElem?_cons_zero]) (by rfl) (by rfl) ?_ (fun _ => by rfl) (by conv => lhs; simp only [Act.put, List.setIfInBounds_toArray, List.set_cons_succ, List.set_cons_zero]) ?_
  · intro w _; go_simp
  refine NoPanic.normal ?_
  refine hK2 _ _ ?_
  clear hK1 hK2
  have low := F.low
  have above := F.above
  clear F hY hR hP hlow
  go_wp2
  go_ret
  exact ⟨rfl, low, above⟩
set_option maxRecDepth 100000 in
set_option maxHeartbeats 4000000 in
theorem compare_stopY2 {lo B l R : Nat} {Wl W : World} {WS : Int → World} (hY : Yld lo l B Wl WS) (hB : B ≤ Wl.heap.size) (hRB : B ≤ R) (hg : 1 < B) (ka na kb nb : Int) (ba bb : Bool) (sa sb : ByteArray) (la qa lb qb : Value) (d m : Int) (hR : Reach W R d m) (hP : Places W) (hlow : Below B Wl W) (hd : 0 < d) (hm : 0 < m) (hd' : d ≤ 65536) (hm' : m ≤ 4194304) (x0 : cmpV (placeV ka) (placeV kb) = 0) (x1 : cmpV (ofV ba) (ofV bb) = 0) (x2 : cmpV na nb ≠ 0) :
    Calls Tryd.prog 66 #[.pointer (some ⟨R, 0, none⟩), .agg #[.int .i64 ka, .bool ba, .int .i64 na, .string sa, la, qa], .agg #[.int .i64 kb, .bool bb, .int .i64 nb, .string sb, lb, qb], .func (.yield l) #[] #[]] W fun e w' => e = .returned (.bool false) ∧ Below B (WS (cmpV na nb)) w' ∧ AboveR B R W w' := by
  have hRA : R < W.heap.size := hR.lt
  have hBA : B ≤ W.heap.size := Nat.le_trans hB hlow.size
  have F := Fy.start #[.int .i64 ka, .bool ba, .int .i64 na, .string sa, la, qa] #[.int .i64 kb, .bool bb, .int .i64 nb, .string sb, lb, qb] hB hlow hP hR
  go_enter Tryd.func66, Tryd.ntmps66
  go_wp2
  rename_i Q' K1 hK1 K2 hK2
  refine wp_region_noPanic ?_
  refine wpIn_wide (n := 5).1 ?_
  refine wpIn_region_text (Two W.heap.size #[.int .i64 ka, .bool ba, .int .i64 na, .string sa, la, qa] #[.int .i64 kb, .bool bb, .int .i64 nb, .string sb, lb, qb]) [0, 1, 2, 3, 4, 5, 6, 8, 9, 7, 10, 11, 12, 13, 14, 15, 16, 17, 18, 20, 21, 19, 22, 23, 24, 25, 26, 27, 28, 29, 30, 31, 32, 33, 34, 35, 36, 37, 38, 39, 40, 41, 42, 43, 44, 45, 46] rfl (by kernel_rfl) (by kernel_rfl) (by kernel_rfl) (by kernel_rfl) (fun _ _ _ _ _ h => h) F.two ?_
  generalize ((W.alloc (.cells #[.int .i64 ka, .bool ba, .int .i64 na, .string sa, la, qa] 26)).alloc (.cells #[.int .i64 kb, .bool bb, .int .i64 nb, .string sb, lb, qb] 26)).drew = w0 at F ⊢
  refine textS_take (o := _) (.pointer (some ⟨R, 0, none⟩)) (by conv => lhs; simp only [List.getElem?_toArray, List.getElem?_cons_succ, List.getElem?_cons_zero]) (by rfl) (by rfl) ?_ (fun _ => by rfl) (by conv => lhs; simp only [Act.put, List.setIfInBounds_toArray, List.set_cons_succ, List.set_cons_zero]) ?_
  · intro w _; go_simp
  refine textS_call (o := _) (by conv => lhs; simp only [List.getElem?_toArray, List.getElem?_cons_succ, List.getElem?_cons_zero]) (by rfl) (by rfl) ?_
  refine wpIn_call (f := 67) (args := #[.pointer (some ⟨R, 0, none⟩)]) rfl ?_ (enter_yes R d m _ F.reach hd hm hd' hm') ?_
  · go_simp
  rintro e w1 ⟨rfl, hw1⟩
  replace F := F.enter hRB hRA hg hw1
  clear hw1
  refine ⟨_, _, rfl, (by conv => lhs; simp only [Act.put, List.setIfInBounds_toArray, List.set_cons_succ, List.set_cons_zero]), F.two, ?_⟩
  refine textS_take (o := _) (.bool false) (by conv => lhs; simp only [List.getElem?_toArray, List.getElem?_cons_succ, List.getElem?_cons_zero]) (by rfl) (by rfl) ?_ (fun _ => by rfl) (by conv => lhs; simp only [Act.put, List.setIfInBounds_toArray, List.set_cons_succ, List.set_cons_zero]) ?_
  · intro w _; go_simp
  refine textS_take (o := _) (.bool false) (by conv => lhs; simp only [List.getElem?_toArray, List.getElem?_cons_succ, List.getElem?_cons_zero]) (by rfl) (by rfl) ?_ (fun _ => by rfl) (by conv => lhs; simp only [Act.put, List.setIfInBounds_toArray, List.set_cons_succ, List.set_cons_zero]) ?_
  · intro w _; go_simp
  refine textS_take (o := _) (.func (.yield l) #[] #[]) (by conv => lhs; simp only [List.getElem?_toArray, List.getElem?_cons_succ, List.getElem?_cons_zero]) (by rfl) (by rfl) ?_ (fun _ => by rfl) (by conv => lhs; simp only [Act.put, List.setIfInBounds_toArray, List.set_cons_succ, List.set_cons_zero]) ?_
  · intro w _; go_simp
  refine textS_take (o := _) (.pointer (some ⟨W.heap.size, 0, none⟩)) (by conv => lhs; simp only [List.getElem?_toArray, List.getElem?_cons_succ, List.getElem?_cons_zero]) (by rfl) (by rfl) ?_ (fun _ => by rfl) (by conv => lhs; simp only [Act.put, List.setIfInBounds_toArray, List.set_cons_succ, List.set_cons_zero]) ?_
  · intro w _; go_simp
  refine textS_take (o := _) (.int .i64 ka) (by conv => lhs; simp only [List.getElem?_toArray, List.getElem?_cons_succ, List.getElem?_cons_zero]) (by rfl) (by rfl) ?_ (fun _ => by rfl) (by conv => lhs; simp only [Act.put, List.setIfInBounds_toArray, List.set_cons_succ, List.set_cons_zero]) ?_
  · rintro w ⟨t0, t1⟩; obtain ⟨c0, c1, c2, c3, c4, c5⟩ := t0.cell; clear t0 t1; go_simp
  refine textS_take (o := _) (.pointer (some ⟨(W.heap.size + 1), 0, none⟩)) (by conv => lhs; simp only [List.getElem?_toArray, List.getElem?_cons_succ, List.getElem?_cons_zero]) (by rfl) (by rfl) ?_ (fun _ => by rfl) (by conv => lhs; simp only [Act.put, List.setIfInBounds_toArray, List.set_cons_succ, List.set_cons_zero]) ?_
  · intro w _; go_simp
  refine textS_take (o := _) (.int .i64 kb) (by conv => lhs; simp only [List.getElem?_toArray, List.getElem?_cons_succ, List.getElem?_cons_zero]) (by rfl) (by rfl) ?_ (fun _ => by rfl) (by conv => lhs; simp only [Act.put, List.setIfInBounds_toArray, List.set_cons_succ, List.set_cons_zero]) ?_
  · rintro w ⟨t0, t1⟩; obtain ⟨c0, c1, c2, c3, c4, c5⟩ := t1.cell; clear t0 t1; go_simp
  refine textS_call (o := _) (by conv => lhs; simp only [List.getElem?_toArray, List.getElem?_cons_succ, List.getElem?_cons_zero]) (by rfl) (by rfl) ?_
  refine wpIn_call (f := 79) (args := #[.int .i64 ka]) rfl ?_ (place_any ka w1 F.places) ?_
  · go_simp
  rintro e w2 ⟨rfl, rfl⟩
  refine ⟨_, _, rfl, (by conv => lhs; simp only [Act.put, List.setIfInBounds_toArray, List.set_cons_succ, List.set_cons_zero]), F.two, ?_⟩
  refine textS_call (o := _) (by conv => lhs; simp only [List.getElem?_toArray, List.getElem?_cons_succ, List.getElem?_cons_zero]) (by rfl) (by rfl) ?_
  refine wpIn_call (f := 79) (args := #[.int .i64 kb]) rfl ?_ (place_any kb w1 F.places) ?_
  · go_simp
  rintro e w2 ⟨rfl, rfl⟩
  refine ⟨_, _, rfl, (by conv => lhs; simp only [Act.put, List.setIfInBounds_toArray, List.set_cons_succ, List.set_cons_zero]), F.two, ?_⟩
  refine textS_call (o := _) (by conv => lhs; simp only [List.getElem?_toArray, List.getElem?_cons_succ, List.getElem?_cons_zero]) (by rfl) (by rfl) ?_
  refine wpIn_call (f := 46) (args := #[.int .i64 (placeV ka), .int .i64 (placeV kb)]) rfl ?_ (zero_of x0 (cmp_int _ _ w1)) ?_
  · go_simp
  rintro e w2 ⟨rfl, rfl⟩
  refine ⟨_, _, rfl, (by conv => lhs; simp only [Act.put, List.setIfInBounds_toArray, List.set_cons_succ, List.set_cons_zero]), F.two, ?_⟩
  refine textS_call (o := _) (by conv => lhs; simp only [List.getElem?_toArray, List.getElem?_cons_succ, List.getElem?_cons_zero]) (by rfl) (by rfl) ?_
  obtain ⟨fn, tm, as1, bd, hy, hr⟩ := hY.zero 4 _ F.low
  refine wpIn_yield rfl ?_ hr ?_
  · go_simp
  rintro e y0 ⟨rfl, hlow⟩
  replace F := F.zero hB hlow
  clear hy hr hlow
  refine ⟨_, _, rfl, (by conv => lhs; simp only [Act.put, List.setIfInBounds_toArray, List.set_cons_succ, List.set_cons_zero]), F.two, ?_⟩
  refine textS_take (o := _) (.bool false) (by conv => lhs; simp only [List.getElem?_toArray, List.getElem?_cons_succ, List.getElem?_cons_zero]) (by rfl) (by rfl) ?_ (fun _ => by rfl) (by conv => lhs; simp only [Act.put, List.setIfInBounds_toArray, List.set_cons_succ, List.set_cons_zero]) ?_
  · intro w _; go_simp
  refine textS_take (o := _) (.bool false) (by conv => lhs; simp only [List.getElem?_toArray, List.getElem?_cons_succ, List.getElem?_cons_zero]) (by rfl) (by rfl) ?_ (fun _ => by rfl) (by conv => lhs; simp only [Act.put, List.setIfInBounds_toArray, List.set_cons_succ, List.set_cons_zero]) ?_
  · intro w _; go_simp
  refine textS_take (o := _) (.bool false) (by conv => lhs; simp only [List.getElem?_toArray, List.getElem?_cons_succ, List.getElem?_cons_zero]) (by rfl) (by rfl) ?_ (fun _ => by rfl) (by conv => lhs; simp only [Act.put, List.setIfInBounds_toArray, List.set_cons_succ, List.set_cons_zero]) ?_
  · intro w _; go_simp
  refine textS_take (o := _) (.func (.yield l) #[] #[]) (by conv => lhs; simp only [List.getElem?_toArray, List.getElem?_cons_succ, List.getElem?_cons_zero]) (by rfl) (by rfl) ?_ (fun _ => by rfl) (by conv => lhs; simp only [Act.put, List.setIfInBounds_toArray, List.set_cons_succ, List.set_cons_zero]) ?_
  · intro w _; go_simp
  refine textS_take (o := _) (.pointer (some ⟨W.heap.size, 1, none⟩)) (by conv => lhs; simp only [List.getElem?_toArray, List.getElem?_cons_succ, List.getElem?_cons_zero]) (by rfl) (by rfl) ?_ (fun _ => by rfl) (by conv => lhs; simp only [Act.put, List.setIfInBounds_toArray, List.set_cons_succ, List.set_cons_zero]) ?_
  · intro w _; go_simp
  refine textS_take (o := _) (.bool ba) (by conv => lhs; simp only [List.getElem?_toArray, List.getElem?_cons_succ, List.getElem?_cons_zero]) (by rfl) (by rfl) ?_ (fun _ => by rfl) (by conv => lhs; simp only [Act.put, List.setIfInBounds_toArray, List.set_cons_succ, List.set_cons_zero]) ?_
  · rintro w ⟨t0, t1⟩; obtain ⟨c0, c1, c2, c3, c4, c5⟩ := t0.cell; clear t0 t1; go_simp
  refine textS_take (o := _) (.pointer (some ⟨(W.heap.size + 1), 1, none⟩)) (by conv => lhs; simp only [List.getElem?_toArray, List.getElem?_cons_succ, List.getElem?_cons_zero]) (by rfl) (by rfl) ?_ (fun _ => by rfl) (by conv => lhs; simp only [Act.put, List.setIfInBounds_toArray, List.set_cons_succ, List.set_cons_zero]) ?_
  · intro w _; go_simp
  refine textS_take (o := _) (.bool bb) (by conv => lhs; simp only [List.getElem?_toArray, List.getElem?_cons_succ, List.getElem?_cons_zero]) (by rfl) (by rfl) ?_ (fun _ => by rfl) (by conv => lhs; simp only [Act.put, List.setIfInBounds_toArray, List.set_cons_succ, List.set_cons_zero]) ?_
  · rintro w ⟨t0, t1⟩; obtain ⟨c0, c1, c2, c3, c4, c5⟩ := t1.cell; clear t0 t1; go_simp
  refine textS_call (o := _) (by conv => lhs; simp only [List.getElem?_toArray, List.getElem?_cons_succ, List.getElem?_cons_zero]) (by rfl) (by rfl) ?_
  refine wpIn_call (f := 81) (args := #[.bool ba]) rfl ?_ (of_any ba y0) ?_
  · go_simp
  rintro e w2 ⟨rfl, rfl⟩
  refine ⟨_, _, rfl, (by conv => lhs; simp only [Act.put, List.setIfInBounds_toArray, List.set_cons_succ, List.set_cons_zero]), F.two, ?_⟩
  refine textS_call (o := _) (by conv => lhs; simp only [List.getElem?_toArray, List.getElem?_cons_succ, List.getElem?_cons_zero]) (by rfl) (by rfl) ?_
  refine wpIn_call (f := 81) (args := #[.bool bb]) rfl ?_ (of_any bb y0) ?_
  · go_simp
  rintro e w2 ⟨rfl, rfl⟩
  refine ⟨_, _, rfl, (by conv => lhs; simp only [Act.put, List.setIfInBounds_toArray, List.set_cons_succ, List.set_cons_zero]), F.two, ?_⟩
  refine textS_call (o := _) (by conv => lhs; simp only [List.getElem?_toArray, List.getElem?_cons_succ, List.getElem?_cons_zero]) (by rfl) (by rfl) ?_
  refine wpIn_call (f := 80) (args := #[.int .i64 (ofV ba), .int .i64 (ofV bb)]) rfl ?_ (zero_of x1 (cmp_truth _ _ y0)) ?_
  · go_simp
  rintro e w2 ⟨rfl, rfl⟩
  refine ⟨_, _, rfl, (by conv => lhs; simp only [Act.put, List.setIfInBounds_toArray, List.set_cons_succ, List.set_cons_zero]), F.two, ?_⟩
  refine textS_call (o := _) (by conv => lhs; simp only [List.getElem?_toArray, List.getElem?_cons_succ, List.getElem?_cons_zero]) (by rfl) (by rfl) ?_
  obtain ⟨fn, tm, as1, bd, hy, hr⟩ := hY.zero 4 _ F.low
  refine wpIn_yield rfl ?_ hr ?_
  · go_simp
  rintro e y1 ⟨rfl, hlow⟩
  replace F := F.zero hB hlow
  clear hy hr hlow
  refine ⟨_, _, rfl, (by conv => lhs; simp only [Act.put, List.setIfInBounds_toArray, List.set_cons_succ, List.set_cons_zero]), F.two, ?_⟩
  refine textS_take (o := _) (.bool false) (by conv => lhs; simp only [List.getElem?_toArray, List.getElem?_cons_succ, List.getElem?_cons_zero]) (by rfl) (by rfl) ?_ (fun _ => by rfl) (by conv => lhs; simp only [Act.put, List.setIfInBounds_toArray, List.set_cons_succ, List.set_cons_zero]) ?_
  · intro w _; go_simp
  refine textS_take (o := _) (.bool false) (by conv => lhs; simp only [List.getElem?_toArray, List.getElem?_cons_succ, List.getElem?_cons_zero]) (by rfl) (by rfl) ?_ (fun _ => by rfl) (by conv => lhs; simp only [Act.put, List.setIfInBounds_toArray, List.set_cons_succ, List.set_cons_zero]) ?_
  · intro w _; go_simp
  refine textS_take (o := _) (.bool false) (by conv => lhs; simp only [List.getElem?_toArray, List.getElem?_cons_succ, List.getElem?_cons_zero]) (by rfl) (by rfl) ?_ (fun _ => by rfl) (by conv => lhs; simp only [Act.put, List.setIfInBounds_toArray, List.set_cons_succ, List.set_cons_zero]) ?_
  · intro w _; go_simp
  refine textS_take (o := _) (.func (.yield l) #[] #[]) (by conv => lhs; simp only [List.getElem?_toArray, List.getElem?_cons_succ, List.getElem?_cons_zero]) (by rfl) (by rfl) ?_ (fun _ => by rfl) (by conv => lhs; simp only [Act.put, List.setIfInBounds_toArray, List.set_cons_succ, List.set_cons_zero]) ?_
  · intro w _; go_simp
  refine textS_take (o := _) (.pointer (some ⟨W.heap.size, 2, none⟩)) (by conv => lhs; simp only [List.getElem?_toArray, List.getElem?_cons_succ, List.getElem?_cons_zero]) (by rfl) (by rfl) ?_ (fun _ => by rfl) (by conv => lhs; simp only [Act.put, List.setIfInBounds_toArray, List.set_cons_succ, List.set_cons_zero]) ?_
  · intro w _; go_simp
  refine textS_take (o := _) (.int .i64 na) (by conv => lhs; simp only [List.getElem?_toArray, List.getElem?_cons_succ, List.getElem?_cons_zero]) (by rfl) (by rfl) ?_ (fun _ => by rfl) (by conv => lhs; simp only [Act.put, List.setIfInBounds_toArray, List.set_cons_succ, List.set_cons_zero]) ?_
  · rintro w ⟨t0, t1⟩; obtain ⟨c0, c1, c2, c3, c4, c5⟩ := t0.cell; clear t0 t1; go_simp
  refine textS_take (o := _) (.pointer (some ⟨(W.heap.size + 1), 2, none⟩)) (by conv => lhs; simp only [List.getElem?_toArray, List.getElem?_cons_succ, List.getElem?_cons_zero]) (by rfl) (by rfl) ?_ (fun _ => by rfl) (by conv => lhs; simp only [Act.put, List.setIfInBounds_toArray, List.set_cons_succ, List.set_cons_zero]) ?_
  · intro w _; go_simp
  refine textS_take (o := _) (.int .i64 nb) (by conv => lhs; simp only [List.getElem?_toArray, List.getElem?_cons_succ, List.getElem?_cons_zero]) (by rfl) (by rfl) ?_ (fun _ => by rfl) (by conv => lhs; simp only [Act.put, List.setIfInBounds_toArray, List.set_cons_succ, List.set_cons_zero]) ?_
  · rintro w ⟨t0, t1⟩; obtain ⟨c0, c1, c2, c3, c4, c5⟩ := t1.cell; clear t0 t1; go_simp
  refine textS_call (o := _) (by conv => lhs; simp only [List.getElem?_toArray, List.getElem?_cons_succ, List.getElem?_cons_zero]) (by rfl) (by rfl) ?_
  refine wpIn_call (f := 82) (args := #[.int .i64 na, .int .i64 nb]) rfl ?_ (cmp_i64 _ _ y1) ?_
  · go_simp
  rintro e w2 ⟨rfl, rfl⟩
  refine ⟨_, _, rfl, (by conv => lhs; simp only [Act.put, List.setIfInBounds_toArray, List.set_cons_succ, List.set_cons_zero]), F.two, ?_⟩
  refine textS_call (o := _) (by conv => lhs; simp only [List.getElem?_toArray, List.getElem?_cons_succ, List.getElem?_cons_zero]) (by rfl) (by rfl) ?_
  obtain ⟨fn, tm, as1, bd, hy, hr⟩ := hY.stop 4 _ _ x2 F.low
  refine wpIn_yield rfl ?_ hr ?_
  · go_simp
  rintro e y2 ⟨rfl, hlow⟩
  clear hy hr
  replace F := F.stop hBA hlow
  refine ⟨_, _, rfl, (by conv => lhs; simp only [Act.put, List.setIfInBounds_toArray, List.set_cons_succ, List.set_cons_zero]), F.two, ?_⟩
  refine textS_take (o := _) (.bool true) (by conv => lhs; simp only [List.getElem?_toArray, List.getElem?_cons_succ, List.getElem?_cons_zero]) (by rfl) (by rfl) ?_ (fun _ => by rfl) (by conv => lhs; simp only [Act.put, List.setIfInBounds_toArray, List.set_cons_succ, List.set_cons_zero]) ?_
  · intro w _; go_simp
  refine textS_take (o := _) (.bool true) (by conv => lhs; simp only [List.getElem?_toArray, List.getElem?_cons_succ, List.getElem?_cons_zero]) (by rfl) (by rfl) ?_ (fun _ => by rfl) (by conv => lhs; simp only [Act.put, List.setIfInBounds_toArray, List.set_cons_succ, List.set_cons_zero]) ?_
  · intro w _; go_simp
  refine textS_take (o := _) (.bool true) (by conv => lhs; simp only [List.getElem?_toArray, List.getElem?_cons_succ, List.getElem?_cons_zero]) (by rfl) (by rfl) ?_ (fun _ => by rfl) (by conv => lhs; simp only [Act.put, List.setIfInBounds_toArray, List.set_cons_succ, List.set_cons_zero]) ?_
  · intro w _; go_simp
  refine textS_skip (o := _) (by conv => lhs; simp only [List.getElem?_toArray, List.getElem?_cons_succ, List.getElem?_cons_zero]) (by rfl) (by rfl) (fun _ => by rfl) (by conv => lhs; simp only [Act.put, List.setIfInBounds_toArray, List.set_cons_succ, List.set_cons_zero]) ?_
  refine textS_skip (o := _) (by conv => lhs; simp only [List.getElem?_toArray, List.getElem?_cons_succ, List.getElem?_cons_zero]) (by rfl) (by rfl) (fun _ => by rfl) (by conv => lhs; simp only [Act.put, List.setIfInBounds_toArray, List.set_cons_succ, List.set_cons_zero]) ?_
  refine textS_skip (o := _) (by conv => lhs; simp only [List.getElem?_toArray, List.getElem?_cons_succ, List.getElem?_cons_zero]) (by rfl) (by rfl) (fun _ => by rfl) (by conv => lhs; simp only [Act.put, List.setIfInBounds_toArray, List.set_cons_succ, List.set_cons_zero]) ?_
  refine textS_skip (o := _) (by conv => lhs; simp only [List.getElem?_toArray, List.getElem?_cons_succ, List.getElem?_cons_zero]) (by rfl) (by rfl) (fun _ => by rfl) (by conv => lhs; simp only [Act.put, List.setIfInBounds_toArray, List.set_cons_succ, List.set_cons_zero]) ?_
  refine textS_skip (o := _) (by conv => lhs; simp only [List.getElem?_toArray, List.getElem?_cons_succ, List.getElem?_cons_zero]) (by rfl) (by rfl) (fun _ => by rfl) (by conv => lhs; simp only [Act.put, List.setIfInBounds_toArray, List.set_cons_succ, List.set_cons_zero]) ?_
  refine textS_callSkip (o := _) (by conv => lhs; simp only [List.getElem?_toArray, List.getElem?_cons_succ, List.getElem?_cons_zero]) (by rfl) (by rfl) (fun _ => trivial) F.two (by conv => lhs; simp only [Act.put, List.setIfInBounds_toArray, List.set_cons_succ, List.set_cons_zero]) ?_
  refine textS_callSkip (o := _) (by conv => lhs; simp only [List.getElem?_toArray, List.getElem?_cons_succ, List.getElem?_cons_zero]) (by rfl) (by rfl) (fun _ => trivial) F.two (by conv => lhs; simp only [Act.put, List.setIfInBounds_toArray, List.set_cons_succ, List.set_cons_zero]) ?_
  refine textS_skip (o := _) (by conv => lhs; simp only [List.getElem?_toArray, List.getElem?_cons_succ, List.getElem?_cons_zero]) (by rfl) (by rfl) (fun _ => by rfl) (by conv => lhs; simp only [Act.put, List.setIfInBounds_toArray, List.set_cons_succ, List.set_cons_zero]) ?_
  refine textS_take (o := _) (.bool true) (by conv => lhs; simp only [List.getElem?_toArray, List.getElem?_cons_succ, List.getElem?_cons_zero]) (by rfl) (by rfl) ?_ (fun _ => by rfl) (by conv => lhs; simp only [Act.put, List.setIfInBounds_toArray, List.set_cons_succ, List.set_cons_zero]) ?_
  · intro w _; go_simp
  refine NoPanic.normal ?_
  refine hK2 _ _ ?_
  clear hK1 hK2
  have low := F.low
  have above := F.above
  clear F hY hR hP hlow
  go_wp2
  go_ret
  exact ⟨rfl, low, above⟩
set_option maxRecDepth 100000 in
set_option maxHeartbeats 4000000 in
theorem compare_stopY3 {lo B l R : Nat} {Wl W : World} {WS : Int → World} (hY : Yld lo l B Wl WS) (hB : B ≤ Wl.heap.size) (hRB : B ≤ R) (hg : 1 < B) (ka na kb nb : Int) (ba bb : Bool) (sa sb : ByteArray) (la qa lb qb : Value) (d m : Int) (hR : Reach W R d m) (hP : Places W) (hlow : Below B Wl W) (hd : 0 < d) (hm : 0 < m) (hd' : d ≤ 65536) (hm' : m ≤ 4194304) (x0 : cmpV (placeV ka) (placeV kb) = 0) (x1 : cmpV (ofV ba) (ofV bb) = 0) (x2 : cmpV na nb = 0) (x3 : Lib.compareBytes sa.data.toList sb.data.toList ≠ 0) :
    Calls Tryd.prog 66 #[.pointer (some ⟨R, 0, none⟩), .agg #[.int .i64 ka, .bool ba, .int .i64 na, .string sa, la, qa], .agg #[.int .i64 kb, .bool bb, .int .i64 nb, .string sb, lb, qb], .func (.yield l) #[] #[]] W fun e w' => e = .returned (.bool false) ∧ Below B (WS (Lib.compareBytes sa.data.toList sb.data.toList)) w' ∧ AboveR B R W w' := by
  have hRA : R < W.heap.size := hR.lt
  have hBA : B ≤ W.heap.size := Nat.le_trans hB hlow.size
  have F := Fy.start #[.int .i64 ka, .bool ba, .int .i64 na, .string sa, la, qa] #[.int .i64 kb, .bool bb, .int .i64 nb, .string sb, lb, qb] hB hlow hP hR
  go_enter Tryd.func66, Tryd.ntmps66
  go_wp2
  rename_i Q' K1 hK1 K2 hK2
  refine wp_region_noPanic ?_
  refine wpIn_wide (n := 5).1 ?_
  refine wpIn_region_text (Two W.heap.size #[.int .i64 ka, .bool ba, .int .i64 na, .string sa, la, qa] #[.int .i64 kb, .bool bb, .int .i64 nb, .string sb, lb, qb]) [0, 1, 2, 3, 4, 5, 6, 8, 9, 7, 10, 11, 12, 13, 14, 15, 16, 17, 18, 20, 21, 19, 22, 23, 24, 25, 26, 27, 28, 29, 30, 31, 32, 33, 34, 35, 36, 37, 38, 39, 40, 41, 42, 43, 44, 45, 46] rfl (by kernel_rfl) (by kernel_rfl) (by kernel_rfl) (by kernel_rfl) (fun _ _ _ _ _ h => h) F.two ?_
  generalize ((W.alloc (.cells #[.int .i64 ka, .bool ba, .int .i64 na, .string sa, la, qa] 26)).alloc (.cells #[.int .i64 kb, .bool bb, .int .i64 nb, .string sb, lb, qb] 26)).drew = w0 at F ⊢
  refine textS_take (o := _) (.pointer (some ⟨R, 0, none⟩)) (by conv => lhs; simp only [List.getElem?_toArray, List.getElem?_cons_succ, List.getElem?_cons_zero]) (by rfl) (by rfl) ?_ (fun _ => by rfl) (by conv => lhs; simp only [Act.put, List.setIfInBounds_toArray, List.set_cons_succ, List.set_cons_zero]) ?_
  · intro w _; go_simp
  refine textS_call (o := _) (by conv => lhs; simp only [List.getElem?_toArray, List.getElem?_cons_succ, List.getElem?_cons_zero]) (by rfl) (by rfl) ?_
  refine wpIn_call (f := 67) (args := #[.pointer (some ⟨R, 0, none⟩)]) rfl ?_ (enter_yes R d m _ F.reach hd hm hd' hm') ?_
  · go_simp
  rintro e w1 ⟨rfl, hw1⟩
  replace F := F.enter hRB hRA hg hw1
  clear hw1
  refine ⟨_, _, rfl, (by conv => lhs; simp only [Act.put, List.setIfInBounds_toArray, List.set_cons_succ, List.set_cons_zero]), F.two, ?_⟩
  refine textS_take (o := _) (.bool false) (by conv => lhs; simp only [List.getElem?_toArray, List.getElem?_cons_succ, List.getElem?_cons_zero]) (by rfl) (by rfl) ?_ (fun _ => by rfl) (by conv => lhs; simp only [Act.put, List.setIfInBounds_toArray, List.set_cons_succ, List.set_cons_zero]) ?_
  · intro w _; go_simp
  refine textS_take (o := _) (.bool false) (by conv => lhs; simp only [List.getElem?_toArray, List.getElem?_cons_succ, List.getElem?_cons_zero]) (by rfl) (by rfl) ?_ (fun _ => by rfl) (by conv => lhs; simp only [Act.put, List.setIfInBounds_toArray, List.set_cons_succ, List.set_cons_zero]) ?_
  · intro w _; go_simp
  refine textS_take (o := _) (.func (.yield l) #[] #[]) (by conv => lhs; simp only [List.getElem?_toArray, List.getElem?_cons_succ, List.getElem?_cons_zero]) (by rfl) (by rfl) ?_ (fun _ => by rfl) (by conv => lhs; simp only [Act.put, List.setIfInBounds_toArray, List.set_cons_succ, List.set_cons_zero]) ?_
  · intro w _; go_simp
  refine textS_take (o := _) (.pointer (some ⟨W.heap.size, 0, none⟩)) (by conv => lhs; simp only [List.getElem?_toArray, List.getElem?_cons_succ, List.getElem?_cons_zero]) (by rfl) (by rfl) ?_ (fun _ => by rfl) (by conv => lhs; simp only [Act.put, List.setIfInBounds_toArray, List.set_cons_succ, List.set_cons_zero]) ?_
  · intro w _; go_simp
  refine textS_take (o := _) (.int .i64 ka) (by conv => lhs; simp only [List.getElem?_toArray, List.getElem?_cons_succ, List.getElem?_cons_zero]) (by rfl) (by rfl) ?_ (fun _ => by rfl) (by conv => lhs; simp only [Act.put, List.setIfInBounds_toArray, List.set_cons_succ, List.set_cons_zero]) ?_
  · rintro w ⟨t0, t1⟩; obtain ⟨c0, c1, c2, c3, c4, c5⟩ := t0.cell; clear t0 t1; go_simp
  refine textS_take (o := _) (.pointer (some ⟨(W.heap.size + 1), 0, none⟩)) (by conv => lhs; simp only [List.getElem?_toArray, List.getElem?_cons_succ, List.getElem?_cons_zero]) (by rfl) (by rfl) ?_ (fun _ => by rfl) (by conv => lhs; simp only [Act.put, List.setIfInBounds_toArray, List.set_cons_succ, List.set_cons_zero]) ?_
  · intro w _; go_simp
  refine textS_take (o := _) (.int .i64 kb) (by conv => lhs; simp only [List.getElem?_toArray, List.getElem?_cons_succ, List.getElem?_cons_zero]) (by rfl) (by rfl) ?_ (fun _ => by rfl) (by conv => lhs; simp only [Act.put, List.setIfInBounds_toArray, List.set_cons_succ, List.set_cons_zero]) ?_
  · rintro w ⟨t0, t1⟩; obtain ⟨c0, c1, c2, c3, c4, c5⟩ := t1.cell; clear t0 t1; go_simp
  refine textS_call (o := _) (by conv => lhs; simp only [List.getElem?_toArray, List.getElem?_cons_succ, List.getElem?_cons_zero]) (by rfl) (by rfl) ?_
  refine wpIn_call (f := 79) (args := #[.int .i64 ka]) rfl ?_ (place_any ka w1 F.places) ?_
  · go_simp
  rintro e w2 ⟨rfl, rfl⟩
  refine ⟨_, _, rfl, (by conv => lhs; simp only [Act.put, List.setIfInBounds_toArray, List.set_cons_succ, List.set_cons_zero]), F.two, ?_⟩
  refine textS_call (o := _) (by conv => lhs; simp only [List.getElem?_toArray, List.getElem?_cons_succ, List.getElem?_cons_zero]) (by rfl) (by rfl) ?_
  refine wpIn_call (f := 79) (args := #[.int .i64 kb]) rfl ?_ (place_any kb w1 F.places) ?_
  · go_simp
  rintro e w2 ⟨rfl, rfl⟩
  refine ⟨_, _, rfl, (by conv => lhs; simp only [Act.put, List.setIfInBounds_toArray, List.set_cons_succ, List.set_cons_zero]), F.two, ?_⟩
  refine textS_call (o := _) (by conv => lhs; simp only [List.getElem?_toArray, List.getElem?_cons_succ, List.getElem?_cons_zero]) (by rfl) (by rfl) ?_
  refine wpIn_call (f := 46) (args := #[.int .i64 (placeV ka), .int .i64 (placeV kb)]) rfl ?_ (zero_of x0 (cmp_int _ _ w1)) ?_
  · go_simp
  rintro e w2 ⟨rfl, rfl⟩
  refine ⟨_, _, rfl, (by conv => lhs; simp only [Act.put, List.setIfInBounds_toArray, List.set_cons_succ, List.set_cons_zero]), F.two, ?_⟩
  refine textS_call (o := _) (by conv => lhs; simp only [List.getElem?_toArray, List.getElem?_cons_succ, List.getElem?_cons_zero]) (by rfl) (by rfl) ?_
  obtain ⟨fn, tm, as1, bd, hy, hr⟩ := hY.zero 4 _ F.low
  refine wpIn_yield rfl ?_ hr ?_
  · go_simp
  rintro e y0 ⟨rfl, hlow⟩
  replace F := F.zero hB hlow
  clear hy hr hlow
  refine ⟨_, _, rfl, (by conv => lhs; simp only [Act.put, List.setIfInBounds_toArray, List.set_cons_succ, List.set_cons_zero]), F.two, ?_⟩
  refine textS_take (o := _) (.bool false) (by conv => lhs; simp only [List.getElem?_toArray, List.getElem?_cons_succ, List.getElem?_cons_zero]) (by rfl) (by rfl) ?_ (fun _ => by rfl) (by conv => lhs; simp only [Act.put, List.setIfInBounds_toArray, List.set_cons_succ, List.set_cons_zero]) ?_
  · intro w _; go_simp
  refine textS_take (o := _) (.bool false) (by conv => lhs; simp only [List.getElem?_toArray, List.getElem?_cons_succ, List.getElem?_cons_zero]) (by rfl) (by rfl) ?_ (fun _ => by rfl) (by conv => lhs; simp only [Act.put, List.setIfInBounds_toArray, List.set_cons_succ, List.set_cons_zero]) ?_
  · intro w _; go_simp
  refine textS_take (o := _) (.bool false) (by conv => lhs; simp only [List.getElem?_toArray, List.getElem?_cons_succ, List.getElem?_cons_zero]) (by rfl) (by rfl) ?_ (fun _ => by rfl) (by conv => lhs; simp only [Act.put, List.setIfInBounds_toArray, List.set_cons_succ, List.set_cons_zero]) ?_
  · intro w _; go_simp
  refine textS_take (o := _) (.func (.yield l) #[] #[]) (by conv => lhs; simp only [List.getElem?_toArray, List.getElem?_cons_succ, List.getElem?_cons_zero]) (by rfl) (by rfl) ?_ (fun _ => by rfl) (by conv => lhs; simp only [Act.put, List.setIfInBounds_toArray, List.set_cons_succ, List.set_cons_zero]) ?_
  · intro w _; go_simp
  refine textS_take (o := _) (.pointer (some ⟨W.heap.size, 1, none⟩)) (by conv => lhs; simp only [List.getElem?_toArray, List.getElem?_cons_succ, List.getElem?_cons_zero]) (by rfl) (by rfl) ?_ (fun _ => by rfl) (by conv => lhs; simp only [Act.put, List.setIfInBounds_toArray, List.set_cons_succ, List.set_cons_zero]) ?_
  · intro w _; go_simp
  refine textS_take (o := _) (.bool ba) (by conv => lhs; simp only [List.getElem?_toArray, List.getElem?_cons_succ, List.getElem?_cons_zero]) (by rfl) (by rfl) ?_ (fun _ => by rfl) (by conv => lhs; simp only [Act.put, List.setIfInBounds_toArray, List.set_cons_succ, List.set_cons_zero]) ?_
  · rintro w ⟨t0, t1⟩; obtain ⟨c0, c1, c2, c3, c4, c5⟩ := t0.cell; clear t0 t1; go_simp
  refine textS_take (o := _) (.pointer (some ⟨(W.heap.size + 1), 1, none⟩)) (by conv => lhs; simp only [List.getElem?_toArray, List.getElem?_cons_succ, List.getElem?_cons_zero]) (by rfl) (by rfl) ?_ (fun _ => by rfl) (by conv => lhs; simp only [Act.put, List.setIfInBounds_toArray, List.set_cons_succ, List.set_cons_zero]) ?_
  · intro w _; go_simp
  refine textS_take (o := _) (.bool bb) (by conv => lhs; simp only [List.getElem?_toArray, List.getElem?_cons_succ, List.getElem?_cons_zero]) (by rfl) (by rfl) ?_ (fun _ => by rfl) (by conv => lhs; simp only [Act.put, List.setIfInBounds_toArray, List.set_cons_succ, List.set_cons_zero]) ?_
  · rintro w ⟨t0, t1⟩; obtain ⟨c0, c1, c2, c3, c4, c5⟩ := t1.cell; clear t0 t1; go_simp
  refine textS_call (o := _) (by conv => lhs; simp only [List.getElem?_toArray, List.getElem?_cons_succ, List.getElem?_cons_zero]) (by rfl) (by rfl) ?_
  refine wpIn_call (f := 81) (args := #[.bool ba]) rfl ?_ (of_any ba y0) ?_
  · go_simp
  rintro e w2 ⟨rfl, rfl⟩
  refine ⟨_, _, rfl, (by conv => lhs; simp only [Act.put, List.setIfInBounds_toArray, List.set_cons_succ, List.set_cons_zero]), F.two, ?_⟩
  refine textS_call (o := _) (by conv => lhs; simp only [List.getElem?_toArray, List.getElem?_cons_succ, List.getElem?_cons_zero]) (by rfl) (by rfl) ?_
  refine wpIn_call (f := 81) (args := #[.bool bb]) rfl ?_ (of_any bb y0) ?_
  · go_simp
  rintro e w2 ⟨rfl, rfl⟩
  refine ⟨_, _, rfl, (by conv => lhs; simp only [Act.put, List.setIfInBounds_toArray, List.set_cons_succ, List.set_cons_zero]), F.two, ?_⟩
  refine textS_call (o := _) (by conv => lhs; simp only [List.getElem?_toArray, List.getElem?_cons_succ, List.getElem?_cons_zero]) (by rfl) (by rfl) ?_
  refine wpIn_call (f := 80) (args := #[.int .i64 (ofV ba), .int .i64 (ofV bb)]) rfl ?_ (zero_of x1 (cmp_truth _ _ y0)) ?_
  · go_simp
  rintro e w2 ⟨rfl, rfl⟩
  refine ⟨_, _, rfl, (by conv => lhs; simp only [Act.put, List.setIfInBounds_toArray, List.set_cons_succ, List.set_cons_zero]), F.two, ?_⟩
  refine textS_call (o := _) (by conv => lhs; simp only [List.getElem?_toArray, List.getElem?_cons_succ, List.getElem?_cons_zero]) (by rfl) (by rfl) ?_
  obtain ⟨fn, tm, as1, bd, hy, hr⟩ := hY.zero 4 _ F.low
  refine wpIn_yield rfl ?_ hr ?_
  · go_simp
  rintro e y1 ⟨rfl, hlow⟩
  replace F := F.zero hB hlow
  clear hy hr hlow
  refine ⟨_, _, rfl, (by conv => lhs; simp only [Act.put, List.setIfInBounds_toArray, List.set_cons_succ, List.set_cons_zero]), F.two, ?_⟩
  refine textS_take (o := _) (.bool false) (by conv => lhs; simp only [List.getElem?_toArray, List.getElem?_cons_succ, List.getElem?_cons_zero]) (by rfl) (by rfl) ?_ (fun _ => by rfl) (by conv => lhs; simp only [Act.put, List.setIfInBounds_toArray, List.set_cons_succ, List.set_cons_zero]) ?_
  · intro w _; go_simp
  refine textS_take (o := _) (.bool false) (by conv => lhs; simp only [List.getElem?_toArray, List.getElem?_cons_succ, List.getElem?_cons_zero]) (by rfl) (by rfl) ?_ (fun _ => by rfl) (by conv => lhs; simp only [Act.put, List.setIfInBounds_toArray, List.set_cons_succ, List.set_cons_zero]) ?_
  · intro w _; go_simp
  refine textS_take (o := _) (.bool false) (by conv => lhs; simp only [List.getElem?_toArray, List.getElem?_cons_succ, List.getElem?_cons_zero]) (by rfl) (by rfl) ?_ (fun _ => by rfl) (by conv => lhs; simp only [Act.put, List.setIfInBounds_toArray, List.set_cons_succ, List.set_cons_zero]) ?_
  · intro w _; go_simp
  refine textS_take (o := _) (.func (.yield l) #[] #[]) (by conv => lhs; simp only [List.getElem?_toArray, List.getElem?_cons_succ, List.getElem?_cons_zero]) (by rfl) (by rfl) ?_ (fun _ => by rfl) (by conv => lhs; simp only [Act.put, List.setIfInBounds_toArray, List.set_cons_succ, List.set_cons_zero]) ?_
  · intro w _; go_simp
  refine textS_take (o := _) (.pointer (some ⟨W.heap.size, 2, none⟩)) (by conv => lhs; simp only [List.getElem?_toArray, List.getElem?_cons_succ, List.getElem?_cons_zero]) (by rfl) (by rfl) ?_ (fun _ => by rfl) (by conv => lhs; simp only [Act.put, List.setIfInBounds_toArray, List.set_cons_succ, List.set_cons_zero]) ?_
  · intro w _; go_simp
  refine textS_take (o := _) (.int .i64 na) (by conv => lhs; simp only [List.getElem?_toArray, List.getElem?_cons_succ, List.getElem?_cons_zero]) (by rfl) (by rfl) ?_ (fun _ => by rfl) (by conv => lhs; simp only [Act.put, List.setIfInBounds_toArray, List.set_cons_succ, List.set_cons_zero]) ?_
  · rintro w ⟨t0, t1⟩; obtain ⟨c0, c1, c2, c3, c4, c5⟩ := t0.cell; clear t0 t1; go_simp
  refine textS_take (o := _) (.pointer (some ⟨(W.heap.size + 1), 2, none⟩)) (by conv => lhs; simp only [List.getElem?_toArray, List.getElem?_cons_succ, List.getElem?_cons_zero]) (by rfl) (by rfl) ?_ (fun _ => by rfl) (by conv => lhs; simp only [Act.put, List.setIfInBounds_toArray, List.set_cons_succ, List.set_cons_zero]) ?_
  · intro w _; go_simp
  refine textS_take (o := _) (.int .i64 nb) (by conv => lhs; simp only [List.getElem?_toArray, List.getElem?_cons_succ, List.getElem?_cons_zero]) (by rfl) (by rfl) ?_ (fun _ => by rfl) (by conv => lhs; simp only [Act.put, List.setIfInBounds_toArray, List.set_cons_succ, List.set_cons_zero]) ?_
  · rintro w ⟨t0, t1⟩; obtain ⟨c0, c1, c2, c3, c4, c5⟩ := t1.cell; clear t0 t1; go_simp
  refine textS_call (o := _) (by conv => lhs; simp only [List.getElem?_toArray, List.getElem?_cons_succ, List.getElem?_cons_zero]) (by rfl) (by rfl) ?_
  refine wpIn_call (f := 82) (args := #[.int .i64 na, .int .i64 nb]) rfl ?_ (zero_of x2 (cmp_i64 _ _ y1)) ?_
  · go_simp
  rintro e w2 ⟨rfl, rfl⟩
  refine ⟨_, _, rfl, (by conv => lhs; simp only [Act.put, List.setIfInBounds_toArray, List.set_cons_succ, List.set_cons_zero]), F.two, ?_⟩
  refine textS_call (o := _) (by conv => lhs; simp only [List.getElem?_toArray, List.getElem?_cons_succ, List.getElem?_cons_zero]) (by rfl) (by rfl) ?_
  obtain ⟨fn, tm, as1, bd, hy, hr⟩ := hY.zero 4 _ F.low
  refine wpIn_yield rfl ?_ hr ?_
  · go_simp
  rintro e y2 ⟨rfl, hlow⟩
  replace F := F.zero hB hlow
  clear hy hr hlow
  refine ⟨_, _, rfl, (by conv => lhs; simp only [Act.put, List.setIfInBounds_toArray, List.set_cons_succ, List.set_cons_zero]), F.two, ?_⟩
  refine textS_take (o := _) (.bool false) (by conv => lhs; simp only [List.getElem?_toArray, List.getElem?_cons_succ, List.getElem?_cons_zero]) (by rfl) (by rfl) ?_ (fun _ => by rfl) (by conv => lhs; simp only [Act.put, List.setIfInBounds_toArray, List.set_cons_succ, List.set_cons_zero]) ?_
  · intro w _; go_simp
  refine textS_take (o := _) (.bool false) (by conv => lhs; simp only [List.getElem?_toArray, List.getElem?_cons_succ, List.getElem?_cons_zero]) (by rfl) (by rfl) ?_ (fun _ => by rfl) (by conv => lhs; simp only [Act.put, List.setIfInBounds_toArray, List.set_cons_succ, List.set_cons_zero]) ?_
  · intro w _; go_simp
  refine textS_take (o := _) (.bool false) (by conv => lhs; simp only [List.getElem?_toArray, List.getElem?_cons_succ, List.getElem?_cons_zero]) (by rfl) (by rfl) ?_ (fun _ => by rfl) (by conv => lhs; simp only [Act.put, List.setIfInBounds_toArray, List.set_cons_succ, List.set_cons_zero]) ?_
  · intro w _; go_simp
  refine textS_take (o := _) (.func (.yield l) #[] #[]) (by conv => lhs; simp only [List.getElem?_toArray, List.getElem?_cons_succ, List.getElem?_cons_zero]) (by rfl) (by rfl) ?_ (fun _ => by rfl) (by conv => lhs; simp only [Act.put, List.setIfInBounds_toArray, List.set_cons_succ, List.set_cons_zero]) ?_
  · intro w _; go_simp
  refine textS_take (o := _) (.pointer (some ⟨W.heap.size, 3, none⟩)) (by conv => lhs; simp only [List.getElem?_toArray, List.getElem?_cons_succ, List.getElem?_cons_zero]) (by rfl) (by rfl) ?_ (fun _ => by rfl) (by conv => lhs; simp only [Act.put, List.setIfInBounds_toArray, List.set_cons_succ, List.set_cons_zero]) ?_
  · intro w _; go_simp
  refine textS_take (o := _) (.string sa) (by conv => lhs; simp only [List.getElem?_toArray, List.getElem?_cons_succ, List.getElem?_cons_zero]) (by rfl) (by rfl) ?_ (fun _ => by rfl) (by conv => lhs; simp only [Act.put, List.setIfInBounds_toArray, List.set_cons_succ, List.set_cons_zero]) ?_
  · rintro w ⟨t0, t1⟩; obtain ⟨c0, c1, c2, c3, c4, c5⟩ := t0.cell; clear t0 t1; go_simp
  refine textS_take (o := _) (.pointer (some ⟨(W.heap.size + 1), 3, none⟩)) (by conv => lhs; simp only [List.getElem?_toArray, List.getElem?_cons_succ, List.getElem?_cons_zero]) (by rfl) (by rfl) ?_ (fun _ => by rfl) (by conv => lhs; simp only [Act.put, List.setIfInBounds_toArray, List.set_cons_succ, List.set_cons_zero]) ?_
  · intro w _; go_simp
  refine textS_take (o := _) (.string sb) (by conv => lhs; simp only [List.getElem?_toArray, List.getElem?_cons_succ, List.getElem?_cons_zero]) (by rfl) (by rfl) ?_ (fun _ => by rfl) (by conv => lhs; simp only [Act.put, List.setIfInBounds_toArray, List.set_cons_succ, List.set_cons_zero]) ?_
  · rintro w ⟨t0, t1⟩; obtain ⟨c0, c1, c2, c3, c4, c5⟩ := t1.cell; clear t0 t1; go_simp
  refine textS_call (o := _) (by conv => lhs; simp only [List.getElem?_toArray, List.getElem?_cons_succ, List.getElem?_cons_zero]) (by rfl) (by rfl) ?_
  refine wpIn_call (f := 45) (args := #[.string sa, .string sb]) rfl ?_ (str_cmp _ _ y2) ?_
  · go_simp
  rintro e w2 ⟨rfl, rfl⟩
  refine ⟨_, _, rfl, (by conv => lhs; simp only [Act.put, List.setIfInBounds_toArray, List.set_cons_succ, List.set_cons_zero]), F.two, ?_⟩
  refine textS_call (o := _) (by conv => lhs; simp only [List.getElem?_toArray, List.getElem?_cons_succ, List.getElem?_cons_zero]) (by rfl) (by rfl) ?_
  obtain ⟨fn, tm, as1, bd, hy, hr⟩ := hY.stop 4 _ _ x3 F.low
  refine wpIn_yield rfl ?_ hr ?_
  · go_simp
  rintro e y3 ⟨rfl, hlow⟩
  clear hy hr
  replace F := F.stop hBA hlow
  refine ⟨_, _, rfl, (by conv => lhs; simp only [Act.put, List.setIfInBounds_toArray, List.set_cons_succ, List.set_cons_zero]), F.two, ?_⟩
  refine textS_take (o := _) (.bool true) (by conv => lhs; simp only [List.getElem?_toArray, List.getElem?_cons_succ, List.getElem?_cons_zero]) (by rfl) (by rfl) ?_ (fun _ => by rfl) (by conv => lhs; simp only [Act.put, List.setIfInBounds_toArray, List.set_cons_succ, List.set_cons_zero]) ?_
  · intro w _; go_simp
  refine textS_take (o := _) (.bool true) (by conv => lhs; simp only [List.getElem?_toArray, List.getElem?_cons_succ, List.getElem?_cons_zero]) (by rfl) (by rfl) ?_ (fun _ => by rfl) (by conv => lhs; simp only [Act.put, List.setIfInBounds_toArray, List.set_cons_succ, List.set_cons_zero]) ?_
  · intro w _; go_simp
  refine NoPanic.normal ?_
  refine hK2 _ _ ?_
  clear hK1 hK2
  have low := F.low
  have above := F.above
  clear F hY hR hP hlow
  go_wp2
  go_ret
  exact ⟨rfl, low, above⟩
end Val
end Go.Proofs.YtlmebeiopnfmdaaDoor
