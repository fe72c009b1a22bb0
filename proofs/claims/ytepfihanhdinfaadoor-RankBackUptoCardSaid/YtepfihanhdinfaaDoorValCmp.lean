/- THE WALK over (*reach).compare: the fields of two values held against each other, each comparison handed to yield, till it says no more. -/
import Derived.Test.YtepfihanhdinfaaDoorRows
import Derived.Test.YtepfihanhdinfaaDoorHeld
import Derived.Test.YtepfihanhdinfaaDoorValBase
import Derived.Test.YtepfihanhdinfaaDoorShelf
import Derived.WalkKit
import Derived.Lib.Hide
import Derived.Outline
import Derived.Deep.Cut
import Derived.Deep.CutRange
import Derived.Deep.DeepCutAuto
import Derived.Deep.RegionHeld3
import Derived.RangeFuncNested
import Derived.RangeFuncBound
import Derived.RangeFuncCalls
import Derived.RangeFuncLeaves
import Derived.OwnWalkIn
import Derived.TacticsInMore
namespace Go.Proofs.YtepfihanhdinfaaDoor
open Go.RowKit
set_option linter.unusedVariables false
set_option linter.unusedSimpArgs false
namespace Val
theorem str_cmp (a b : ByteArray) (w : World) : Calls Tryd.prog 40 #[.string a, .string b] w fun e w' => e = .returned (.int .i64 (Lib.compareBytes a.data.toList b.data.toList)) ∧ w = w' :=
  (Tryd.strings_Compare a b w).mono fun _ _ h => ⟨h.1, h.2.symm⟩
theorem zero_of {f : FuncId} {args : Array Value} {w : World} {x : Int} (h : x = 0) (hc : Calls Tryd.prog f args w fun e w' => e = .returned (.int .i64 x) ∧ w = w') : Calls Tryd.prog f args w fun e w' => e = .returned (.int .i64 0) ∧ w = w' := by
  rw [h] at hc
  exact hc
/-- A block of the call's own with a value's six cells. -/
def Box (w : World) (A : Nat) (cs : Array Value) : Prop := w.heap[A]? = some (.cells cs 26 (0, 0))
theorem Box.lt {w : World} {A : Nat} {cs : Array Value} (h : Box w A cs) : A < w.heap.size := by
  rcases Nat.lt_or_ge A w.heap.size with hlt | hge
  · exact hlt
  · unfold Box at h; rw [Array.getElem?_eq_none hge] at h; cases h
theorem Box.cell {w : World} {A : Nat} {c0 c1 c2 c3 c4 c5 : Value} (h : Box w A #[c0, c1, c2, c3, c4, c5]) : w.cell? ⟨A, 0, none⟩ = some c0 ∧ w.cell? ⟨A, 1, none⟩ = some c1 ∧ w.cell? ⟨A, 2, none⟩ = some c2 ∧ w.cell? ⟨A, 3, none⟩ = some c3 ∧ w.cell? ⟨A, 4, none⟩ = some c4 ∧ w.cell? ⟨A, 5, none⟩ = some c5 := by
  unfold Box at h
  simp [World.cell?, h]
theorem Box.new (w : World) (cs : Array Value) : Box (w.alloc (.cells cs 26)) w.heap.size cs := World.alloc_heap_new w _
theorem Box.alloc {w : World} {A : Nat} {cs : Array Value} (h : Box w A cs) (o : Obj) : Box (w.alloc o) A cs := (Below.heap_alloc w o A h.lt).trans h
theorem Box.far {w : World} {A : Nat} {cs : Array Value} (h : Box w A cs) {p : Addr} (hp : A ≠ p.block) (u : Value) : Box (w.setCell p u) A cs := (Below.heap_setCell w p u A hp).trans h
theorem Box.drew {w : World} {A : Nat} {cs : Array Value} (h : Box w A cs) : Box w.drew A cs := h
/-- What lies at B and above is as it was. -/
def Above (B : Nat) (W W' : World) : Prop := W.heap.size ≤ W'.heap.size ∧ ∀ k, B ≤ k → k < W.heap.size → W'.heap[k]? = W.heap[k]?
/-- What a round of the loop over comparisons answers: on, if the comparison is 0, all that lay lies as it lay; else no more, and what lies below B is as the round leaves it. -/
structure Yld (lo l B : Nat) (Wl : World) (WS : Int → World) : Prop where
  zero : ∀ (m : Nat) (W : World), Below B Wl W → YieldAt Fence.wide m Tryd.prog l #[.int .i64 0] W fun e W' => e = .returned (.bool true) ∧ Below W.heap.size W W'
  stop : ∀ (m : Nat) (x : Int) (W : World), x ≠ 0 → Below B Wl W → YieldAt Fence.wide m Tryd.prog l #[.int .i64 x] W fun e W' => e = .returned (.bool false) ∧ Below B (WS x) W' ∧ Above B W W'
  keep : ∀ (x : Int) (k : Nat) (cs : Array Value), Box Wl k cs → Box (WS x) k cs
  kept : ∀ (x : Int) (p : Addr), p.block < lo → (WS x).cell? p = Wl.cell? p
/-- The two values' boxes. -/
def Two (A : Nat) (ca cb : Array Value) (w : World) : Prop := Box w A ca ∧ Box w (A + 1) cb
structure Fx (B A R : Nat) (Wl : World) (ca cb : Array Value) (d m : Int) (w : World) : Prop where
  two : Two A ca cb w
  places : Places w
  low : Below B Wl w
  reach : Reach w R d m
structure Fs (B A : Nat) (WS : World) (ca cb : Array Value) (w : World) : Prop where
  two : Two A ca cb w
  low : Below B WS w
theorem Fx.start {B R : Nat} {Wl W : World} {d m : Int} (ca cb : Array Value) (hB : B ≤ Wl.heap.size) (hlow : Below B Wl W) (hP : Places W) (hR : Reach W R d m) :
    Fx B W.heap.size R Wl ca cb d m ((W.alloc (.cells ca 26)).alloc (.cells cb 26)).drew where
  two := ⟨(Box.new W ca).alloc _, by have := Box.new (W.alloc (.cells ca 26)) cb; rwa [World.size_alloc] at this⟩
  places := Places.drew (hP.below (((Below.refl _ W).alloc (Nat.le_refl _) _).alloc (by simp) _) hP.lt)
  low := (hlow.trans ((((Below.refl _ W).alloc (Nat.le_refl _) _).alloc (by simp) _).mono (Nat.le_trans hB hlow.size))).drew
  reach := (hR.alloc _).alloc _
theorem Fx.enter {B A R : Nat} {Wl w w' : World} {ca cb : Array Value} {d m d' m' : Int} (h : Fx B A R Wl ca cb d m w) (hRB : B ≤ R) (hRA : R < A) (hg : 1 < B)
    (hw : w' = (w.setCell ⟨R, 0, none⟩ (.int .i64 d')).setCell ⟨R, 1, none⟩ (.int .i64 m')) : Fx B A R Wl ca cb d' m' w' := by
  subst hw
  have hb : Below B w ((w.setCell ⟨R, 0, none⟩ (.int .i64 d')).setCell ⟨R, 1, none⟩ (.int .i64 m')) := ((Below.refl _ w).setCell (p := ⟨R, 0, none⟩) hRB _).setCell (p := ⟨R, 1, none⟩) hRB _
  exact ⟨⟨(h.two.1.far (by simp; omega) _).far (by simp; omega) _, (h.two.2.far (by simp; omega) _).far (by simp; omega) _⟩, h.places.below hb hg, h.low.trans hb, h.reach.set _ _⟩
theorem Fx.zero {B A R : Nat} {Wl w w' : World} {ca cb : Array Value} {d m : Int} (h : Fx B A R Wl ca cb d m w) (hB : B ≤ Wl.heap.size) (hb : Below w.heap.size w w') : Fx B A R Wl ca cb d m w' :=
  ⟨⟨(hb.block _ h.two.1.lt).trans h.two.1, (hb.block _ h.two.2.lt).trans h.two.2⟩, h.places.below hb h.places.lt, h.low.trans (hb.mono (Nat.le_trans hB h.low.size)), h.reach.below hb h.reach.lt⟩
theorem Fx.stop {B A R : Nat} {Wl w w' W2 : World} {ca cb : Array Value} {d m : Int} (h : Fx B A R Wl ca cb d m w) (hBA : B ≤ A) (hs : Below B W2 w' ∧ Above B w w') : Fs B A W2 ca cb w' :=
  ⟨⟨(hs.2.2 _ hBA h.two.1.lt).trans h.two.1, (hs.2.2 _ (by omega) h.two.2.lt).trans h.two.2⟩, hs.1⟩
set_option maxRecDepth 100000 in
set_option maxHeartbeats 4000000 in
theorem compare_stop0 {lo B l R : Nat} {Wl W : World} {WS : Int → World} (hY : Yld lo l B Wl WS) (hB : B ≤ Wl.heap.size) (hRB : B ≤ R) (hg : 1 < B) (ka na kb nb : Int) (ba bb : Bool) (sa sb : ByteArray) (la qa lb qb : Value) (d m : Int) (hR : Reach W R d m) (hP : Places W) (hlow : Below B Wl W) (hd : 0 < d) (hm : 0 < m) (hd' : d ≤ 65536) (hm' : m ≤ 4194304)  (x0 : cmpV (placeV ka) (placeV kb) ≠ 0) :
    Calls Tryd.prog 59 #[.pointer (some ⟨R, 0, none⟩), .agg #[.int .i64 ka, .bool ba, .int .i64 na, .string sa, la, qa], .agg #[.int .i64 kb, .bool bb, .int .i64 nb, .string sb, lb, qb], .func (.yield l) #[] #[]] W fun e w' => e = .returned (.bool false) ∧ Below B (WS (cmpV (placeV ka) (placeV kb))) w' := by
  have hRA : R < W.heap.size := hR.lt
  have hBA : B ≤ W.heap.size := Nat.le_trans hB hlow.size
  have F := Fx.start #[.int .i64 ka, .bool ba, .int .i64 na, .string sa, la, qa] #[.int .i64 kb, .bool bb, .int .i64 nb, .string sb, lb, qb] hB hlow hP hR
  go_enter Tryd.func59, Tryd.ntmps59
  go_wp2
  rename_i Q' K1 hK1 K2 hK2
  refine wp_region_noPanic ?_
  refine wpIn_wide (n := 5).1 ?_
  refine wpIn_region_text (Two W.heap.size #[.int .i64 ka, .bool ba, .int .i64 na, .string sa, la, qa] #[.int .i64 kb, .bool bb, .int .i64 nb, .string sb, lb, qb]) [0, 1, 2, 3, 4, 5, 6, 8, 9, 7, 10, 11, 12, 13, 14, 15, 16, 17, 18, 20, 21, 19, 22, 23, 24, 25, 26, 27, 28, 29, 30, 31, 32, 33, 34, 35, 36, 37, 38, 39, 40, 41, 42, 43, 44, 45, 46] rfl (by kernel_rfl) (by kernel_rfl) (by kernel_rfl) (by kernel_rfl) (fun _ _ _ _ _ h => h) F.two ?_
  generalize ((W.alloc (.cells #[.int .i64 ka, .bool ba, .int .i64 na, .string sa, la, qa] 26)).alloc (.cells #[.int .i64 kb, .bool bb, .int .i64 nb, .string sb, lb, qb] 26)).drew = w0 at F ⊢
  refine textS_take (o := _) (.pointer (some ⟨R, 0, none⟩)) (by conv => lhs; simp only [List.getElem?_toArray, List.getElem?_cons_succ, List.getElem?_cons_zero]) (by rfl) (by rfl) ?_ (fun _ => by rfl) (by conv => lhs; simp only [Act.put, List.setIfInBounds_toArray, List.set_cons_succ, List.set_cons_zero]) ?_
  · intro w _; go_simp
  refine textS_call (o := _) (by conv => lhs; simp only [List.getElem?_toArray, List.getElem?_cons_succ, List.getElem?_cons_zero]) (by rfl) (by rfl) ?_
  refine wpIn_call (f := 60) (args := #[.pointer (some ⟨R, 0, none⟩)]) rfl ?_ (enter_yes R d m _ F.reach hd hm hd' hm') ?_
  · go_simp
  rintro e w1 ⟨rfl, hw1⟩
  replace F := F.enter hRB hRA hg hw1
  clear hw1
  refine ⟨_, _, rfl, (by conv => lhs; simp only [Act.put, List.setIfInBounds_toArray, List.set_cons_succ, List.set_cons_zero]), F.two, ?_⟩
  refine textS_take (o := _) (.bool false) (by conv => lhs; simp only [List.getElem?_toArray, List.getElem?_cons_succ, List.getElem?_cons_zero]) (by rfl) (by rfl) ?_ (fun _ => by rfl) (by conv => lhs; simp only [Act.put, List.setIfInBounds_toArray, List.set_cons_succ, List.set_cons_zero]) ?_
  · intro w _; go_simp
  refine textS_take (o := _) (.bool false) (by conv => lhs; simp only [List.getElem?_toArray, List.getElem?_cons_succ, List.getElem?_cons_zero]) (by rfl) (by rfl) ?_ (fun _ => by rfl) (by conv => lhs; simp only [Act.put, List.setIfInBounds_toArray, List.set_cons_succ, List.set_cons_zero]) ?_
  · intro w _; go_simp
  refine textS_take (o := _) (.func (.yield l) #[] #[]) (by conv => lhs; simp only [List.getElem?_toArray, List.getElem?_cons_succ, List.getElem?_cons_zero]) (by rfl) (by rfl) ?_ (fun _ => by rfl) (by conv => lhs; simp only [Act.put, List.setIfInBounds_toArray, List.set_cons_succ, List.set_cons_zero]) ?_
  · intro w _; go_simp
  refine textS_take (o := _) (.pointer (some ⟨W.heap.size, 0, none⟩)) (by conv => lhs; simp only [List.getElem?_toArray, List.getElem?_cons_succ, List.getElem?_cons_zero]) (by rfl) (by rfl) ?_ (fun _ => by rfl) (by conv => lhs; simp only [Act.put, List.setIfInBounds_toArray, List.set_cons_succ, List.set_cons_zero]) ?_
  · intro w _; go_simp
  refine textS_take (o := _) (.int .i64 ka) (by conv => lhs; simp only [List.getElem?_toArray, List.getElem?_cons_succ, List.getElem?_cons_zero]) (by rfl) (by rfl) ?_ (fun _ => by rfl) (by conv => lhs; simp only [Act.put, List.setIfInBounds_toArray, List.set_cons_succ, List.set_cons_zero]) ?_
  · rintro w ⟨t0, t1⟩; obtain ⟨c0, c1, c2, c3, c4, c5⟩ := t0.cell; clear t0 t1; go_simp
  refine textS_take (o := _) (.pointer (some ⟨(W.heap.size + 1), 0, none⟩)) (by conv => lhs; simp only [List.getElem?_toArray, List.getElem?_cons_succ, List.getElem?_cons_zero]) (by rfl) (by rfl) ?_ (fun _ => by rfl) (by conv => lhs; simp only [Act.put, List.setIfInBounds_toArray, List.set_cons_succ, List.set_cons_zero]) ?_
  · intro w _; go_simp
  refine textS_take (o := _) (.int .i64 kb) (by conv => lhs; simp only [List.getElem?_toArray, List.getElem?_cons_succ, List.getElem?_cons_zero]) (by rfl) (by rfl) ?_ (fun _ => by rfl) (by conv => lhs; simp only [Act.put, List.setIfInBounds_toArray, List.set_cons_succ, List.set_cons_zero]) ?_
  · rintro w ⟨t0, t1⟩; obtain ⟨c0, c1, c2, c3, c4, c5⟩ := t1.cell; clear t0 t1; go_simp
  refine textS_call (o := _) (by conv => lhs; simp only [List.getElem?_toArray, List.getElem?_cons_succ, List.getElem?_cons_zero]) (by rfl) (by rfl) ?_
  refine wpIn_call (f := 72) (args := #[.int .i64 ka]) rfl ?_ (place_any ka w1 F.places) ?_
  · go_simp
  rintro e w2 ⟨rfl, rfl⟩
  refine ⟨_, _, rfl, (by conv => lhs; simp only [Act.put, List.setIfInBounds_toArray, List.set_cons_succ, List.set_cons_zero]), F.two, ?_⟩
  refine textS_call (o := _) (by conv => lhs; simp only [List.getElem?_toArray, List.getElem?_cons_succ, List.getElem?_cons_zero]) (by rfl) (by rfl) ?_
  refine wpIn_call (f := 72) (args := #[.int .i64 kb]) rfl ?_ (place_any kb w1 F.places) ?_
  · go_simp
  rintro e w2 ⟨rfl, rfl⟩
  refine ⟨_, _, rfl, (by conv => lhs; simp only [Act.put, List.setIfInBounds_toArray, List.set_cons_succ, List.set_cons_zero]), F.two, ?_⟩
  refine textS_call (o := _) (by conv => lhs; simp only [List.getElem?_toArray, List.getElem?_cons_succ, List.getElem?_cons_zero]) (by rfl) (by rfl) ?_
  refine wpIn_call (f := 41) (args := #[.int .i64 (placeV ka), .int .i64 (placeV kb)]) rfl ?_ (cmp_int _ _ w1) ?_
  · go_simp
  rintro e w2 ⟨rfl, rfl⟩
  refine ⟨_, _, rfl, (by conv => lhs; simp only [Act.put, List.setIfInBounds_toArray, List.set_cons_succ, List.set_cons_zero]), F.two, ?_⟩
  refine textS_call (o := _) (by conv => lhs; simp only [List.getElem?_toArray, List.getElem?_cons_succ, List.getElem?_cons_zero]) (by rfl) (by rfl) ?_
  obtain ⟨fn, tm, as1, bd, hy, hr⟩ := hY.stop 4 _ _ x0 F.low
  refine wpIn_yield rfl ?_ hr ?_
  · go_simp
  rintro e y0 ⟨rfl, hlow⟩
  clear hy hr
  replace F := F.stop hBA hlow
  refine ⟨_, _, rfl, (by conv => lhs; simp only [Act.put, List.setIfInBounds_toArray, List.set_cons_succ, List.set_cons_zero]), F.two, ?_⟩
  refine textS_take (o := _) (.bool true) (by conv => lhs; simp only [List.getElem?_toArray, List.getElem?_cons_succ, List.getElem?_cons_zero]) (by rfl) (by rfl) ?_ (fun _ => by rfl) (by conv => lhs; simp only [Act.put, List.setIfInBounds_toArray, List.set_cons_succ, List.set_cons_zero]) ?_
  · intro w _; go_simp
  refine textS_take (o := _) (.bool true) (by conv => lhs; simp only [List.getElem?_toArray, List.getElem?_cons_succ, List.getElem?_cons_zero]) (by rfl) (by rfl) ?_ (fun _ => by rfl) (by conv => lhs; simp only [Act.put, List.setIfInBounds_toArray, List.set_cons_succ, List.set_cons_zero]) ?_
  · intro w _; go_simp
  refine textS_take (o := _) (.bool true) (by conv => lhs; simp only [List.getElem?_toArray, List.getElem?_cons_succ, List.getElem?_cons_zero]) (by rfl) (by rfl) ?_ (fun _ => by rfl) (by conv => lhs; simp only [Act.put, List.setIfInBounds_toArray, List.set_cons_succ, List.set_cons_zero]) ?_
  · intro w _; go_simp
  refine textS_skip (o := _) (by conv => lhs; simp only [List.getElem?_toArray, List.getElem?_cons_succ, List.getElem?_cons_zero]) (by rfl) (by rfl) (fun _ => by rfl) (by conv => lhs; simp only [Act.put, List.setIfInBounds_toArray, List.set_cons_succ, List.set_cons_zero]) ?_
  refine textS_skip (o := _) (by conv => lhs; simp only [List.getElem?_toArray, List.getElem?_cons_succ, List.getElem?_cons_zero]) (by rfl) (by rfl) (fun _ => by rfl) (by conv => lhs; simp only [Act.put, List.setIfInBounds_toArray, List.set_cons_succ, List.set_cons_zero]) ?_
  refine textS_skip (o := _) (by conv => lhs; simp only [List.getElem?_toArray, List.getElem?_cons_succ, List.getElem?_cons_zero]) (by rfl) (by rfl) (fun _ => by rfl) (by conv => lhs; simp only [Act.put, List.setIfInBounds_toArray, List.set_cons_succ, List.set_cons_zero]) ?_
  refine textS_skip (o := _) (by conv => lhs; simp only [List.getElem?_toArray, List.getElem?_cons_succ, List.getElem?_cons_zero]) (by rfl) (by rfl) (fun _ => by rfl) (by conv => lhs; simp only [Act.put, List.setIfInBounds_toArray, List.set_cons_succ, List.set_cons_zero]) ?_
  refine textS_skip (o := _) (by conv => lhs; simp only [List.getElem?_toArray, List.getElem?_cons_succ, List.getElem?_cons_zero]) (by rfl) (by rfl) (fun _ => by rfl) (by conv => lhs; simp only [Act.put, List.setIfInBounds_toArray, List.set_cons_succ, List.set_cons_zero]) ?_
  refine textS_callSkip (o := _) (by conv => lhs; simp only [List.getElem?_toArray, List.getElem?_cons_succ, List.getElem?_cons_zero]) (by rfl) (by rfl) (fun _ => trivial) F.two (by conv => lhs; simp only [Act.put, List.setIfInBounds_toArray, List.set_cons_succ, List.set_cons_zero]) ?_
  refine textS_callSkip (o := _) (by conv => lhs; simp only [List.getElem?_toArray, List.getElem?_cons_succ, List.getElem?_cons_zero]) (by rfl) (by rfl) (fun _ => trivial) F.two (by conv => lhs; simp only [Act.put, List.setIfInBounds_toArray, List.set_cons_succ, List.set_cons_zero]) ?_
  refine textS_callSkip (o := _) (by conv => lhs; simp only [List.getElem?_toArray, List.getElem?_cons_succ, List.getElem?_cons_zero]) (by rfl) (by rfl) (fun _ => trivial) F.two (by conv => lhs; simp only [Act.put, List.setIfInBounds_toArray, List.set_cons_succ, List.set_cons_zero]) ?_
  refine textS_callSkip (o := _) (by conv => lhs; simp only [List.getElem?_toArray, List.getElem?_cons_succ, List.getElem?_cons_zero]) (by rfl) (by rfl) (fun _ => trivial) F.two (by conv => lhs; simp only [Act.put, List.setIfInBounds_toArray, List.set_cons_succ, List.set_cons_zero]) ?_
  refine textS_skip (o := _) (by conv => lhs; simp only [List.getElem?_toArray, List.getElem?_cons_succ, List.getElem?_cons_zero]) (by rfl) (by rfl) (fun _ => by rfl) (by conv => lhs; simp only [Act.put, List.setIfInBounds_toArray, List.set_cons_succ, List.set_cons_zero]) ?_
  refine textS_take (o := _) (.bool true) (by conv => lhs; simp only [List.getElem?_toArray, List.getElem?_cons_succ, List.getElem?_cons_zero]) (by rfl) (by rfl) ?_ (fun _ => by rfl) (by conv => lhs; simp only [Act.put, List.setIfInBounds_toArray, List.set_cons_succ, List.set_cons_zero]) ?_
  · intro w _; go_simp
  refine textS_take (o := _) (.bool true) (by conv => lhs; simp only [List.getElem?_toArray, List.getElem?_cons_succ, List.getElem?_cons_zero]) (by rfl) (by rfl) ?_ (fun _ => by rfl) (by conv => lhs; simp only [Act.put, List.setIfInBounds_toArray, List.set_cons_succ, List.set_cons_zero]) ?_
  · intro w _; go_simp
  refine textS_skip (o := _) (by conv => lhs; simp only [List.getElem?_toArray, List.getElem?_cons_succ, List.getElem?_cons_zero]) (by rfl) (by rfl) (fun _ => by rfl) (by conv => lhs; simp only [Act.put, List.setIfInBounds_toArray, List.set_cons_succ, List.set_cons_zero]) ?_
  refine textS_skip (o := _) (by conv => lhs; simp only [List.getElem?_toArray, List.getElem?_cons_succ, List.getElem?_cons_zero]) (by rfl) (by rfl) (fun _ => by rfl) (by conv => lhs; simp only [Act.put, List.setIfInBounds_toArray, List.set_cons_succ, List.set_cons_zero]) ?_
  refine textS_skip (o := _) (by conv => lhs; simp only [List.getElem?_toArray, List.getElem?_cons_succ, List.getElem?_cons_zero]) (by rfl) (by rfl) (fun _ => by rfl) (by conv => lhs; simp only [Act.put, List.setIfInBounds_toArray, List.set_cons_succ, List.set_cons_zero]) ?_
  refine textS_skip (o := _) (by conv => lhs; simp only [List.getElem?_toArray, List.getElem?_cons_succ, List.getElem?_cons_zero]) (by rfl) (by rfl) (fun _ => by rfl) (by conv => lhs; simp only [Act.put, List.setIfInBounds_toArray, List.set_cons_succ, List.set_cons_zero]) ?_
  refine textS_skip (o := _) (by conv => lhs; simp only [List.getElem?_toArray, List.getElem?_cons_succ, List.getElem?_cons_zero]) (by rfl) (by rfl) (fun _ => by rfl) (by conv => lhs; simp only [Act.put, List.setIfInBounds_toArray, List.set_cons_succ, List.set_cons_zero]) ?_
  refine textS_callSkip (o := _) (by conv => lhs; simp only [List.getElem?_toArray, List.getElem?_cons_succ, List.getElem?_cons_zero]) (by rfl) (by rfl) (fun _ => trivial) F.two (by conv => lhs; simp only [Act.put, List.setIfInBounds_toArray, List.set_cons_succ, List.set_cons_zero]) ?_
  refine textS_callSkip (o := _) (by conv => lhs; simp only [List.getElem?_toArray, List.getElem?_cons_succ, List.getElem?_cons_zero]) (by rfl) (by rfl) (fun _ => trivial) F.two (by conv => lhs; simp only [Act.put, List.setIfInBounds_toArray, List.set_cons_succ, List.set_cons_zero]) ?_
  refine textS_skip (o := _) (by conv => lhs; simp only [List.getElem?_toArray, List.getElem?_cons_succ, List.getElem?_cons_zero]) (by rfl) (by rfl) (fun _ => by rfl) (by conv => lhs; simp only [Act.put, List.setIfInBounds_toArray, List.set_cons_succ, List.set_cons_zero]) ?_
  refine textS_take (o := _) (.bool true) (by conv => lhs; simp only [List.getElem?_toArray, List.getElem?_cons_succ, List.getElem?_cons_zero]) (by rfl) (by rfl) ?_ (fun _ => by rfl) (by conv => lhs; simp only [Act.put, List.setIfInBounds_toArray, List.set_cons_succ, List.set_cons_zero]) ?_
  · intro w _; go_simp
  refine textS_take (o := _) (.bool true) (by conv => lhs; simp only [List.getElem?_toArray, List.getElem?_cons_succ, List.getElem?_cons_zero]) (by rfl) (by rfl) ?_ (fun _ => by rfl) (by conv => lhs; simp only [Act.put, List.setIfInBounds_toArray, List.set_cons_succ, List.set_cons_zero]) ?_
  · intro w _; go_simp
  refine textS_skip (o := _) (by conv => lhs; simp only [List.getElem?_toArray, List.getElem?_cons_succ, List.getElem?_cons_zero]) (by rfl) (by rfl) (fun _ => by rfl) (by conv => lhs; simp only [Act.put, List.setIfInBounds_toArray, List.set_cons_succ, List.set_cons_zero]) ?_
  refine textS_skip (o := _) (by conv => lhs; simp only [List.getElem?_toArray, List.getElem?_cons_succ, List.getElem?_cons_zero]) (by rfl) (by rfl) (fun _ => by rfl) (by conv => lhs; simp only [Act.put, List.setIfInBounds_toArray, List.set_cons_succ, List.set_cons_zero]) ?_
  refine textS_skip (o := _) (by conv => lhs; simp only [List.getElem?_toArray, List.getElem?_cons_succ, List.getElem?_cons_zero]) (by rfl) (by rfl) (fun _ => by rfl) (by conv => lhs; simp only [Act.put, List.setIfInBounds_toArray, List.set_cons_succ, List.set_cons_zero]) ?_
  refine textS_skip (o := _) (by conv => lhs; simp only [List.getElem?_toArray, List.getElem?_cons_succ, List.getElem?_cons_zero]) (by rfl) (by rfl) (fun _ => by rfl) (by conv => lhs; simp only [Act.put, List.setIfInBounds_toArray, List.set_cons_succ, List.set_cons_zero]) ?_
  refine textS_skip (o := _) (by conv => lhs; simp only [List.getElem?_toArray, List.getElem?_cons_succ, List.getElem?_cons_zero]) (by rfl) (by rfl) (fun _ => by rfl) (by conv => lhs; simp only [Act.put, List.setIfInBounds_toArray, List.set_cons_succ, List.set_cons_zero]) ?_
  refine textS_callSkip (o := _) (by conv => lhs; simp only [List.getElem?_toArray, List.getElem?_cons_succ, List.getElem?_cons_zero]) (by rfl) (by rfl) (fun _ => trivial) F.two (by conv => lhs; simp only [Act.put, List.setIfInBounds_toArray, List.set_cons_succ, List.set_cons_zero]) ?_
  refine textS_callSkip (o := _) (by conv => lhs; simp only [List.getElem?_toArray, List.getElem?_cons_succ, List.getElem?_cons_zero]) (by rfl) (by rfl) (fun _ => trivial) F.two (by conv => lhs; simp only [Act.put, List.setIfInBounds_toArray, List.set_cons_succ, List.set_cons_zero]) ?_
  refine textS_skip (o := _) (by conv => lhs; simp only [List.getElem?_toArray, List.getElem?_cons_succ, List.getElem?_cons_zero]) (by rfl) (by rfl) (fun _ => by rfl) (by conv => lhs; simp only [Act.put, List.setIfInBounds_toArray, List.set_cons_succ, List.set_cons_zero]) ?_
  refine textS_take (o := _) (.bool true) (by conv => lhs; simp only [List.getElem?_toArray, List.getElem?_cons_succ, List.getElem?_cons_zero]) (by rfl) (by rfl) ?_ (fun _ => by rfl) (by conv => lhs; simp only [Act.put, List.setIfInBounds_toArray, List.set_cons_succ, List.set_cons_zero]) ?_
  · intro w _; go_simp
  refine NoPanic.normal ?_
  refine hK2 _ _ ?_
  clear hK1 hK2
  have low := F.low
  clear F hY hR hP hlow
  go_wp2
  go_ret
  exact ⟨rfl, low⟩
set_option maxRecDepth 100000 in
set_option maxHeartbeats 4000000 in
theorem compare_stop1 {lo B l R : Nat} {Wl W : World} {WS : Int → World} (hY : Yld lo l B Wl WS) (hB : B ≤ Wl.heap.size) (hRB : B ≤ R) (hg : 1 < B) (ka na kb nb : Int) (ba bb : Bool) (sa sb : ByteArray) (la qa lb qb : Value) (d m : Int) (hR : Reach W R d m) (hP : Places W) (hlow : Below B Wl W) (hd : 0 < d) (hm : 0 < m) (hd' : d ≤ 65536) (hm' : m ≤ 4194304) (x0 : cmpV (placeV ka) (placeV kb) = 0) (x1 : cmpV (ofV ba) (ofV bb) ≠ 0) :
    Calls Tryd.prog 59 #[.pointer (some ⟨R, 0, none⟩), .agg #[.int .i64 ka, .bool ba, .int .i64 na, .string sa, la, qa], .agg #[.int .i64 kb, .bool bb, .int .i64 nb, .string sb, lb, qb], .func (.yield l) #[] #[]] W fun e w' => e = .returned (.bool false) ∧ Below B (WS (cmpV (ofV ba) (ofV bb))) w' := by
  have hRA : R < W.heap.size := hR.lt
  have hBA : B ≤ W.heap.size := Nat.le_trans hB hlow.size
  have F := Fx.start #[.int .i64 ka, .bool ba, .int .i64 na, .string sa, la, qa] #[.int .i64 kb, .bool bb, .int .i64 nb, .string sb, lb, qb] hB hlow hP hR
  go_enter Tryd.func59, Tryd.ntmps59
  go_wp2
  rename_i Q' K1 hK1 K2 hK2
  refine wp_region_noPanic ?_
  refine wpIn_wide (n := 5).1 ?_
  refine wpIn_region_text (Two W.heap.size #[.int .i64 ka, .bool ba, .int .i64 na, .string sa, la, qa] #[.int .i64 kb, .bool bb, .int .i64 nb, .string sb, lb, qb]) [0, 1, 2, 3, 4, 5, 6, 8, 9, 7, 10, 11, 12, 13, 14, 15, 16, 17, 18, 20, 21, 19, 22, 23, 24, 25, 26, 27, 28, 29, 30, 31, 32, 33, 34, 35, 36, 37, 38, 39, 40, 41, 42, 43, 44, 45, 46] rfl (by kernel_rfl) (by kernel_rfl) (by kernel_rfl) (by kernel_rfl) (fun _ _ _ _ _ h => h) F.two ?_
  generalize ((W.alloc (.cells #[.int .i64 ka, .bool ba, .int .i64 na, .string sa, la, qa] 26)).alloc (.cells #[.int .i64 kb, .bool bb, .int .i64 nb, .string sb, lb, qb] 26)).drew = w0 at F ⊢
  refine textS_take (o := _) (.pointer (some ⟨R, 0, none⟩)) (by conv => lhs; simp only [List.getElem?_toArray, List.getElem?_cons_succ, List.getElem?_cons_zero]) (by rfl) (by rfl) ?_ (fun _ => by rfl) (by conv => lhs; simp only [Act.put, List.setIfInBounds_toArray, List.set_cons_succ, List.set_cons_zero]) ?_
  · intro w _; go_simp
  refine textS_call (o := _) (by conv => lhs; simp only [List.getElem?_toArray, List.getElem?_cons_succ, List.getElem?_cons_zero]) (by rfl) (by rfl) ?_
  refine wpIn_call (f := 60) (args := #[.pointer (some ⟨R, 0, none⟩)]) rfl ?_ (enter_yes R d m _ F.reach hd hm hd' hm') ?_
  · go_simp
  rintro e w1 ⟨rfl, hw1⟩
  replace F := F.enter hRB hRA hg hw1
  clear hw1
  refine ⟨_, _, rfl, (by conv => lhs; simp only [Act.put, List.setIfInBounds_toArray, List.set_cons_succ, List.set_cons_zero]), F.two, ?_⟩
  refine textS_take (o := _) (.bool false) (by conv => lhs; simp only [List.getElem?_toArray, List.getElem?_cons_succ, List.getElem?_cons_zero]) (by rfl) (by rfl) ?_ (fun _ => by rfl) (by conv => lhs; simp only [Act.put, List.setIfInBounds_toArray, List.set_cons_succ, List.set_cons_zero]) ?_
  · intro w _; go_simp
  refine textS_take (o := _) (.bool false) (by conv => lhs; simp only [List.getElem?_toArray, List.getElem?_cons_succ, List.getElem?_cons_zero]) (by rfl) (by rfl) ?_ (fun _ => by rfl) (by conv => lhs; simp only [Act.put, List.setIfInBounds_toArray, List.set_cons_succ, List.set_cons_zero]) ?_
  · intro w _; go_simp
  refine textS_take (o := _) (.func (.yield l) #[] #[]) (by conv => lhs; simp only [List.getElem?_toArray, List.getElem?_cons_succ, List.getElem?_cons_zero]) (by rfl) (by rfl) ?_ (fun _ => by rfl) (by conv => lhs; simp only [Act.put, List.setIfInBounds_toArray, List.set_cons_succ, List.set_cons_zero]) ?_
  · intro w _; go_simp
  refine textS_take (o := _) (.pointer (some ⟨W.heap.size, 0, none⟩)) (by conv => lhs; simp only [List.getElem?_toArray, List.getElem?_cons_succ, List.getElem?_cons_zero]) (by rfl) (by rfl) ?_ (fun _ => by rfl) (by conv => lhs; simp only [Act.put, List.setIfInBounds_toArray, List.set_cons_succ, List.set_cons_zero]) ?_
  · intro w _; go_simp
  refine textS_take (o := _) (.int .i64 ka) (by conv => lhs; simp only [List.getElem?_toArray, List.getElem?_cons_succ, List.getElem?_cons_zero]) (by rfl) (by rfl) ?_ (fun _ => by rfl) (by conv => lhs; simp only [Act.put, List.setIfInBounds_toArray, List.set_cons_succ, List.set_cons_zero]) ?_
  · rintro w ⟨t0, t1⟩; obtain ⟨c0, c1, c2, c3, c4, c5⟩ := t0.cell; clear t0 t1; go_simp
  refine textS_take (o := _) (.pointer (some ⟨(W.heap.size + 1), 0, none⟩)) (by conv => lhs; simp only [List.getElem?_toArray, List.getElem?_cons_succ, List.getElem?_cons_zero]) (by rfl) (by rfl) ?_ (fun _ => by rfl) (by conv => lhs; simp only [Act.put, List.setIfInBounds_toArray, List.set_cons_succ, List.set_cons_zero]) ?_
  · intro w _; go_simp
  refine textS_take (o := _) (.int .i64 kb) (by conv => lhs; simp only [List.getElem?_toArray, List.getElem?_cons_succ, List.getElem?_cons_zero]) (by rfl) (by rfl) ?_ (fun _ => by rfl) (by conv => lhs; simp only [Act.put, List.setIfInBounds_toArray, List.set_cons_succ, List.set_cons_zero]) ?_
  · rintro w ⟨t0, t1⟩; obtain ⟨c0, c1, c2, c3, c4, c5⟩ := t1.cell; clear t0 t1; go_simp
  refine textS_call (o := _) (by conv => lhs; simp only [List.getElem?_toArray, List.getElem?_cons_succ, List.getElem?_cons_zero]) (by rfl) (by rfl) ?_
  refine wpIn_call (f := 72) (args := #[.int .i64 ka]) rfl ?_ (place_any ka w1 F.places) ?_
  · go_simp
  rintro e w2 ⟨rfl, rfl⟩
  refine ⟨_, _, rfl, (by conv => lhs; simp only [Act.put, List.setIfInBounds_toArray, List.set_cons_succ, List.set_cons_zero]), F.two, ?_⟩
  refine textS_call (o := _) (by conv => lhs; simp only [List.getElem?_toArray, List.getElem?_cons_succ, List.getElem?_cons_zero]) (by rfl) (by rfl) ?_
  refine wpIn_call (f := 72) (args := #[.int .i64 kb]) rfl ?_ (place_any kb w1 F.places) ?_
  · go_simp
  rintro e w2 ⟨rfl, rfl⟩
  refine ⟨_, _, rfl, (by conv => lhs; simp only [Act.put, List.setIfInBounds_toArray, List.set_cons_succ, List.set_cons_zero]), F.two, ?_⟩
  refine textS_call (o := _) (by conv => lhs; simp only [List.getElem?_toArray, List.getElem?_cons_succ, List.getElem?_cons_zero]) (by rfl) (by rfl) ?_
  refine wpIn_call (f := 41) (args := #[.int .i64 (placeV ka), .int .i64 (placeV kb)]) rfl ?_ (zero_of x0 (cmp_int _ _ w1)) ?_
  · go_simp
  rintro e w2 ⟨rfl, rfl⟩
  refine ⟨_, _, rfl, (by conv => lhs; simp only [Act.put, List.setIfInBounds_toArray, List.set_cons_succ, List.set_cons_zero]), F.two, ?_⟩
  refine textS_call (o := _) (by conv => lhs; simp only [List.getElem?_toArray, List.getElem?_cons_succ, List.getElem?_cons_zero]) (by rfl) (by rfl) ?_
  obtain ⟨fn, tm, as1, bd, hy, hr⟩ := hY.zero 4 _ F.low
  refine wpIn_yield rfl ?_ hr ?_
  · go_simp
  rintro e y0 ⟨rfl, hlow⟩
  replace F := F.zero hB hlow
  clear hy hr hlow
  refine ⟨_, _, rfl, (by conv => lhs; simp only [Act.put, List.setIfInBounds_toArray, List.set_cons_succ, List.set_cons_zero]), F.two, ?_⟩
  refine textS_take (o := _) (.bool false) (by conv => lhs; simp only [List.getElem?_toArray, List.getElem?_cons_succ, List.getElem?_cons_zero]) (by rfl) (by rfl) ?_ (fun _ => by rfl) (by conv => lhs; simp only [Act.put, List.setIfInBounds_toArray, List.set_cons_succ, List.set_cons_zero]) ?_
  · intro w _; go_simp
  refine textS_take (o := _) (.bool false) (by conv => lhs; simp only [List.getElem?_toArray, List.getElem?_cons_succ, List.getElem?_cons_zero]) (by rfl) (by rfl) ?_ (fun _ => by rfl) (by conv => lhs; simp only [Act.put, List.setIfInBounds_toArray, List.set_cons_succ, List.set_cons_zero]) ?_
  · intro w _; go_simp
  refine textS_take (o := _) (.bool false) (by conv => lhs; simp only [List.getElem?_toArray, List.getElem?_cons_succ, List.getElem?_cons_zero]) (by rfl) (by rfl) ?_ (fun _ => by rfl) (by conv => lhs; simp only [Act.put, List.setIfInBounds_toArray, List.set_cons_succ, List.set_cons_zero]) ?_
  · intro w _; go_simp
  refine textS_take (o := _) (.func (.yield l) #[] #[]) (by conv => lhs; simp only [List.getElem?_toArray, List.getElem?_cons_succ, List.getElem?_cons_zero]) (by rfl) (by rfl) ?_ (fun _ => by rfl) (by conv => lhs; simp only [Act.put, List.setIfInBounds_toArray, List.set_cons_succ, List.set_cons_zero]) ?_
  · intro w _; go_simp
  refine textS_take (o := _) (.pointer (some ⟨W.heap.size, 1, none⟩)) (by conv => lhs; simp only [List.getElem?_toArray, List.getElem?_cons_succ, List.getElem?_cons_zero]) (by rfl) (by rfl) ?_ (fun _ => by rfl) (by conv => lhs; simp only [Act.put, List.setIfInBounds_toArray, List.set_cons_succ, List.set_cons_zero]) ?_
  · intro w _; go_simp
  refine textS_take (o := _) (.bool ba) (by conv => lhs; simp only [List.getElem?_toArray, List.getElem?_cons_succ, List.getElem?_cons_zero]) (by rfl) (by rfl) ?_ (fun _ => by rfl) (by conv => lhs; simp only [Act.put, List.setIfInBounds_toArray, List.set_cons_succ, List.set_cons_zero]) ?_
  · rintro w ⟨t0, t1⟩; obtain ⟨c0, c1, c2, c3, c4, c5⟩ := t0.cell; clear t0 t1; go_simp
  refine textS_take (o := _) (.pointer (some ⟨(W.heap.size + 1), 1, none⟩)) (by conv => lhs; simp only [List.getElem?_toArray, List.getElem?_cons_succ, List.getElem?_cons_zero]) (by rfl) (by rfl) ?_ (fun _ => by rfl) (by conv => lhs; simp only [Act.put, List.setIfInBounds_toArray, List.set_cons_succ, List.set_cons_zero]) ?_
  · intro w _; go_simp
  refine textS_take (o := _) (.bool bb) (by conv => lhs; simp only [List.getElem?_toArray, List.getElem?_cons_succ, List.getElem?_cons_zero]) (by rfl) (by rfl) ?_ (fun _ => by rfl) (by conv => lhs; simp only [Act.put, List.setIfInBounds_toArray, List.set_cons_succ, List.set_cons_zero]) ?_
  · rintro w ⟨t0, t1⟩; obtain ⟨c0, c1, c2, c3, c4, c5⟩ := t1.cell; clear t0 t1; go_simp
  refine textS_call (o := _) (by conv => lhs; simp only [List.getElem?_toArray, List.getElem?_cons_succ, List.getElem?_cons_zero]) (by rfl) (by rfl) ?_
  refine wpIn_call (f := 74) (args := #[.bool ba]) rfl ?_ (of_any ba y0) ?_
  · go_simp
  rintro e w2 ⟨rfl, rfl⟩
  refine ⟨_, _, rfl, (by conv => lhs; simp only [Act.put, List.setIfInBounds_toArray, List.set_cons_succ, List.set_cons_zero]), F.two, ?_⟩
  refine textS_call (o := _) (by conv => lhs; simp only [List.getElem?_toArray, List.getElem?_cons_succ, List.getElem?_cons_zero]) (by rfl) (by rfl) ?_
  refine wpIn_call (f := 74) (args := #[.bool bb]) rfl ?_ (of_any bb y0) ?_
  · go_simp
  rintro e w2 ⟨rfl, rfl⟩
  refine ⟨_, _, rfl, (by conv => lhs; simp only [Act.put, List.setIfInBounds_toArray, List.set_cons_succ, List.set_cons_zero]), F.two, ?_⟩
  refine textS_call (o := _) (by conv => lhs; simp only [List.getElem?_toArray, List.getElem?_cons_succ, List.getElem?_cons_zero]) (by rfl) (by rfl) ?_
  refine wpIn_call (f := 73) (args := #[.int .i64 (ofV ba), .int .i64 (ofV bb)]) rfl ?_ (cmp_truth _ _ y0) ?_
  · go_simp
  rintro e w2 ⟨rfl, rfl⟩
  refine ⟨_, _, rfl, (by conv => lhs; simp only [Act.put, List.setIfInBounds_toArray, List.set_cons_succ, List.set_cons_zero]), F.two, ?_⟩
  refine textS_call (o := _) (by conv => lhs; simp only [List.getElem?_toArray, List.getElem?_cons_succ, List.getElem?_cons_zero]) (by rfl) (by rfl) ?_
  obtain ⟨fn, tm, as1, bd, hy, hr⟩ := hY.stop 4 _ _ x1 F.low
  refine wpIn_yield rfl ?_ hr ?_
  · go_simp
  rintro e y1 ⟨rfl, hlow⟩
  clear hy hr
  replace F := F.stop hBA hlow
  refine ⟨_, _, rfl, (by conv => lhs; simp only [Act.put, List.setIfInBounds_toArray, List.set_cons_succ, List.set_cons_zero]), F.two, ?_⟩
  refine textS_take (o := _) (.bool true) (by conv => lhs; simp only [List.getElem?_toArray, List.getElem?_cons_succ, List.getElem?_cons_zero]) (by rfl) (by rfl) ?_ (fun _ => by rfl) (by conv => lhs; simp only [Act.put, List.setIfInBounds_toArray, List.set_cons_succ, List.set_cons_zero]) ?_
  · intro w _; go_simp
  refine textS_take (o := _) (.bool true) (by conv => lhs; simp only [List.getElem?_toArray, List.getElem?_cons_succ, List.getElem?_cons_zero]) (by rfl) (by rfl) ?_ (fun _ => by rfl) (by conv => lhs; simp only [Act.put, List.setIfInBounds_toArray, List.set_cons_succ, List.set_cons_zero]) ?_
  · intro w _; go_simp
  refine textS_take (o := _) (.bool true) (by conv => lhs; simp only [List.getElem?_toArray, List.getElem?_cons_succ, List.getElem?_cons_zero]) (by rfl) (by rfl) ?_ (fun _ => by rfl) (by conv => lhs; simp only [Act.put, List.setIfInBounds_toArray, List.set_cons_succ, List.set_cons_zero]) ?_
  · intro w _; go_simp
  refine textS_skip (o := _) (by conv => lhs; simp only [List.getElem?_toArray, List.getElem?_cons_succ, List.getElem?_cons_zero]) (by rfl) (by rfl) (fun _ => by rfl) (by conv => lhs; simp only [Act.put, List.setIfInBounds_toArray, List.set_cons_succ, List.set_cons_zero]) ?_
  refine textS_skip (o := _) (by conv => lhs; simp only [List.getElem?_toArray, List.getElem?_cons_succ, List.getElem?_cons_zero]) (by rfl) (by rfl) (fun _ => by rfl) (by conv => lhs; simp only [Act.put, List.setIfInBounds_toArray, List.set_cons_succ, List.set_cons_zero]) ?_
  refine textS_skip (o := _) (by conv => lhs; simp only [List.getElem?_toArray, List.getElem?_cons_succ, List.getElem?_cons_zero]) (by rfl) (by rfl) (fun _ => by rfl) (by conv => lhs; simp only [Act.put, List.setIfInBounds_toArray, List.set_cons_succ, List.set_cons_zero]) ?_
  refine textS_skip (o := _) (by conv => lhs; simp only [List.getElem?_toArray, List.getElem?_cons_succ, List.getElem?_cons_zero]) (by rfl) (by rfl) (fun _ => by rfl) (by conv => lhs; simp only [Act.put, List.setIfInBounds_toArray, List.set_cons_succ, List.set_cons_zero]) ?_
  refine textS_skip (o := _) (by conv => lhs; simp only [List.getElem?_toArray, List.getElem?_cons_succ, List.getElem?_cons_zero]) (by rfl) (by rfl) (fun _ => by rfl) (by conv => lhs; simp only [Act.put, List.setIfInBounds_toArray, List.set_cons_succ, List.set_cons_zero]) ?_
  refine textS_callSkip (o := _) (by conv => lhs; simp only [List.getElem?_toArray, List.getElem?_cons_succ, List.getElem?_cons_zero]) (by rfl) (by rfl) (fun _ => trivial) F.two (by conv => lhs; simp only [Act.put, List.setIfInBounds_toArray, List.set_cons_succ, List.set_cons_zero]) ?_
  refine textS_callSkip (o := _) (by conv => lhs; simp only [List.getElem?_toArray, List.getElem?_cons_succ, List.getElem?_cons_zero]) (by rfl) (by rfl) (fun _ => trivial) F.two (by conv => lhs; simp only [Act.put, List.setIfInBounds_toArray, List.set_cons_succ, List.set_cons_zero]) ?_
  refine textS_skip (o := _) (by conv => lhs; simp only [List.getElem?_toArray, List.getElem?_cons_succ, List.getElem?_cons_zero]) (by rfl) (by rfl) (fun _ => by rfl) (by conv => lhs; simp only [Act.put, List.setIfInBounds_toArray, List.set_cons_succ, List.set_cons_zero]) ?_
  refine textS_take (o := _) (.bool true) (by conv => lhs; simp only [List.getElem?_toArray, List.getElem?_cons_succ, List.getElem?_cons_zero]) (by rfl) (by rfl) ?_ (fun _ => by rfl) (by conv => lhs; simp only [Act.put, List.setIfInBounds_toArray, List.set_cons_succ, List.set_cons_zero]) ?_
  · intro w _; go_simp
  refine textS_take (o := _) (.bool true) (by conv => lhs; simp only [List.getElem?_toArray, List.getElem?_cons_succ, List.getElem?_cons_zero]) (by rfl) (by rfl) ?_ (fun _ => by rfl) (by conv => lhs; simp only [Act.put, List.setIfInBounds_toArray, List.set_cons_succ, List.set_cons_zero]) ?_
  · intro w _; go_simp
  refine textS_skip (o := _) (by conv => lhs; simp only [List.getElem?_toArray, List.getElem?_cons_succ, List.getElem?_cons_zero]) (by rfl) (by rfl) (fun _ => by rfl) (by conv => lhs; simp only [Act.put, List.setIfInBounds_toArray, List.set_cons_succ, List.set_cons_zero]) ?_
  refine textS_skip (o := _) (by conv => lhs; simp only [List.getElem?_toArray, List.getElem?_cons_succ, List.getElem?_cons_zero]) (by rfl) (by rfl) (fun _ => by rfl) (by conv => lhs; simp only [Act.put, List.setIfInBounds_toArray, List.set_cons_succ, List.set_cons_zero]) ?_
  refine textS_skip (o := _) (by conv => lhs; simp only [List.getElem?_toArray, List.getElem?_cons_succ, List.getElem?_cons_zero]) (by rfl) (by rfl) (fun _ => by rfl) (by conv => lhs; simp only [Act.put, List.setIfInBounds_toArray, List.set_cons_succ, List.set_cons_zero]) ?_
  refine textS_skip (o := _) (by conv => lhs; simp only [List.getElem?_toArray, List.getElem?_cons_succ, List.getElem?_cons_zero]) (by rfl) (by rfl) (fun _ => by rfl) (by conv => lhs; simp only [Act.put, List.setIfInBounds_toArray, List.set_cons_succ, List.set_cons_zero]) ?_
  refine textS_skip (o := _) (by conv => lhs; simp only [List.getElem?_toArray, List.getElem?_cons_succ, List.getElem?_cons_zero]) (by rfl) (by rfl) (fun _ => by rfl) (by conv => lhs; simp only [Act.put, List.setIfInBounds_toArray, List.set_cons_succ, List.set_cons_zero]) ?_
  refine textS_callSkip (o := _) (by conv => lhs; simp only [List.getElem?_toArray, List.getElem?_cons_succ, List.getElem?_cons_zero]) (by rfl) (by rfl) (fun _ => trivial) F.two (by conv => lhs; simp only [Act.put, List.setIfInBounds_toArray, List.set_cons_succ, List.set_cons_zero]) ?_
  refine textS_callSkip (o := _) (by conv => lhs; simp only [List.getElem?_toArray, List.getElem?_cons_succ, List.getElem?_cons_zero]) (by rfl) (by rfl) (fun _ => trivial) F.two (by conv => lhs; simp only [Act.put, List.setIfInBounds_toArray, List.set_cons_succ, List.set_cons_zero]) ?_
  refine textS_skip (o := _) (by conv => lhs; simp only [List.getElem?_toArray, List.getElem?_cons_succ, List.getElem?_cons_zero]) (by rfl) (by rfl) (fun _ => by rfl) (by conv => lhs; simp only [Act.put, List.setIfInBounds_toArray, List.set_cons_succ, List.set_cons_zero]) ?_
  refine textS_take (o := _) (.bool true) (by conv => lhs; simp only [List.getElem?_toArray, List.getElem?_cons_succ, List.getElem?_cons_zero]) (by rfl) (by rfl) ?_ (fun _ => by rfl) (by conv => lhs; simp only [Act.put, List.setIfInBounds_toArray, List.set_cons_succ, List.set_cons_zero]) ?_
  · intro w _; go_simp
  refine NoPanic.normal ?_
  refine hK2 _ _ ?_
  clear hK1 hK2
  have low := F.low
  clear F hY hR hP hlow
  go_wp2
  go_ret
  exact ⟨rfl, low⟩
set_option maxRecDepth 100000 in
set_option maxHeartbeats 4000000 in
theorem compare_stop2 {lo B l R : Nat} {Wl W : World} {WS : Int → World} (hY : Yld lo l B Wl WS) (hB : B ≤ Wl.heap.size) (hRB : B ≤ R) (hg : 1 < B) (ka na kb nb : Int) (ba bb : Bool) (sa sb : ByteArray) (la qa lb qb : Value) (d m : Int) (hR : Reach W R d m) (hP : Places W) (hlow : Below B Wl W) (hd : 0 < d) (hm : 0 < m) (hd' : d ≤ 65536) (hm' : m ≤ 4194304) (x0 : cmpV (placeV ka) (placeV kb) = 0) (x1 : cmpV (ofV ba) (ofV bb) = 0) (x2 : cmpV na nb ≠ 0) :
    Calls Tryd.prog 59 #[.pointer (some ⟨R, 0, none⟩), .agg #[.int .i64 ka, .bool ba, .int .i64 na, .string sa, la, qa], .agg #[.int .i64 kb, .bool bb, .int .i64 nb, .string sb, lb, qb], .func (.yield l) #[] #[]] W fun e w' => e = .returned (.bool false) ∧ Below B (WS (cmpV na nb)) w' := by
  have hRA : R < W.heap.size := hR.lt
  have hBA : B ≤ W.heap.size := Nat.le_trans hB hlow.size
  have F := Fx.start #[.int .i64 ka, .bool ba, .int .i64 na, .string sa, la, qa] #[.int .i64 kb, .bool bb, .int .i64 nb, .string sb, lb, qb] hB hlow hP hR
  go_enter Tryd.func59, Tryd.ntmps59
  go_wp2
  rename_i Q' K1 hK1 K2 hK2
  refine wp_region_noPanic ?_
  refine wpIn_wide (n := 5).1 ?_
  refine wpIn_region_text (Two W.heap.size #[.int .i64 ka, .bool ba, .int .i64 na, .string sa, la, qa] #[.int .i64 kb, .bool bb, .int .i64 nb, .string sb, lb, qb]) [0, 1, 2, 3, 4, 5, 6, 8, 9, 7, 10, 11, 12, 13, 14, 15, 16, 17, 18, 20, 21, 19, 22, 23, 24, 25, 26, 27, 28, 29, 30, 31, 32, 33, 34, 35, 36, 37, 38, 39, 40, 41, 42, 43, 44, 45, 46] rfl (by kernel_rfl) (by kernel_rfl) (by kernel_rfl) (by kernel_rfl) (fun _ _ _ _ _ h => h) F.two ?_
  generalize ((W.alloc (.cells #[.int .i64 ka, .bool ba, .int .i64 na, .string sa, la, qa] 26)).alloc (.cells #[.int .i64 kb, .bool bb, .int .i64 nb, .string sb, lb, qb] 26)).drew = w0 at F ⊢
  refine textS_take (o := _) (.pointer (some ⟨R, 0, none⟩)) (by conv => lhs; simp only [List.getElem?_toArray, List.getElem?_cons_succ, List.getElem?_cons_zero]) (by rfl) (by rfl) ?_ (fun _ => by rfl) (by conv => lhs; simp only [Act.put, List.setIfInBounds_toArray, List.set_cons_succ, List.set_cons_zero]) ?_
  · intro w _; go_simp
  refine textS_call (o := _) (by conv => lhs; simp only [List.getElem?_toArray, List.getElem?_cons_succ, List.getElem?_cons_zero]) (by rfl) (by rfl) ?_
  refine wpIn_call (f := 60) (args := #[.pointer (some ⟨R, 0, none⟩)]) rfl ?_ (enter_yes R d m _ F.reach hd hm hd' hm') ?_
  · go_simp
  rintro e w1 ⟨rfl, hw1⟩
  replace F := F.enter hRB hRA hg hw1
  clear hw1
  refine ⟨_, _, rfl, (by conv => lhs; simp only [Act.put, List.setIfInBounds_toArray, List.set_cons_succ, List.set_cons_zero]), F.two, ?_⟩
  refine textS_take (o := _) (.bool false) (by conv => lhs; simp only [List.getElem?_toArray, List.getElem?_cons_succ, List.getElem?_cons_zero]) (by rfl) (by rfl) ?_ (fun _ => by rfl) (by conv => lhs; simp only [Act.put, List.setIfInBounds_toArray, List.set_cons_succ, List.set_cons_zero]) ?_
  · intro w _; go_simp
  refine textS_take (o := _) (.bool false) (by conv => lhs; simp only [List.getElem?_toArray, List.getElem?_cons_succ, List.getElem?_cons_zero]) (by rfl) (by rfl) ?_ (fun _ => by rfl) (by conv => lhs; simp only [Act.put, List.setIfInBounds_toArray, List.set_cons_succ, List.set_cons_zero]) ?_
  · intro w _; go_simp
  refine textS_take (o := _) (.func (.yield l) #[] #[]) (by conv => lhs; simp only [List.getElem?_toArray, List.getElem?_cons_succ, List.getElem?_cons_zero]) (by rfl) (by rfl) ?_ (fun _ => by rfl) (by conv => lhs; simp only [Act.put, List.setIfInBounds_toArray, List.set_cons_succ, List.set_cons_zero]) ?_
  · intro w _; go_simp
  refine textS_take (o := _) (.pointer (some ⟨W.heap.size, 0, none⟩)) (by conv => lhs; simp only [List.getElem?_toArray, List.getElem?_cons_succ, List.getElem?_cons_zero]) (by rfl) (by rfl) ?_ (fun _ => by rfl) (by conv => lhs; simp only [Act.put, List.setIfInBounds_toArray, List.set_cons_succ, List.set_cons_zero]) ?_
  · intro w _; go_simp
  refine textS_take (o := _) (.int .i64 ka) (by conv => lhs; simp only [List.getElem?_toArray, List.getElem?_cons_succ, List.getElem?_cons_zero]) (by rfl) (by rfl) ?_ (fun _ => by rfl) (by conv => lhs; simp only [Act.put, List.setIfInBounds_toArray, List.set_cons_succ, List.set_cons_zero]) ?_
  · rintro w ⟨t0, t1⟩; obtain ⟨c0, c1, c2, c3, c4, c5⟩ := t0.cell; clear t0 t1; go_simp
  refine textS_take (o := _) (.pointer (some ⟨(W.heap.size + 1), 0, none⟩)) (by conv => lhs; simp only [List.getElem?_toArray, List.getElem?_cons_succ, List.getElem?_cons_zero]) (by rfl) (by rfl) ?_ (fun _ => by rfl) (by conv => lhs; simp only [Act.put, List.setIfInBounds_toArray, List.set_cons_succ, List.set_cons_zero]) ?_
  · intro w _; go_simp
  refine textS_take (o := _) (.int .i64 kb) (by conv => lhs; simp only [List.getElem?_toArray, List.getElem?_cons_succ, List.getElem?_cons_zero]) (by rfl) (by rfl) ?_ (fun _ => by rfl) (by conv => lhs; simp only [Act.put, List.setIfInBounds_toArray, List.set_cons_succ, List.set_cons_zero]) ?_
  · rintro w ⟨t0, t1⟩; obtain ⟨c0, c1, c2, c3, c4, c5⟩ := t1.cell; clear t0 t1; go_simp
  refine textS_call (o := _) (by conv => lhs; simp only [List.getElem?_toArray, List.getElem?_cons_succ, List.getElem?_cons_zero]) (by rfl) (by rfl) ?_
  refine wpIn_call (f := 72) (args := #[.int .i64 ka]) rfl ?_ (place_any ka w1 F.places) ?_
  · go_simp
  rintro e w2 ⟨rfl, rfl⟩
  refine ⟨_, _, rfl, (by conv => lhs; simp only [Act.put, List.setIfInBounds_toArray, List.set_cons_succ, List.set_cons_zero]), F.two, ?_⟩
  refine textS_call (o := _) (by conv => lhs; simp only [List.getElem?_toArray, List.getElem?_cons_succ, List.getElem?_cons_zero]) (by rfl) (by rfl) ?_
  refine wpIn_call (f := 72) (args := #[.int .i64 kb]) rfl ?_ (place_any kb w1 F.places) ?_
  · go_simp
  rintro e w2 ⟨rfl, rfl⟩
  refine ⟨_, _, rfl, (by conv => lhs; simp only [Act.put, List.setIfInBounds_toArray, List.set_cons_succ, List.set_cons_zero]), F.two, ?_⟩
  refine textS_call (o := _) (by conv => lhs; simp only [List.getElem?_toArray, List.getElem?_cons_succ, List.getElem?_cons_zero]) (by rfl) (by rfl) ?_
  refine wpIn_call (f := 41) (args := #[.int .i64 (placeV ka), .int .i64 (placeV kb)]) rfl ?_ (zero_of x0 (cmp_int _ _ w1)) ?_
  · go_simp
  rintro e w2 ⟨rfl, rfl⟩
  refine ⟨_, _, rfl, (by conv => lhs; simp only [Act.put, List.setIfInBounds_toArray, List.set_cons_succ, List.set_cons_zero]), F.two, ?_⟩
  refine textS_call (o := _) (by conv => lhs; simp only [List.getElem?_toArray, List.getElem?_cons_succ, List.getElem?_cons_zero]) (by rfl) (by rfl) ?_
  obtain ⟨fn, tm, as1, bd, hy, hr⟩ := hY.zero 4 _ F.low
  refine wpIn_yield rfl ?_ hr ?_
  · go_simp
  rintro e y0 ⟨rfl, hlow⟩
  replace F := F.zero hB hlow
  clear hy hr hlow
  refine ⟨_, _, rfl, (by conv => lhs; simp only [Act.put, List.setIfInBounds_toArray, List.set_cons_succ, List.set_cons_zero]), F.two, ?_⟩
  refine textS_take (o := _) (.bool false) (by conv => lhs; simp only [List.getElem?_toArray, List.getElem?_cons_succ, List.getElem?_cons_zero]) (by rfl) (by rfl) ?_ (fun _ => by rfl) (by conv => lhs; simp only [Act.put, List.setIfInBounds_toArray, List.set_cons_succ, List.set_cons_zero]) ?_
  · intro w _; go_simp
  refine textS_take (o := _) (.bool false) (by conv => lhs; simp only [List.getElem?_toArray, List.getElem?_cons_succ, List.getElem?_cons_zero]) (by rfl) (by rfl) ?_ (fun _ => by rfl) (by conv => lhs; simp only [Act.put, List.setIfInBounds_toArray, List.set_cons_succ, List.set_cons_zero]) ?_
  · intro w _; go_simp
  refine textS_take (o := _) (.bool false) (by conv => lhs; simp only [List.getElem?_toArray, List.getElem?_cons_succ, List.getElem?_cons_zero]) (by rfl) (by rfl) ?_ (fun _ => by rfl) (by conv => lhs; simp only [Act.put, List.setIfInBounds_toArray, List.set_cons_succ, List.set_cons_zero]) ?_
  · intro w _; go_simp
  refine textS_take (o := _) (.func (.yield l) #[] #[]) (by conv => lhs; simp only [List.getElem?_toArray, List.getElem?_cons_succ, List.getElem?_cons_zero]) (by rfl) (by rfl) ?_ (fun _ => by rfl) (by conv => lhs; simp only [Act.put, List.setIfInBounds_toArray, List.set_cons_succ, List.set_cons_zero]) ?_
  · intro w _; go_simp
  refine textS_take (o := _) (.pointer (some ⟨W.heap.size, 1, none⟩)) (by conv => lhs; simp only [List.getElem?_toArray, List.getElem?_cons_succ, List.getElem?_cons_zero]) (by rfl) (by rfl) ?_ (fun _ => by rfl) (by conv => lhs; simp only [Act.put, List.setIfInBounds_toArray, List.set_cons_succ, List.set_cons_zero]) ?_
  · intro w _; go_simp
  refine textS_take (o := _) (.bool ba) (by conv => lhs; simp only [List.getElem?_toArray, List.getElem?_cons_succ, List.getElem?_cons_zero]) (by rfl) (by rfl) ?_ (fun _ => by rfl) (by conv => lhs; simp only [Act.put, List.setIfInBounds_toArray, List.set_cons_succ, List.set_cons_zero]) ?_
  · rintro w ⟨t0, t1⟩; obtain ⟨c0, c1, c2, c3, c4, c5⟩ := t0.cell; clear t0 t1; go_simp
  refine textS_take (o := _) (.pointer (some ⟨(W.heap.size + 1), 1, none⟩)) (by conv => lhs; simp only [List.getElem?_toArray, List.getElem?_cons_succ, List.getElem?_cons_zero]) (by rfl) (by rfl) ?_ (fun _ => by rfl) (by conv => lhs; simp only [Act.put, List.setIfInBounds_toArray, List.set_cons_succ, List.set_cons_zero]) ?_
  · intro w _; go_simp
  refine textS_take (o := _) (.bool bb) (by conv => lhs; simp only [List.getElem?_toArray, List.getElem?_cons_succ, List.getElem?_cons_zero]) (by rfl) (by rfl) ?_ (fun _ => by rfl) (by conv => lhs; simp only [Act.put, List.setIfInBounds_toArray, List.set_cons_succ, List.set_cons_zero]) ?_
  · rintro w ⟨t0, t1⟩; obtain ⟨c0, c1, c2, c3, c4, c5⟩ := t1.cell; clear t0 t1; go_simp
  refine textS_call (o := _) (by conv => lhs; simp only [List.getElem?_toArray, List.getElem?_cons_succ, List.getElem?_cons_zero]) (by rfl) (by rfl) ?_
  refine wpIn_call (f := 74) (args := #[.bool ba]) rfl ?_ (of_any ba y0) ?_
  · go_simp
  rintro e w2 ⟨rfl, rfl⟩
  refine ⟨_, _, rfl, (by conv => lhs; simp only [Act.put, List.setIfInBounds_toArray, List.set_cons_succ, List.set_cons_zero]), F.two, ?_⟩
  refine textS_call (o := _) (by conv => lhs; simp only [List.getElem?_toArray, List.getElem?_cons_succ, List.getElem?_cons_zero]) (by rfl) (by rfl) ?_
  refine wpIn_call (f := 74) (args := #[.bool bb]) rfl ?_ (of_any bb y0) ?_
  · go_simp
  rintro e w2 ⟨rfl, rfl⟩
  refine ⟨_, _, rfl, (by conv => lhs; simp only [Act.put, List.setIfInBounds_toArray, List.set_cons_succ, List.set_cons_zero]), F.two, ?_⟩
  refine textS_call (o := _) (by conv => lhs; simp only [List.getElem?_toArray, List.getElem?_cons_succ, List.getElem?_cons_zero]) (by rfl) (by rfl) ?_
  refine wpIn_call (f := 73) (args := #[.int .i64 (ofV ba), .int .i64 (ofV bb)]) rfl ?_ (zero_of x1 (cmp_truth _ _ y0)) ?_
  · go_simp
  rintro e w2 ⟨rfl, rfl⟩
  refine ⟨_, _, rfl, (by conv => lhs; simp only [Act.put, List.setIfInBounds_toArray, List.set_cons_succ, List.set_cons_zero]), F.two, ?_⟩
  refine textS_call (o := _) (by conv => lhs; simp only [List.getElem?_toArray, List.getElem?_cons_succ, List.getElem?_cons_zero]) (by rfl) (by rfl) ?_
  obtain ⟨fn, tm, as1, bd, hy, hr⟩ := hY.zero 4 _ F.low
  refine wpIn_yield rfl ?_ hr ?_
  · go_simp
  rintro e y1 ⟨rfl, hlow⟩
  replace F := F.zero hB hlow
  clear hy hr hlow
  refine ⟨_, _, rfl, (by conv => lhs; simp only [Act.put, List.setIfInBounds_toArray, List.set_cons_succ, List.set_cons_zero]), F.two, ?_⟩
  refine textS_take (o := _) (.bool false) (by conv => lhs; simp only [List.getElem?_toArray, List.getElem?_cons_succ, List.getElem?_cons_zero]) (by rfl) (by rfl) ?_ (fun _ => by rfl) (by conv => lhs; simp only [Act.put, List.setIfInBounds_toArray, List.set_cons_succ, List.set_cons_zero]) ?_
  · intro w _; go_simp
  refine textS_take (o := _) (.bool false) (by conv => lhs; simp only [List.getElem?_toArray, List.getElem?_cons_succ, List.getElem?_cons_zero]) (by rfl) (by rfl) ?_ (fun _ => by rfl) (by conv => lhs; simp only [Act.put, List.setIfInBounds_toArray, List.set_cons_succ, List.set_cons_zero]) ?_
  · intro w _; go_simp
  refine textS_take (o := _) (.bool false) (by conv => lhs; simp only [List.getElem?_toArray, List.getElem?_cons_succ, List.getElem?_cons_zero]) (by rfl) (by rfl) ?_ (fun _ => by rfl) (by conv => lhs; simp only [Act.put, List.setIfInBounds_toArray, List.set_cons_succ, List.set_cons_zero]) ?_
  · intro w _; go_simp
  refine textS_take (o := _) (.func (.yield l) #[] #[]) (by conv => lhs; simp only [List.getElem?_toArray, List.getElem?_cons_succ, List.getElem?_cons_zero]) (by rfl) (by rfl) ?_ (fun _ => by rfl) (by conv => lhs; simp only [Act.put, List.setIfInBounds_toArray, List.set_cons_succ, List.set_cons_zero]) ?_
  · intro w _; go_simp
  refine textS_take (o := _) (.pointer (some ⟨W.heap.size, 2, none⟩)) (by conv => lhs; simp only [List.getElem?_toArray, List.getElem?_cons_succ, List.getElem?_cons_zero]) (by rfl) (by rfl) ?_ (fun _ => by rfl) (by conv => lhs; simp only [Act.put, List.setIfInBounds_toArray, List.set_cons_succ, List.set_cons_zero]) ?_
  · intro w _; go_simp
  refine textS_take (o := _) (.int .i64 na) (by conv => lhs; simp only [List.getElem?_toArray, List.getElem?_cons_succ, List.getElem?_cons_zero]) (by rfl) (by rfl) ?_ (fun _ => by rfl) (by conv => lhs; simp only [Act.put, List.setIfInBounds_toArray, List.set_cons_succ, List.set_cons_zero]) ?_
  · rintro w ⟨t0, t1⟩; obtain ⟨c0, c1, c2, c3, c4, c5⟩ := t0.cell; clear t0 t1; go_simp
  refine textS_take (o := _) (.pointer (some ⟨(W.heap.size + 1), 2, none⟩)) (by conv => lhs; simp only [List.getElem?_toArray, List.getElem?_cons_succ, List.getElem?_cons_zero]) (by rfl) (by rfl) ?_ (fun _ => by rfl) (by conv => lhs; simp only [Act.put, List.setIfInBounds_toArray, List.set_cons_succ, List.set_cons_zero]) ?_
  · intro w _; go_simp
  refine textS_take (o := _) (.int .i64 nb) (by conv => lhs; simp only [List.getElem?_toArray, List.getElem?_cons_succ, List.getElem?_cons_zero]) (by rfl) (by rfl) ?_ (fun _ => by rfl) (by conv => lhs; simp only [Act.put, List.setIfInBounds_toArray, List.set_cons_succ, List.set_cons_zero]) ?_
  · rintro w ⟨t0, t1⟩; obtain ⟨c0, c1, c2, c3, c4, c5⟩ := t1.cell; clear t0 t1; go_simp
  refine textS_call (o := _) (by conv => lhs; simp only [List.getElem?_toArray, List.getElem?_cons_succ, List.getElem?_cons_zero]) (by rfl) (by rfl) ?_
  refine wpIn_call (f := 75) (args := #[.int .i64 na, .int .i64 nb]) rfl ?_ (cmp_i64 _ _ y1) ?_
  · go_simp
  rintro e w2 ⟨rfl, rfl⟩
  refine ⟨_, _, rfl, (by conv => lhs; simp only [Act.put, List.setIfInBounds_toArray, List.set_cons_succ, List.set_cons_zero]), F.two, ?_⟩
  refine textS_call (o := _) (by conv => lhs; simp only [List.getElem?_toArray, List.getElem?_cons_succ, List.getElem?_cons_zero]) (by rfl) (by rfl) ?_
  obtain ⟨fn, tm, as1, bd, hy, hr⟩ := hY.stop 4 _ _ x2 F.low
  refine wpIn_yield rfl ?_ hr ?_
  · go_simp
  rintro e y2 ⟨rfl, hlow⟩
  clear hy hr
  replace F := F.stop hBA hlow
  refine ⟨_, _, rfl, (by conv => lhs; simp only [Act.put, List.setIfInBounds_toArray, List.set_cons_succ, List.set_cons_zero]), F.two, ?_⟩
  refine textS_take (o := _) (.bool true) (by conv => lhs; simp only [List.getElem?_toArray, List.getElem?_cons_succ, List.getElem?_cons_zero]) (by rfl) (by rfl) ?_ (fun _ => by rfl) (by conv => lhs; simp only [Act.put, List.setIfInBounds_toArray, List.set_cons_succ, List.set_cons_zero]) ?_
  · intro w _; go_simp
  refine textS_take (o := _) (.bool true) (by conv => lhs; simp only [List.getElem?_toArray, List.getElem?_cons_succ, List.getElem?_cons_zero]) (by rfl) (by rfl) ?_ (fun _ => by rfl) (by conv => lhs; simp only [Act.put, List.setIfInBounds_toArray, List.set_cons_succ, List.set_cons_zero]) ?_
  · intro w _; go_simp
  refine textS_take (o := _) (.bool true) (by conv => lhs; simp only [List.getElem?_toArray, List.getElem?_cons_succ, List.getElem?_cons_zero]) (by rfl) (by rfl) ?_ (fun _ => by rfl) (by conv => lhs; simp only [Act.put, List.setIfInBounds_toArray, List.set_cons_succ, List.set_cons_zero]) ?_
  · intro w _; go_simp
  refine textS_skip (o := _) (by conv => lhs; simp only [List.getElem?_toArray, List.getElem?_cons_succ, List.getElem?_cons_zero]) (by rfl) (by rfl) (fun _ => by rfl) (by conv => lhs; simp only [Act.put, List.setIfInBounds_toArray, List.set_cons_succ, List.set_cons_zero]) ?_
  refine textS_skip (o := _) (by conv => lhs; simp only [List.getElem?_toArray, List.getElem?_cons_succ, List.getElem?_cons_zero]) (by rfl) (by rfl) (fun _ => by rfl) (by conv => lhs; simp only [Act.put, List.setIfInBounds_toArray, List.set_cons_succ, List.set_cons_zero]) ?_
  refine textS_skip (o := _) (by conv => lhs; simp only [List.getElem?_toArray, List.getElem?_cons_succ, List.getElem?_cons_zero]) (by rfl) (by rfl) (fun _ => by rfl) (by conv => lhs; simp only [Act.put, List.setIfInBounds_toArray, List.set_cons_succ, List.set_cons_zero]) ?_
  refine textS_skip (o := _) (by conv => lhs; simp only [List.getElem?_toArray, List.getElem?_cons_succ, List.getElem?_cons_zero]) (by rfl) (by rfl) (fun _ => by rfl) (by conv => lhs; simp only [Act.put, List.setIfInBounds_toArray, List.set_cons_succ, List.set_cons_zero]) ?_
  refine textS_skip (o := _) (by conv => lhs; simp only [List.getElem?_toArray, List.getElem?_cons_succ, List.getElem?_cons_zero]) (by rfl) (by rfl) (fun _ => by rfl) (by conv => lhs; simp only [Act.put, List.setIfInBounds_toArray, List.set_cons_succ, List.set_cons_zero]) ?_
  refine textS_callSkip (o := _) (by conv => lhs; simp only [List.getElem?_toArray, List.getElem?_cons_succ, List.getElem?_cons_zero]) (by rfl) (by rfl) (fun _ => trivial) F.two (by conv => lhs; simp only [Act.put, List.setIfInBounds_toArray, List.set_cons_succ, List.set_cons_zero]) ?_
  refine textS_callSkip (o := _) (by conv => lhs; simp only [List.getElem?_toArray, List.getElem?_cons_succ, List.getElem?_cons_zero]) (by rfl) (by rfl) (fun _ => trivial) F.two (by conv => lhs; simp only [Act.put, List.setIfInBounds_toArray, List.set_cons_succ, List.set_cons_zero]) ?_
  refine textS_skip (o := _) (by conv => lhs; simp only [List.getElem?_toArray, List.getElem?_cons_succ, List.getElem?_cons_zero]) (by rfl) (by rfl) (fun _ => by rfl) (by conv => lhs; simp only [Act.put, List.setIfInBounds_toArray, List.set_cons_succ, List.set_cons_zero]) ?_
  refine textS_take (o := _) (.bool true) (by conv => lhs; simp only [List.getElem?_toArray, List.getElem?_cons_succ, List.getElem?_cons_zero]) (by rfl) (by rfl) ?_ (fun _ => by rfl) (by conv => lhs; simp only [Act.put, List.setIfInBounds_toArray, List.set_cons_succ, List.set_cons_zero]) ?_
  · intro w _; go_simp
  refine NoPanic.normal ?_
  refine hK2 _ _ ?_
  clear hK1 hK2
  have low := F.low
  clear F hY hR hP hlow
  go_wp2
  go_ret
  exact ⟨rfl, low⟩
set_option maxRecDepth 100000 in
set_option maxHeartbeats 4000000 in
theorem compare_stop3 {lo B l R : Nat} {Wl W : World} {WS : Int → World} (hY : Yld lo l B Wl WS) (hB : B ≤ Wl.heap.size) (hRB : B ≤ R) (hg : 1 < B) (ka na kb nb : Int) (ba bb : Bool) (sa sb : ByteArray) (la qa lb qb : Value) (d m : Int) (hR : Reach W R d m) (hP : Places W) (hlow : Below B Wl W) (hd : 0 < d) (hm : 0 < m) (hd' : d ≤ 65536) (hm' : m ≤ 4194304) (x0 : cmpV (placeV ka) (placeV kb) = 0) (x1 : cmpV (ofV ba) (ofV bb) = 0) (x2 : cmpV na nb = 0) (x3 : Lib.compareBytes sa.data.toList sb.data.toList ≠ 0) :
    Calls Tryd.prog 59 #[.pointer (some ⟨R, 0, none⟩), .agg #[.int .i64 ka, .bool ba, .int .i64 na, .string sa, la, qa], .agg #[.int .i64 kb, .bool bb, .int .i64 nb, .string sb, lb, qb], .func (.yield l) #[] #[]] W fun e w' => e = .returned (.bool false) ∧ Below B (WS (Lib.compareBytes sa.data.toList sb.data.toList)) w' := by
  have hRA : R < W.heap.size := hR.lt
  have hBA : B ≤ W.heap.size := Nat.le_trans hB hlow.size
  have F := Fx.start #[.int .i64 ka, .bool ba, .int .i64 na, .string sa, la, qa] #[.int .i64 kb, .bool bb, .int .i64 nb, .string sb, lb, qb] hB hlow hP hR
  go_enter Tryd.func59, Tryd.ntmps59
  go_wp2
  rename_i Q' K1 hK1 K2 hK2
  refine wp_region_noPanic ?_
  refine wpIn_wide (n := 5).1 ?_
  refine wpIn_region_text (Two W.heap.size #[.int .i64 ka, .bool ba, .int .i64 na, .string sa, la, qa] #[.int .i64 kb, .bool bb, .int .i64 nb, .string sb, lb, qb]) [0, 1, 2, 3, 4, 5, 6, 8, 9, 7, 10, 11, 12, 13, 14, 15, 16, 17, 18, 20, 21, 19, 22, 23, 24, 25, 26, 27, 28, 29, 30, 31, 32, 33, 34, 35, 36, 37, 38, 39, 40, 41, 42, 43, 44, 45, 46] rfl (by kernel_rfl) (by kernel_rfl) (by kernel_rfl) (by kernel_rfl) (fun _ _ _ _ _ h => h) F.two ?_
  generalize ((W.alloc (.cells #[.int .i64 ka, .bool ba, .int .i64 na, .string sa, la, qa] 26)).alloc (.cells #[.int .i64 kb, .bool bb, .int .i64 nb, .string sb, lb, qb] 26)).drew = w0 at F ⊢
  refine textS_take (o := _) (.pointer (some ⟨R, 0, none⟩)) (by conv => lhs; simp only [List.getElem?_toArray, List.getElem?_cons_succ, List.getElem?_cons_zero]) (by rfl) (by rfl) ?_ (fun _ => by rfl) (by conv => lhs; simp only [Act.put, List.setIfInBounds_toArray, List.set_cons_succ, List.set_cons_zero]) ?_
  · intro w _; go_simp
  refine textS_call (o := _) (by conv => lhs; simp only [List.getElem?_toArray, List.getElem?_cons_succ, List.getElem?_cons_zero]) (by rfl) (by rfl) ?_
  refine wpIn_call (f := 60) (args := #[.pointer (some ⟨R, 0, none⟩)]) rfl ?_ (enter_yes R d m _ F.reach hd hm hd' hm') ?_
  · go_simp
  rintro e w1 ⟨rfl, hw1⟩
  replace F := F.enter hRB hRA hg hw1
  clear hw1
  refine ⟨_, _, rfl, (by conv => lhs; simp only [Act.put, List.setIfInBounds_toArray, List.set_cons_succ, List.set_cons_zero]), F.two, ?_⟩
  refine textS_take (o := _) (.bool false) (by conv => lhs; simp only [List.getElem?_toArray, List.getElem?_cons_succ, List.getElem?_cons_zero]) (by rfl) (by rfl) ?_ (fun _ => by rfl) (by conv => lhs; simp only [Act.put, List.setIfInBounds_toArray, List.set_cons_succ, List.set_cons_zero]) ?_
  · intro w _; go_simp
  refine textS_take (o := _) (.bool false) (by conv => lhs; simp only [List.getElem?_toArray, List.getElem?_cons_succ, List.getElem?_cons_zero]) (by rfl) (by rfl) ?_ (fun _ => by rfl) (by conv => lhs; simp only [Act.put, List.setIfInBounds_toArray, List.set_cons_succ, List.set_cons_zero]) ?_
  · intro w _; go_simp
  refine textS_take (o := _) (.func (.yield l) #[] #[]) (by conv => lhs; simp only [List.getElem?_toArray, List.getElem?_cons_succ, List.getElem?_cons_zero]) (by rfl) (by rfl) ?_ (fun _ => by rfl) (by conv => lhs; simp only [Act.put, List.setIfInBounds_toArray, List.set_cons_succ, List.set_cons_zero]) ?_
  · intro w _; go_simp
  refine textS_take (o := _) (.pointer (some ⟨W.heap.size, 0, none⟩)) (by conv => lhs; simp only [List.getElem?_toArray, List.getElem?_cons_succ, List.getElem?_cons_zero]) (by rfl) (by rfl) ?_ (fun _ => by rfl) (by conv => lhs; simp only [Act.put, List.setIfInBounds_toArray, List.set_cons_succ, List.set_cons_zero]) ?_
  · intro w _; go_simp
  refine textS_take (o := _) (.int .i64 ka) (by conv => lhs; simp only [List.getElem?_toArray, List.getElem?_cons_succ, List.getElem?_cons_zero]) (by rfl) (by rfl) ?_ (fun _ => by rfl) (by conv => lhs; simp only [Act.put, List.setIfInBounds_toArray, List.set_cons_succ, List.set_cons_zero]) ?_
  · rintro w ⟨t0, t1⟩; obtain ⟨c0, c1, c2, c3, c4, c5⟩ := t0.cell; clear t0 t1; go_simp
  refine textS_take (o := _) (.pointer (some ⟨(W.heap.size + 1), 0, none⟩)) (by conv => lhs; simp only [List.getElem?_toArray, List.getElem?_cons_succ, List.getElem?_cons_zero]) (by rfl) (by rfl) ?_ (fun _ => by rfl) (by conv => lhs; simp only [Act.put, List.setIfInBounds_toArray, List.set_cons_succ, List.set_cons_zero]) ?_
  · intro w _; go_simp
  refine textS_take (o := _) (.int .i64 kb) (by conv => lhs; simp only [List.getElem?_toArray, List.getElem?_cons_succ, List.getElem?_cons_zero]) (by rfl) (by rfl) ?_ (fun _ => by rfl) (by conv => lhs; simp only [Act.put, List.setIfInBounds_toArray, List.set_cons_succ, List.set_cons_zero]) ?_
  · rintro w ⟨t0, t1⟩; obtain ⟨c0, c1, c2, c3, c4, c5⟩ := t1.cell; clear t0 t1; go_simp
  refine textS_call (o := _) (by conv => lhs; simp only [List.getElem?_toArray, List.getElem?_cons_succ, List.getElem?_cons_zero]) (by rfl) (by rfl) ?_
  refine wpIn_call (f := 72) (args := #[.int .i64 ka]) rfl ?_ (place_any ka w1 F.places) ?_
  · go_simp
  rintro e w2 ⟨rfl, rfl⟩
  refine ⟨_, _, rfl, (by conv => lhs; simp only [Act.put, List.setIfInBounds_toArray, List.set_cons_succ, List.set_cons_zero]), F.two, ?_⟩
  refine textS_call (o := _) (by conv => lhs; simp only [List.getElem?_toArray, List.getElem?_cons_succ, List.getElem?_cons_zero]) (by rfl) (by rfl) ?_
  refine wpIn_call (f := 72) (args := #[.int .i64 kb]) rfl ?_ (place_any kb w1 F.places) ?_
  · go_simp
  rintro e w2 ⟨rfl, rfl⟩
  refine ⟨_, _, rfl, (by conv => lhs; simp only [Act.put, List.setIfInBounds_toArray, List.set_cons_succ, List.set_cons_zero]), F.two, ?_⟩
  refine textS_call (o := _) (by conv => lhs; simp only [List.getElem?_toArray, List.getElem?_cons_succ, List.getElem?_cons_zero]) (by rfl) (by rfl) ?_
  refine wpIn_call (f := 41) (args := #[.int .i64 (placeV ka), .int .i64 (placeV kb)]) rfl ?_ (zero_of x0 (cmp_int _ _ w1)) ?_
  · go_simp
  rintro e w2 ⟨rfl, rfl⟩
  refine ⟨_, _, rfl, (by conv => lhs; simp only [Act.put, List.setIfInBounds_toArray, List.set_cons_succ, List.set_cons_zero]), F.two, ?_⟩
  refine textS_call (o := _) (by conv => lhs; simp only [List.getElem?_toArray, List.getElem?_cons_succ, List.getElem?_cons_zero]) (by rfl) (by rfl) ?_
  obtain ⟨fn, tm, as1, bd, hy, hr⟩ := hY.zero 4 _ F.low
  refine wpIn_yield rfl ?_ hr ?_
  · go_simp
  rintro e y0 ⟨rfl, hlow⟩
  replace F := F.zero hB hlow
  clear hy hr hlow
  refine ⟨_, _, rfl, (by conv => lhs; simp only [Act.put, List.setIfInBounds_toArray, List.set_cons_succ, List.set_cons_zero]), F.two, ?_⟩
  refine textS_take (o := _) (.bool false) (by conv => lhs; simp only [List.getElem?_toArray, List.getElem?_cons_succ, List.getElem?_cons_zero]) (by rfl) (by rfl) ?_ (fun _ => by rfl) (by conv => lhs; simp only [Act.put, List.setIfInBounds_toArray, List.set_cons_succ, List.set_cons_zero]) ?_
  · intro w _; go_simp
  refine textS_take (o := _) (.bool false) (by conv => lhs; simp only [List.getElem?_toArray, List.getElem?_cons_succ, List.getElem?_cons_zero]) (by rfl) (by rfl) ?_ (fun _ => by rfl) (by conv => lhs; simp only [Act.put, List.setIfInBounds_toArray, List.set_cons_succ, List.set_cons_zero]) ?_
  · intro w _; go_simp
  refine textS_take (o := _) (.bool false) (by conv => lhs; simp only [List.getElem?_toArray, List.getElem?_cons_succ, List.getElem?_cons_zero]) (by rfl) (by rfl) ?_ (fun _ => by rfl) (by conv => lhs; simp only [Act.put, List.setIfInBounds_toArray, List.set_cons_succ, List.set_cons_zero]) ?_
  · intro w _; go_simp
  refine textS_take (o := _) (.func (.yield l) #[] #[]) (by conv => lhs; simp only [List.getElem?_toArray, List.getElem?_cons_succ, List.getElem?_cons_zero]) (by rfl) (by rfl) ?_ (fun _ => by rfl) (by conv => lhs; simp only [Act.put, List.setIfInBounds_toArray, List.set_cons_succ, List.set_cons_zero]) ?_
  · intro w _; go_simp
  refine textS_take (o := _) (.pointer (some ⟨W.heap.size, 1, none⟩)) (by conv => lhs; simp only [List.getElem?_toArray, List.getElem?_cons_succ, List.getElem?_cons_zero]) (by rfl) (by rfl) ?_ (fun _ => by rfl) (by conv => lhs; simp only [Act.put, List.setIfInBounds_toArray, List.set_cons_succ, List.set_cons_zero]) ?_
  · intro w _; go_simp
  refine textS_take (o := _) (.bool ba) (by conv => lhs; simp only [List.getElem?_toArray, List.getElem?_cons_succ, List.getElem?_cons_zero]) (by rfl) (by rfl) ?_ (fun _ => by rfl) (by conv => lhs; simp only [Act.put, List.setIfInBounds_toArray, List.set_cons_succ, List.set_cons_zero]) ?_
  · rintro w ⟨t0, t1⟩; obtain ⟨c0, c1, c2, c3, c4, c5⟩ := t0.cell; clear t0 t1; go_simp
  refine textS_take (o := _) (.pointer (some ⟨(W.heap.size + 1), 1, none⟩)) (by conv => lhs; simp only [List.getElem?_toArray, List.getElem?_cons_succ, List.getElem?_cons_zero]) (by rfl) (by rfl) ?_ (fun _ => by rfl) (by conv => lhs; simp only [Act.put, List.setIfInBounds_toArray, List.set_cons_succ, List.set_cons_zero]) ?_
  · intro w _; go_simp
  refine textS_take (o := _) (.bool bb) (by conv => lhs; simp only [List.getElem?_toArray, List.getElem?_cons_succ, List.getElem?_cons_zero]) (by rfl) (by rfl) ?_ (fun _ => by rfl) (by conv => lhs; simp only [Act.put, List.setIfInBounds_toArray, List.set_cons_succ, List.set_cons_zero]) ?_
  · rintro w ⟨t0, t1⟩; obtain ⟨c0, c1, c2, c3, c4, c5⟩ := t1.cell; clear t0 t1; go_simp
  refine textS_call (o := _) (by conv => lhs; simp only [List.getElem?_toArray, List.getElem?_cons_succ, List.getElem?_cons_zero]) (by rfl) (by rfl) ?_
  refine wpIn_call (f := 74) (args := #[.bool ba]) rfl ?_ (of_any ba y0) ?_
  · go_simp
  rintro e w2 ⟨rfl, rfl⟩
  refine ⟨_, _, rfl, (by conv => lhs; simp only [Act.put, List.setIfInBounds_toArray, List.set_cons_succ, List.set_cons_zero]), F.two, ?_⟩
  refine textS_call (o := _) (by conv => lhs; simp only [List.getElem?_toArray, List.getElem?_cons_succ, List.getElem?_cons_zero]) (by rfl) (by rfl) ?_
  refine wpIn_call (f := 74) (args := #[.bool bb]) rfl ?_ (of_any bb y0) ?_
  · go_simp
  rintro e w2 ⟨rfl, rfl⟩
  refine ⟨_, _, rfl, (by conv => lhs; simp only [Act.put, List.setIfInBounds_toArray, List.set_cons_succ, List.set_cons_zero]), F.two, ?_⟩
  refine textS_call (o := _) (by conv => lhs; simp only [List.getElem?_toArray, List.getElem?_cons_succ, List.getElem?_cons_zero]) (by rfl) (by rfl) ?_
  refine wpIn_call (f := 73) (args := #[.int .i64 (ofV ba), .int .i64 (ofV bb)]) rfl ?_ (zero_of x1 (cmp_truth _ _ y0)) ?_
  · go_simp
  rintro e w2 ⟨rfl, rfl⟩
  refine ⟨_, _, rfl, (by conv => lhs; simp only [Act.put, List.setIfInBounds_toArray, List.set_cons_succ, List.set_cons_zero]), F.two, ?_⟩
  refine textS_call (o := _) (by conv => lhs; simp only [List.getElem?_toArray, List.getElem?_cons_succ, List.getElem?_cons_zero]) (by rfl) (by rfl) ?_
  obtain ⟨fn, tm, as1, bd, hy, hr⟩ := hY.zero 4 _ F.low
  refine wpIn_yield rfl ?_ hr ?_
  · go_simp
  rintro e y1 ⟨rfl, hlow⟩
  replace F := F.zero hB hlow
  clear hy hr hlow
  refine ⟨_, _, rfl, (by conv => lhs; simp only [Act.put, List.setIfInBounds_toArray, List.set_cons_succ, List.set_cons_zero]), F.two, ?_⟩
  refine textS_take (o := _) (.bool false) (by conv => lhs; simp only [List.getElem?_toArray, List.getElem?_cons_succ, List.getElem?_cons_zero]) (by rfl) (by rfl) ?_ (fun _ => by rfl) (by conv => lhs; simp only [Act.put, List.setIfInBounds_toArray, List.set_cons_succ, List.set_cons_zero]) ?_
  · intro w _; go_simp
  refine textS_take (o := _) (.bool false) (by conv => lhs; simp only [List.getElem?_toArray, List.getElem?_cons_succ, List.getElem?_cons_zero]) (by rfl) (by rfl) ?_ (fun _ => by rfl) (by conv => lhs; simp only [Act.put, List.setIfInBounds_toArray, List.set_cons_succ, List.set_cons_zero]) ?_
  · intro w _; go_simp
  refine textS_take (o := _) (.bool false) (by conv => lhs; simp only [List.getElem?_toArray, List.getElem?_cons_succ, List.getElem?_cons_zero]) (by rfl) (by rfl) ?_ (fun _ => by rfl) (by conv => lhs; simp only [Act.put, List.setIfInBounds_toArray, List.set_cons_succ, List.set_cons_zero]) ?_
  · intro w _; go_simp
  refine textS_take (o := _) (.func (.yield l) #[] #[]) (by conv => lhs; simp only [List.getElem?_toArray, List.getElem?_cons_succ, List.getElem?_cons_zero]) (by rfl) (by rfl) ?_ (fun _ => by rfl) (by conv => lhs; simp only [Act.put, List.setIfInBounds_toArray, List.set_cons_succ, List.set_cons_zero]) ?_
  · intro w _; go_simp
  refine textS_take (o := _) (.pointer (some ⟨W.heap.size, 2, none⟩)) (by conv => lhs; simp only [List.getElem?_toArray, List.getElem?_cons_succ, List.getElem?_cons_zero]) (by rfl) (by rfl) ?_ (fun _ => by rfl) (by conv => lhs; simp only [Act.put, List.setIfInBounds_toArray, List.set_cons_succ, List.set_cons_zero]) ?_
  · intro w _; go_simp
  refine textS_take (o := _) (.int .i64 na) (by conv => lhs; simp only [List.getElem?_toArray, List.getElem?_cons_succ, List.getElem?_cons_zero]) (by rfl) (by rfl) ?_ (fun _ => by rfl) (by conv => lhs; simp only [Act.put, List.setIfInBounds_toArray, List.set_cons_succ, List.set_cons_zero]) ?_
  · rintro w ⟨t0, t1⟩; obtain ⟨c0, c1, c2, c3, c4, c5⟩ := t0.cell; clear t0 t1; go_simp
  refine textS_take (o := _) (.pointer (some ⟨(W.heap.size + 1), 2, none⟩)) (by conv => lhs; simp only [List.getElem?_toArray, List.getElem?_cons_succ, List.getElem?_cons_zero]) (by rfl) (by rfl) ?_ (fun _ => by rfl) (by conv => lhs; simp only [Act.put, List.setIfInBounds_toArray, List.set_cons_succ, List.set_cons_zero]) ?_
  · intro w _; go_simp
  refine textS_take (o := _) (.int .i64 nb) (by conv => lhs; simp only [List.getElem?_toArray, List.getElem?_cons_succ, List.getElem?_cons_zero]) (by rfl) (by rfl) ?_ (fun _ => by rfl) (by conv => lhs; simp only [Act.put, List.setIfInBounds_toArray, List.set_cons_succ, List.set_cons_zero]) ?_
  · rintro w ⟨t0, t1⟩; obtain ⟨c0, c1, c2, c3, c4, c5⟩ := t1.cell; clear t0 t1; go_simp
  refine textS_call (o := _) (by conv => lhs; simp only [List.getElem?_toArray, List.getElem?_cons_succ, List.getElem?_cons_zero]) (by rfl) (by rfl) ?_
  refine wpIn_call (f := 75) (args := #[.int .i64 na, .int .i64 nb]) rfl ?_ (zero_of x2 (cmp_i64 _ _ y1)) ?_
  · go_simp
  rintro e w2 ⟨rfl, rfl⟩
  refine ⟨_, _, rfl, (by conv => lhs; simp only [Act.put, List.setIfInBounds_toArray, List.set_cons_succ, List.set_cons_zero]), F.two, ?_⟩
  refine textS_call (o := _) (by conv => lhs; simp only [List.getElem?_toArray, List.getElem?_cons_succ, List.getElem?_cons_zero]) (by rfl) (by rfl) ?_
  obtain ⟨fn, tm, as1, bd, hy, hr⟩ := hY.zero 4 _ F.low
  refine wpIn_yield rfl ?_ hr ?_
  · go_simp
  rintro e y2 ⟨rfl, hlow⟩
  replace F := F.zero hB hlow
  clear hy hr hlow
  refine ⟨_, _, rfl, (by conv => lhs; simp only [Act.put, List.setIfInBounds_toArray, List.set_cons_succ, List.set_cons_zero]), F.two, ?_⟩
  refine textS_take (o := _) (.bool false) (by conv => lhs; simp only [List.getElem?_toArray, List.getElem?_cons_succ, List.getElem?_cons_zero]) (by rfl) (by rfl) ?_ (fun _ => by rfl) (by conv => lhs; simp only [Act.put, List.setIfInBounds_toArray, List.set_cons_succ, List.set_cons_zero]) ?_
  · intro w _; go_simp
  refine textS_take (o := _) (.bool false) (by conv => lhs; simp only [List.getElem?_toArray, List.getElem?_cons_succ, List.getElem?_cons_zero]) (by rfl) (by rfl) ?_ (fun _ => by rfl) (by conv => lhs; simp only [Act.put, List.setIfInBounds_toArray, List.set_cons_succ, List.set_cons_zero]) ?_
  · intro w _; go_simp
  refine textS_take (o := _) (.bool false) (by conv => lhs; simp only [List.getElem?_toArray, List.getElem?_cons_succ, List.getElem?_cons_zero]) (by rfl) (by rfl) ?_ (fun _ => by rfl) (by conv => lhs; simp only [Act.put, List.setIfInBounds_toArray, List.set_cons_succ, List.set_cons_zero]) ?_
  · intro w _; go_simp
  refine textS_take (o := _) (.func (.yield l) #[] #[]) (by conv => lhs; simp only [List.getElem?_toArray, List.getElem?_cons_succ, List.getElem?_cons_zero]) (by rfl) (by rfl) ?_ (fun _ => by rfl) (by conv => lhs; simp only [Act.put, List.setIfInBounds_toArray, List.set_cons_succ, List.set_cons_zero]) ?_
  · intro w _; go_simp
  refine textS_take (o := _) (.pointer (some ⟨W.heap.size, 3, none⟩)) (by conv => lhs; simp only [List.getElem?_toArray, List.getElem?_cons_succ, List.getElem?_cons_zero]) (by rfl) (by rfl) ?_ (fun _ => by rfl) (by conv => lhs; simp only [Act.put, List.setIfInBounds_toArray, List.set_cons_succ, List.set_cons_zero]) ?_
  · intro w _; go_simp
  refine textS_take (o := _) (.string sa) (by conv => lhs; simp only [List.getElem?_toArray, List.getElem?_cons_succ, List.getElem?_cons_zero]) (by rfl) (by rfl) ?_ (fun _ => by rfl) (by conv => lhs; simp only [Act.put, List.setIfInBounds_toArray, List.set_cons_succ, List.set_cons_zero]) ?_
  · rintro w ⟨t0, t1⟩; obtain ⟨c0, c1, c2, c3, c4, c5⟩ := t0.cell; clear t0 t1; go_simp
  refine textS_take (o := _) (.pointer (some ⟨(W.heap.size + 1), 3, none⟩)) (by conv => lhs; simp only [List.getElem?_toArray, List.getElem?_cons_succ, List.getElem?_cons_zero]) (by rfl) (by rfl) ?_ (fun _ => by rfl) (by conv => lhs; simp only [Act.put, List.setIfInBounds_toArray, List.set_cons_succ, List.set_cons_zero]) ?_
  · intro w _; go_simp
  refine textS_take (o := _) (.string sb) (by conv => lhs; simp only [List.getElem?_toArray, List.getElem?_cons_succ, List.getElem?_cons_zero]) (by rfl) (by rfl) ?_ (fun _ => by rfl) (by conv => lhs; simp only [Act.put, List.setIfInBounds_toArray, List.set_cons_succ, List.set_cons_zero]) ?_
  · rintro w ⟨t0, t1⟩; obtain ⟨c0, c1, c2, c3, c4, c5⟩ := t1.cell; clear t0 t1; go_simp
  refine textS_call (o := _) (by conv => lhs; simp only [List.getElem?_toArray, List.getElem?_cons_succ, List.getElem?_cons_zero]) (by rfl) (by rfl) ?_
  refine wpIn_call (f := 40) (args := #[.string sa, .string sb]) rfl ?_ (str_cmp _ _ y2) ?_
  · go_simp
  rintro e w2 ⟨rfl, rfl⟩
  refine ⟨_, _, rfl, (by conv => lhs; simp only [Act.put, List.setIfInBounds_toArray, List.set_cons_succ, List.set_cons_zero]), F.two, ?_⟩
  refine textS_call (o := _) (by conv => lhs; simp only [List.getElem?_toArray, List.getElem?_cons_succ, List.getElem?_cons_zero]) (by rfl) (by rfl) ?_
  obtain ⟨fn, tm, as1, bd, hy, hr⟩ := hY.stop 4 _ _ x3 F.low
  refine wpIn_yield rfl ?_ hr ?_
  · go_simp
  rintro e y3 ⟨rfl, hlow⟩
  clear hy hr
  replace F := F.stop hBA hlow
  refine ⟨_, _, rfl, (by conv => lhs; simp only [Act.put, List.setIfInBounds_toArray, List.set_cons_succ, List.set_cons_zero]), F.two, ?_⟩
  refine textS_take (o := _) (.bool true) (by conv => lhs; simp only [List.getElem?_toArray, List.getElem?_cons_succ, List.getElem?_cons_zero]) (by rfl) (by rfl) ?_ (fun _ => by rfl) (by conv => lhs; simp only [Act.put, List.setIfInBounds_toArray, List.set_cons_succ, List.set_cons_zero]) ?_
  · intro w _; go_simp
  refine textS_take (o := _) (.bool true) (by conv => lhs; simp only [List.getElem?_toArray, List.getElem?_cons_succ, List.getElem?_cons_zero]) (by rfl) (by rfl) ?_ (fun _ => by rfl) (by conv => lhs; simp only [Act.put, List.setIfInBounds_toArray, List.set_cons_succ, List.set_cons_zero]) ?_
  · intro w _; go_simp
  refine NoPanic.normal ?_
  refine hK2 _ _ ?_
  clear hK1 hK2
  have low := F.low
  clear F hY hR hP hlow
  go_wp2
  go_ret
  exact ⟨rfl, low⟩
end Val
end Go.Proofs.YtepfihanhdinfaaDoor
