/- THE ORDER OF TWO FLAT VALUES (no list, no keys): Order, Same. -/
import Derived.Test.YtepfihanhdinfaaDoorRows
import Derived.Test.YtepfihanhdinfaaDoorHeld
import Derived.Test.YtepfihanhdinfaaDoorValBase
import Derived.Test.YtepfihanhdinfaaDoorValCmp
import Derived.Test.YtepfihanhdinfaaDoorValFlat
import Derived.Test.YtepfihanhdinfaaDoorValFirst
import Derived.WalkKit
import Derived.Lib.Hide
import Derived.Deep.RegionHeld3
import Derived.RangeFuncNested
import Derived.Shelf.Abstract
namespace Go.Proofs.YtepfihanhdinfaaDoor
open Go.RowKit Go.Shelf
set_option linter.unusedVariables false
set_option linter.unusedSimpArgs false
namespace Val
def orE (x y : Int) : Int := if x = 0 then y else x
/-- What stands first of the fields of two flat values. -/
def flatV (ka na kb nb : Int) (ba bb : Bool) (sa sb : ByteArray) : Int := orE (cmpV (placeV ka) (placeV kb)) (orE (cmpV (ofV ba) (ofV bb)) (orE (cmpV na nb) (Lib.compareBytes sa.data.toList sb.data.toList)))
/-- The comparisons were all 0, or c was the first that was not. -/
def Ended (B : Nat) (Wl : World) (WS : Int → World) (c : Int) (e : Ending) (W' : World) : Prop := (∃ v, e = .returned v) ∧ ((c = 0 ∧ Below B Wl W') ∨ (c ≠ 0 ∧ Below B (WS c) W'))
theorem compare_ended {lo B l R : Nat} {Wl W : World} {WS : Int → World} (hY : Yld lo l B Wl WS) (hB : B ≤ Wl.heap.size) (hRB : B ≤ R) (hg : 1 < B) (ka na kb nb : Int) (ba bb : Bool) (sa sb : ByteArray) (pla pqa plb pqb : Option Addr) (cla cqa clb cqb : Nat) (d m : Int) (hR : Reach W R d m) (hP : Places W) (hlow : Below B Wl W) (hd : 0 < d) (hm : 0 < m) (hd' : d ≤ 65536) (hm' : m ≤ 4194304) :
    Calls Tryd.prog 59 #[.pointer (some ⟨R, 0, none⟩), .agg #[.int .i64 ka, .bool ba, .int .i64 na, .string sa, .slice pla 0 cla, .slice pqa 0 cqa], .agg #[.int .i64 kb, .bool bb, .int .i64 nb, .string sb, .slice plb 0 clb, .slice pqb 0 cqb], .func (.yield l) #[] #[]] W (Ended B Wl WS (flatV ka na kb nb ba bb sa sb)) := by
  by_cases x0 : cmpV (placeV ka) (placeV kb) = 0
  · by_cases x1 : cmpV (ofV ba) (ofV bb) = 0
    · by_cases x2 : cmpV na nb = 0
      · by_cases x3 : Lib.compareBytes sa.data.toList sb.data.toList = 0
        · refine (compare_flat hY hB hRB hg ka na kb nb ba bb sa sb pla pqa plb pqb cla cqa clb cqb d m hR hP hlow hd hm hd' hm' x0 x1 x2 x3).mono ?_
          rintro e w ⟨rfl, h⟩
          exact ⟨⟨_, rfl⟩, .inl ⟨by simp [flatV, orE, x0, x1, x2, x3], h⟩⟩
        · refine (compare_stop3 hY hB hRB hg ka na kb nb ba bb sa sb _ _ _ _ d m hR hP hlow hd hm hd' hm' x0 x1 x2 x3).mono ?_
          rintro e w ⟨rfl, h⟩
          have e : flatV ka na kb nb ba bb sa sb = Lib.compareBytes sa.data.toList sb.data.toList := by simp [flatV, orE, x0, x1, x2]
          exact ⟨⟨_, rfl⟩, .inr ⟨by rw [e]; exact x3, by rw [e]; exact h⟩⟩
      · refine (compare_stop2 hY hB hRB hg ka na kb nb ba bb sa sb _ _ _ _ d m hR hP hlow hd hm hd' hm' x0 x1 x2).mono ?_
        rintro e w ⟨rfl, h⟩
        have e : flatV ka na kb nb ba bb sa sb = cmpV na nb := by simp [flatV, orE, x0, x1, x2]
        exact ⟨⟨_, rfl⟩, .inr ⟨by rw [e]; exact x2, by rw [e]; exact h⟩⟩
    · refine (compare_stop1 hY hB hRB hg ka na kb nb ba bb sa sb _ _ _ _ d m hR hP hlow hd hm hd' hm' x0 x1).mono ?_
      rintro e w ⟨rfl, h⟩
      have e : flatV ka na kb nb ba bb sa sb = cmpV (ofV ba) (ofV bb) := by simp [flatV, orE, x0, x1]
      exact ⟨⟨_, rfl⟩, .inr ⟨by rw [e]; exact x1, by rw [e]; exact h⟩⟩
  · refine (compare_stop0 hY hB hRB hg ka na kb nb ba bb sa sb _ _ _ _ d m hR hP hlow hd hm hd' hm' x0).mono ?_
    rintro e w ⟨rfl, h⟩
    have e : flatV ka na kb nb ba bb sa sb = cmpV (placeV ka) (placeV kb) := by simp [flatV, orE, x0]
    exact ⟨⟨_, rfl⟩, .inr ⟨by rw [e]; exact x0, by rw [e]; exact h⟩⟩
/-- The closure over two boxed values, called with yield. -/
theorem closure_ended (ca cb : Array Value) (c : Int) (lo Ba Bb l : Nat) (Wl : World) (WS : Int → World) (a0 a1 a2 a3 a4 a5 b0 b1 b2 b3 b4 b5 : Value) (ha : Box Wl Ba #[a0, a1, a2, a3, a4, a5]) (hb : Box Wl Bb #[b0, b1, b2, b3, b4, b5]) (hY : Yld lo l Wl.heap.size Wl WS) (hP : Places Wl)
    (hcmp : ∀ W, Below Wl.heap.size Wl W → Reach W Wl.heap.size 65536 4194304 → Places W → Calls Tryd.prog 59 #[.pointer (some ⟨Wl.heap.size, 0, none⟩), .agg #[a0, a1, a2, a3, a4, a5], .agg #[b0, b1, b2, b3, b4, b5], .func (.yield l) #[] #[]] W (Ended Wl.heap.size Wl WS c)) :
    Calls Tryd.prog 58 #[.func (.yield l) #[] #[], .pointer (some ⟨Ba, 0, none⟩), .pointer (some ⟨Bb, 0, none⟩)] Wl (Ended Wl.heap.size Wl WS c) := by
  have hW := hcmp (Wl.drew.alloc (.cells #[.int .i64 65536, .int .i64 4194304] 89)) ((Below.refl _ Wl).drew.alloc (Nat.le_refl _) _) (Reach.new _ _ _) (hP.drew.below ((Below.refl _ _).alloc (Nat.le_refl _) _) hP.lt)
  have hF := far_any Wl.drew
  clear hP hcmp
  go_enter Tryd.func58, Tryd.ntmps58
  refine wp_region_noPanic ?_
  refine wpIn_wide (n := 5).1 ?_
  refine wpIn_region_text (fun w => Box w Ba #[a0, a1, a2, a3, a4, a5] ∧ Box w Bb #[b0, b1, b2, b3, b4, b5]) [1, 2, 3, 0, 4] rfl (by kernel_rfl) (by kernel_rfl) (by kernel_rfl) (by kernel_rfl) (fun _ _ _ _ _ h => h) ⟨ha, hb⟩ ?_
  refine textS_take (o := _) (.agg #[a0, a1, a2, a3, a4, a5]) (by conv => lhs; simp only [List.getElem?_toArray, List.getElem?_cons_succ, List.getElem?_cons_zero]) (by rfl) (by rfl) ?_ (fun _ => by rfl) (by conv => lhs; simp only [Act.put, List.setIfInBounds_toArray, List.set_cons_succ, List.set_cons_zero]) ?_
  · rintro w ⟨t0, t1⟩; obtain ⟨c0, c1, c2, c3, c4, c5⟩ := t0.cell; clear t0 t1; go_simp
  refine textS_take (o := _) (.agg #[b0, b1, b2, b3, b4, b5]) (by conv => lhs; simp only [List.getElem?_toArray, List.getElem?_cons_succ, List.getElem?_cons_zero]) (by rfl) (by rfl) ?_ (fun _ => by rfl) (by conv => lhs; simp only [Act.put, List.setIfInBounds_toArray, List.set_cons_succ, List.set_cons_zero]) ?_
  · rintro w ⟨t0, t1⟩; obtain ⟨c0, c1, c2, c3, c4, c5⟩ := t1.cell; clear t0 t1; go_simp
  refine textS_take (o := _) (.func (.yield l) #[] #[]) (by conv => lhs; simp only [List.getElem?_toArray, List.getElem?_cons_succ, List.getElem?_cons_zero]) (by rfl) (by rfl) ?_ (fun _ => by rfl) (by conv => lhs; simp only [Act.put, List.setIfInBounds_toArray, List.set_cons_succ, List.set_cons_zero]) ?_
  · intro w _; go_simp
  refine textS_call (o := _) (by conv => lhs; simp only [List.getElem?_toArray, List.getElem?_cons_succ, List.getElem?_cons_zero]) (by rfl) (by rfl) ?_
  refine wpIn_call (f := 42) (args := #[]) rfl ?_ hF ?_
  · go_simp
  rintro e w1 ⟨rfl, rfl⟩
  refine ⟨_, _, rfl, (by conv => lhs; simp only [Act.put, List.setIfInBounds_toArray, List.set_cons_succ, List.set_cons_zero]), ⟨ha.drew.alloc _, hb.drew.alloc _⟩, ?_⟩
  refine textS_call (o := _) (by conv => lhs; simp only [List.getElem?_toArray, List.getElem?_cons_succ, List.getElem?_cons_zero]) (by rfl) (by rfl) ?_
  refine wpIn_call (f := 59) (args := #[.pointer (some ⟨Wl.heap.size, 0, none⟩), .agg #[a0, a1, a2, a3, a4, a5], .agg #[b0, b1, b2, b3, b4, b5], .func (.yield l) #[] #[]]) rfl ?_ hW ?_
  · go_simp
  rintro e w2 ⟨⟨v, rfl⟩, hE⟩
  refine ⟨v, _, rfl, (by conv => lhs; simp only [Act.put, List.setIfInBounds_toArray, List.set_cons_succ, List.set_cons_zero]), ?_, ?_⟩
  · rcases hE with ⟨-, hE⟩ | ⟨-, hE⟩
    · exact ⟨(hE.block _ ha.lt).trans ha, (hE.block _ hb.lt).trans hb⟩
    · exact ⟨(hE.block _ ha.lt).trans (hY.keep c _ _ ha), (hE.block _ hb.lt).trans (hY.keep c _ _ hb)⟩
  refine NoPanic.normal ?_
  go_end0
  exact ⟨⟨_, rfl⟩, hE⟩
theorem comparisons_any (va vb : Value) (a0 a1 a2 a3 a4 a5 b0 b1 b2 b3 b4 b5 : Value) (W : World) : Calls Tryd.prog 33 #[.agg #[a0, a1, a2, a3, a4, a5], .agg #[b0, b1, b2, b3, b4, b5]] W fun e w' => e = .returned (.func (.func 58) #[] #[.pointer (some ⟨W.heap.size, 0, none⟩), .pointer (some ⟨W.heap.size + 1, 0, none⟩)]) ∧ w' = (W.alloc (.cells #[a0, a1, a2, a3, a4, a5] 26)).alloc (.cells #[b0, b1, b2, b3, b4, b5] 26) := by
  go_enter Tryd.func33, Tryd.ntmps33
  go_wp2
  go_ret
  exact ⟨rfl, rfl⟩
theorem enters56 : ∀ args w, (callFunc 58 args).run Tryd.prog w = .ok (.enter 58 args) w := enters_of Tryd.func58 (by kernel_rfl) rfl
set_option maxRecDepth 100000 in
/-- Order of two values, where their comparison is known. -/
theorem order_of (c : Int) (W : World) (a0 a1 a2 a3 a4 a5 b0 b1 b2 b3 b4 b5 : Value) (hP : Places W)
    (hcmp : ∀ (lo l R B : Nat) (Wl V : World) (WS : Int → World), Yld lo l B Wl WS → W.heap.size ≤ lo → lo ≤ B → B ≤ Wl.heap.size → B ≤ R → Below W.heap.size W Wl → W.heap.size ≤ B → Below B Wl V → Reach V R 65536 4194304 → Places V → Calls Tryd.prog 59 #[.pointer (some ⟨R, 0, none⟩), .agg #[a0, a1, a2, a3, a4, a5], .agg #[b0, b1, b2, b3, b4, b5], .func (.yield l) #[] #[]] V (Ended B Wl WS c)) :
    Calls Tryd.prog 21 #[.agg #[a0, a1, a2, a3, a4, a5], .agg #[b0, b1, b2, b3, b4, b5]] W fun e w' => e = .returned (.int .i64 c) ∧ Below W.heap.size W w' := by
  have hg := hP.lt
  have hord : ∀ (w1 : World) (p q : Nat), p = w1.heap.size → q = w1.heap.size + 1 → Below W.heap.size W w1 → Calls Tryd.prog 32 #[.func (.func 58) #[] #[.pointer (some ⟨p, 0, none⟩), .pointer (some ⟨q, 0, none⟩)]] ((w1.alloc (.cells #[a0, a1, a2, a3, a4, a5] 26)).alloc (.cells #[b0, b1, b2, b3, b4, b5] 26)) fun e w' => e = .returned (.int .i64 c) ∧ Below W.heap.size W w' := fun w1 p q hp hq hb1 => by
    subst hp hq
    have hA : Box ((w1.alloc (.cells #[a0, a1, a2, a3, a4, a5] 26)).alloc (.cells #[b0, b1, b2, b3, b4, b5] 26)) w1.heap.size #[a0, a1, a2, a3, a4, a5] := (Box.new w1 _).alloc _
    have hB : Box ((w1.alloc (.cells #[a0, a1, a2, a3, a4, a5] 26)).alloc (.cells #[b0, b1, b2, b3, b4, b5] 26)) (w1.heap.size + 1) #[b0, b1, b2, b3, b4, b5] := by
      have := Box.new (w1.alloc (.cells #[a0, a1, a2, a3, a4, a5] 26)) #[b0, b1, b2, b3, b4, b5]
      rwa [World.size_alloc] at this
    have hb2 : Below W.heap.size W ((w1.alloc (.cells #[a0, a1, a2, a3, a4, a5] 26)).alloc (.cells #[b0, b1, b2, b3, b4, b5] 26)) := (hb1.alloc hb1.size _).alloc (by have := hb1.size; simp; omega) _
    generalize (w1.alloc (.cells #[a0, a1, a2, a3, a4, a5] 26)).alloc (.cells #[b0, b1, b2, b3, b4, b5] 26) = w2 at *
    refine (first_any 58 #[.pointer (some ⟨w1.heap.size, 0, none⟩), .pointer (some ⟨w1.heap.size + 1, 0, none⟩)] c w2 enters56 ?_).mono ?_
    · intro l Wl WS hY hWl
      have hPl := hP.below (hb2.trans (hWl.mono hb2.size)) hP.lt
      exact closure_ended #[] #[] c _ _ _ l Wl WS a0 a1 a2 a3 a4 a5 b0 b1 b2 b3 b4 b5 ((hWl.block _ hA.lt).trans hA) ((hWl.block _ hB.lt).trans hB) hY hPl
        (fun V hV hR hPV => hcmp w2.heap.size l Wl.heap.size Wl.heap.size Wl V WS hY hb2.size hWl.size (Nat.le_refl _) (Nat.le_refl _) (hb2.trans (hWl.mono hb2.size)) (Nat.le_trans hb2.size hWl.size) hV hR hPV)
    · rintro e w' ⟨rfl, h⟩
      exact ⟨rfl, hb2.trans (h.mono hb2.size)⟩
  clear hcmp hP
  go_enter Tryd.func21, Tryd.ntmps21
  go_wp2_with fail
  refine (comparisons_any (.bool true) (.bool true) _ _ _ _ _ _ _ _ _ _ _ _ _).mono ?_
  rintro e w' ⟨rfl, rfl⟩
  go_wp2_with fail
  refine (hord ((W.alloc (.cells #[a0, a1, a2, a3, a4, a5] 26)).alloc (.cells #[b0, b1, b2, b3, b4, b5] 26)) _ _ (by simp) (by simp) (((Below.refl _ W).alloc (Nat.le_refl _) _).alloc (by simp) _)).mono ?_
  rintro e w' ⟨rfl, h⟩
  go_wp2_with fail
  go_ret
  exact ⟨rfl, h⟩
theorem same_of (c : Int) (W : World) (a0 a1 a2 a3 a4 a5 b0 b1 b2 b3 b4 b5 : Value) (s : Bool) (hs : (c == 0) = s)
    (ho : ∀ V, Below W.heap.size W V → Calls Tryd.prog 21 #[.agg #[a0, a1, a2, a3, a4, a5], .agg #[b0, b1, b2, b3, b4, b5]] V fun e w' => e = .returned (.int .i64 c) ∧ Below V.heap.size V w') :
    Calls Tryd.prog 20 #[.agg #[a0, a1, a2, a3, a4, a5], .agg #[b0, b1, b2, b3, b4, b5]] W fun e w' => e = .returned (.bool s) ∧ Below W.heap.size W w' := by
  have hb : Below W.heap.size W ((W.alloc (.cells #[a0, a1, a2, a3, a4, a5] 26)).alloc (.cells #[b0, b1, b2, b3, b4, b5] 26)) := ((Below.refl _ W).alloc (Nat.le_refl _) _).alloc (by simp) _
  have h1 := ho _ hb
  have HB := Lib.hid hb
  subst hs
  clear hb ho
  go_enter Tryd.func20, Tryd.ntmps20
  go_wp2_with fail
  refine h1.mono ?_
  rintro e w' ⟨rfl, h⟩
  have HH := Lib.hid (HB.out.trans (h.mono (HB.out.size)))
  clear h h1
  go_wp2_with fail
  go_ret
  exact ⟨rfl, HH.out⟩
/-- Order of two flat values. -/
theorem order_flat (ka na kb nb : Int) (ba bb : Bool) (sa sb : ByteArray) (pla pqa plb pqb : Option Addr) (cla cqa clb cqb : Nat) (W : World) (hP : Places W) :
    Calls Tryd.prog 21 #[.agg #[.int .i64 ka, .bool ba, .int .i64 na, .string sa, .slice pla 0 cla, .slice pqa 0 cqa], .agg #[.int .i64 kb, .bool bb, .int .i64 nb, .string sb, .slice plb 0 clb, .slice pqb 0 cqb]] W fun e w' => e = .returned (.int .i64 (flatV ka na kb nb ba bb sa sb)) ∧ Below W.heap.size W w' :=
  order_of _ W _ _ _ _ _ _ _ _ _ _ _ _ hP fun lo l R B Wl V WS hY _ _ hB hRB hWl hWB hV hR hPV => compare_ended hY hB hRB (Nat.lt_of_lt_of_le hP.lt hWB) ka na kb nb ba bb sa sb pla pqa plb pqb cla cqa clb cqb _ _ hR hPV hV (by omega) (by omega) (by omega) (by omega)
theorem same_flat (ka na kb nb : Int) (ba bb : Bool) (sa sb : ByteArray) (pla pqa plb pqb : Option Addr) (cla cqa clb cqb : Nat) (W : World) (hP : Places W) :
    Calls Tryd.prog 20 #[.agg #[.int .i64 ka, .bool ba, .int .i64 na, .string sa, .slice pla 0 cla, .slice pqa 0 cqa], .agg #[.int .i64 kb, .bool bb, .int .i64 nb, .string sb, .slice plb 0 clb, .slice pqb 0 cqb]] W fun e w' => e = .returned (.bool (flatV ka na kb nb ba bb sa sb == 0)) ∧ Below W.heap.size W w' :=
  same_of _ W _ _ _ _ _ _ _ _ _ _ _ _ _ rfl fun V hV => order_flat ka na kb nb ba bb sa sb pla pqa plb pqb cla cqa clb cqb V (hP.below hV hP.lt)
end Val
end Go.Proofs.YtepfihanhdinfaaDoor
