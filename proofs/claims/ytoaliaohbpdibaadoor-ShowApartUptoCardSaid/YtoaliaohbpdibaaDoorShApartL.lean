/- The law ShowApart: its walk. -/
import Derived.Test.YtoaliaohbpdibaaDoorShTextsL
import Derived.Test.YtoaliaohbpdibaaDoorShTells2
namespace Go.Proofs.YtoaliaohbpdibaaDoor
open Go.RowKit
set_option linter.unusedVariables false
set_option linter.unusedSimpArgs false
namespace Sh
open Val (VT Keeps Box okN okNL szV szL szK mayB sameV)
/-- Two values' boxes stand, and all that was there. -/
structure Seen2 (w : World) (cs ds : Array Value) (V : World) : Prop where
  box : Box V w.heap.size cs
  box2 : Box V (w.heap.size + 1) ds
  low : Below w.heap.size w V
theorem Seen2.step {w V V' : World} {cs ds : Array Value} (h : Seen2 w cs ds V) (hb : Below V.heap.size V V') : Seen2 w cs ds V' := ⟨(hb.block _ h.box.lt).trans h.box, (hb.block _ h.box2.lt).trans h.box2, h.low.trans (hb.mono h.low.size)⟩
theorem Seen2.drew {w V : World} {cs ds : Array Value} (h : Seen2 w cs ds V) : Seen2 w cs ds V.drew := ⟨h.box, h.box2, h.low.drew⟩
theorem Seen2.new (w : World) (cs ds : Array Value) : Seen2 w cs ds ((w.alloc (.cells cs 31)).alloc (.cells ds 31)) := by
  refine ⟨(Box.new w cs).alloc _, ?_, ((Below.refl _ w).alloc (Nat.le_refl _) _).alloc (by simp) _⟩
  have := Box.new (w.alloc (.cells cs 31)) ds
  simpa using this
set_option maxRecDepth 100000 in
set_option maxHeartbeats 8000000 in
theorem showApart_any (t t2 : VT) (v v2 : Value) (w : World) (hIn : VT.In w w.heap.size t v) (hIn2 : VT.In w w.heap.size t2 v2) (hok : okN t) (hok2 : okN t2) (hsz : szV t ≤ 62914560) (hsz2 : szV t2 ≤ 62914560) (hE : Err w) (hD : Num.Digs w) : Calls Tryd.prog 7 #[v, v2] w fun e w' => e = .returned (.bool true) ∧ Below w.heap.size w w' := by
  obtain ⟨k, b, n, s, l, ks⟩ := t
  have hx := hIn
  unfold VT.In at hx
  obtain ⟨pl, cl, pk, ck, rfl, -⟩ := hx
  obtain ⟨T, hT⟩ : ∃ T, VT.mk k b n s l ks = T := ⟨_, rfl⟩
  rw [hT] at hIn hok hsz
  clear hT
  obtain ⟨k2, b2, n2, s2, l2, ks2⟩ := t2
  have hx := hIn2
  unfold VT.In at hx
  obtain ⟨pl2, cl2, pk2, ck2, rfl, -⟩ := hx
  obtain ⟨T2, hT⟩ : ∃ T, VT.mk k2 b2 n2 s2 l2 ks2 = T := ⟨_, rfl⟩
  rw [hT] at hIn2 hok2 hsz2
  clear hT
  have hMy : ∀ V, Seen2 w #[.int .i64 k, .bool b, .int .i64 n, .string s, .slice pl l.length cl, .slice pk ks.length ck] #[.int .i64 k2, .bool b2, .int .i64 n2, .string s2, .slice pl2 l2.length cl2, .slice pk2 ks2.length ck2] V → Calls Tryd.prog 17 #[.agg #[.int .i64 k, .bool b, .int .i64 n, .string s, .slice pl l.length cl, .slice pk ks.length ck]] V fun e w' => e = .returned (.bool (mayB T)) ∧ Seen2 w #[.int .i64 k, .bool b, .int .i64 n, .string s, .slice pl l.length cl, .slice pk ks.length ck] #[.int .i64 k2, .bool b2, .int .i64 n2, .string s2, .slice pl2 l2.length cl2, .slice pk2 ks2.length ck2] w' := fun V hV => by
    refine (Val.May_any T _ w.heap.size V (hIn.below hV.low) hV.low.size).mono ?_
    rintro e w' ⟨rfl, hb⟩
    exact ⟨rfl, hV.step hb⟩
  have hMz : ∀ V, Seen2 w #[.int .i64 k, .bool b, .int .i64 n, .string s, .slice pl l.length cl, .slice pk ks.length ck] #[.int .i64 k2, .bool b2, .int .i64 n2, .string s2, .slice pl2 l2.length cl2, .slice pk2 ks2.length ck2] V → Calls Tryd.prog 17 #[.agg #[.int .i64 k2, .bool b2, .int .i64 n2, .string s2, .slice pl2 l2.length cl2, .slice pk2 ks2.length ck2]] V fun e w' => e = .returned (.bool (mayB T2)) ∧ Seen2 w #[.int .i64 k, .bool b, .int .i64 n, .string s, .slice pl l.length cl, .slice pk ks.length ck] #[.int .i64 k2, .bool b2, .int .i64 n2, .string s2, .slice pl2 l2.length cl2, .slice pk2 ks2.length ck2] w' := fun V hV => by
    refine (Val.May_any T2 _ w.heap.size V (hIn2.below hV.low) hV.low.size).mono ?_
    rintro e w' ⟨rfl, hb⟩
    exact ⟨rfl, hV.step hb⟩
  have hWk : ∀ V, Seen2 w #[.int .i64 k, .bool b, .int .i64 n, .string s, .slice pl l.length cl, .slice pk ks.length ck] #[.int .i64 k2, .bool b2, .int .i64 n2, .string s2, .slice pl2 l2.length cl2, .slice pk2 ks2.length ck2] V → Calls Tryd.prog 16 #[] V fun e w' => e = .returned (.bool true) ∧ Seen2 w #[.int .i64 k, .bool b, .int .i64 n, .string s, .slice pl l.length cl, .slice pk ks.length ck] #[.int .i64 k2, .bool b2, .int .i64 n2, .string s2, .slice pl2 l2.length cl2, .slice pk2 ks2.length ck2] w' := fun V hV => by
    refine (works_any V (hE.below hV.low hE.lt)).mono ?_
    rintro e w' ⟨rfl, hb⟩
    exact ⟨rfl, hV.step hb⟩
  have hSm : ∀ V, Seen2 w #[.int .i64 k, .bool b, .int .i64 n, .string s, .slice pl l.length cl, .slice pk ks.length ck] #[.int .i64 k2, .bool b2, .int .i64 n2, .string s2, .slice pl2 l2.length cl2, .slice pk2 ks2.length ck2] V → Calls Tryd.prog 21 #[.agg #[.int .i64 k, .bool b, .int .i64 n, .string s, .slice pl l.length cl, .slice pk ks.length ck], .agg #[.int .i64 k2, .bool b2, .int .i64 n2, .string s2, .slice pl2 l2.length cl2, .slice pk2 ks2.length ck2]] V fun e w' => e = .returned (.bool (sameV T T2)) ∧ Seen2 w #[.int .i64 k, .bool b, .int .i64 n, .string s, .slice pl l.length cl, .slice pk ks.length ck] #[.int .i64 k2, .bool b2, .int .i64 n2, .string s2, .slice pl2 l2.length cl2, .slice pk2 ks2.length ck2] w' := fun V hV => by
    refine (Val.same_any T.parts T T2 _ _ w.heap.size V (Nat.le_refl _) (hIn.below hV.low) (hIn2.below hV.low) hV.low.size).mono ?_
    rintro e w' ⟨rfl, hb⟩
    exact ⟨rfl, hV.step hb⟩
  obtain ⟨q, hq⟩ : ∃ q : ByteArray, (⟨(showB T).toArray⟩ : ByteArray) = q := ⟨_, rfl⟩
  obtain ⟨z, hz⟩ : ∃ q : ByteArray, (⟨(showB T2).toArray⟩ : ByteArray) = q := ⟨_, rfl⟩
  have hSh : mayB T = true → ∀ V, Seen2 w #[.int .i64 k, .bool b, .int .i64 n, .string s, .slice pl l.length cl, .slice pk ks.length ck] #[.int .i64 k2, .bool b2, .int .i64 n2, .string s2, .slice pl2 l2.length cl2, .slice pk2 ks2.length ck2] V → Calls Tryd.prog 18 #[.agg #[.int .i64 k, .bool b, .int .i64 n, .string s, .slice pl l.length cl, .slice pk ks.length ck]] V fun e w' => e = .returned (.string q) ∧ Seen2 w #[.int .i64 k, .bool b, .int .i64 n, .string s, .slice pl l.length cl, .slice pk ks.length ck] #[.int .i64 k2, .bool b2, .int .i64 n2, .string s2, .slice pl2 l2.length cl2, .slice pk2 ks2.length ck2] w' := fun hm V hV => by
    obtain ⟨hgood, hparts⟩ := mayB_good T hm
    refine (show_any T _ w.heap.size V (hIn.below hV.low) hV.low.size hok hgood hparts (by omega) (Digs.low hD hV.low hD.pos)).mono ?_
    rintro e w' ⟨rfl, hb⟩
    exact ⟨by rw [hq], hV.step hb⟩
  have hSz : mayB T2 = true → ∀ V, Seen2 w #[.int .i64 k, .bool b, .int .i64 n, .string s, .slice pl l.length cl, .slice pk ks.length ck] #[.int .i64 k2, .bool b2, .int .i64 n2, .string s2, .slice pl2 l2.length cl2, .slice pk2 ks2.length ck2] V → Calls Tryd.prog 18 #[.agg #[.int .i64 k2, .bool b2, .int .i64 n2, .string s2, .slice pl2 l2.length cl2, .slice pk2 ks2.length ck2]] V fun e w' => e = .returned (.string z) ∧ Seen2 w #[.int .i64 k, .bool b, .int .i64 n, .string s, .slice pl l.length cl, .slice pk ks.length ck] #[.int .i64 k2, .bool b2, .int .i64 n2, .string s2, .slice pl2 l2.length cl2, .slice pk2 ks2.length ck2] w' := fun hm V hV => by
    obtain ⟨hgood, hparts⟩ := mayB_good T2 hm
    refine (show_any T2 _ w.heap.size V (hIn2.below hV.low) hV.low.size hok2 hgood hparts (by omega) (Digs.low hD hV.low hD.pos)).mono ?_
    rintro e w' ⟨rfl, hb⟩
    exact ⟨by rw [hz], hV.step hb⟩
  have hS0 : Seen2 w #[.int .i64 k, .bool b, .int .i64 n, .string s, .slice pl l.length cl, .slice pk ks.length ck] #[.int .i64 k2, .bool b2, .int .i64 n2, .string s2, .slice pl2 l2.length cl2, .slice pk2 ks2.length ck2] ((w.alloc (.cells #[.int .i64 k, .bool b, .int .i64 n, .string s, .slice pl l.length cl, .slice pk ks.length ck] 31)).alloc (.cells #[.int .i64 k2, .bool b2, .int .i64 n2, .string s2, .slice pl2 l2.length cl2, .slice pk2 ks2.length ck2] 31)) := Seen2.new w _ _
  have htx := fun h1 h2 => texts_same T T2 h1 h2 q z hq hz
  have HWk := Lib.hid hWk
  have HS0 := Lib.hid hS0
  clear hWk hS0 hq hz hE hD hIn hIn2 hok hok2 hsz hsz2
  cases hb1 : mayB T
  · rw [hb1] at hMy
    have HMy := Lib.hid hMy
    clear hMy hMz hSm hSh hSz htx hb1
    go_enter Tryd.func7, Tryd.ntmps7
    go_wp2_with fail
    refine (HMy.out _ HS0.out).mono ?_
    rintro e w1 ⟨rfl, h1⟩
    have H1 := Lib.hid h1
    clear h1
    go_wp2_with fail
    refine (HWk.out _ H1.out).mono ?_
    rintro e w3 ⟨rfl, hF⟩
    have HF := Lib.hid hF.low
    clear hF
    go_wp2
    go_ret
    exact ⟨rfl, HF.out⟩
  · cases hb2 : mayB T2
    · rw [hb1] at hMy
      rw [hb2] at hMz
      have HMy := Lib.hid hMy
      have HMz := Lib.hid hMz
      clear hMy hMz hSm hSh hSz htx hb1 hb2
      go_enter Tryd.func7, Tryd.ntmps7
      go_wp2_with fail
      refine (HMy.out _ HS0.out).mono ?_
      rintro e w1 ⟨rfl, h1⟩
      have H1 := Lib.hid h1
      obtain ⟨c0, c1, c2, c3, c4, c5⟩ := h1.box2.cell
      clear h1
      go_wp2_with fail
      refine (HMz.out _ H1.out).mono ?_
      rintro e w2 ⟨rfl, h2⟩
      have H2 := Lib.hid h2
      clear h2 c0 c1 c2 c3 c4 c5
      go_wp2_with fail
      refine (HWk.out _ H2.out).mono ?_
      rintro e w3 ⟨rfl, hF⟩
      have HF := Lib.hid hF.low
      clear hF
      go_wp2
      go_ret
      exact ⟨rfl, HF.out⟩
    · have htx := htx hb1 hb2
      have HSh := Lib.hid (hSh hb1)
      have HSz := Lib.hid (hSz hb2)
      rw [hb1] at hMy
      rw [hb2] at hMz
      have HMy := Lib.hid hMy
      have HMz := Lib.hid hMz
      clear hMy hMz hSh hSz hb1 hb2
      cases hsv : sameV T T2
      · rw [hsv] at hSm htx
        have hne : ¬ q.toList = z.toList := fun e => of_decide_eq_false htx (ba_ext (by rw [← Num.toList_data, ← Num.toList_data, e]))
        have HSm := Lib.hid hSm
        clear hSm htx hsv
        go_enter Tryd.func7, Tryd.ntmps7
        go_wp2_with fail
        refine (HMy.out _ HS0.out).mono ?_
        rintro e w1 ⟨rfl, h1⟩
        have H1 := Lib.hid h1
        obtain ⟨c0, c1, c2, c3, c4, c5⟩ := h1.box2.cell
        clear h1
        go_wp2_with fail
        refine (HMz.out _ H1.out).mono ?_
        rintro e w2 ⟨rfl, h2⟩
        have H2 := Lib.hid h2
        clear h2 c0 c1 c2 c3 c4 c5
        have HS1 := Lib.hid H2.out.drew
        go_upto_region 3 with fail
        have hS1 := HS1.out
        rename_i Q' K2 hK2
        refine wp_region_noPanic ?_
        refine wpIn_wide (n := 5).1 ?_
        refine wpIn_region_text (Seen2 w #[.int .i64 k, .bool b, .int .i64 n, .string s, .slice pl l.length cl, .slice pk ks.length ck] #[.int .i64 k2, .bool b2, .int .i64 n2, .string s2, .slice pl2 l2.length cl2, .slice pk2 ks2.length ck2]) [0, 2, 5, 6, 1, 3, 4, 7, 8, 9, 10, 11, 12] rfl (by kernel_rfl) (by kernel_rfl) (by kernel_rfl) (by kernel_rfl) (fun _ _ _ _ _ h => h) hS1 ?_
        refine textS_take (o := _) (.agg #[.int .i64 k, .bool b, .int .i64 n, .string s, .slice pl l.length cl, .slice pk ks.length ck]) (by conv => lhs; simp only [List.getElem?_toArray, List.getElem?_cons_succ, List.getElem?_cons_zero]) (by rfl) (by rfl) ?_ (fun _ => by rfl) (by conv => lhs; simp only [Act.put, List.setIfInBounds_toArray, List.set_cons_succ, List.set_cons_zero]) ?_
        · rintro w' t0; obtain ⟨c0, c1, c2, c3, c4, c5⟩ := t0.box.cell; clear t0; go_simp
        refine textS_take (o := _) (.agg #[.int .i64 k2, .bool b2, .int .i64 n2, .string s2, .slice pl2 l2.length cl2, .slice pk2 ks2.length ck2]) (by conv => lhs; simp only [List.getElem?_toArray, List.getElem?_cons_succ, List.getElem?_cons_zero]) (by rfl) (by rfl) ?_ (fun _ => by rfl) (by conv => lhs; simp only [Act.put, List.setIfInBounds_toArray, List.set_cons_succ, List.set_cons_zero]) ?_
        · rintro w' t0; obtain ⟨c0, c1, c2, c3, c4, c5⟩ := t0.box2.cell; clear t0; go_simp
        refine textS_take (o := _) (.agg #[.int .i64 k, .bool b, .int .i64 n, .string s, .slice pl l.length cl, .slice pk ks.length ck]) (by conv => lhs; simp only [List.getElem?_toArray, List.getElem?_cons_succ, List.getElem?_cons_zero]) (by rfl) (by rfl) ?_ (fun _ => by rfl) (by conv => lhs; simp only [Act.put, List.setIfInBounds_toArray, List.set_cons_succ, List.set_cons_zero]) ?_
        · rintro w' t0; obtain ⟨c0, c1, c2, c3, c4, c5⟩ := t0.box.cell; clear t0; go_simp
        refine textS_take (o := _) (.agg #[.int .i64 k2, .bool b2, .int .i64 n2, .string s2, .slice pl2 l2.length cl2, .slice pk2 ks2.length ck2]) (by conv => lhs; simp only [List.getElem?_toArray, List.getElem?_cons_succ, List.getElem?_cons_zero]) (by rfl) (by rfl) ?_ (fun _ => by rfl) (by conv => lhs; simp only [Act.put, List.setIfInBounds_toArray, List.set_cons_succ, List.set_cons_zero]) ?_
        · rintro w' t0; obtain ⟨c0, c1, c2, c3, c4, c5⟩ := t0.box2.cell; clear t0; go_simp
        refine textS_call (o := _) (by conv => lhs; simp only [List.getElem?_toArray, List.getElem?_cons_succ, List.getElem?_cons_zero]) (by rfl) (by rfl) ?_
        refine wpIn_call rfl ?_ (HSh.out _ hS1) ?_
        · go_simp
        rintro e whS1_1 ⟨rfl, hS1_1⟩
        refine ⟨_, _, rfl, (by conv => lhs; simp only [Act.put, List.setIfInBounds_toArray, List.set_cons_succ, List.set_cons_zero]), hS1_1, ?_⟩
        refine textS_call (o := _) (by conv => lhs; simp only [List.getElem?_toArray, List.getElem?_cons_succ, List.getElem?_cons_zero]) (by rfl) (by rfl) ?_
        refine wpIn_call rfl ?_ (HSz.out _ hS1_1) ?_
        · go_simp
        rintro e whS1_2 ⟨rfl, hS1_2⟩
        refine ⟨_, _, rfl, (by conv => lhs; simp only [Act.put, List.setIfInBounds_toArray, List.set_cons_succ, List.set_cons_zero]), hS1_2, ?_⟩
        refine textS_take (o := _) (.bool false) (by conv => lhs; simp only [List.getElem?_toArray, List.getElem?_cons_succ, List.getElem?_cons_zero]) (by rfl) (by rfl) ?_ (fun _ => by rfl) (by conv => lhs; simp only [Act.put, List.setIfInBounds_toArray, List.set_cons_succ, List.set_cons_zero]) ?_
        · intro w _; go_simp
        refine textS_call (o := _) (by conv => lhs; simp only [List.getElem?_toArray, List.getElem?_cons_succ, List.getElem?_cons_zero]) (by rfl) (by rfl) ?_
        refine wpIn_call rfl ?_ (HSm.out _ hS1_2) ?_
        · go_simp
        rintro e whS1_3 ⟨rfl, hS1_3⟩
        refine ⟨_, _, rfl, (by conv => lhs; simp only [Act.put, List.setIfInBounds_toArray, List.set_cons_succ, List.set_cons_zero]), hS1_3, ?_⟩
        refine textS_take (o := _) (.bool true) (by conv => lhs; simp only [List.getElem?_toArray, List.getElem?_cons_succ, List.getElem?_cons_zero]) (by rfl) (by rfl) ?_ (fun _ => by rfl) (by conv => lhs; simp only [Act.put, List.setIfInBounds_toArray, List.set_cons_succ, List.set_cons_zero]) ?_
        · intro w _; go_simp
        refine textS_take (o := _) (.bool true) (by conv => lhs; simp only [List.getElem?_toArray, List.getElem?_cons_succ, List.getElem?_cons_zero]) (by rfl) (by rfl) ?_ (fun _ => by rfl) (by conv => lhs; simp only [Act.put, List.setIfInBounds_toArray, List.set_cons_succ, List.set_cons_zero]) ?_
        · intro w _; go_simp
        refine textS_call (o := _) (by conv => lhs; simp only [List.getElem?_toArray, List.getElem?_cons_succ, List.getElem?_cons_zero]) (by rfl) (by rfl) ?_
        refine wpIn_call rfl ?_ (HWk.out _ hS1_3) ?_
        · go_simp
        rintro e whS1_4 ⟨rfl, hS1_4⟩
        refine ⟨_, _, rfl, (by conv => lhs; simp only [Act.put, List.setIfInBounds_toArray, List.set_cons_succ, List.set_cons_zero]), hS1_4, ?_⟩
        refine textS_take (o := _) (.bool true) (by conv => lhs; simp only [List.getElem?_toArray, List.getElem?_cons_succ, List.getElem?_cons_zero]) (by rfl) (by rfl) ?_ (fun _ => by rfl) (by conv => lhs; simp only [Act.put, List.setIfInBounds_toArray, List.set_cons_succ, List.set_cons_zero]) ?_
        · intro w _; go_simp
        refine textS_take (o := _) (.bool true) (by conv => lhs; simp only [List.getElem?_toArray, List.getElem?_cons_succ, List.getElem?_cons_zero]) (by rfl) (by rfl) ?_ (fun _ => by rfl) (by conv => lhs; simp only [Act.put, List.setIfInBounds_toArray, List.set_cons_succ, List.set_cons_zero]) ?_
        · intro w _; go_simp
        refine NoPanic.normal ?_
        refine hK2 _ _ ?_
        clear hK2
        have HE := Lib.hid hS1_4.low
        clear hS1 hS1_1 hS1_2 hS1_3 hS1_4
        go_wp2
        go_ret
        exact ⟨rfl, HE.out⟩
      · rw [hsv] at hSm htx
        obtain rfl : q = z := of_decide_eq_true htx
        have HSm := Lib.hid hSm
        clear hSm htx hsv
        go_enter Tryd.func7, Tryd.ntmps7
        go_wp2_with fail
        refine (HMy.out _ HS0.out).mono ?_
        rintro e w1 ⟨rfl, h1⟩
        have H1 := Lib.hid h1
        obtain ⟨c0, c1, c2, c3, c4, c5⟩ := h1.box2.cell
        clear h1
        go_wp2_with fail
        refine (HMz.out _ H1.out).mono ?_
        rintro e w2 ⟨rfl, h2⟩
        have H2 := Lib.hid h2
        clear h2 c0 c1 c2 c3 c4 c5
        have HS1 := Lib.hid H2.out.drew
        go_upto_region 3 with fail
        have hS1 := HS1.out
        rename_i Q' K2 hK2
        refine wp_region_noPanic ?_
        refine wpIn_wide (n := 5).1 ?_
        refine wpIn_region_text (Seen2 w #[.int .i64 k, .bool b, .int .i64 n, .string s, .slice pl l.length cl, .slice pk ks.length ck] #[.int .i64 k2, .bool b2, .int .i64 n2, .string s2, .slice pl2 l2.length cl2, .slice pk2 ks2.length ck2]) [0, 2, 5, 6, 1, 3, 4, 7, 8, 9, 10, 11, 12] rfl (by kernel_rfl) (by kernel_rfl) (by kernel_rfl) (by kernel_rfl) (fun _ _ _ _ _ h => h) hS1 ?_
        refine textS_take (o := _) (.agg #[.int .i64 k, .bool b, .int .i64 n, .string s, .slice pl l.length cl, .slice pk ks.length ck]) (by conv => lhs; simp only [List.getElem?_toArray, List.getElem?_cons_succ, List.getElem?_cons_zero]) (by rfl) (by rfl) ?_ (fun _ => by rfl) (by conv => lhs; simp only [Act.put, List.setIfInBounds_toArray, List.set_cons_succ, List.set_cons_zero]) ?_
        · rintro w' t0; obtain ⟨c0, c1, c2, c3, c4, c5⟩ := t0.box.cell; clear t0; go_simp
        refine textS_take (o := _) (.agg #[.int .i64 k2, .bool b2, .int .i64 n2, .string s2, .slice pl2 l2.length cl2, .slice pk2 ks2.length ck2]) (by conv => lhs; simp only [List.getElem?_toArray, List.getElem?_cons_succ, List.getElem?_cons_zero]) (by rfl) (by rfl) ?_ (fun _ => by rfl) (by conv => lhs; simp only [Act.put, List.setIfInBounds_toArray, List.set_cons_succ, List.set_cons_zero]) ?_
        · rintro w' t0; obtain ⟨c0, c1, c2, c3, c4, c5⟩ := t0.box2.cell; clear t0; go_simp
        refine textS_take (o := _) (.agg #[.int .i64 k, .bool b, .int .i64 n, .string s, .slice pl l.length cl, .slice pk ks.length ck]) (by conv => lhs; simp only [List.getElem?_toArray, List.getElem?_cons_succ, List.getElem?_cons_zero]) (by rfl) (by rfl) ?_ (fun _ => by rfl) (by conv => lhs; simp only [Act.put, List.setIfInBounds_toArray, List.set_cons_succ, List.set_cons_zero]) ?_
        · rintro w' t0; obtain ⟨c0, c1, c2, c3, c4, c5⟩ := t0.box.cell; clear t0; go_simp
        refine textS_take (o := _) (.agg #[.int .i64 k2, .bool b2, .int .i64 n2, .string s2, .slice pl2 l2.length cl2, .slice pk2 ks2.length ck2]) (by conv => lhs; simp only [List.getElem?_toArray, List.getElem?_cons_succ, List.getElem?_cons_zero]) (by rfl) (by rfl) ?_ (fun _ => by rfl) (by conv => lhs; simp only [Act.put, List.setIfInBounds_toArray, List.set_cons_succ, List.set_cons_zero]) ?_
        · rintro w' t0; obtain ⟨c0, c1, c2, c3, c4, c5⟩ := t0.box2.cell; clear t0; go_simp
        refine textS_call (o := _) (by conv => lhs; simp only [List.getElem?_toArray, List.getElem?_cons_succ, List.getElem?_cons_zero]) (by rfl) (by rfl) ?_
        refine wpIn_call rfl ?_ (HSh.out _ hS1) ?_
        · go_simp
        rintro e whS1_1 ⟨rfl, hS1_1⟩
        refine ⟨_, _, rfl, (by conv => lhs; simp only [Act.put, List.setIfInBounds_toArray, List.set_cons_succ, List.set_cons_zero]), hS1_1, ?_⟩
        refine textS_call (o := _) (by conv => lhs; simp only [List.getElem?_toArray, List.getElem?_cons_succ, List.getElem?_cons_zero]) (by rfl) (by rfl) ?_
        refine wpIn_call rfl ?_ (HSz.out _ hS1_1) ?_
        · go_simp
        rintro e whS1_2 ⟨rfl, hS1_2⟩
        refine ⟨_, _, rfl, (by conv => lhs; simp only [Act.put, List.setIfInBounds_toArray, List.set_cons_succ, List.set_cons_zero]), hS1_2, ?_⟩
        refine textS_take (o := _) (.bool true) (by conv => lhs; simp only [List.getElem?_toArray, List.getElem?_cons_succ, List.getElem?_cons_zero]) (by rfl) (by rfl) ?_ (fun _ => by rfl) (by conv => lhs; simp only [Act.put, List.setIfInBounds_toArray, List.set_cons_succ, List.set_cons_zero]) ?_
        · intro w _; go_simp
        refine textS_call (o := _) (by conv => lhs; simp only [List.getElem?_toArray, List.getElem?_cons_succ, List.getElem?_cons_zero]) (by rfl) (by rfl) ?_
        refine wpIn_call rfl ?_ (HSm.out _ hS1_2) ?_
        · go_simp
        rintro e whS1_3 ⟨rfl, hS1_3⟩
        refine ⟨_, _, rfl, (by conv => lhs; simp only [Act.put, List.setIfInBounds_toArray, List.set_cons_succ, List.set_cons_zero]), hS1_3, ?_⟩
        refine textS_take (o := _) (.bool true) (by conv => lhs; simp only [List.getElem?_toArray, List.getElem?_cons_succ, List.getElem?_cons_zero]) (by rfl) (by rfl) ?_ (fun _ => by rfl) (by conv => lhs; simp only [Act.put, List.setIfInBounds_toArray, List.set_cons_succ, List.set_cons_zero]) ?_
        · intro w _; go_simp
        refine textS_take (o := _) (.bool true) (by conv => lhs; simp only [List.getElem?_toArray, List.getElem?_cons_succ, List.getElem?_cons_zero]) (by rfl) (by rfl) ?_ (fun _ => by rfl) (by conv => lhs; simp only [Act.put, List.setIfInBounds_toArray, List.set_cons_succ, List.set_cons_zero]) ?_
        · intro w _; go_simp
        refine textS_call (o := _) (by conv => lhs; simp only [List.getElem?_toArray, List.getElem?_cons_succ, List.getElem?_cons_zero]) (by rfl) (by rfl) ?_
        refine wpIn_call rfl ?_ (HWk.out _ hS1_3) ?_
        · go_simp
        rintro e whS1_4 ⟨rfl, hS1_4⟩
        refine ⟨_, _, rfl, (by conv => lhs; simp only [Act.put, List.setIfInBounds_toArray, List.set_cons_succ, List.set_cons_zero]), hS1_4, ?_⟩
        refine textS_take (o := _) (.bool true) (by conv => lhs; simp only [List.getElem?_toArray, List.getElem?_cons_succ, List.getElem?_cons_zero]) (by rfl) (by rfl) ?_ (fun _ => by rfl) (by conv => lhs; simp only [Act.put, List.setIfInBounds_toArray, List.set_cons_succ, List.set_cons_zero]) ?_
        · intro w _; go_simp
        refine textS_take (o := _) (.bool true) (by conv => lhs; simp only [List.getElem?_toArray, List.getElem?_cons_succ, List.getElem?_cons_zero]) (by rfl) (by rfl) ?_ (fun _ => by rfl) (by conv => lhs; simp only [Act.put, List.setIfInBounds_toArray, List.set_cons_succ, List.set_cons_zero]) ?_
        · intro w _; go_simp
        refine NoPanic.normal ?_
        refine hK2 _ _ ?_
        clear hK2
        have HE := Lib.hid hS1_4.low
        clear hS1 hS1_1 hS1_2 hS1_3 hS1_4
        go_wp2
        go_ret
        exact ⟨rfl, HE.out⟩
end Sh
end Go.Proofs.YtoaliaohbpdibaaDoor
