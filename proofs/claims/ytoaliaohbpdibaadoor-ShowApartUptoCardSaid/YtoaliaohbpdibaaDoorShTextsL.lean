/- The law ShowTexts: its walk. -/
import Derived.Test.YtoaliaohbpdibaaDoorShRefAll
import Derived.Test.YtoaliaohbpdibaaDoorShPutA
import Derived.Test.YtoaliaohbpdibaaDoorShWorks
import Derived.Test.YtoaliaohbpdibaaDoorValMay4
namespace Go.Proofs.YtoaliaohbpdibaaDoor
open Go.RowKit
set_option linter.unusedVariables false
set_option linter.unusedSimpArgs false
namespace Sh
open Val (VT Keeps Box okN okNL szV szL szK mayB)
/-- A value's box stands, and all that was there. -/
structure Seen (w : World) (cs : Array Value) (V : World) : Prop where
  box : Box V w.heap.size cs
  low : Below w.heap.size w V
theorem Seen.step {w V V' : World} {cs : Array Value} (h : Seen w cs V) (hb : Below V.heap.size V V') : Seen w cs V' := ⟨(hb.block _ h.box.lt).trans h.box, h.low.trans (hb.mono h.low.size)⟩
theorem Seen.drew {w V : World} {cs : Array Value} (h : Seen w cs V) : Seen w cs V.drew := ⟨h.box, h.low.drew⟩
theorem Seen.new (w : World) (cs : Array Value) : Seen w cs (w.alloc (.cells cs 31)) := ⟨Box.new w cs, (Below.refl _ w).alloc (Nat.le_refl _) _⟩
set_option maxRecDepth 100000 in
set_option maxHeartbeats 4000000 in
theorem showTexts_any (t : VT) (v : Value) (w : World) (hIn : VT.In w w.heap.size t v) (hok : okN t) (hsz : szV t ≤ 62914560) (hE : Err w) (hD : Num.Digs w) : Calls Tryd.prog 4 #[v] w fun e w' => e = .returned (.bool true) ∧ Below w.heap.size w w' := by
  obtain ⟨k, b, n, s, l, ks⟩ := t
  have hx := hIn
  unfold VT.In at hx
  obtain ⟨pl, cl, pk, ck, rfl, -⟩ := hx
  obtain ⟨T, hT⟩ : ∃ T, VT.mk k b n s l ks = T := ⟨_, rfl⟩
  rw [hT] at hIn hok hsz
  clear hT
  have hMy : ∀ V, Seen w #[.int .i64 k, .bool b, .int .i64 n, .string s, .slice pl l.length cl, .slice pk ks.length ck] V → Calls Tryd.prog 17 #[.agg #[.int .i64 k, .bool b, .int .i64 n, .string s, .slice pl l.length cl, .slice pk ks.length ck]] V fun e w' => e = .returned (.bool (mayB T)) ∧ Seen w #[.int .i64 k, .bool b, .int .i64 n, .string s, .slice pl l.length cl, .slice pk ks.length ck] w' := fun V hV => by
    refine (Val.May_any T _ w.heap.size V (hIn.below hV.low) hV.low.size).mono ?_
    rintro e w' ⟨rfl, hb⟩
    exact ⟨rfl, hV.step hb⟩
  have hS0 : Seen w #[.int .i64 k, .bool b, .int .i64 n, .string s, .slice pl l.length cl, .slice pk ks.length ck] (w.alloc (.cells #[.int .i64 k, .bool b, .int .i64 n, .string s, .slice pl l.length cl, .slice pk ks.length ck] 31)).drew := (Seen.new w _).drew
  obtain ⟨bt, hbt⟩ : ∃ bt, mayB T = bt := ⟨_, rfl⟩
  rw [hbt] at hMy
  cases bt
  · have HMy := Lib.hid hMy
    have HS0 := Lib.hid hS0
    clear hMy hS0 hbt
    go_enter Tryd.func4, Tryd.ntmps4
    go_wp2
    have hS0 := HS0.out
    rename_i Q' K1 hK1
    refine wp_region_noPanic ?_
    refine wpIn_wide (n := 5).1 ?_
    refine wpIn_region_text (Seen w #[.int .i64 k, .bool b, .int .i64 n, .string s, .slice pl l.length cl, .slice pk ks.length ck]) [0, 1, 2, 3, 4, 6, 5, 7, 8, 9, 10, 11, 12, 13] rfl (by kernel_rfl) (by kernel_rfl) (by kernel_rfl) (by kernel_rfl) (fun _ _ _ _ _ h => h) hS0 ?_
    refine textS_take (o := _) (.agg #[.int .i64 k, .bool b, .int .i64 n, .string s, .slice pl l.length cl, .slice pk ks.length ck]) (by conv => lhs; simp only [List.getElem?_toArray, List.getElem?_cons_succ, List.getElem?_cons_zero]) (by rfl) (by rfl) ?_ (fun _ => by rfl) (by conv => lhs; simp only [Act.put, List.setIfInBounds_toArray, List.set_cons_succ, List.set_cons_zero]) ?_
    · rintro w' t0; obtain ⟨c0, c1, c2, c3, c4, c5⟩ := t0.box.cell; clear t0; go_simp
    refine textS_call (o := _) (by conv => lhs; simp only [List.getElem?_toArray, List.getElem?_cons_succ, List.getElem?_cons_zero]) (by rfl) (by rfl) ?_
    refine wpIn_call rfl ?_ (HMy.out _ hS0) ?_
    · go_simp
    rintro e whS0_1 ⟨rfl, hS0_1⟩
    refine ⟨_, _, rfl, (by conv => lhs; simp only [Act.put, List.setIfInBounds_toArray, List.set_cons_succ, List.set_cons_zero]), hS0_1, ?_⟩
    refine textS_take (o := _) (.bool true) (by conv => lhs; simp only [List.getElem?_toArray, List.getElem?_cons_succ, List.getElem?_cons_zero]) (by rfl) (by rfl) ?_ (fun _ => by rfl) (by conv => lhs; simp only [Act.put, List.setIfInBounds_toArray, List.set_cons_succ, List.set_cons_zero]) ?_
    · intro w _; go_simp
    refine textS_take (o := _) (.bool true) (by conv => lhs; simp only [List.getElem?_toArray, List.getElem?_cons_succ, List.getElem?_cons_zero]) (by rfl) (by rfl) ?_ (fun _ => by rfl) (by conv => lhs; simp only [Act.put, List.setIfInBounds_toArray, List.set_cons_succ, List.set_cons_zero]) ?_
    · intro w _; go_simp
    refine textS_skip (o := _) (by conv => lhs; simp only [List.getElem?_toArray, List.getElem?_cons_succ, List.getElem?_cons_zero]) (by rfl) (by rfl) (fun _ => by rfl) (by conv => lhs; simp only [Act.put, List.setIfInBounds_toArray, List.set_cons_succ, List.set_cons_zero]) ?_
    refine textS_skip (o := _) (by conv => lhs; simp only [List.getElem?_toArray, List.getElem?_cons_succ, List.getElem?_cons_zero]) (by rfl) (by rfl) (fun _ => by rfl) (by conv => lhs; simp only [Act.put, List.setIfInBounds_toArray, List.set_cons_succ, List.set_cons_zero]) ?_
    refine textS_callSkip (o := _) (by conv => lhs; simp only [List.getElem?_toArray, List.getElem?_cons_succ, List.getElem?_cons_zero]) (by rfl) (by rfl) (fun _ => trivial) hS0_1 (by conv => lhs; simp only [Act.put, List.setIfInBounds_toArray, List.set_cons_succ, List.set_cons_zero]) ?_
    refine textS_callSkip (o := _) (by conv => lhs; simp only [List.getElem?_toArray, List.getElem?_cons_succ, List.getElem?_cons_zero]) (by rfl) (by rfl) (fun _ => trivial) hS0_1 (by conv => lhs; simp only [Act.put, List.setIfInBounds_toArray, List.set_cons_succ, List.set_cons_zero]) ?_
    refine textS_skip (o := _) (by conv => lhs; simp only [List.getElem?_toArray, List.getElem?_cons_succ, List.getElem?_cons_zero]) (by rfl) (by rfl) (fun _ => by rfl) (by conv => lhs; simp only [Act.put, List.setIfInBounds_toArray, List.set_cons_succ, List.set_cons_zero]) ?_
    refine textS_skip (o := _) (by conv => lhs; simp only [List.getElem?_toArray, List.getElem?_cons_succ, List.getElem?_cons_zero]) (by rfl) (by rfl) (fun _ => by rfl) (by conv => lhs; simp only [Act.put, List.setIfInBounds_toArray, List.set_cons_succ, List.set_cons_zero]) ?_
    refine textS_callSkip (o := _) (by conv => lhs; simp only [List.getElem?_toArray, List.getElem?_cons_succ, List.getElem?_cons_zero]) (by rfl) (by rfl) (fun _ => trivial) hS0_1 (by conv => lhs; simp only [Act.put, List.setIfInBounds_toArray, List.set_cons_succ, List.set_cons_zero]) ?_
    refine textS_skip (o := _) (by conv => lhs; simp only [List.getElem?_toArray, List.getElem?_cons_succ, List.getElem?_cons_zero]) (by rfl) (by rfl) (fun _ => by rfl) (by conv => lhs; simp only [Act.put, List.setIfInBounds_toArray, List.set_cons_succ, List.set_cons_zero]) ?_
    refine textS_take (o := _) (.bool true) (by conv => lhs; simp only [List.getElem?_toArray, List.getElem?_cons_succ, List.getElem?_cons_zero]) (by rfl) (by rfl) ?_ (fun _ => by rfl) (by conv => lhs; simp only [Act.put, List.setIfInBounds_toArray, List.set_cons_succ, List.set_cons_zero]) ?_
    · intro w _; go_simp
    refine textS_take (o := _) (.bool true) (by conv => lhs; simp only [List.getElem?_toArray, List.getElem?_cons_succ, List.getElem?_cons_zero]) (by rfl) (by rfl) ?_ (fun _ => by rfl) (by conv => lhs; simp only [Act.put, List.setIfInBounds_toArray, List.set_cons_succ, List.set_cons_zero]) ?_
    · intro w _; go_simp
    refine NoPanic.normal ?_
    refine hK1 _ _ ?_
    clear hK1
    have HE := Lib.hid hS0_1.low
    clear hS0 hS0_1
    go_wp2
    go_ret
    exact ⟨rfl, HE.out⟩
  · obtain ⟨hgood, hparts⟩ := mayB_good T hbt
    obtain ⟨q, hq⟩ : ∃ q : ByteArray, (⟨(showB T).toArray⟩ : ByteArray) = q := ⟨_, rfl⟩
    have hSh : ∀ V, Seen w #[.int .i64 k, .bool b, .int .i64 n, .string s, .slice pl l.length cl, .slice pk ks.length ck] V → Calls Tryd.prog 18 #[.agg #[.int .i64 k, .bool b, .int .i64 n, .string s, .slice pl l.length cl, .slice pk ks.length ck]] V fun e w' => e = .returned (.string q) ∧ Seen w #[.int .i64 k, .bool b, .int .i64 n, .string s, .slice pl l.length cl, .slice pk ks.length ck] w' := fun V hV => by
      refine (show_any T _ w.heap.size V (hIn.below hV.low) hV.low.size hok hgood hparts (by omega) (Digs.low hD hV.low hD.pos)).mono ?_
      rintro e w' ⟨rfl, hb⟩
      exact ⟨by rw [hq], hV.step hb⟩
    have hRs : ∀ V, Seen w #[.int .i64 k, .bool b, .int .i64 n, .string s, .slice pl l.length cl, .slice pk ks.length ck] V → Calls Tryd.prog 19 #[.agg #[.int .i64 k, .bool b, .int .i64 n, .string s, .slice pl l.length cl, .slice pk ks.length ck]] V fun e w' => e = .returned (.string q) ∧ Seen w #[.int .i64 k, .bool b, .int .i64 n, .string s, .slice pl l.length cl, .slice pk ks.length ck] w' := fun V hV => by
      refine (ref_all 4096 T _ w.heap.size V hparts (hIn.below hV.low) hV.low.size hok hgood (by omega)).mono ?_
      rintro e w' ⟨rfl, hb⟩
      exact ⟨by rw [hq], hV.step hb⟩
    have hWk : ∀ V, Seen w #[.int .i64 k, .bool b, .int .i64 n, .string s, .slice pl l.length cl, .slice pk ks.length ck] V → Calls Tryd.prog 16 #[] V fun e w' => e = .returned (.bool true) ∧ Seen w #[.int .i64 k, .bool b, .int .i64 n, .string s, .slice pl l.length cl, .slice pk ks.length ck] w' := fun V hV => by
      refine (works_any V (hE.below hV.low hE.lt)).mono ?_
      rintro e w' ⟨rfl, hb⟩
      exact ⟨rfl, hV.step hb⟩
    have HMy := Lib.hid hMy
    have HSh := Lib.hid hSh
    have HRs := Lib.hid hRs
    have HWk := Lib.hid hWk
    have HS0 := Lib.hid hS0
    clear hMy hSh hRs hWk hS0 hbt hgood hparts hq hE hD hIn hok hsz
    go_enter Tryd.func4, Tryd.ntmps4
    go_wp2
    have hS0 := HS0.out
    rename_i Q' K1 hK1
    refine wp_region_noPanic ?_
    refine wpIn_wide (n := 5).1 ?_
    refine wpIn_region_text (Seen w #[.int .i64 k, .bool b, .int .i64 n, .string s, .slice pl l.length cl, .slice pk ks.length ck]) [0, 1, 2, 3, 4, 6, 5, 7, 8, 9, 10, 11, 12, 13] rfl (by kernel_rfl) (by kernel_rfl) (by kernel_rfl) (by kernel_rfl) (fun _ _ _ _ _ h => h) hS0 ?_
    refine textS_take (o := _) (.agg #[.int .i64 k, .bool b, .int .i64 n, .string s, .slice pl l.length cl, .slice pk ks.length ck]) (by conv => lhs; simp only [List.getElem?_toArray, List.getElem?_cons_succ, List.getElem?_cons_zero]) (by rfl) (by rfl) ?_ (fun _ => by rfl) (by conv => lhs; simp only [Act.put, List.setIfInBounds_toArray, List.set_cons_succ, List.set_cons_zero]) ?_
    · rintro w' t0; obtain ⟨c0, c1, c2, c3, c4, c5⟩ := t0.box.cell; clear t0; go_simp
    refine textS_call (o := _) (by conv => lhs; simp only [List.getElem?_toArray, List.getElem?_cons_succ, List.getElem?_cons_zero]) (by rfl) (by rfl) ?_
    refine wpIn_call rfl ?_ (HMy.out _ hS0) ?_
    · go_simp
    rintro e whS0_1 ⟨rfl, hS0_1⟩
    refine ⟨_, _, rfl, (by conv => lhs; simp only [Act.put, List.setIfInBounds_toArray, List.set_cons_succ, List.set_cons_zero]), hS0_1, ?_⟩
    refine textS_take (o := _) (.bool false) (by conv => lhs; simp only [List.getElem?_toArray, List.getElem?_cons_succ, List.getElem?_cons_zero]) (by rfl) (by rfl) ?_ (fun _ => by rfl) (by conv => lhs; simp only [Act.put, List.setIfInBounds_toArray, List.set_cons_succ, List.set_cons_zero]) ?_
    · intro w _; go_simp
    refine textS_take (o := _) (.bool false) (by conv => lhs; simp only [List.getElem?_toArray, List.getElem?_cons_succ, List.getElem?_cons_zero]) (by rfl) (by rfl) ?_ (fun _ => by rfl) (by conv => lhs; simp only [Act.put, List.setIfInBounds_toArray, List.set_cons_succ, List.set_cons_zero]) ?_
    · intro w _; go_simp
    refine textS_take (o := _) (.agg #[.int .i64 k, .bool b, .int .i64 n, .string s, .slice pl l.length cl, .slice pk ks.length ck]) (by conv => lhs; simp only [List.getElem?_toArray, List.getElem?_cons_succ, List.getElem?_cons_zero]) (by rfl) (by rfl) ?_ (fun _ => by rfl) (by conv => lhs; simp only [Act.put, List.setIfInBounds_toArray, List.set_cons_succ, List.set_cons_zero]) ?_
    · rintro w' t0; obtain ⟨c0, c1, c2, c3, c4, c5⟩ := t0.box.cell; clear t0; go_simp
    refine textS_take (o := _) (.agg #[.int .i64 k, .bool b, .int .i64 n, .string s, .slice pl l.length cl, .slice pk ks.length ck]) (by conv => lhs; simp only [List.getElem?_toArray, List.getElem?_cons_succ, List.getElem?_cons_zero]) (by rfl) (by rfl) ?_ (fun _ => by rfl) (by conv => lhs; simp only [Act.put, List.setIfInBounds_toArray, List.set_cons_succ, List.set_cons_zero]) ?_
    · rintro w' t0; obtain ⟨c0, c1, c2, c3, c4, c5⟩ := t0.box.cell; clear t0; go_simp
    refine textS_call (o := _) (by conv => lhs; simp only [List.getElem?_toArray, List.getElem?_cons_succ, List.getElem?_cons_zero]) (by rfl) (by rfl) ?_
    refine wpIn_call rfl ?_ (HSh.out _ hS0_1) ?_
    · go_simp
    rintro e whS0_2 ⟨rfl, hS0_2⟩
    refine ⟨_, _, rfl, (by conv => lhs; simp only [Act.put, List.setIfInBounds_toArray, List.set_cons_succ, List.set_cons_zero]), hS0_2, ?_⟩
    refine textS_call (o := _) (by conv => lhs; simp only [List.getElem?_toArray, List.getElem?_cons_succ, List.getElem?_cons_zero]) (by rfl) (by rfl) ?_
    refine wpIn_call rfl ?_ (HRs.out _ hS0_2) ?_
    · go_simp
    rintro e whS0_3 ⟨rfl, hS0_3⟩
    refine ⟨_, _, rfl, (by conv => lhs; simp only [Act.put, List.setIfInBounds_toArray, List.set_cons_succ, List.set_cons_zero]), hS0_3, ?_⟩
    refine textS_take (o := _) (.bool true) (by conv => lhs; simp only [List.getElem?_toArray, List.getElem?_cons_succ, List.getElem?_cons_zero]) (by rfl) (by rfl) ?_ (fun _ => by rfl) (by conv => lhs; simp only [Act.put, List.setIfInBounds_toArray, List.set_cons_succ, List.set_cons_zero]) ?_
    · intro w _; go_simp
    refine textS_take (o := _) (.bool true) (by conv => lhs; simp only [List.getElem?_toArray, List.getElem?_cons_succ, List.getElem?_cons_zero]) (by rfl) (by rfl) ?_ (fun _ => by rfl) (by conv => lhs; simp only [Act.put, List.setIfInBounds_toArray, List.set_cons_succ, List.set_cons_zero]) ?_
    · intro w _; go_simp
    refine textS_call (o := _) (by conv => lhs; simp only [List.getElem?_toArray, List.getElem?_cons_succ, List.getElem?_cons_zero]) (by rfl) (by rfl) ?_
    refine wpIn_call rfl ?_ (HWk.out _ hS0_3) ?_
    · go_simp
    rintro e whS0_4 ⟨rfl, hS0_4⟩
    refine ⟨_, _, rfl, (by conv => lhs; simp only [Act.put, List.setIfInBounds_toArray, List.set_cons_succ, List.set_cons_zero]), hS0_4, ?_⟩
    refine textS_take (o := _) (.bool true) (by conv => lhs; simp only [List.getElem?_toArray, List.getElem?_cons_succ, List.getElem?_cons_zero]) (by rfl) (by rfl) ?_ (fun _ => by rfl) (by conv => lhs; simp only [Act.put, List.setIfInBounds_toArray, List.set_cons_succ, List.set_cons_zero]) ?_
    · intro w _; go_simp
    refine textS_take (o := _) (.bool true) (by conv => lhs; simp only [List.getElem?_toArray, List.getElem?_cons_succ, List.getElem?_cons_zero]) (by rfl) (by rfl) ?_ (fun _ => by rfl) (by conv => lhs; simp only [Act.put, List.setIfInBounds_toArray, List.set_cons_succ, List.set_cons_zero]) ?_
    · intro w _; go_simp
    refine textS_take (o := _) (.bool true) (by conv => lhs; simp only [List.getElem?_toArray, List.getElem?_cons_succ, List.getElem?_cons_zero]) (by rfl) (by rfl) ?_ (fun _ => by rfl) (by conv => lhs; simp only [Act.put, List.setIfInBounds_toArray, List.set_cons_succ, List.set_cons_zero]) ?_
    · intro w _; go_simp
    refine NoPanic.normal ?_
    refine hK1 _ _ ?_
    clear hK1
    have HE := Lib.hid hS0_4.low
    clear hS0 hS0_1 hS0_2 hS0_3 hS0_4
    go_wp2
    go_ret
    exact ⟨rfl, HE.out⟩
end Sh
end Go.Proofs.YtoaliaohbpdibaaDoor
