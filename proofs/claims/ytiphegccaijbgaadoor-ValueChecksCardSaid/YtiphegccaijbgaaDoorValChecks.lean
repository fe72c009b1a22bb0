/- The law ValueChecks: its walk. -/
import Derived.Test.YtiphegccaijbgaaDoorRows
import Derived.Test.YtiphegccaijbgaaDoorHeld
import Derived.Test.YtiphegccaijbgaaDoorValBase
import Derived.Test.YtiphegccaijbgaaDoorVal
import Derived.Test.YtiphegccaijbgaaDoorValCmp
import Derived.Test.YtiphegccaijbgaaDoorValChk
import Derived.Test.YtiphegccaijbgaaDoorValMay4
import Derived.Test.YtiphegccaijbgaaDoorValRef2
import Derived.Test.YtiphegccaijbgaaDoorValPlain
import Derived.Test.YtiphegccaijbgaaDoorValWorks
import Derived.WalkKit
import Derived.Lib.Hide
import Derived.WalkSpells
import Derived.WalkLawsBesides
namespace Go.Proofs.YtiphegccaijbgaaDoor
open Go.RowKit
set_option linter.unusedVariables false
set_option linter.unusedSimpArgs false
namespace Val
/-- A value's box stands, and all that was there. -/
structure Seen (w : World) (cs : Array Value) (V : World) : Prop where
  box : Box V w.heap.size cs
  low : Below w.heap.size w V
theorem Seen.step {w V V' : World} {cs : Array Value} (h : Seen w cs V) (hb : Below V.heap.size V V') : Seen w cs V' := ⟨(hb.block _ h.box.lt).trans h.box, h.low.trans (hb.mono h.low.size)⟩
theorem Seen.drew {w V : World} {cs : Array Value} (h : Seen w cs V) : Seen w cs V.drew := ⟨h.box, h.low.drew⟩
theorem Seen.new (w : World) (cs : Array Value) : Seen w cs (w.alloc (.cells cs 25)) := ⟨Box.new w cs, (Below.refl _ w).alloc (Nat.le_refl _) _⟩
set_option maxRecDepth 100000 in
set_option maxHeartbeats 4000000 in
theorem valueChecks_any (t : VT) (v : Value) (w : World) (hIn : VT.In w w.heap.size t v) (hP : Places w) : Calls Tryd.prog 3 #[v] w fun e w' => e = .returned (.bool true) ∧ Below w.heap.size w w' := by
  obtain ⟨k, b, n, s, l, ks⟩ := t
  have hx := hIn
  unfold VT.In at hx
  obtain ⟨pl, cl, pk, ck, rfl, -⟩ := hx
  obtain ⟨T, hT⟩ : ∃ T, VT.mk k b n s l ks = T := ⟨_, rfl⟩
  rw [hT] at hIn
  clear hT
  have hCk : ∀ V, Seen w #[.int .i64 k, .bool b, .int .i64 n, .string s, .slice pl l.length cl, .slice pk ks.length ck] V → Calls Tryd.prog 8 #[.agg #[.int .i64 k, .bool b, .int .i64 n, .string s, .slice pl l.length cl, .slice pk ks.length ck]] V fun e w' => e = .returned (.int .i64 (if mayB T then 0 else 20)) ∧ Seen w #[.int .i64 k, .bool b, .int .i64 n, .string s, .slice pl l.length cl, .slice pk ks.length ck] w' := fun V hV => by
    refine (check_any T _ w.heap.size V (hIn.below hV.low) hV.low.size).mono ?_
    rintro e w' ⟨rfl, hb⟩
    exact ⟨by rw [may_walk], hV.step hb⟩
  have hRk : ∀ V, Seen w #[.int .i64 k, .bool b, .int .i64 n, .string s, .slice pl l.length cl, .slice pk ks.length ck] V → Calls Tryd.prog 9 #[.agg #[.int .i64 k, .bool b, .int .i64 n, .string s, .slice pl l.length cl, .slice pk ks.length ck]] V fun e w' => e = .returned (.int .i64 (if mayB T then 0 else 20)) ∧ Seen w #[.int .i64 k, .bool b, .int .i64 n, .string s, .slice pl l.length cl, .slice pk ks.length ck] w' := fun V hV => by
    refine (refCheck_any T _ w.heap.size V (hIn.below hV.low) hV.low.size).mono ?_
    rintro e w' ⟨rfl, hb⟩
    exact ⟨rfl, hV.step hb⟩
  have hMy : ∀ V, Seen w #[.int .i64 k, .bool b, .int .i64 n, .string s, .slice pl l.length cl, .slice pk ks.length ck] V → Calls Tryd.prog 10 #[.agg #[.int .i64 k, .bool b, .int .i64 n, .string s, .slice pl l.length cl, .slice pk ks.length ck]] V fun e w' => e = .returned (.bool (mayB T)) ∧ Seen w #[.int .i64 k, .bool b, .int .i64 n, .string s, .slice pl l.length cl, .slice pk ks.length ck] w' := fun V hV => by
    refine (May_any T _ w.heap.size V (hIn.below hV.low) hV.low.size).mono ?_
    rintro e w' ⟨rfl, hb⟩
    exact ⟨rfl, hV.step hb⟩
  have hS0 : Seen w #[.int .i64 k, .bool b, .int .i64 n, .string s, .slice pl l.length cl, .slice pk ks.length ck] (w.alloc (.cells #[.int .i64 k, .bool b, .int .i64 n, .string s, .slice pl l.length cl, .slice pk ks.length ck] 25)).drew := (Seen.new w _).drew
  obtain ⟨bt, hbt⟩ : ∃ bt, mayB T = bt := ⟨_, rfl⟩
  have HT := Lib.hid hbt
  rw [hbt] at hCk hRk hMy
  clear hbt
  cases bt
  · simp only [Bool.false_eq_true, if_false] at hCk hRk hMy
    have HCk := Lib.hid hCk
    have HRk := Lib.hid hRk
    have HMy := Lib.hid hMy
    have HS0 := Lib.hid hS0
    clear hCk hRk hMy hS0
    go_enter Tryd.func3, Tryd.ntmps3
    go_wp2
    have hS0 := HS0.out
    rename_i Q' K1 hK1
    refine wp_region_noPanic ?_
    refine wpIn_wide (n := 5).1 ?_
    refine wpIn_region_text (Seen w #[.int .i64 k, .bool b, .int .i64 n, .string s, .slice pl l.length cl, .slice pk ks.length ck]) [0, 2, 1, 3, 4] rfl (by kernel_rfl) (by kernel_rfl) (by kernel_rfl) (by kernel_rfl) (fun _ _ _ _ _ h => h) hS0 ?_
    refine textS_take (o := _) (.agg #[.int .i64 k, .bool b, .int .i64 n, .string s, .slice pl l.length cl, .slice pk ks.length ck]) (by conv => lhs; simp only [List.getElem?_toArray, List.getElem?_cons_succ, List.getElem?_cons_zero]) (by rfl) (by rfl) ?_ (fun _ => by rfl) (by conv => lhs; simp only [Act.put, List.setIfInBounds_toArray, List.set_cons_succ, List.set_cons_zero]) ?_
    · rintro w' t0; obtain ⟨c0, c1, c2, c3, c4, c5⟩ := t0.box.cell; clear t0; go_simp
    refine textS_take (o := _) (.agg #[.int .i64 k, .bool b, .int .i64 n, .string s, .slice pl l.length cl, .slice pk ks.length ck]) (by conv => lhs; simp only [List.getElem?_toArray, List.getElem?_cons_succ, List.getElem?_cons_zero]) (by rfl) (by rfl) ?_ (fun _ => by rfl) (by conv => lhs; simp only [Act.put, List.setIfInBounds_toArray, List.set_cons_succ, List.set_cons_zero]) ?_
    · rintro w' t0; obtain ⟨c0, c1, c2, c3, c4, c5⟩ := t0.box.cell; clear t0; go_simp
    refine textS_call (o := _) (by conv => lhs; simp only [List.getElem?_toArray, List.getElem?_cons_succ, List.getElem?_cons_zero]) (by rfl) (by rfl) ?_
    refine wpIn_call rfl ?_ (HCk.out _ hS0) ?_
    · go_simp
    rintro e whS0_1 ⟨rfl, hS0_1⟩
    refine ⟨_, _, rfl, (by conv => lhs; simp only [Act.put, List.setIfInBounds_toArray, List.set_cons_succ, List.set_cons_zero]), hS0_1, ?_⟩
    refine textS_call (o := _) (by conv => lhs; simp only [List.getElem?_toArray, List.getElem?_cons_succ, List.getElem?_cons_zero]) (by rfl) (by rfl) ?_
    refine wpIn_call rfl ?_ (HRk.out _ hS0_1) ?_
    · go_simp
    rintro e whS0_2 ⟨rfl, hS0_2⟩
    refine ⟨_, _, rfl, (by conv => lhs; simp only [Act.put, List.setIfInBounds_toArray, List.set_cons_succ, List.set_cons_zero]), hS0_2, ?_⟩
    refine textS_take (o := _) (.bool false) (by conv => lhs; simp only [List.getElem?_toArray, List.getElem?_cons_succ, List.getElem?_cons_zero]) (by rfl) (by rfl) ?_ (fun _ => by rfl) (by conv => lhs; simp only [Act.put, List.setIfInBounds_toArray, List.set_cons_succ, List.set_cons_zero]) ?_
    · intro w _; go_simp
    refine NoPanic.normal ?_
    refine hK1 _ _ ?_
    clear hK1
    have HS1 := Lib.hid hS0_2.drew
    clear hS0 hS0_1 hS0_2
    go_wp2
    have hS1 := HS1.out
    rename_i Q' K2 hK2
    refine wp_region_noPanic ?_
    refine wpIn_wide (n := 5).1 ?_
    refine wpIn_region_text (Seen w #[.int .i64 k, .bool b, .int .i64 n, .string s, .slice pl l.length cl, .slice pk ks.length ck]) [0, 1, 2, 3, 4, 6, 5, 7, 8, 9, 10, 12, 11, 13, 14, 15, 16, 17, 18, 19, 20] rfl (by kernel_rfl) (by kernel_rfl) (by kernel_rfl) (by kernel_rfl) (fun _ _ _ _ _ h => h) hS1 ?_
    refine textS_take (o := _) (.agg #[.int .i64 k, .bool b, .int .i64 n, .string s, .slice pl l.length cl, .slice pk ks.length ck]) (by conv => lhs; simp only [List.getElem?_toArray, List.getElem?_cons_succ, List.getElem?_cons_zero]) (by rfl) (by rfl) ?_ (fun _ => by rfl) (by conv => lhs; simp only [Act.put, List.setIfInBounds_toArray, List.set_cons_succ, List.set_cons_zero]) ?_
    · rintro w' t0; obtain ⟨c0, c1, c2, c3, c4, c5⟩ := t0.box.cell; clear t0; go_simp
    refine textS_call (o := _) (by conv => lhs; simp only [List.getElem?_toArray, List.getElem?_cons_succ, List.getElem?_cons_zero]) (by rfl) (by rfl) ?_
    refine wpIn_call rfl ?_ (HMy.out _ hS1) ?_
    · go_simp
    rintro e whS1_1 ⟨rfl, hS1_1⟩
    refine ⟨_, _, rfl, (by conv => lhs; simp only [Act.put, List.setIfInBounds_toArray, List.set_cons_succ, List.set_cons_zero]), hS1_1, ?_⟩
    refine textS_take (o := _) (.bool true) (by conv => lhs; simp only [List.getElem?_toArray, List.getElem?_cons_succ, List.getElem?_cons_zero]) (by rfl) (by rfl) ?_ (fun _ => by rfl) (by conv => lhs; simp only [Act.put, List.setIfInBounds_toArray, List.set_cons_succ, List.set_cons_zero]) ?_
    · intro w _; go_simp
    refine textS_take (o := _) (.bool true) (by conv => lhs; simp only [List.getElem?_toArray, List.getElem?_cons_succ, List.getElem?_cons_zero]) (by rfl) (by rfl) ?_ (fun _ => by rfl) (by conv => lhs; simp only [Act.put, List.setIfInBounds_toArray, List.set_cons_succ, List.set_cons_zero]) ?_
    · intro w _; go_simp
    refine textS_skip (o := _) (by conv => lhs; simp only [List.getElem?_toArray, List.getElem?_cons_succ, List.getElem?_cons_zero]) (by rfl) (by rfl) (fun _ => by rfl) (by conv => lhs; simp only [Act.put, List.setIfInBounds_toArray, List.set_cons_succ, List.set_cons_zero]) ?_
    refine textS_skip (o := _) (by conv => lhs; simp only [List.getElem?_toArray, List.getElem?_cons_succ, List.getElem?_cons_zero]) (by rfl) (by rfl) (fun _ => by rfl) (by conv => lhs; simp only [Act.put, List.setIfInBounds_toArray, List.set_cons_succ, List.set_cons_zero]) ?_
    refine textS_callSkip (o := _) (by conv => lhs; simp only [List.getElem?_toArray, List.getElem?_cons_succ, List.getElem?_cons_zero]) (by rfl) (by rfl) (fun _ => trivial) hS1_1 (by conv => lhs; simp only [Act.put, List.setIfInBounds_toArray, List.set_cons_succ, List.set_cons_zero]) ?_
    refine textS_callSkip (o := _) (by conv => lhs; simp only [List.getElem?_toArray, List.getElem?_cons_succ, List.getElem?_cons_zero]) (by rfl) (by rfl) (fun _ => trivial) hS1_1 (by conv => lhs; simp only [Act.put, List.setIfInBounds_toArray, List.set_cons_succ, List.set_cons_zero]) ?_
    refine textS_skip (o := _) (by conv => lhs; simp only [List.getElem?_toArray, List.getElem?_cons_succ, List.getElem?_cons_zero]) (by rfl) (by rfl) (fun _ => by rfl) (by conv => lhs; simp only [Act.put, List.setIfInBounds_toArray, List.set_cons_succ, List.set_cons_zero]) ?_
    refine textS_skip (o := _) (by conv => lhs; simp only [List.getElem?_toArray, List.getElem?_cons_succ, List.getElem?_cons_zero]) (by rfl) (by rfl) (fun _ => by rfl) (by conv => lhs; simp only [Act.put, List.setIfInBounds_toArray, List.set_cons_succ, List.set_cons_zero]) ?_
    refine textS_skip (o := _) (by conv => lhs; simp only [List.getElem?_toArray, List.getElem?_cons_succ, List.getElem?_cons_zero]) (by rfl) (by rfl) (fun _ => by rfl) (by conv => lhs; simp only [Act.put, List.setIfInBounds_toArray, List.set_cons_succ, List.set_cons_zero]) ?_
    refine textS_skip (o := _) (by conv => lhs; simp only [List.getElem?_toArray, List.getElem?_cons_succ, List.getElem?_cons_zero]) (by rfl) (by rfl) (fun _ => by rfl) (by conv => lhs; simp only [Act.put, List.setIfInBounds_toArray, List.set_cons_succ, List.set_cons_zero]) ?_
    refine textS_callSkip (o := _) (by conv => lhs; simp only [List.getElem?_toArray, List.getElem?_cons_succ, List.getElem?_cons_zero]) (by rfl) (by rfl) (fun _ => trivial) hS1_1 (by conv => lhs; simp only [Act.put, List.setIfInBounds_toArray, List.set_cons_succ, List.set_cons_zero]) ?_
    refine textS_callSkip (o := _) (by conv => lhs; simp only [List.getElem?_toArray, List.getElem?_cons_succ, List.getElem?_cons_zero]) (by rfl) (by rfl) (fun _ => trivial) hS1_1 (by conv => lhs; simp only [Act.put, List.setIfInBounds_toArray, List.set_cons_succ, List.set_cons_zero]) ?_
    refine textS_skip (o := _) (by conv => lhs; simp only [List.getElem?_toArray, List.getElem?_cons_succ, List.getElem?_cons_zero]) (by rfl) (by rfl) (fun _ => by rfl) (by conv => lhs; simp only [Act.put, List.setIfInBounds_toArray, List.set_cons_succ, List.set_cons_zero]) ?_
    refine textS_skip (o := _) (by conv => lhs; simp only [List.getElem?_toArray, List.getElem?_cons_succ, List.getElem?_cons_zero]) (by rfl) (by rfl) (fun _ => by rfl) (by conv => lhs; simp only [Act.put, List.setIfInBounds_toArray, List.set_cons_succ, List.set_cons_zero]) ?_
    refine textS_skip (o := _) (by conv => lhs; simp only [List.getElem?_toArray, List.getElem?_cons_succ, List.getElem?_cons_zero]) (by rfl) (by rfl) (fun _ => by rfl) (by conv => lhs; simp only [Act.put, List.setIfInBounds_toArray, List.set_cons_succ, List.set_cons_zero]) ?_
    refine textS_callSkip (o := _) (by conv => lhs; simp only [List.getElem?_toArray, List.getElem?_cons_succ, List.getElem?_cons_zero]) (by rfl) (by rfl) (fun _ => trivial) hS1_1 (by conv => lhs; simp only [Act.put, List.setIfInBounds_toArray, List.set_cons_succ, List.set_cons_zero]) ?_
    refine textS_skip (o := _) (by conv => lhs; simp only [List.getElem?_toArray, List.getElem?_cons_succ, List.getElem?_cons_zero]) (by rfl) (by rfl) (fun _ => by rfl) (by conv => lhs; simp only [Act.put, List.setIfInBounds_toArray, List.set_cons_succ, List.set_cons_zero]) ?_
    refine textS_take (o := _) (.bool true) (by conv => lhs; simp only [List.getElem?_toArray, List.getElem?_cons_succ, List.getElem?_cons_zero]) (by rfl) (by rfl) ?_ (fun _ => by rfl) (by conv => lhs; simp only [Act.put, List.setIfInBounds_toArray, List.set_cons_succ, List.set_cons_zero]) ?_
    · intro w _; go_simp
    refine textS_take (o := _) (.bool true) (by conv => lhs; simp only [List.getElem?_toArray, List.getElem?_cons_succ, List.getElem?_cons_zero]) (by rfl) (by rfl) ?_ (fun _ => by rfl) (by conv => lhs; simp only [Act.put, List.setIfInBounds_toArray, List.set_cons_succ, List.set_cons_zero]) ?_
    · intro w _; go_simp
    refine NoPanic.normal ?_
    refine hK2 _ _ ?_
    clear hK2
    have HE := Lib.hid hS1_1.low
    clear hS1 hS1_1
    go_wp2
    go_ret
    exact ⟨rfl, HE.out⟩
  · simp only [if_true] at hCk hRk hMy
    have hpl := parts_le HT.out
    obtain ⟨np, hnp⟩ : ∃ np : Int, (T.parts : Int) = np := ⟨_, rfl⟩
    obtain ⟨bp, hbp⟩ : ∃ bp, plainV T = bp := ⟨_, rfl⟩
    have hPa : ∀ V, Seen w #[.int .i64 k, .bool b, .int .i64 n, .string s, .slice pl l.length cl, .slice pk ks.length ck] V → Calls Tryd.prog 11 #[.agg #[.int .i64 k, .bool b, .int .i64 n, .string s, .slice pl l.length cl, .slice pk ks.length ck]] V fun e w' => e = .returned (.int .i64 np) ∧ Seen w #[.int .i64 k, .bool b, .int .i64 n, .string s, .slice pl l.length cl, .slice pk ks.length ck] w' := fun V hV => by
      have hw := walk_all (fun _ => true) T 65536 4194304 (by omega) (by omega)
      rw [all_true, if_pos rfl] at hw
      refine (parts_any T _ w.heap.size _ V (hIn.below hV.low) hV.low.size hw).mono ?_
      rintro e w' ⟨rfl, hb⟩
      exact ⟨by rw [← hnp, show 4194304 - (4194304 - T.parts) = T.parts by omega], hV.step hb⟩
    have hRa : ∀ V, Seen w #[.int .i64 k, .bool b, .int .i64 n, .string s, .slice pl l.length cl, .slice pk ks.length ck] V → Calls Tryd.prog 12 #[.agg #[.int .i64 k, .bool b, .int .i64 n, .string s, .slice pl l.length cl, .slice pk ks.length ck]] V fun e w' => e = .returned (.int .i64 np) ∧ Seen w #[.int .i64 k, .bool b, .int .i64 n, .string s, .slice pl l.length cl, .slice pk ks.length ck] w' := fun V hV => by
      refine (refParts_any T.parts T _ w.heap.size V (Nat.le_refl _) hpl (hIn.below hV.low) hV.low.size).mono ?_
      rintro e w' ⟨rfl, hb⟩
      exact ⟨by rw [← hnp], hV.step hb⟩
    have hPl : ∀ V, Seen w #[.int .i64 k, .bool b, .int .i64 n, .string s, .slice pl l.length cl, .slice pk ks.length ck] V → Calls Tryd.prog 13 #[.agg #[.int .i64 k, .bool b, .int .i64 n, .string s, .slice pl l.length cl, .slice pk ks.length ck]] V fun e w' => e = .returned (.bool bp) ∧ Seen w #[.int .i64 k, .bool b, .int .i64 n, .string s, .slice pl l.length cl, .slice pk ks.length ck] w' := fun V hV => by
      refine (plain_any T _ w.heap.size V (hIn.below hV.low) hV.low.size).mono ?_
      rintro e w' ⟨rfl, hb⟩
      exact ⟨by rw [far_plain HT.out, hbp], hV.step hb⟩
    have hRl : ∀ V, Seen w #[.int .i64 k, .bool b, .int .i64 n, .string s, .slice pl l.length cl, .slice pk ks.length ck] V → Calls Tryd.prog 14 #[.agg #[.int .i64 k, .bool b, .int .i64 n, .string s, .slice pl l.length cl, .slice pk ks.length ck]] V fun e w' => e = .returned (.bool bp) ∧ Seen w #[.int .i64 k, .bool b, .int .i64 n, .string s, .slice pl l.length cl, .slice pk ks.length ck] w' := fun V hV => by
      refine (refPlain_any T.parts T _ w.heap.size V (Nat.le_refl _) (hIn.below hV.low) hV.low.size).mono ?_
      rintro e w' ⟨rfl, hb⟩
      exact ⟨by rw [hbp], hV.step hb⟩
    have hWk : ∀ V, Seen w #[.int .i64 k, .bool b, .int .i64 n, .string s, .slice pl l.length cl, .slice pk ks.length ck] V → Calls Tryd.prog 15 #[] V fun e w' => e = .returned (.bool true) ∧ Seen w #[.int .i64 k, .bool b, .int .i64 n, .string s, .slice pl l.length cl, .slice pk ks.length ck] w' := fun V hV => by
      refine (works_any V (hP.below hV.low hP.lt)).mono ?_
      rintro e w' ⟨rfl, hb⟩
      exact ⟨rfl, hV.step hb⟩
    have HCk := Lib.hid hCk
    have HRk := Lib.hid hRk
    have HMy := Lib.hid hMy
    have HPa := Lib.hid hPa
    have HRa := Lib.hid hRa
    have HPl := Lib.hid hPl
    have HRl := Lib.hid hRl
    have HWk := Lib.hid hWk
    have HS0 := Lib.hid hS0
    clear hCk hRk hMy hS0 hPa hRa hPl hRl hWk hpl hnp hbp
    go_enter Tryd.func3, Tryd.ntmps3
    go_wp2
    have hS0 := HS0.out
    rename_i Q' K1 hK1
    refine wp_region_noPanic ?_
    refine wpIn_wide (n := 5).1 ?_
    refine wpIn_region_text (Seen w #[.int .i64 k, .bool b, .int .i64 n, .string s, .slice pl l.length cl, .slice pk ks.length ck]) [0, 2, 1, 3, 4] rfl (by kernel_rfl) (by kernel_rfl) (by kernel_rfl) (by kernel_rfl) (fun _ _ _ _ _ h => h) hS0 ?_
    refine textS_take (o := _) (.agg #[.int .i64 k, .bool b, .int .i64 n, .string s, .slice pl l.length cl, .slice pk ks.length ck]) (by conv => lhs; simp only [List.getElem?_toArray, List.getElem?_cons_succ, List.getElem?_cons_zero]) (by rfl) (by rfl) ?_ (fun _ => by rfl) (by conv => lhs; simp only [Act.put, List.setIfInBounds_toArray, List.set_cons_succ, List.set_cons_zero]) ?_
    · rintro w' t0; obtain ⟨c0, c1, c2, c3, c4, c5⟩ := t0.box.cell; clear t0; go_simp
    refine textS_take (o := _) (.agg #[.int .i64 k, .bool b, .int .i64 n, .string s, .slice pl l.length cl, .slice pk ks.length ck]) (by conv => lhs; simp only [List.getElem?_toArray, List.getElem?_cons_succ, List.getElem?_cons_zero]) (by rfl) (by rfl) ?_ (fun _ => by rfl) (by conv => lhs; simp only [Act.put, List.setIfInBounds_toArray, List.set_cons_succ, List.set_cons_zero]) ?_
    · rintro w' t0; obtain ⟨c0, c1, c2, c3, c4, c5⟩ := t0.box.cell; clear t0; go_simp
    refine textS_call (o := _) (by conv => lhs; simp only [List.getElem?_toArray, List.getElem?_cons_succ, List.getElem?_cons_zero]) (by rfl) (by rfl) ?_
    refine wpIn_call rfl ?_ (HCk.out _ hS0) ?_
    · go_simp
    rintro e whS0_1 ⟨rfl, hS0_1⟩
    refine ⟨_, _, rfl, (by conv => lhs; simp only [Act.put, List.setIfInBounds_toArray, List.set_cons_succ, List.set_cons_zero]), hS0_1, ?_⟩
    refine textS_call (o := _) (by conv => lhs; simp only [List.getElem?_toArray, List.getElem?_cons_succ, List.getElem?_cons_zero]) (by rfl) (by rfl) ?_
    refine wpIn_call rfl ?_ (HRk.out _ hS0_1) ?_
    · go_simp
    rintro e whS0_2 ⟨rfl, hS0_2⟩
    refine ⟨_, _, rfl, (by conv => lhs; simp only [Act.put, List.setIfInBounds_toArray, List.set_cons_succ, List.set_cons_zero]), hS0_2, ?_⟩
    refine textS_take (o := _) (.bool false) (by conv => lhs; simp only [List.getElem?_toArray, List.getElem?_cons_succ, List.getElem?_cons_zero]) (by rfl) (by rfl) ?_ (fun _ => by rfl) (by conv => lhs; simp only [Act.put, List.setIfInBounds_toArray, List.set_cons_succ, List.set_cons_zero]) ?_
    · intro w _; go_simp
    refine NoPanic.normal ?_
    refine hK1 _ _ ?_
    clear hK1
    have HS1 := Lib.hid hS0_2.drew
    clear hS0 hS0_1 hS0_2
    go_wp2
    have hS1 := HS1.out
    rename_i Q' K2 hK2
    refine wp_region_noPanic ?_
    refine wpIn_wide (n := 5).1 ?_
    refine wpIn_region_text (Seen w #[.int .i64 k, .bool b, .int .i64 n, .string s, .slice pl l.length cl, .slice pk ks.length ck]) [0, 1, 2, 3, 4, 6, 5, 7, 8, 9, 10, 12, 11, 13, 14, 15, 16, 17, 18, 19, 20] rfl (by kernel_rfl) (by kernel_rfl) (by kernel_rfl) (by kernel_rfl) (fun _ _ _ _ _ h => h) hS1 ?_
    refine textS_take (o := _) (.agg #[.int .i64 k, .bool b, .int .i64 n, .string s, .slice pl l.length cl, .slice pk ks.length ck]) (by conv => lhs; simp only [List.getElem?_toArray, List.getElem?_cons_succ, List.getElem?_cons_zero]) (by rfl) (by rfl) ?_ (fun _ => by rfl) (by conv => lhs; simp only [Act.put, List.setIfInBounds_toArray, List.set_cons_succ, List.set_cons_zero]) ?_
    · rintro w' t0; obtain ⟨c0, c1, c2, c3, c4, c5⟩ := t0.box.cell; clear t0; go_simp
    refine textS_call (o := _) (by conv => lhs; simp only [List.getElem?_toArray, List.getElem?_cons_succ, List.getElem?_cons_zero]) (by rfl) (by rfl) ?_
    refine wpIn_call rfl ?_ (HMy.out _ hS1) ?_
    · go_simp
    rintro e whS1_1 ⟨rfl, hS1_1⟩
    refine ⟨_, _, rfl, (by conv => lhs; simp only [Act.put, List.setIfInBounds_toArray, List.set_cons_succ, List.set_cons_zero]), hS1_1, ?_⟩
    refine textS_take (o := _) (.bool false) (by conv => lhs; simp only [List.getElem?_toArray, List.getElem?_cons_succ, List.getElem?_cons_zero]) (by rfl) (by rfl) ?_ (fun _ => by rfl) (by conv => lhs; simp only [Act.put, List.setIfInBounds_toArray, List.set_cons_succ, List.set_cons_zero]) ?_
    · intro w _; go_simp
    refine textS_take (o := _) (.bool false) (by conv => lhs; simp only [List.getElem?_toArray, List.getElem?_cons_succ, List.getElem?_cons_zero]) (by rfl) (by rfl) ?_ (fun _ => by rfl) (by conv => lhs; simp only [Act.put, List.setIfInBounds_toArray, List.set_cons_succ, List.set_cons_zero]) ?_
    · intro w _; go_simp
    refine textS_take (o := _) (.agg #[.int .i64 k, .bool b, .int .i64 n, .string s, .slice pl l.length cl, .slice pk ks.length ck]) (by conv => lhs; simp only [List.getElem?_toArray, List.getElem?_cons_succ, List.getElem?_cons_zero]) (by rfl) (by rfl) ?_ (fun _ => by rfl) (by conv => lhs; simp only [Act.put, List.setIfInBounds_toArray, List.set_cons_succ, List.set_cons_zero]) ?_
    · rintro w' t0; obtain ⟨c0, c1, c2, c3, c4, c5⟩ := t0.box.cell; clear t0; go_simp
    refine textS_take (o := _) (.agg #[.int .i64 k, .bool b, .int .i64 n, .string s, .slice pl l.length cl, .slice pk ks.length ck]) (by conv => lhs; simp only [List.getElem?_toArray, List.getElem?_cons_succ, List.getElem?_cons_zero]) (by rfl) (by rfl) ?_ (fun _ => by rfl) (by conv => lhs; simp only [Act.put, List.setIfInBounds_toArray, List.set_cons_succ, List.set_cons_zero]) ?_
    · rintro w' t0; obtain ⟨c0, c1, c2, c3, c4, c5⟩ := t0.box.cell; clear t0; go_simp
    refine textS_call (o := _) (by conv => lhs; simp only [List.getElem?_toArray, List.getElem?_cons_succ, List.getElem?_cons_zero]) (by rfl) (by rfl) ?_
    refine wpIn_call rfl ?_ (HPa.out _ hS1_1) ?_
    · go_simp
    rintro e whS1_2 ⟨rfl, hS1_2⟩
    refine ⟨_, _, rfl, (by conv => lhs; simp only [Act.put, List.setIfInBounds_toArray, List.set_cons_succ, List.set_cons_zero]), hS1_2, ?_⟩
    refine textS_call (o := _) (by conv => lhs; simp only [List.getElem?_toArray, List.getElem?_cons_succ, List.getElem?_cons_zero]) (by rfl) (by rfl) ?_
    refine wpIn_call rfl ?_ (HRa.out _ hS1_2) ?_
    · go_simp
    rintro e whS1_3 ⟨rfl, hS1_3⟩
    refine ⟨_, _, rfl, (by conv => lhs; simp only [Act.put, List.setIfInBounds_toArray, List.set_cons_succ, List.set_cons_zero]), hS1_3, ?_⟩
    refine textS_take (o := _) (.bool true) (by conv => lhs; simp only [List.getElem?_toArray, List.getElem?_cons_succ, List.getElem?_cons_zero]) (by rfl) (by rfl) ?_ (fun _ => by rfl) (by conv => lhs; simp only [Act.put, List.setIfInBounds_toArray, List.set_cons_succ, List.set_cons_zero]) ?_
    · intro w _; go_simp
    refine textS_take (o := _) (.bool true) (by conv => lhs; simp only [List.getElem?_toArray, List.getElem?_cons_succ, List.getElem?_cons_zero]) (by rfl) (by rfl) ?_ (fun _ => by rfl) (by conv => lhs; simp only [Act.put, List.setIfInBounds_toArray, List.set_cons_succ, List.set_cons_zero]) ?_
    · intro w _; go_simp
    refine textS_take (o := _) (.agg #[.int .i64 k, .bool b, .int .i64 n, .string s, .slice pl l.length cl, .slice pk ks.length ck]) (by conv => lhs; simp only [List.getElem?_toArray, List.getElem?_cons_succ, List.getElem?_cons_zero]) (by rfl) (by rfl) ?_ (fun _ => by rfl) (by conv => lhs; simp only [Act.put, List.setIfInBounds_toArray, List.set_cons_succ, List.set_cons_zero]) ?_
    · rintro w' t0; obtain ⟨c0, c1, c2, c3, c4, c5⟩ := t0.box.cell; clear t0; go_simp
    refine textS_take (o := _) (.agg #[.int .i64 k, .bool b, .int .i64 n, .string s, .slice pl l.length cl, .slice pk ks.length ck]) (by conv => lhs; simp only [List.getElem?_toArray, List.getElem?_cons_succ, List.getElem?_cons_zero]) (by rfl) (by rfl) ?_ (fun _ => by rfl) (by conv => lhs; simp only [Act.put, List.setIfInBounds_toArray, List.set_cons_succ, List.set_cons_zero]) ?_
    · rintro w' t0; obtain ⟨c0, c1, c2, c3, c4, c5⟩ := t0.box.cell; clear t0; go_simp
    refine textS_call (o := _) (by conv => lhs; simp only [List.getElem?_toArray, List.getElem?_cons_succ, List.getElem?_cons_zero]) (by rfl) (by rfl) ?_
    refine wpIn_call rfl ?_ (HPl.out _ hS1_3) ?_
    · go_simp
    rintro e whS1_4 ⟨rfl, hS1_4⟩
    refine ⟨_, _, rfl, (by conv => lhs; simp only [Act.put, List.setIfInBounds_toArray, List.set_cons_succ, List.set_cons_zero]), hS1_4, ?_⟩
    refine textS_call (o := _) (by conv => lhs; simp only [List.getElem?_toArray, List.getElem?_cons_succ, List.getElem?_cons_zero]) (by rfl) (by rfl) ?_
    refine wpIn_call rfl ?_ (HRl.out _ hS1_4) ?_
    · go_simp
    rintro e whS1_5 ⟨rfl, hS1_5⟩
    refine ⟨_, _, rfl, (by conv => lhs; simp only [Act.put, List.setIfInBounds_toArray, List.set_cons_succ, List.set_cons_zero]), hS1_5, ?_⟩
    refine textS_take (o := _) (.bool true) (by conv => lhs; simp only [List.getElem?_toArray, List.getElem?_cons_succ, List.getElem?_cons_zero]) (by rfl) (by rfl) ?_ (fun _ => by rfl) (by conv => lhs; simp only [Act.put, List.setIfInBounds_toArray, List.set_cons_succ, List.set_cons_zero]) ?_
    · intro w _; go_simp
    refine textS_take (o := _) (.bool true) (by conv => lhs; simp only [List.getElem?_toArray, List.getElem?_cons_succ, List.getElem?_cons_zero]) (by rfl) (by rfl) ?_ (fun _ => by rfl) (by conv => lhs; simp only [Act.put, List.setIfInBounds_toArray, List.set_cons_succ, List.set_cons_zero]) ?_
    · intro w _; go_simp
    refine textS_take (o := _) (.bool true) (by conv => lhs; simp only [List.getElem?_toArray, List.getElem?_cons_succ, List.getElem?_cons_zero]) (by rfl) (by rfl) ?_ (fun _ => by rfl) (by conv => lhs; simp only [Act.put, List.setIfInBounds_toArray, List.set_cons_succ, List.set_cons_zero]) ?_
    · intro w _; go_simp
    refine textS_call (o := _) (by conv => lhs; simp only [List.getElem?_toArray, List.getElem?_cons_succ, List.getElem?_cons_zero]) (by rfl) (by rfl) ?_
    refine wpIn_call rfl ?_ (HWk.out _ hS1_5) ?_
    · go_simp
    rintro e whS1_6 ⟨rfl, hS1_6⟩
    refine ⟨_, _, rfl, (by conv => lhs; simp only [Act.put, List.setIfInBounds_toArray, List.set_cons_succ, List.set_cons_zero]), hS1_6, ?_⟩
    refine textS_take (o := _) (.bool true) (by conv => lhs; simp only [List.getElem?_toArray, List.getElem?_cons_succ, List.getElem?_cons_zero]) (by rfl) (by rfl) ?_ (fun _ => by rfl) (by conv => lhs; simp only [Act.put, List.setIfInBounds_toArray, List.set_cons_succ, List.set_cons_zero]) ?_
    · intro w _; go_simp
    refine textS_take (o := _) (.bool true) (by conv => lhs; simp only [List.getElem?_toArray, List.getElem?_cons_succ, List.getElem?_cons_zero]) (by rfl) (by rfl) ?_ (fun _ => by rfl) (by conv => lhs; simp only [Act.put, List.setIfInBounds_toArray, List.set_cons_succ, List.set_cons_zero]) ?_
    · intro w _; go_simp
    refine textS_take (o := _) (.bool true) (by conv => lhs; simp only [List.getElem?_toArray, List.getElem?_cons_succ, List.getElem?_cons_zero]) (by rfl) (by rfl) ?_ (fun _ => by rfl) (by conv => lhs; simp only [Act.put, List.setIfInBounds_toArray, List.set_cons_succ, List.set_cons_zero]) ?_
    · intro w _; go_simp
    refine NoPanic.normal ?_
    refine hK2 _ _ ?_
    clear hK2
    have HE := Lib.hid hS1_6.low
    clear hS1 hS1_1 hS1_2 hS1_3 hS1_4 hS1_5 hS1_6
    go_wp2
    go_ret
    exact ⟨rfl, HE.out⟩
end Val
end Go.Proofs.YtiphegccaijbgaaDoor
