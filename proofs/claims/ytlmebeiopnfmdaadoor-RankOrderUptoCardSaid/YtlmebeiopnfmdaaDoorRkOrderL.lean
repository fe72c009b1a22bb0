/- The law RankOrder: its walk. -/
import Derived.Test.YtlmebeiopnfmdaaDoorRkOrdPlain
import Derived.Test.YtlmebeiopnfmdaaDoorRkWorks
import Derived.Test.YtlmebeiopnfmdaaDoorOrdAny
namespace Go.Proofs.YtlmebeiopnfmdaaDoor
open Go.RowKit
set_option linter.unusedVariables false
set_option linter.unusedSimpArgs false
namespace Rk
open Val (VT Keeps Box okN okNL szV szL szK mayB ordV Places)
theorem key_order (t u : VT) (ht : mayB t = true) (hu : mayB u = true) (ot : okN t) (ou : okN u) : Lib.compareBytes (keyB t) (keyB u) = ordV t u := by
  have h := key_cmp t u [] [] (Val.may_formed ht) (Val.may_formed hu) (mayB_good t ht).1 (mayB_good u hu).1 ot ou
  rw [List.append_nil, List.append_nil] at h
  rw [h]
  show Val.orE (ordV t u) 0 = _
  unfold Val.orE
  split
  · rename_i h0; exact h0.symm
  · rfl

/-- Two values' boxes stand, and all that was there. -/
structure Seen2 (w : World) (ca cb : Array Value) (V : World) : Prop where
  boxA : Box V w.heap.size ca
  boxB : Box V (w.heap.size + 1) cb
  low : Below w.heap.size w V
theorem Seen2.step {w V V' : World} {ca cb : Array Value} (h : Seen2 w ca cb V) (hb : Below V.heap.size V V') : Seen2 w ca cb V' := ⟨(hb.block _ h.boxA.lt).trans h.boxA, (hb.block _ h.boxB.lt).trans h.boxB, h.low.trans (hb.mono h.low.size)⟩
theorem Seen2.new (w : World) (ca cb : Array Value) : Seen2 w ca cb ((w.alloc (.cells ca 26)).alloc (.cells cb 26)) := by
  have h := Box.new (w.alloc (.cells ca 26)) cb
  rw [show (w.alloc (.cells ca 26)).heap.size = w.heap.size + 1 by simp] at h
  exact ⟨(Box.new w ca).alloc _, h, ((Below.refl _ w).alloc (Nat.le_refl _) _).alloc (by simp) _⟩
section
variable (t u : VT) (v z : Value) (w : World) (hIn : VT.In w w.heap.size t v) (hIn2 : VT.In w w.heap.size u z) (hok : okN t) (hok2 : okN u) (hsz : szV t ≤ 62914560) (hsz2 : szV u ≤ 62914560) (hX : MaxAt w)
include hIn hIn2 hok hok2 hsz hsz2 hX
set_option maxHeartbeats 2000000 in
set_option maxRecDepth 100000 in
/-- One of them may not be. -/
theorem order_bad (x y : Int) (hx : errOf t = x) (hy : errOf u = y) (h : (x = 20 ∧ y = 20) ∨ (x = 20 ∧ y = 0) ∨ (x = 0 ∧ y = 20)) :
    Calls Tryd.prog 6 #[v, z] w fun e w' => e = .returned (.bool true) ∧ Below w.heap.size w w' := by
  have KC := Lib.hid (fun (V : World) (hV : Below w.heap.size w V) => key_any t v w.heap.size V (hIn.below hV) hV.size hok (by omega) (MaxAt.low hX hV hX.zero))
  have KC2 := Lib.hid (fun (V : World) (hV : Below w.heap.size w V) => key_any u z w.heap.size V (hIn2.below hV) hV.size hok2 (by omega) (MaxAt.low hX hV hX.zero))
  have WC := Lib.hid (fun (V : World) (hV : Below w.heap.size w V) => works_any V (MaxAt.low hX hV hX.zero))
  rw [hx] at KC
  rw [hy] at KC2
  obtain ⟨q, hq⟩ : ∃ q, keyOf t = q := ⟨_, rfl⟩
  obtain ⟨q', hq'⟩ : ∃ q, keyOf u = q := ⟨_, rfl⟩
  rw [hq] at KC
  rw [hq'] at KC2
  clear hq hq' hx hy
  obtain ⟨k, b, n, s, l, ks⟩ := t
  obtain ⟨k', b', n', s', l', ks'⟩ := u
  have hxi := hIn
  unfold VT.In at hxi
  obtain ⟨pl, cl, pk, ck, rfl, -⟩ := hxi
  have hx2 := hIn2
  unfold VT.In at hx2
  obtain ⟨pl', cl', pk', ck', rfl, -⟩ := hx2
  obtain ⟨nl, hnl⟩ : ∃ m, l.length = m := ⟨_, rfl⟩
  obtain ⟨nk, hnk⟩ : ∃ m, ks.length = m := ⟨_, rfl⟩
  obtain ⟨nl', hnl'⟩ : ∃ m, l'.length = m := ⟨_, rfl⟩
  obtain ⟨nk', hnk'⟩ : ∃ m, ks'.length = m := ⟨_, rfl⟩
  rw [hnl, hnk] at KC
  rw [hnl', hnk'] at KC2
  rw [hnl, hnk, hnl', hnk']
  clear hIn hIn2 hok hok2 hsz hsz2 hX
  have HB0 : Hid (Seen2 w #[.int .i64 k, .bool b, .int .i64 n, .string s, .slice pl nl cl, .slice pk nk ck] #[.int .i64 k', .bool b', .int .i64 n', .string s', .slice pl' nl' cl', .slice pk' nk' ck'] ((w.alloc (.cells #[.int .i64 k, .bool b, .int .i64 n, .string s, .slice pl nl cl, .slice pk nk ck] 26)).alloc (.cells #[.int .i64 k', .bool b', .int .i64 n', .string s', .slice pl' nl' cl', .slice pk' nk' ck'] 26))) := Lib.hid (Seen2.new w _ _)
  rcases h with ⟨rfl, rfl⟩ | ⟨rfl, rfl⟩ | ⟨rfl, rfl⟩
  all_goals
   go_enter Tryd.func6, Tryd.ntmps6
   go_wp2_with fail
   refine (KC.out _ HB0.out.low).mono ?_
   rintro e w1 ⟨rfl, hb1⟩
   have HB1 := Lib.hid (HB0.out.step hb1)
   clear hb1
   obtain ⟨c0, c1, c2, c3, c4, c5⟩ := HB1.out.boxA.cell
   obtain ⟨d0, d1, d2, d3, d4, d5⟩ := HB1.out.boxB.cell
   go_wp2_with fail
   refine (KC2.out _ HB1.out.low).mono ?_
   rintro e w2 ⟨rfl, hb2⟩
   have HB2 := Lib.hid (HB1.out.step hb2)
   clear hb2
   clear c0 c1 c2 c3 c4 c5 d0 d1 d2 d3 d4 d5
   go_wp2_with fail
   refine (WC.out _ HB2.out.low).mono ?_
   rintro e w3 ⟨rfl, hb3⟩
   have HB3 := Lib.hid (HB2.out.step hb3)
   clear hb3
   go_wp2
   go_ret
   exact ⟨rfl, HB3.out.low⟩
set_option maxHeartbeats 2000000 in
set_option maxRecDepth 100000 in
/-- Both may be. -/
theorem order_good (hP : Places w) (ht : mayB t = true) (hu : mayB u = true) :
    Calls Tryd.prog 6 #[v, z] w fun e w' => e = .returned (.bool true) ∧ Below w.heap.size w w' := by
  have KC := Lib.hid (fun (V : World) (hV : Below w.heap.size w V) => key_any t v w.heap.size V (hIn.below hV) hV.size hok (by omega) (MaxAt.low hX hV hX.zero))
  have KC2 := Lib.hid (fun (V : World) (hV : Below w.heap.size w V) => key_any u z w.heap.size V (hIn2.below hV) hV.size hok2 (by omega) (MaxAt.low hX hV hX.zero))
  have OC := Lib.hid (fun (V : World) (hV : Below w.heap.size w V) => Val.order_any t u v z V ((hIn.below hV).more hV.size) ((hIn2.below hV).more hV.size) ht hu (hP.below hV hP.lt))
  have WC := Lib.hid (fun (V : World) (hV : Below w.heap.size w V) => works_any V (MaxAt.low hX hV hX.zero))
  have hc := key_order t u ht hu hok hok2
  have hc2 := key_order u t hu ht hok2 hok
  rw [Val.ordV_swap t u] at hc2
  have e1 : errOf t = 0 := by unfold errOf; rw [ht]; rfl
  have e2 : errOf u = 0 := by unfold errOf; rw [hu]; rfl
  rw [e1] at KC
  rw [e2] at KC2
  have hk : (keyOf t).data.toList = keyB t := by unfold keyOf; rw [ht]; rfl
  have hk2 : (keyOf u).data.toList = keyB u := by unfold keyOf; rw [hu]; rfl
  have hl1 : Op.bytesLess (keyOf t).toList (keyOf u).toList = decide (ordV t u < 0) := by rw [Val.less_cmp, ByteArray.toList_eq, ByteArray.toList_eq, hk, hk2, hc]
  have hl2 : Op.bytesLess (keyOf u).toList (keyOf t).toList = decide (0 < ordV t u) := by
    rw [Val.less_cmp, ByteArray.toList_eq, ByteArray.toList_eq, hk, hk2, hc2]
    exact decide_eq_decide.2 ⟨fun h => by omega, fun h => by omega⟩
  have hl3 : ((keyOf t).toList == (keyOf u).toList) = decide (ordV t u = 0) := by
    rw [ByteArray.toList_eq, ByteArray.toList_eq, hk, hk2, Bool.eq_iff_iff, beq_iff_eq, decide_eq_true_iff, ← hc, Val.cmpB_zero]
  have hcs : ordV t u = -1 ∨ ordV t u = 0 ∨ ordV t u = 1 := by rw [← hc]; exact Val.cmpB_cases _ _
  obtain ⟨q, hq⟩ : ∃ q, keyOf t = q := ⟨_, rfl⟩
  obtain ⟨q', hq'⟩ : ∃ q, keyOf u = q := ⟨_, rfl⟩
  obtain ⟨c, hcc⟩ : ∃ c, ordV t u = c := ⟨_, rfl⟩
  rw [hq] at KC hl1 hl2 hl3
  rw [hq'] at KC2 hl1 hl2 hl3
  rw [hcc] at OC hl1 hl2 hl3 hcs
  clear hq hq' hc hc2 hcc e1 e2 hk hk2
  obtain ⟨k, b, n, s, l, ks⟩ := t
  obtain ⟨k', b', n', s', l', ks'⟩ := u
  have hx := hIn
  unfold VT.In at hx
  obtain ⟨pl, cl, pk, ck, rfl, -⟩ := hx
  have hx2 := hIn2
  unfold VT.In at hx2
  obtain ⟨pl', cl', pk', ck', rfl, -⟩ := hx2
  obtain ⟨nl, hnl⟩ : ∃ m, l.length = m := ⟨_, rfl⟩
  obtain ⟨nk, hnk⟩ : ∃ m, ks.length = m := ⟨_, rfl⟩
  obtain ⟨nl', hnl'⟩ : ∃ m, l'.length = m := ⟨_, rfl⟩
  obtain ⟨nk', hnk'⟩ : ∃ m, ks'.length = m := ⟨_, rfl⟩
  rw [hnl, hnk] at KC
  rw [hnl', hnk'] at KC2
  rw [hnl, hnk, hnl', hnk'] at OC
  rw [hnl, hnk, hnl', hnk']
  clear hIn hIn2 hok hok2 hsz hsz2 hX ht hu hP
  have HB0 : Hid (Seen2 w #[.int .i64 k, .bool b, .int .i64 n, .string s, .slice pl nl cl, .slice pk nk ck] #[.int .i64 k', .bool b', .int .i64 n', .string s', .slice pl' nl' cl', .slice pk' nk' ck'] ((w.alloc (.cells #[.int .i64 k, .bool b, .int .i64 n, .string s, .slice pl nl cl, .slice pk nk ck] 26)).alloc (.cells #[.int .i64 k', .bool b', .int .i64 n', .string s', .slice pl' nl' cl', .slice pk' nk' ck'] 26))) := Lib.hid (Seen2.new w _ _)
  rcases hcs with rfl | rfl | rfl
  all_goals
   have l1 := hl1.trans (show _ = (_ : Bool) from by first | exact (decide_eq_true (by decide)) | exact (decide_eq_false (by decide)))
   have l2 := hl2.trans (show _ = (_ : Bool) from by first | exact (decide_eq_true (by decide)) | exact (decide_eq_false (by decide)))
   have l3 := hl3.trans (show _ = (_ : Bool) from by first | exact (decide_eq_true (by decide)) | exact (decide_eq_false (by decide)))
   clear hl1 hl2 hl3
   go_enter Tryd.func6, Tryd.ntmps6
   go_wp2_with fail
   refine (KC.out _ HB0.out.low).mono ?_
   rintro e w1 ⟨rfl, hb1⟩
   have HB1 := Lib.hid (HB0.out.step hb1)
   clear hb1
   obtain ⟨c0, c1, c2, c3, c4, c5⟩ := HB1.out.boxA.cell
   obtain ⟨d0, d1, d2, d3, d4, d5⟩ := HB1.out.boxB.cell
   go_wp2_with fail
   refine (KC2.out _ HB1.out.low).mono ?_
   rintro e w2 ⟨rfl, hb2⟩
   have HB2 := Lib.hid (HB1.out.step hb2)
   clear hb2
   clear c0 c1 c2 c3 c4 c5 d0 d1 d2 d3 d4 d5
   obtain ⟨c0, c1, c2, c3, c4, c5⟩ := HB2.out.boxA.cell
   obtain ⟨d0, d1, d2, d3, d4, d5⟩ := HB2.out.boxB.cell
   go_wp2_with fail
   refine (OC.out _ HB2.out.low).mono ?_
   rintro e w3 ⟨rfl, hb3⟩
   have HB3 := Lib.hid (HB2.out.step hb3)
   clear hb3
   clear c0 c1 c2 c3 c4 c5 d0 d1 d2 d3 d4 d5
   go_wp2_with fail
   refine (WC.out _ HB3.out.low).mono ?_
   rintro e w4 ⟨rfl, hb4⟩
   have HB4 := Lib.hid (HB3.out.step hb4)
   clear hb4
   go_wp2
   go_ret
   exact ⟨rfl, HB4.out.low⟩
end
theorem rankOrder_any (t u : VT) (v z : Value) (w : World) (hIn : VT.In w w.heap.size t v) (hIn2 : VT.In w w.heap.size u z) (hok : okN t) (hok2 : okN u) (hsz : szV t ≤ 62914560) (hsz2 : szV u ≤ 62914560) (hX : MaxAt w) (hP : Places w) :
    Calls Tryd.prog 6 #[v, z] w fun e w' => e = .returned (.bool true) ∧ Below w.heap.size w w' := by
  cases ht : mayB t with
  | false =>
    have e1 : errOf t = 20 := by unfold errOf; rw [ht]; rfl
    cases hu : mayB u with
    | false => exact order_bad t u v z w hIn hIn2 hok hok2 hsz hsz2 hX 20 20 e1 (by unfold errOf; rw [hu]; rfl) (.inl ⟨rfl, rfl⟩)
    | true => exact order_bad t u v z w hIn hIn2 hok hok2 hsz hsz2 hX 20 0 e1 (by unfold errOf; rw [hu]; rfl) (.inr (.inl ⟨rfl, rfl⟩))
  | true =>
    have e1 : errOf t = 0 := by unfold errOf; rw [ht]; rfl
    cases hu : mayB u with
    | false => exact order_bad t u v z w hIn hIn2 hok hok2 hsz hsz2 hX 0 20 e1 (by unfold errOf; rw [hu]; rfl) (.inr (.inr ⟨rfl, rfl⟩))
    | true => exact order_good t u v z w hIn hIn2 hok hok2 hsz hsz2 hX hP ht hu
end Rk
end Go.Proofs.YtlmebeiopnfmdaaDoor
