/- The law PackApart: its walk. -/
import Derived.Test.YtpkhekjhnafbfaaPkTells
import Derived.Test.YtpkhekjhnafbfaaPkWorks
import Derived.Test.YtpkhekjhnafbfaaSeq
namespace Go.Proofs.Ytpkhekjhnafbfaa
open Go.RowKit
set_option linter.unusedVariables false
set_option linter.unusedSimpArgs false
namespace Pk
open Val (VT Keeps Box okN okNL szV szL szK mayB sameV)
open Rk (Buf Sk)
/-- Two values' boxes stand, and all that was there. -/
structure Seen2 (w : World) (cs ds : Array Value) (V : World) : Prop where
  box : Box V w.heap.size cs
  box2 : Box V (w.heap.size + 1) ds
  low : Below w.heap.size w V
theorem Seen2.step {w V V' : World} {cs ds : Array Value} (h : Seen2 w cs ds V) (hb : Below V.heap.size V V') : Seen2 w cs ds V' := ⟨(hb.block _ h.box.lt).trans h.box, (hb.block _ h.box2.lt).trans h.box2, h.low.trans (hb.mono h.low.size)⟩
theorem Seen2.new (w : World) (cs ds : Array Value) : Seen2 w cs ds ((w.alloc (.cells cs 25)).alloc (.cells ds 25)) := by
  refine ⟨(Box.new w cs).alloc _, ?_, ((Below.refl _ w).alloc (Nat.le_refl _) _).alloc (by simp) _⟩
  have := Box.new (w.alloc (.cells cs 25)) ds
  simpa using this
/-- .. and two rows of bytes of the call's own. -/
structure Two (w : World) (cs ds : Array Value) (B1 B2 : Nat) (u1 u2 : Value) (b1 b2 : List UInt8) (V : World) : Prop where
  seen : Seen2 w cs ds V
  buf1 : Buf B1 V u1 b1
  buf2 : Buf B2 V u2 b2
theorem Two.step {w V V' : World} {cs ds : Array Value} {B1 B2 : Nat} {u1 u2 : Value} {b1 b2 : List UInt8} (h : Two w cs ds B1 B2 u1 u2 b1 b2 V) (hb : Below V.heap.size V V') : Two w cs ds B1 B2 u1 u2 b1 b2 V' := ⟨h.seen.step hb, h.buf1.far hb, h.buf2.far hb⟩
set_option maxRecDepth 100000 in
set_option maxHeartbeats 8000000 in
theorem packApart_any (t t2 : VT) (v v2 : Value) (w : World) (hIn : VT.In w w.heap.size t v) (hIn2 : VT.In w w.heap.size t2 v2) (hok : okN t) (hok2 : okN t2) (hsz : szV t ≤ 17592186044416) (hsz2 : szV t2 ≤ 17592186044416) : Calls Try.prog 8 #[v, v2] w fun e w' => e = .returned (.bool true) ∧ Below w.heap.size w w' := by
  obtain ⟨k, b, n, s, l, ks⟩ := t
  have hx := hIn
  unfold VT.In at hx
  obtain ⟨pl, cl, pk, ck, rfl, -⟩ := hx
  obtain ⟨T, hT⟩ : ∃ T, VT.mk k b n s l ks = T := ⟨_, rfl⟩
  rw [hT] at hIn hok hsz
  clear hT
  obtain ⟨k2, b2, n2, s2, l2, ks2⟩ := t2
  have hx := hIn2
  unfold VT.In at hx
  obtain ⟨pl2, cl2, pk2, ck2, rfl, -⟩ := hx
  obtain ⟨T2, hT⟩ : ∃ T, VT.mk k2 b2 n2 s2 l2 ks2 = T := ⟨_, rfl⟩
  rw [hT] at hIn2 hok2 hsz2
  clear hT
  have hEv : ∀ V, Seen2 w #[.int .i64 k, .bool b, .int .i64 n, .string s, .slice pl l.length cl, .slice pk ks.length ck] #[.int .i64 k2, .bool b2, .int .i64 n2, .string s2, .slice pl2 l2.length cl2, .slice pk2 ks2.length ck2] V → Calls Try.prog 10 #[.agg #[.int .i64 k, .bool b, .int .i64 n, .string s, .slice pl l.length cl, .slice pk ks.length ck]] V fun e w' => ∃ u, e = .returned (.tuple #[u, .int .i64 (errOf T)]) ∧ Sk V.heap.size V w' u (encB T) := fun V hV =>
    encode_any T _ w.heap.size V (hIn.below hV.low) hV.low.size hok hsz
  have hEu : ∀ V, Seen2 w #[.int .i64 k, .bool b, .int .i64 n, .string s, .slice pl l.length cl, .slice pk ks.length ck] #[.int .i64 k2, .bool b2, .int .i64 n2, .string s2, .slice pl2 l2.length cl2, .slice pk2 ks2.length ck2] V → Calls Try.prog 10 #[.agg #[.int .i64 k2, .bool b2, .int .i64 n2, .string s2, .slice pl2 l2.length cl2, .slice pk2 ks2.length ck2]] V fun e w' => ∃ u, e = .returned (.tuple #[u, .int .i64 (errOf T2)]) ∧ Sk V.heap.size V w' u (encB T2) := fun V hV =>
    encode_any T2 _ w.heap.size V (hIn2.below hV.low) hV.low.size hok2 hsz2
  have hSm : ∀ V, Seen2 w #[.int .i64 k, .bool b, .int .i64 n, .string s, .slice pl l.length cl, .slice pk ks.length ck] #[.int .i64 k2, .bool b2, .int .i64 n2, .string s2, .slice pl2 l2.length cl2, .slice pk2 ks2.length ck2] V → Calls Try.prog 12 #[.agg #[.int .i64 k, .bool b, .int .i64 n, .string s, .slice pl l.length cl, .slice pk ks.length ck], .agg #[.int .i64 k2, .bool b2, .int .i64 n2, .string s2, .slice pl2 l2.length cl2, .slice pk2 ks2.length ck2]] V fun e w' => e = .returned (.bool (sameV T T2)) ∧ Below V.heap.size V w' := fun V hV =>
    Val.same_any T.parts T T2 _ _ w.heap.size V (Nat.le_refl _) (hIn.below hV.low) (hIn2.below hV.low) hV.low.size
  have hS0 : Seen2 w #[.int .i64 k, .bool b, .int .i64 n, .string s, .slice pl l.length cl, .slice pk ks.length ck] #[.int .i64 k2, .bool b2, .int .i64 n2, .string s2, .slice pl2 l2.length cl2, .slice pk2 ks2.length ck2] ((w.alloc (.cells #[.int .i64 k, .bool b, .int .i64 n, .string s, .slice pl l.length cl, .slice pk ks.length ck] 25)).alloc (.cells #[.int .i64 k2, .bool b2, .int .i64 n2, .string s2, .slice pl2 l2.length cl2, .slice pk2 ks2.length ck2] 25)) := Seen2.new w _ _
  obtain ⟨q, hq⟩ : ∃ q : ByteArray, (⟨(packB T).toArray⟩ : ByteArray) = q := ⟨_, rfl⟩
  obtain ⟨z, hz⟩ : ∃ q : ByteArray, (⟨(packB T2).toArray⟩ : ByteArray) = q := ⟨_, rfl⟩
  have htx := fun h1 h2 => bytes_same T T2 h1 h2 q z hq hz
  have HQ := Lib.hid hq
  have HZ := Lib.hid hz
  have HS0 := Lib.hid hS0
  have HEv := Lib.hid hEv
  have HEu := Lib.hid hEu
  have HSm := Lib.hid hSm
  clear hS0 hq hz hIn hIn2 hok hok2 hsz hsz2 hEv hEu hSm
  cases hb1 : mayB T
  · have he1 : errOf T = 20 := by unfold errOf; rw [hb1]; rfl
    rw [he1] at HEv
    clear htx hb1 he1
    obtain ⟨x2, hx2⟩ : ∃ x2, errOf T2 = x2 := ⟨_, rfl⟩
    rw [hx2] at HEu
    clear hx2
    go_enter Try.func8, Try.ntmps8
    go_wp2_with fail
    refine (HEv.out _ HS0.out).mono ?_
    rintro e w1 ⟨u1, rfl, h1⟩
    have h1s := HS0.out.step h1.low
    have H1 := Lib.hid h1
    have H1s := Lib.hid h1s
    obtain ⟨c0, c1, c2, c3, c4, c5⟩ := h1s.box2.cell
    clear h1 h1s
    go_wp2_with fail
    refine (HEu.out _ H1s.out).mono ?_
    rintro e w2 ⟨u2, rfl, h2⟩
    have HT : Hid (Two w #[.int .i64 k, .bool b, .int .i64 n, .string s, .slice pl l.length cl, .slice pk ks.length ck] #[.int .i64 k2, .bool b2, .int .i64 n2, .string s2, .slice pl2 l2.length cl2, .slice pk2 ks2.length ck2] ((w.alloc (.cells #[.int .i64 k, .bool b, .int .i64 n, .string s, .slice pl l.length cl, .slice pk ks.length ck] 25)).alloc (.cells #[.int .i64 k2, .bool b2, .int .i64 n2, .string s2, .slice pl2 l2.length cl2, .slice pk2 ks2.length ck2] 25)).heap.size w1.heap.size u1 u2 (encB T) (encB T2) w2) := Lib.hid ⟨H1s.out.step h2.low, H1.out.buf.far h2.low, h2.buf⟩
    clear h2 c0 c1 c2 c3 c4 c5
    go_wp2_with fail
    refine (works_any _).mono ?_
    rintro e w3 ⟨rfl, hF⟩
    have HF := Lib.hid (HT.out.step hF).seen.low
    clear hF
    go_wp2
    go_ret
    exact ⟨rfl, HF.out⟩
  · cases hb2 : mayB T2
    · have he1 : errOf T = 0 := by unfold errOf; rw [hb1]; rfl
      have he2 : errOf T2 = 20 := by unfold errOf; rw [hb2]; rfl
      rw [he1] at HEv
      rw [he2] at HEu
      clear htx hb1 hb2 he1 he2
      go_enter Try.func8, Try.ntmps8
      go_wp2_with fail
      refine (HEv.out _ HS0.out).mono ?_
      rintro e w1 ⟨u1, rfl, h1⟩
      have h1s := HS0.out.step h1.low
      have H1 := Lib.hid h1
      have H1s := Lib.hid h1s
      obtain ⟨c0, c1, c2, c3, c4, c5⟩ := h1s.box2.cell
      clear h1 h1s
      go_wp2_with fail
      refine (HEu.out _ H1s.out).mono ?_
      rintro e w2 ⟨u2, rfl, h2⟩
      have HT : Hid (Two w #[.int .i64 k, .bool b, .int .i64 n, .string s, .slice pl l.length cl, .slice pk ks.length ck] #[.int .i64 k2, .bool b2, .int .i64 n2, .string s2, .slice pl2 l2.length cl2, .slice pk2 ks2.length ck2] ((w.alloc (.cells #[.int .i64 k, .bool b, .int .i64 n, .string s, .slice pl l.length cl, .slice pk ks.length ck] 25)).alloc (.cells #[.int .i64 k2, .bool b2, .int .i64 n2, .string s2, .slice pl2 l2.length cl2, .slice pk2 ks2.length ck2] 25)).heap.size w1.heap.size u1 u2 (encB T) (encB T2) w2) := Lib.hid ⟨H1s.out.step h2.low, H1.out.buf.far h2.low, h2.buf⟩
      clear h2 c0 c1 c2 c3 c4 c5
      go_wp2_with fail
      refine (works_any _).mono ?_
      rintro e w3 ⟨rfl, hF⟩
      have HF := Lib.hid (HT.out.step hF).seen.low
      clear hF
      go_wp2
      go_ret
      exact ⟨rfl, HF.out⟩
    · have he1 : errOf T = 0 := by unfold errOf; rw [hb1]; rfl
      have he2 : errOf T2 = 0 := by unfold errOf; rw [hb2]; rfl
      have hc1 : encB T = packB T := by unfold encB; rw [hb1]; rfl
      have hc2 : encB T2 = packB T2 := by unfold encB; rw [hb2]; rfl
      rw [he1, hc1] at HEv
      rw [he2, hc2] at HEu
      have htx := htx hb1 hb2
      clear hb1 hb2 he1 he2 hc1 hc2
      cases hsv : sameV T T2
      · rw [hsv] at HSm htx
        have hne : ¬ q.toList = z.toList := fun e => of_decide_eq_false htx (ba_ext (by rw [← ByteArray.toList_eq, ← ByteArray.toList_eq, e]))
        have hnq : ¬ q = z := of_decide_eq_false htx
        clear htx hsv
        go_enter Try.func8, Try.ntmps8
        go_wp2_with fail
        refine (HEv.out _ HS0.out).mono ?_
        rintro e w1 ⟨u1, rfl, h1⟩
        have h1s := HS0.out.step h1.low
        have H1 := Lib.hid h1
        have H1s := Lib.hid h1s
        obtain ⟨c0, c1, c2, c3, c4, c5⟩ := h1s.box2.cell
        clear h1 h1s
        go_wp2_with fail
        refine (HEu.out _ H1s.out).mono ?_
        rintro e w2 ⟨u2, rfl, h2⟩
        have HT : Hid (Two w #[.int .i64 k, .bool b, .int .i64 n, .string s, .slice pl l.length cl, .slice pk ks.length ck] #[.int .i64 k2, .bool b2, .int .i64 n2, .string s2, .slice pl2 l2.length cl2, .slice pk2 ks2.length ck2] ((w.alloc (.cells #[.int .i64 k, .bool b, .int .i64 n, .string s, .slice pl l.length cl, .slice pk ks.length ck] 25)).alloc (.cells #[.int .i64 k2, .bool b2, .int .i64 n2, .string s2, .slice pl2 l2.length cl2, .slice pk2 ks2.length ck2] 25)).heap.size w1.heap.size u1 u2 (packB T) (packB T2) w2) := Lib.hid ⟨H1s.out.step h2.low, H1.out.buf.far h2.low, h2.buf⟩
        clear h2 c0 c1 c2 c3 c4 c5
        have HTD := Lib.hid (HT.out.step (Below.refl _ w2).drew)
        go_upto_region 5 with fail
        refine wp_region_seq (Two w #[.int .i64 k, .bool b, .int .i64 n, .string s, .slice pl l.length cl, .slice pk ks.length ck] #[.int .i64 k2, .bool b2, .int .i64 n2, .string s2, .slice pl2 l2.length cl2, .slice pk2 ks2.length ck2] ((w.alloc (.cells #[.int .i64 k, .bool b, .int .i64 n, .string s, .slice pl l.length cl, .slice pk ks.length ck] 25)).alloc (.cells #[.int .i64 k2, .bool b2, .int .i64 n2, .string s2, .slice pl2 l2.length cl2, .slice pk2 ks2.length ck2] 25)).heap.size w1.heap.size u1 u2 (packB T) (packB T2)) [0, 1, 2, 3, 4, 5, 6, 7, 8, 9, 10, 11, 12] (by kernel_rfl) (by kernel_rfl) (by kernel_rfl) (by kernel_rfl) HTD.out ?_
        refine seqS_take (o := _) u1 (by conv => lhs; simp only [List.getElem?_toArray, List.getElem?_cons_succ, List.getElem?_cons_zero]) (by rfl) (by rfl) ?_ (fun _ => by rfl) (by conv => lhs; simp only [Act.put, List.setIfInBounds_toArray, List.set_cons_succ, List.set_cons_zero]) ?_
        · intro w _; go_simp
        refine seqS_take (o := _) (.string q) (by conv => lhs; simp only [List.getElem?_toArray, List.getElem?_cons_succ, List.getElem?_cons_zero]) (by rfl) (by rfl) ?_ (fun _ => by rfl) (by conv => lhs; simp only [Act.put, List.setIfInBounds_toArray, List.set_cons_succ, List.set_cons_zero]) ?_
        · rintro V t0; have hcv := conv_buf _ V u1 _ t0.buf1 9 Try.underlying9; rw [HQ.out] at hcv; clear t0; go_simp
        refine seqS_take (o := _) u2 (by conv => lhs; simp only [List.getElem?_toArray, List.getElem?_cons_succ, List.getElem?_cons_zero]) (by rfl) (by rfl) ?_ (fun _ => by rfl) (by conv => lhs; simp only [Act.put, List.setIfInBounds_toArray, List.set_cons_succ, List.set_cons_zero]) ?_
        · intro w _; go_simp
        refine seqS_take (o := _) (.string z) (by conv => lhs; simp only [List.getElem?_toArray, List.getElem?_cons_succ, List.getElem?_cons_zero]) (by rfl) (by rfl) ?_ (fun _ => by rfl) (by conv => lhs; simp only [Act.put, List.setIfInBounds_toArray, List.set_cons_succ, List.set_cons_zero]) ?_
        · rintro V t0; have hcv := conv_buf _ V u2 _ t0.buf2 9 Try.underlying9; rw [HZ.out] at hcv; clear t0; go_simp
        refine seqS_take (o := _) (.bool false) (by conv => lhs; simp only [List.getElem?_toArray, List.getElem?_cons_succ, List.getElem?_cons_zero]) (by rfl) (by rfl) ?_ (fun _ => by rfl) (by conv => lhs; simp only [Act.put, List.setIfInBounds_toArray, List.set_cons_succ, List.set_cons_zero]) ?_
        · intro w _; go_simp; try simp [hnq]
        refine seqS_take (o := _) (.agg #[.int .i64 k, .bool b, .int .i64 n, .string s, .slice pl l.length cl, .slice pk ks.length ck]) (by conv => lhs; simp only [List.getElem?_toArray, List.getElem?_cons_succ, List.getElem?_cons_zero]) (by rfl) (by rfl) ?_ (fun _ => by rfl) (by conv => lhs; simp only [Act.put, List.setIfInBounds_toArray, List.set_cons_succ, List.set_cons_zero]) ?_
        · rintro V t0; obtain ⟨c0, c1, c2, c3, c4, c5⟩ := t0.seen.box.cell; clear t0; go_simp
        refine seqS_take (o := _) (.agg #[.int .i64 k2, .bool b2, .int .i64 n2, .string s2, .slice pl2 l2.length cl2, .slice pk2 ks2.length ck2]) (by conv => lhs; simp only [List.getElem?_toArray, List.getElem?_cons_succ, List.getElem?_cons_zero]) (by rfl) (by rfl) ?_ (fun _ => by rfl) (by conv => lhs; simp only [Act.put, List.setIfInBounds_toArray, List.set_cons_succ, List.set_cons_zero]) ?_
        · rintro V t0; obtain ⟨c0, c1, c2, c3, c4, c5⟩ := t0.seen.box2.cell; clear t0; go_simp
        refine seqS_call (o := _) rfl (by conv => lhs; simp only [List.getElem?_toArray, List.getElem?_cons_succ, List.getElem?_cons_zero]) (by rfl) (by rfl) ?_ (HSm.out _ HTD.out.seen) ?_
        · go_simp
        rintro e w3 ⟨rfl, h3⟩
        have H3 := Lib.hid (HTD.out.step h3)
        clear h3
        refine ⟨_, _, rfl, (by conv => lhs; simp only [Act.put, List.setIfInBounds_toArray, List.set_cons_succ, List.set_cons_zero]), H3.out, ?_⟩
        refine seqS_take (o := _) (.bool true) (by conv => lhs; simp only [List.getElem?_toArray, List.getElem?_cons_succ, List.getElem?_cons_zero]) (by rfl) (by rfl) ?_ (fun _ => by rfl) (by conv => lhs; simp only [Act.put, List.setIfInBounds_toArray, List.set_cons_succ, List.set_cons_zero]) ?_
        · intro w _; go_simp
        refine seqS_take (o := _) (.bool true) (by conv => lhs; simp only [List.getElem?_toArray, List.getElem?_cons_succ, List.getElem?_cons_zero]) (by rfl) (by rfl) ?_ (fun _ => by rfl) (by conv => lhs; simp only [Act.put, List.setIfInBounds_toArray, List.set_cons_succ, List.set_cons_zero]) ?_
        · intro w _; go_simp
        refine seqS_call (o := _) rfl (by conv => lhs; simp only [List.getElem?_toArray, List.getElem?_cons_succ, List.getElem?_cons_zero]) (by rfl) (by rfl) ?_ (works_any w3) ?_
        · go_simp
        rintro e w4 ⟨rfl, h4⟩
        have H4 := Lib.hid (H3.out.step h4)
        clear h4
        refine ⟨_, _, rfl, (by conv => lhs; simp only [Act.put, List.setIfInBounds_toArray, List.set_cons_succ, List.set_cons_zero]), H4.out, ?_⟩
        refine seqS_take (o := _) (.bool true) (by conv => lhs; simp only [List.getElem?_toArray, List.getElem?_cons_succ, List.getElem?_cons_zero]) (by rfl) (by rfl) ?_ (fun _ => by rfl) (by conv => lhs; simp only [Act.put, List.setIfInBounds_toArray, List.set_cons_succ, List.set_cons_zero]) ?_
        · intro w _; go_simp
        refine seqS_take (o := _) (.bool true) (by conv => lhs; simp only [List.getElem?_toArray, List.getElem?_cons_succ, List.getElem?_cons_zero]) (by rfl) (by rfl) ?_ (fun _ => by rfl) (by conv => lhs; simp only [Act.put, List.setIfInBounds_toArray, List.set_cons_succ, List.set_cons_zero]) ?_
        · intro w _; go_simp
        refine NoPanic.normal ?_
        go_wp2
        go_ret
        exact ⟨rfl, H4.out.seen.low⟩
      · rw [hsv] at HSm htx
        obtain rfl : q = z := of_decide_eq_true htx
        clear htx hsv
        go_enter Try.func8, Try.ntmps8
        go_wp2_with fail
        refine (HEv.out _ HS0.out).mono ?_
        rintro e w1 ⟨u1, rfl, h1⟩
        have h1s := HS0.out.step h1.low
        have H1 := Lib.hid h1
        have H1s := Lib.hid h1s
        obtain ⟨c0, c1, c2, c3, c4, c5⟩ := h1s.box2.cell
        clear h1 h1s
        go_wp2_with fail
        refine (HEu.out _ H1s.out).mono ?_
        rintro e w2 ⟨u2, rfl, h2⟩
        have HT : Hid (Two w #[.int .i64 k, .bool b, .int .i64 n, .string s, .slice pl l.length cl, .slice pk ks.length ck] #[.int .i64 k2, .bool b2, .int .i64 n2, .string s2, .slice pl2 l2.length cl2, .slice pk2 ks2.length ck2] ((w.alloc (.cells #[.int .i64 k, .bool b, .int .i64 n, .string s, .slice pl l.length cl, .slice pk ks.length ck] 25)).alloc (.cells #[.int .i64 k2, .bool b2, .int .i64 n2, .string s2, .slice pl2 l2.length cl2, .slice pk2 ks2.length ck2] 25)).heap.size w1.heap.size u1 u2 (packB T) (packB T2) w2) := Lib.hid ⟨H1s.out.step h2.low, H1.out.buf.far h2.low, h2.buf⟩
        clear h2 c0 c1 c2 c3 c4 c5
        have HTD := Lib.hid (HT.out.step (Below.refl _ w2).drew)
        go_upto_region 5 with fail
        refine wp_region_seq (Two w #[.int .i64 k, .bool b, .int .i64 n, .string s, .slice pl l.length cl, .slice pk ks.length ck] #[.int .i64 k2, .bool b2, .int .i64 n2, .string s2, .slice pl2 l2.length cl2, .slice pk2 ks2.length ck2] ((w.alloc (.cells #[.int .i64 k, .bool b, .int .i64 n, .string s, .slice pl l.length cl, .slice pk ks.length ck] 25)).alloc (.cells #[.int .i64 k2, .bool b2, .int .i64 n2, .string s2, .slice pl2 l2.length cl2, .slice pk2 ks2.length ck2] 25)).heap.size w1.heap.size u1 u2 (packB T) (packB T2)) [0, 1, 2, 3, 4, 5, 6, 7, 8, 9, 10, 11, 12] (by kernel_rfl) (by kernel_rfl) (by kernel_rfl) (by kernel_rfl) HTD.out ?_
        refine seqS_take (o := _) u1 (by conv => lhs; simp only [List.getElem?_toArray, List.getElem?_cons_succ, List.getElem?_cons_zero]) (by rfl) (by rfl) ?_ (fun _ => by rfl) (by conv => lhs; simp only [Act.put, List.setIfInBounds_toArray, List.set_cons_succ, List.set_cons_zero]) ?_
        · intro w _; go_simp
        refine seqS_take (o := _) (.string q) (by conv => lhs; simp only [List.getElem?_toArray, List.getElem?_cons_succ, List.getElem?_cons_zero]) (by rfl) (by rfl) ?_ (fun _ => by rfl) (by conv => lhs; simp only [Act.put, List.setIfInBounds_toArray, List.set_cons_succ, List.set_cons_zero]) ?_
        · rintro V t0; have hcv := conv_buf _ V u1 _ t0.buf1 9 Try.underlying9; rw [HQ.out] at hcv; clear t0; go_simp
        refine seqS_take (o := _) u2 (by conv => lhs; simp only [List.getElem?_toArray, List.getElem?_cons_succ, List.getElem?_cons_zero]) (by rfl) (by rfl) ?_ (fun _ => by rfl) (by conv => lhs; simp only [Act.put, List.setIfInBounds_toArray, List.set_cons_succ, List.set_cons_zero]) ?_
        · intro w _; go_simp
        refine seqS_take (o := _) (.string q) (by conv => lhs; simp only [List.getElem?_toArray, List.getElem?_cons_succ, List.getElem?_cons_zero]) (by rfl) (by rfl) ?_ (fun _ => by rfl) (by conv => lhs; simp only [Act.put, List.setIfInBounds_toArray, List.set_cons_succ, List.set_cons_zero]) ?_
        · rintro V t0; have hcv := conv_buf _ V u2 _ t0.buf2 9 Try.underlying9; rw [HZ.out] at hcv; clear t0; go_simp
        refine seqS_take (o := _) (.bool true) (by conv => lhs; simp only [List.getElem?_toArray, List.getElem?_cons_succ, List.getElem?_cons_zero]) (by rfl) (by rfl) ?_ (fun _ => by rfl) (by conv => lhs; simp only [Act.put, List.setIfInBounds_toArray, List.set_cons_succ, List.set_cons_zero]) ?_
        · intro w _; go_simp
        refine seqS_take (o := _) (.agg #[.int .i64 k, .bool b, .int .i64 n, .string s, .slice pl l.length cl, .slice pk ks.length ck]) (by conv => lhs; simp only [List.getElem?_toArray, List.getElem?_cons_succ, List.getElem?_cons_zero]) (by rfl) (by rfl) ?_ (fun _ => by rfl) (by conv => lhs; simp only [Act.put, List.setIfInBounds_toArray, List.set_cons_succ, List.set_cons_zero]) ?_
        · rintro V t0; obtain ⟨c0, c1, c2, c3, c4, c5⟩ := t0.seen.box.cell; clear t0; go_simp
        refine seqS_take (o := _) (.agg #[.int .i64 k2, .bool b2, .int .i64 n2, .string s2, .slice pl2 l2.length cl2, .slice pk2 ks2.length ck2]) (by conv => lhs; simp only [List.getElem?_toArray, List.getElem?_cons_succ, List.getElem?_cons_zero]) (by rfl) (by rfl) ?_ (fun _ => by rfl) (by conv => lhs; simp only [Act.put, List.setIfInBounds_toArray, List.set_cons_succ, List.set_cons_zero]) ?_
        · rintro V t0; obtain ⟨c0, c1, c2, c3, c4, c5⟩ := t0.seen.box2.cell; clear t0; go_simp
        refine seqS_call (o := _) rfl (by conv => lhs; simp only [List.getElem?_toArray, List.getElem?_cons_succ, List.getElem?_cons_zero]) (by rfl) (by rfl) ?_ (HSm.out _ HTD.out.seen) ?_
        · go_simp
        rintro e w3 ⟨rfl, h3⟩
        have H3 := Lib.hid (HTD.out.step h3)
        clear h3
        refine ⟨_, _, rfl, (by conv => lhs; simp only [Act.put, List.setIfInBounds_toArray, List.set_cons_succ, List.set_cons_zero]), H3.out, ?_⟩
        refine seqS_take (o := _) (.bool true) (by conv => lhs; simp only [List.getElem?_toArray, List.getElem?_cons_succ, List.getElem?_cons_zero]) (by rfl) (by rfl) ?_ (fun _ => by rfl) (by conv => lhs; simp only [Act.put, List.setIfInBounds_toArray, List.set_cons_succ, List.set_cons_zero]) ?_
        · intro w _; go_simp
        refine seqS_take (o := _) (.bool true) (by conv => lhs; simp only [List.getElem?_toArray, List.getElem?_cons_succ, List.getElem?_cons_zero]) (by rfl) (by rfl) ?_ (fun _ => by rfl) (by conv => lhs; simp only [Act.put, List.setIfInBounds_toArray, List.set_cons_succ, List.set_cons_zero]) ?_
        · intro w _; go_simp
        refine seqS_call (o := _) rfl (by conv => lhs; simp only [List.getElem?_toArray, List.getElem?_cons_succ, List.getElem?_cons_zero]) (by rfl) (by rfl) ?_ (works_any w3) ?_
        · go_simp
        rintro e w4 ⟨rfl, h4⟩
        have H4 := Lib.hid (H3.out.step h4)
        clear h4
        refine ⟨_, _, rfl, (by conv => lhs; simp only [Act.put, List.setIfInBounds_toArray, List.set_cons_succ, List.set_cons_zero]), H4.out, ?_⟩
        refine seqS_take (o := _) (.bool true) (by conv => lhs; simp only [List.getElem?_toArray, List.getElem?_cons_succ, List.getElem?_cons_zero]) (by rfl) (by rfl) ?_ (fun _ => by rfl) (by conv => lhs; simp only [Act.put, List.setIfInBounds_toArray, List.set_cons_succ, List.set_cons_zero]) ?_
        · intro w _; go_simp
        refine seqS_take (o := _) (.bool true) (by conv => lhs; simp only [List.getElem?_toArray, List.getElem?_cons_succ, List.getElem?_cons_zero]) (by rfl) (by rfl) ?_ (fun _ => by rfl) (by conv => lhs; simp only [Act.put, List.setIfInBounds_toArray, List.set_cons_succ, List.set_cons_zero]) ?_
        · intro w _; go_simp
        refine NoPanic.normal ?_
        go_wp2
        go_ret
        exact ⟨rfl, H4.out.seen.low⟩
end Pk
end Go.Proofs.Ytpkhekjhnafbfaa
