/- The law RankBack: its walk. -/
import Derived.Test.YtepfihanhdinfaaDoorRkBack
import Derived.Test.YtepfihanhdinfaaDoorRkSize
import Derived.Test.YtepfihanhdinfaaDoorRkWorks
import Derived.Test.YtepfihanhdinfaaDoorValSame
namespace Go.Proofs.YtepfihanhdinfaaDoor
open Go.RowKit
set_option linter.unusedVariables false
set_option linter.unusedSimpArgs false
namespace Rk
open Val (VT Keeps Box okN okNL szV szL szK mayB sameV sameL namesV)
theorem namesB_refl : ∀ ks : List ByteArray, namesV ks ks = true
  | [] => rfl
  | k :: ks => by unfold namesV; simp [namesB_refl ks]
mutual
theorem sameB_refl : ∀ t : VT, sameV t t = true
  | .mk k b n s l ks => by unfold sameV; simp [sameB_reflL l, namesB_refl ks]
theorem sameB_reflL : ∀ l : List VT, sameL l l = true
  | [] => by unfold sameL; rfl
  | t :: ts => by unfold sameL; simp [sameB_refl t, sameB_reflL ts]
end
theorem ba_same {a b : ByteArray} (h : a.data.toList = b.data.toList) : a = b := by
  cases a; cases b
  simp only [ByteArray.mk.injEq]
  exact Array.ext' h
/-- The key of what Back gave is the text. -/
theorem key_of {s : ByteArray} {V0 w3 : World} {t0 : VT} {v0 : Value} (hown : VT.Own w3 t0 (Made V0 w3) v0) (hm0 : mayB t0 = true) (ho0 : okN t0) (hk0 : s.data.toList = keyB t0) (hs : s.size ≤ 1048576) (V : World) (hV : Below w3.heap.size w3 V) (hX : MaxAt V) :
    Calls Tryd.prog 18 #[v0] V fun e w' => e = .returned (.tuple #[.string s, .int .i64 0]) ∧ Below V.heap.size V w' := by
  have hr := may_raw hm0 ho0
  have hz := raw_size t0 hr.1
  rw [hr.2.1, ← hk0, ba_len] at hz
  refine (key_any t0 v0 w3.heap.size V ((hown.toIn (fun k hk => hk.2)).below hV) hV.size ho0 (by omega) hX).mono ?_
  rintro e w' ⟨rfl, hb⟩
  refine ⟨?_, hb⟩
  have e1 : errOf t0 = 0 := by unfold errOf; rw [hm0]; rfl
  have e2 : keyOf t0 = s := ba_same (by unfold keyOf; rw [hm0]; exact hk0.symm)
  rw [e1, e2]
theorem zero_same (V : World) : Calls Tryd.prog 11 #[.agg #[.int .i64 0, .bool false, .int .i64 0, .string ⟨#[]⟩, .slice none 0 0, .slice none 0 0], .agg #[.int .i64 0, .bool false, .int .i64 0, .string ⟨#[]⟩, .slice none 0 0, .slice none 0 0]] V fun e w' => e = .returned (.bool true) ∧ Below V.heap.size V w' :=
  (Val.same_any _ _ _ _ _ V.heap.size V (Nat.le_refl _) (leaf_in 0 false 0 ⟨#[]⟩ V.heap.size V) (leaf_in 0 false 0 ⟨#[]⟩ V.heap.size V) (Nat.le_refl _)).mono fun e w' h => ⟨by rw [h.1, sameB_refl], h.2⟩
/-- What Back gives of a value's key is the same. -/
theorem back_same (t : VT) (v : Value) (q : ByteArray) (w V : World) (hIn : VT.In w w.heap.size t v) (hlow : Below w.heap.size w V) (ht : mayB t = true) (ho : okN t) (hk : q.data.toList = keyB t) (hz : q.size ≤ 1073741824) (hX : MaxAt V) :
    Calls Tryd.prog 15 #[.string q] V fun e w' => Below V.heap.size V w' ∧ ∃ (yk : Int) (yb : Bool) (yn : Int) (ys : ByteArray) (ypl : Option Addr) (ynl ycl : Nat) (ypk : Option Addr) (ynk yck : Nat), e = .returned (.tuple #[.agg #[.int .i64 yk, .bool yb, .int .i64 yn, .string ys, .slice ypl ynl ycl, .slice ypk ynk yck], .int .i64 0]) ∧
      Hid (∀ V', Below w'.heap.size w' V' → Calls Tryd.prog 11 #[.agg #[.int .i64 yk, .bool yb, .int .i64 yn, .string ys, .slice ypl ynl ycl, .slice ypk ynk yck], v] V' fun e w' => e = .returned (.bool true) ∧ Below V'.heap.size V' w') := by
  refine (Back_any q V hz hX).mono ?_
  rintro e w' ⟨hb, ⟨t0, v0, rfl, h0, o0, hk0, hown⟩ | ⟨-, hno⟩⟩
  · obtain ⟨a1, a2, -⟩ := may_raw ht ho
    obtain ⟨b1, b2, -⟩ := may_raw h0 o0
    have he : t0 = t := (keyR_inj t0 t [] [] b1 a1 (by rw [a2, b2, ← hk0, hk])).1
    subst he
    obtain ⟨yk, yb, yn, ys, ypl, ynl, ycl, ypk, ynk, yck, rfl⟩ := hown.shape
    refine ⟨hb, yk, yb, yn, ys, ypl, ynl, ycl, ypk, ynk, yck, rfl, Lib.hid fun V' hV' => ?_⟩
    have hl2 : Below w.heap.size w V' := hlow.trans ((hb.mono hlow.size).trans (hV'.mono (Nat.le_trans hlow.size hb.size)))
    exact (Val.same_any _ t0 t0 _ v V'.heap.size V' (Nat.le_refl _) (((hown.toIn (fun k hk => hk.2)).below hV').more hV'.size) ((hIn.below hl2).more hl2.size) (Nat.le_refl _)).mono fun e w' h => ⟨by rw [h.1, sameB_refl], h.2⟩
  · exact absurd hk (hno t ht ho)
/-- The value's box stands, and all that was there. -/
structure SeenB (w : World) (ca : Array Value) (V : World) : Prop where
  boxA : Box V w.heap.size ca
  low : Below w.heap.size w V
theorem SeenB.step {w V V' : World} {ca : Array Value} (h : SeenB w ca V) (hb : Below V.heap.size V V') : SeenB w ca V' := ⟨(hb.block _ h.boxA.lt).trans h.boxA, h.low.trans (hb.mono h.low.size)⟩
theorem SeenB.new (w : World) (ca : Array Value) : SeenB w ca (w.alloc (.cells ca 26)) := ⟨Box.new w ca, (Below.refl _ w).alloc (Nat.le_refl _) _⟩
section
variable (t : VT) (v : Value) (s : ByteArray) (w : World) (hIn : VT.In w w.heap.size t v) (hok : okN t) (hsz : szV t ≤ 62914560) (hs : s.size ≤ 1048576) (hX : MaxAt w)
include hIn hok hsz hs hX
set_option maxHeartbeats 4000000 in
set_option maxRecDepth 100000 in
theorem rb_bad (ht : mayB t = false) :
    Calls Tryd.prog 5 #[v, .string s] w fun e w' => e = .returned (.bool true) ∧ Below w.heap.size w w' := by
  have KC := Lib.hid (fun (V : World) (hV : Below w.heap.size w V) => key_any t v w.heap.size V (hIn.below hV) hV.size hok (by omega) (MaxAt.low hX hV hX.zero))
  have WC := Lib.hid (fun (V : World) (hV : Below w.heap.size w V) => works_any V (MaxAt.low hX hV hX.zero))
  have BS := Lib.hid (fun (V : World) (hV : Below w.heap.size w V) => Back_any s V (by omega) (MaxAt.low hX hV hX.zero))
  have ZC := Lib.hid (fun (V : World) => zero_same V)
  have HX := Lib.hid hX
  have e1 : errOf t = 20 := by unfold errOf; rw [ht]; rfl
  rw [e1] at KC
  obtain ⟨q, hq⟩ : ∃ q, keyOf t = q := ⟨_, rfl⟩
  rw [hq] at KC
  clear hq e1
  obtain ⟨k, b, n, st, l, ks⟩ := t
  have hx := hIn
  unfold VT.In at hx
  obtain ⟨pl, cl, pk, ck, rfl, -⟩ := hx
  obtain ⟨nl, hnl⟩ : ∃ m, l.length = m := ⟨_, rfl⟩
  obtain ⟨nk, hnk⟩ : ∃ m, ks.length = m := ⟨_, rfl⟩
  rw [hnl, hnk] at KC
  rw [hnl, hnk]
  clear hIn hok hsz hX ht
  have HB0 : Hid (SeenB w #[.int .i64 k, .bool b, .int .i64 n, .string st, .slice pl nl cl, .slice pk nk ck] (w.alloc (.cells #[.int .i64 k, .bool b, .int .i64 n, .string st, .slice pl nl cl, .slice pk nk ck] 26))) := Lib.hid (SeenB.new w _)
  go_enter Tryd.func5, Tryd.ntmps5
  go_wp2_with fail
  refine (KC.out _ HB0.out.low).mono ?_
  rintro e w1 ⟨rfl, hb1⟩
  have HBA := Lib.hid (HB0.out.step hb1)
  clear hb1
  go_wp2_with fail
  refine (BS.out _ HBA.out.low).mono ?_
  rintro e w3 ⟨hb3, ⟨t0, v0, rfl, hm0, ho0, hk0, hown⟩ | ⟨he, -⟩⟩
  · obtain ⟨yk, yb, yn, ys, ypl, ynl, ycl, ypk, ynk, yck, rfl⟩ := hown.shape
    have HB3 := Lib.hid (HBA.out.step hb3)
    have KB : Hid (∀ V, Below w3.heap.size w3 V → Calls Tryd.prog 18 #[.agg #[.int .i64 yk, .bool yb, .int .i64 yn, .string ys, .slice ypl ynl ycl, .slice ypk ynk yck]] V fun e w' => e = .returned (.tuple #[.string s, .int .i64 0]) ∧ Below V.heap.size V w') := Lib.hid (fun V hV => key_of hown hm0 ho0 hk0 hs V hV (MaxAt.low (HX.out.low HB3.out.low HX.out.zero) hV (Nat.lt_of_lt_of_le HX.out.zero HB3.out.low.size)))
    clear hb3 hown hm0 ho0 hk0
    go_wp2_with fail
    refine (KB.out _ ((Below.refl _ w3).alloc (Nat.le_refl _) _)).mono ?_
    rintro e w4 ⟨rfl, hb4⟩
    have HB4 := Lib.hid ((HB3.out.step ((Below.refl _ w3).alloc (Nat.le_refl _) _)).step hb4)
    clear hb4
    go_wp2_with fail
    refine (WC.out _ HB4.out.low).mono ?_
    rintro e w5 ⟨rfl, hb5⟩
    have HB5 := Lib.hid (HB4.out.step hb5)
    clear hb5
    go_wp2
    go_ret
    exact ⟨rfl, HB5.out.low⟩
  · unfold ZV at he
    subst he
    have HB3 := Lib.hid (HBA.out.step hb3)
    clear hb3
    go_wp2_with fail
    refine (ZC.out _).mono ?_
    rintro e w4 ⟨rfl, hb4⟩
    have HB4 := Lib.hid ((HB3.out.step ((Below.refl _ w3).alloc (Nat.le_refl _) _)).step hb4)
    clear hb4
    go_wp2_with fail
    refine (WC.out _ HB4.out.low).mono ?_
    rintro e w5 ⟨rfl, hb5⟩
    have HB5 := Lib.hid (HB4.out.step hb5)
    clear hb5
    go_wp2
    go_ret
    exact ⟨rfl, HB5.out.low⟩
set_option maxHeartbeats 4000000 in
set_option maxRecDepth 100000 in
theorem rb_good (ht : mayB t = true) :
    Calls Tryd.prog 5 #[v, .string s] w fun e w' => e = .returned (.bool true) ∧ Below w.heap.size w w' := by
  have KC := Lib.hid (fun (V : World) (hV : Below w.heap.size w V) => key_any t v w.heap.size V (hIn.below hV) hV.size hok (by omega) (MaxAt.low hX hV hX.zero))
  have WC := Lib.hid (fun (V : World) (hV : Below w.heap.size w V) => works_any V (MaxAt.low hX hV hX.zero))
  have BS := Lib.hid (fun (V : World) (hV : Below w.heap.size w V) => Back_any s V (by omega) (MaxAt.low hX hV hX.zero))
  have ZC := Lib.hid (fun (V : World) => zero_same V)
  have HX := Lib.hid hX
  have e1 : errOf t = 0 := by unfold errOf; rw [ht]; rfl
  rw [e1] at KC
  have hk : (keyOf t).data.toList = keyB t := by unfold keyOf; rw [ht]; rfl
  have hl := keyB_len t (mayB_good t ht).1
  rw [← hk, ba_len] at hl
  obtain ⟨q, hq⟩ : ∃ q, keyOf t = q := ⟨_, rfl⟩
  rw [hq] at KC hk hl
  have BK := Lib.hid (fun (V : World) (hV : Below w.heap.size w V) => back_same t v q w V hIn hV ht hok hk (by omega) (MaxAt.low hX hV hX.zero))
  clear hq e1 hk hl
  obtain ⟨k, b, n, st, l, ks⟩ := t
  have hx := hIn
  unfold VT.In at hx
  obtain ⟨pl, cl, pk, ck, rfl, -⟩ := hx
  obtain ⟨nl, hnl⟩ : ∃ m, l.length = m := ⟨_, rfl⟩
  obtain ⟨nk, hnk⟩ : ∃ m, ks.length = m := ⟨_, rfl⟩
  rw [hnl, hnk] at KC BK
  rw [hnl, hnk]
  clear hIn hok hsz hX ht
  have HB0 : Hid (SeenB w #[.int .i64 k, .bool b, .int .i64 n, .string st, .slice pl nl cl, .slice pk nk ck] (w.alloc (.cells #[.int .i64 k, .bool b, .int .i64 n, .string st, .slice pl nl cl, .slice pk nk ck] 26))) := Lib.hid (SeenB.new w _)
  go_enter Tryd.func5, Tryd.ntmps5
  go_wp2_with fail
  refine (KC.out _ HB0.out.low).mono ?_
  rintro e w1 ⟨rfl, hb1⟩
  have HB1 := Lib.hid (HB0.out.step hb1)
  clear hb1
  go_wp2_with fail
  refine (BK.out _ HB1.out.low).mono ?_
  rintro e w2 ⟨hb2, xk, xb, xn, xs, xpl, xnl, xcl, xpk, xnk, xck, rfl, SB⟩
  have HB2 := Lib.hid (HB1.out.step hb2)
  have hne : ¬ w.heap.size = w2.heap.size := by have := HB2.out.boxA.lt; omega
  have HB2' := Lib.hid (HB2.out.step ((Below.refl _ w2).alloc (Nat.le_refl _) (.cells #[.int .i64 xk, .bool xb, .int .i64 xn, .string xs, .slice xpl xnl xcl, .slice xpk xnk xck] 26)))
  obtain ⟨c0, c1, c2, c3, c4, c5⟩ := HB2'.out.boxA.cell
  clear hb2
  go_wp2_with fail
  refine (SB.out _ ((Below.refl _ w2).alloc (Nat.le_refl _) _)).mono ?_
  rintro e w2' ⟨rfl, hb2⟩
  have HBA := Lib.hid ((HB2.out.step ((Below.refl _ w2).alloc (Nat.le_refl _) _)).step hb2)
  clear hb2 c0 c1 c2 c3 c4 c5 hne
  go_wp2_with fail
  refine (BS.out _ HBA.out.low).mono ?_
  rintro e w3 ⟨hb3, ⟨t0, v0, rfl, hm0, ho0, hk0, hown⟩ | ⟨he, -⟩⟩
  · obtain ⟨yk, yb, yn, ys, ypl, ynl, ycl, ypk, ynk, yck, rfl⟩ := hown.shape
    have HB3 := Lib.hid (HBA.out.step hb3)
    have KB : Hid (∀ V, Below w3.heap.size w3 V → Calls Tryd.prog 18 #[.agg #[.int .i64 yk, .bool yb, .int .i64 yn, .string ys, .slice ypl ynl ycl, .slice ypk ynk yck]] V fun e w' => e = .returned (.tuple #[.string s, .int .i64 0]) ∧ Below V.heap.size V w') := Lib.hid (fun V hV => key_of hown hm0 ho0 hk0 hs V hV (MaxAt.low (HX.out.low HB3.out.low HX.out.zero) hV (Nat.lt_of_lt_of_le HX.out.zero HB3.out.low.size)))
    clear hb3 hown hm0 ho0 hk0
    go_wp2_with fail
    refine (KB.out _ ((Below.refl _ w3).alloc (Nat.le_refl _) _)).mono ?_
    rintro e w4 ⟨rfl, hb4⟩
    have HB4 := Lib.hid ((HB3.out.step ((Below.refl _ w3).alloc (Nat.le_refl _) _)).step hb4)
    clear hb4
    go_wp2_with fail
    refine (WC.out _ HB4.out.low).mono ?_
    rintro e w5 ⟨rfl, hb5⟩
    have HB5 := Lib.hid (HB4.out.step hb5)
    clear hb5
    go_wp2
    go_ret
    exact ⟨rfl, HB5.out.low⟩
  · unfold ZV at he
    subst he
    have HB3 := Lib.hid (HBA.out.step hb3)
    clear hb3
    go_wp2_with fail
    refine (ZC.out _).mono ?_
    rintro e w4 ⟨rfl, hb4⟩
    have HB4 := Lib.hid ((HB3.out.step ((Below.refl _ w3).alloc (Nat.le_refl _) _)).step hb4)
    clear hb4
    go_wp2_with fail
    refine (WC.out _ HB4.out.low).mono ?_
    rintro e w5 ⟨rfl, hb5⟩
    have HB5 := Lib.hid (HB4.out.step hb5)
    clear hb5
    go_wp2
    go_ret
    exact ⟨rfl, HB5.out.low⟩
end
theorem rankBack_any (t : VT) (v : Value) (s : ByteArray) (w : World) (hIn : VT.In w w.heap.size t v) (hok : okN t) (hsz : szV t ≤ 62914560) (hs : s.size ≤ 1048576) (hX : MaxAt w) :
    Calls Tryd.prog 5 #[v, .string s] w fun e w' => e = .returned (.bool true) ∧ Below w.heap.size w w' := by
  cases ht : mayB t with
  | false => exact rb_bad t v s w hIn hok hsz hs hX ht
  | true => exact rb_good t v s w hIn hok hsz hs hX ht
end Rk
end Go.Proofs.YtepfihanhdinfaaDoor
