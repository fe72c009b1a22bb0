/- The law RankAhead: its walk. -/
import Derived.Test.YtlmebeiopnfmdaaDoorRkBack
import Derived.Test.YtlmebeiopnfmdaaDoorRkWorks
namespace Go.Proofs.YtlmebeiopnfmdaaDoor
open Go.RowKit
set_option linter.unusedVariables false
set_option linter.unusedSimpArgs false
namespace Rk
open Val (VT Keeps Box okN okNL szV szL szK mayB)
theorem key_prefix (t u : VT) (r : List UInt8) (ht : mayB t = true) (hu : mayB u = true) (ot : okN t) (ou : okN u) (h : keyB u = keyB t ++ r) : r = [] := by
  obtain ⟨a1, a2, -⟩ := may_raw ht ot
  obtain ⟨b1, b2, -⟩ := may_raw hu ou
  rw [← a2, ← b2] at h
  exact (keyR_inj u t [] r b1 a1 (by rw [List.append_nil, h])).2.symm
/-- What Back gives, whatever the value. -/
def FitPost (er : Int) (V : World) (e : Ending) (w' : World) : Prop :=
  Below V.heap.size V w' ∧ ∃ (yk : Int) (yb : Bool) (yn : Int) (ys : ByteArray) (ypl : Option Addr) (ynl ycl : Nat) (ypk : Option Addr) (ynk yck : Nat), e = .returned (.tuple #[.agg #[.int .i64 yk, .bool yb, .int .i64 yn, .string ys, .slice ypl ynl ycl, .slice ypk ynk yck], .int .i64 er])
theorem back_key (t : VT) (q m : ByteArray) (V : World) (ht : mayB t = true) (ho : okN t) (hk : q.data.toList = keyB t) (hz : (q ++ m).size ≤ 1073741824) (hX : MaxAt V) (hm : m.size = 0) :
    Calls Tryd.prog 21 #[.string (q ++ m)] V (FitPost 0 V) := by
  refine (Back_any (q ++ m) V hz hX).mono ?_
  rintro e w' ⟨hb, ⟨t0, v, rfl, -, -, -, hown⟩ | ⟨-, hno⟩⟩
  · obtain ⟨yk, yb, yn, ys, ypl, ynl, ycl, ypk, ynk, yck, rfl⟩ := hown.shape
    exact ⟨hb, yk, yb, yn, ys, ypl, ynl, ycl, ypk, ynk, yck, rfl⟩
  · exfalso
    obtain rfl := empty_of hm
    refine hno t ht ho ?_
    rw [← hk]
    simp
theorem back_more (t : VT) (q m : ByteArray) (V : World) (ht : mayB t = true) (ho : okN t) (hk : q.data.toList = keyB t) (hz : (q ++ m).size ≤ 1073741824) (hX : MaxAt V) (hm : 0 < m.size) :
    Calls Tryd.prog 21 #[.string (q ++ m)] V (FitPost 1 V) := by
  refine (Back_any (q ++ m) V hz hX).mono ?_
  rintro e w' ⟨hb, ⟨t0, v, rfl, h0, o0, hk0, hown⟩ | ⟨rfl, -⟩⟩
  · exfalso
    have h1 : keyB t0 = keyB t ++ m.data.toList := by rw [← hk0, ← hk]; simp
    have h2 := congrArg List.length (key_prefix t t0 _ ht h0 ho o0 h1)
    rw [ba_len] at h2
    simp only [List.length_nil] at h2
    omega
  · exact ⟨hb, 0, false, 0, ⟨#[]⟩, none, 0, 0, none, 0, 0, rfl⟩
/-- Two values' boxes stand, and all that was there. -/
structure SeenA (w : World) (ca cb : Array Value) (V : World) : Prop where
  boxA : Box V w.heap.size ca
  boxB : Box V (w.heap.size + 1) cb
  low : Below w.heap.size w V
theorem SeenA.step {w V V' : World} {ca cb : Array Value} (h : SeenA w ca cb V) (hb : Below V.heap.size V V') : SeenA w ca cb V' := ⟨(hb.block _ h.boxA.lt).trans h.boxA, (hb.block _ h.boxB.lt).trans h.boxB, h.low.trans (hb.mono h.low.size)⟩
theorem SeenA.new (w : World) (ca cb : Array Value) : SeenA w ca cb ((w.alloc (.cells ca 26)).alloc (.cells cb 26)) := by
  have h := Box.new (w.alloc (.cells ca 26)) cb
  rw [show (w.alloc (.cells ca 26)).heap.size = w.heap.size + 1 by simp] at h
  exact ⟨(Box.new w ca).alloc _, h, ((Below.refl _ w).alloc (Nat.le_refl _) _).alloc (by simp) _⟩
section
variable (t u : VT) (v z : Value) (m : ByteArray) (w : World) (hIn : VT.In w w.heap.size t v) (hIn2 : VT.In w w.heap.size u z) (hok : okN t) (hok2 : okN u) (hsz : szV t ≤ 62914560) (hsz2 : szV u ≤ 62914560) (hmz : m.size ≤ 62914560) (hX : MaxAt w)
include hIn hIn2 hok hok2 hsz hsz2 hmz hX
omit hmz in
set_option maxHeartbeats 2000000 in
set_option maxRecDepth 100000 in
/-- One of them may not be. -/
theorem ahead_bad (x y : Int) (hx : errOf t = x) (hy : errOf u = y) (h : (x = 20 ∧ y = 20) ∨ (x = 20 ∧ y = 0) ∨ (x = 0 ∧ y = 20)) :
    Calls Tryd.prog 8 #[v, z, .string m] w fun e w' => e = .returned (.bool true) ∧ Below w.heap.size w w' := by
  have KC := Lib.hid (fun (V : World) (hV : Below w.heap.size w V) => key_any t v w.heap.size V (hIn.below hV) hV.size hok (by omega) (MaxAt.low hX hV hX.zero))
  have KC2 := Lib.hid (fun (V : World) (hV : Below w.heap.size w V) => key_any u z w.heap.size V (hIn2.below hV) hV.size hok2 (by omega) (MaxAt.low hX hV hX.zero))
  have WC := Lib.hid (fun (V : World) (hV : Below w.heap.size w V) => works_any V (MaxAt.low hX hV hX.zero))
  rw [hx] at KC
  rw [hy] at KC2
  obtain ⟨q, hq⟩ : ∃ q, keyOf t = q := ⟨_, rfl⟩
  obtain ⟨q', hq'⟩ : ∃ q, keyOf u = q := ⟨_, rfl⟩
  rw [hq] at KC
  rw [hq'] at KC2
  clear hq hq' hx hy
  obtain ⟨k, b, n, s, l, ks⟩ := t
  obtain ⟨k', b', n', s', l', ks'⟩ := u
  have hxi := hIn
  unfold VT.In at hxi
  obtain ⟨pl, cl, pk, ck, rfl, -⟩ := hxi
  have hx2 := hIn2
  unfold VT.In at hx2
  obtain ⟨pl', cl', pk', ck', rfl, -⟩ := hx2
  obtain ⟨nl, hnl⟩ : ∃ m, l.length = m := ⟨_, rfl⟩
  obtain ⟨nk, hnk⟩ : ∃ m, ks.length = m := ⟨_, rfl⟩
  obtain ⟨nl', hnl'⟩ : ∃ m, l'.length = m := ⟨_, rfl⟩
  obtain ⟨nk', hnk'⟩ : ∃ m, ks'.length = m := ⟨_, rfl⟩
  rw [hnl, hnk] at KC
  rw [hnl', hnk'] at KC2
  rw [hnl, hnk, hnl', hnk']
  clear hIn hIn2 hok hok2 hsz hsz2 hX
  have HB0 : Hid (SeenA w #[.int .i64 k, .bool b, .int .i64 n, .string s, .slice pl nl cl, .slice pk nk ck] #[.int .i64 k', .bool b', .int .i64 n', .string s', .slice pl' nl' cl', .slice pk' nk' ck'] ((w.alloc (.cells #[.int .i64 k, .bool b, .int .i64 n, .string s, .slice pl nl cl, .slice pk nk ck] 26)).alloc (.cells #[.int .i64 k', .bool b', .int .i64 n', .string s', .slice pl' nl' cl', .slice pk' nk' ck'] 26))) := Lib.hid (SeenA.new w _ _)
  rcases h with ⟨rfl, rfl⟩ | ⟨rfl, rfl⟩ | ⟨rfl, rfl⟩
  all_goals
   go_enter Tryd.func8, Tryd.ntmps8
   go_wp2_with fail
   refine (KC.out _ HB0.out.low).mono ?_
   rintro e w1 ⟨rfl, hb1⟩
   have HB1 := Lib.hid (HB0.out.step hb1)
   clear hb1
   obtain ⟨c0, c1, c2, c3, c4, c5⟩ := HB1.out.boxA.cell
   obtain ⟨d0, d1, d2, d3, d4, d5⟩ := HB1.out.boxB.cell
   go_wp2_with fail
   refine (KC2.out _ HB1.out.low).mono ?_
   rintro e w2 ⟨rfl, hb2⟩
   have HB2 := Lib.hid (HB1.out.step hb2)
   clear hb2
   clear c0 c1 c2 c3 c4 c5 d0 d1 d2 d3 d4 d5
   go_wp2_with fail
   refine (WC.out _ HB2.out.low).mono ?_
   rintro e w3 ⟨rfl, hb3⟩
   have HB3 := Lib.hid (HB2.out.step hb3)
   clear hb3
   go_wp2
   go_ret
   exact ⟨rfl, HB3.out.low⟩
set_option maxHeartbeats 4000000 in
set_option maxRecDepth 100000 in
/-- Both may be. -/
theorem ahead_good (ht : mayB t = true) (hu : mayB u = true) :
    Calls Tryd.prog 8 #[v, z, .string m] w fun e w' => e = .returned (.bool true) ∧ Below w.heap.size w w' := by
  have KC := Lib.hid (fun (V : World) (hV : Below w.heap.size w V) => key_any t v w.heap.size V (hIn.below hV) hV.size hok (by omega) (MaxAt.low hX hV hX.zero))
  have KC2 := Lib.hid (fun (V : World) (hV : Below w.heap.size w V) => key_any u z w.heap.size V (hIn2.below hV) hV.size hok2 (by omega) (MaxAt.low hX hV hX.zero))
  have WC := Lib.hid (fun (V : World) (hV : Below w.heap.size w V) => works_any V (MaxAt.low hX hV hX.zero))
  have e1 : errOf t = 0 := by unfold errOf; rw [ht]; rfl
  have e2 : errOf u = 0 := by unfold errOf; rw [hu]; rfl
  rw [e1] at KC
  rw [e2] at KC2
  have hk : (keyOf t).data.toList = keyB t := by unfold keyOf; rw [ht]; rfl
  have hk2 : (keyOf u).data.toList = keyB u := by unfold keyOf; rw [hu]; rfl
  have hl := keyB_len t (mayB_good t ht).1
  have hl2 := keyB_len u (mayB_good u hu).1
  rw [← hk, ba_len] at hl
  rw [← hk2, ba_len] at hl2
  obtain ⟨q, hq⟩ : ∃ q, keyOf t = q := ⟨_, rfl⟩
  obtain ⟨q', hq'⟩ : ∃ q, keyOf u = q := ⟨_, rfl⟩
  rw [hq] at KC hk hl
  rw [hq'] at KC2 hk2 hl2
  have hz : (q ++ m).size ≤ 1073741824 := by rw [ByteArray.size_append]; omega
  have BK := Lib.hid (fun (V : World) (hV : Below w.heap.size w V) => back_key t q m V ht hok hk hz (MaxAt.low hX hV hX.zero))
  have BM := Lib.hid (fun (V : World) (hV : Below w.heap.size w V) => back_more t q m V ht hok hk hz (MaxAt.low hX hV hX.zero))
  have hpre : q.size < q'.size → ¬ (q'.extract 0 q.size).toList = q.toList := fun hlt he => by
    rw [ByteArray.toList_eq, ByteArray.toList_eq, Lib.extract_data] at he
    simp only [List.drop_zero, Nat.sub_zero] at he
    have h1 := List.take_append_drop q.size q'.data.toList
    rw [he, hk, hk2] at h1
    have h2 := key_prefix t u _ ht hu hok hok2 h1.symm
    have h3 := congrArg List.length h2
    rw [List.length_drop, ← hk2, ba_len] at h3
    simp only [List.length_nil] at h3
    omega
  have hqi : (q.size : Int) ≤ 62914560 := by omega
  have hqi' : (q'.size : Int) ≤ 62914560 := by omega
  have hmi : (m.size : Int) ≤ 62914560 := by omega
  have HPRE := Lib.hid hpre
  clear hq hq' e1 e2 hk hk2 hl hl2 hz hpre
  obtain ⟨k, b, n, s, l, ks⟩ := t
  obtain ⟨k', b', n', s', l', ks'⟩ := u
  have hx := hIn
  unfold VT.In at hx
  obtain ⟨pl, cl, pk, ck, rfl, -⟩ := hx
  have hx2 := hIn2
  unfold VT.In at hx2
  obtain ⟨pl', cl', pk', ck', rfl, -⟩ := hx2
  obtain ⟨nl, hnl⟩ : ∃ m, l.length = m := ⟨_, rfl⟩
  obtain ⟨nk, hnk⟩ : ∃ m, ks.length = m := ⟨_, rfl⟩
  obtain ⟨nl', hnl'⟩ : ∃ m, l'.length = m := ⟨_, rfl⟩
  obtain ⟨nk', hnk'⟩ : ∃ m, ks'.length = m := ⟨_, rfl⟩
  rw [hnl, hnk] at KC
  rw [hnl', hnk'] at KC2
  rw [hnl, hnk, hnl', hnk']
  clear hIn hIn2 hok hok2 hsz hsz2 hX ht hu hmz
  have HB0 : Hid (SeenA w #[.int .i64 k, .bool b, .int .i64 n, .string s, .slice pl nl cl, .slice pk nk ck] #[.int .i64 k', .bool b', .int .i64 n', .string s', .slice pl' nl' cl', .slice pk' nk' ck'] ((w.alloc (.cells #[.int .i64 k, .bool b, .int .i64 n, .string s, .slice pl nl cl, .slice pk nk ck] 26)).alloc (.cells #[.int .i64 k', .bool b', .int .i64 n', .string s', .slice pl' nl' cl', .slice pk' nk' ck'] 26))) := Lib.hid (SeenA.new w _ _)
  have BCASE : (m.toList.isEmpty = true ∧ Hid (∀ V, Below w.heap.size w V → Calls Tryd.prog 21 #[.string (q ++ m)] V (FitPost 0 V))) ∨ (m.toList.isEmpty = false ∧ Hid (∀ V, Below w.heap.size w V → Calls Tryd.prog 21 #[.string (q ++ m)] V (FitPost 1 V))) := by
    by_cases hm0 : m.size = 0
    · exact .inl ⟨by rw [empty_of hm0]; exact toList_e, Lib.hid fun V hV => BK.out V hV hm0⟩
    · exact .inr ⟨toList_ne m (by omega), Lib.hid fun V hV => BM.out V hV (by omega)⟩
  clear BK BM
  have LCASE : ((q.size : Int) < (q'.size : Int) ∧ ((q'.extract 0 q.size).toList == q.toList) = false) ∨ ¬ (q.size : Int) < (q'.size : Int) := by
    by_cases hlt : q.size < q'.size
    · exact .inl ⟨by omega, beq_eq_false_iff_ne.2 (HPRE.out hlt)⟩
    · exact .inr (by omega)
  clear HPRE
  rcases BCASE with ⟨hme, BC⟩ | ⟨hme, BC⟩ <;> rcases LCASE with ⟨hlt, hne⟩ | hlt
  all_goals
   go_enter Tryd.func8, Tryd.ntmps8
   go_wp2_with fail
   refine (KC.out _ HB0.out.low).mono ?_
   rintro e w1 ⟨rfl, hb1⟩
   have HB1 := Lib.hid (HB0.out.step hb1)
   clear hb1
   obtain ⟨c0, c1, c2, c3, c4, c5⟩ := HB1.out.boxA.cell
   obtain ⟨d0, d1, d2, d3, d4, d5⟩ := HB1.out.boxB.cell
   go_wp2_with fail
   refine (KC2.out _ HB1.out.low).mono ?_
   rintro e w2 ⟨rfl, hb2⟩
   have HB2 := Lib.hid (HB1.out.step hb2)
   clear hb2
   clear c0 c1 c2 c3 c4 c5 d0 d1 d2 d3 d4 d5
   go_wp2_with fail
   refine (BC.out _ HB2.out.low).mono ?_
   rintro e w3 ⟨hb3, yk, yb, yn, ys, ypl, ynl, ycl, ypk, ynk, yck, rfl⟩
   have HB3 := Lib.hid (HB2.out.step hb3)
   clear hb3
   go_wp2_with fail
   refine (WC.out _ (HB3.out.low.alloc HB3.out.low.size _)).mono ?_
   rintro e w4 ⟨rfl, hb4⟩
   have HB4 := Lib.hid ((HB3.out.low.alloc HB3.out.low.size _).trans (hb4.mono (HB3.out.low.alloc HB3.out.low.size _).size))
   clear hb4
   go_wp2
   go_ret
   exact ⟨rfl, HB4.out⟩
end
theorem rankAhead_any (t u : VT) (v z : Value) (m : ByteArray) (w : World) (hIn : VT.In w w.heap.size t v) (hIn2 : VT.In w w.heap.size u z) (hok : okN t) (hok2 : okN u) (hsz : szV t ≤ 62914560) (hsz2 : szV u ≤ 62914560) (hmz : m.size ≤ 62914560) (hX : MaxAt w) :
    Calls Tryd.prog 8 #[v, z, .string m] w fun e w' => e = .returned (.bool true) ∧ Below w.heap.size w w' := by
  cases ht : mayB t with
  | false =>
    have e1 : errOf t = 20 := by unfold errOf; rw [ht]; rfl
    cases hu : mayB u with
    | false => exact ahead_bad t u v z m w hIn hIn2 hok hok2 hsz hsz2 hX 20 20 e1 (by unfold errOf; rw [hu]; rfl) (.inl ⟨rfl, rfl⟩)
    | true => exact ahead_bad t u v z m w hIn hIn2 hok hok2 hsz hsz2 hX 20 0 e1 (by unfold errOf; rw [hu]; rfl) (.inr (.inl ⟨rfl, rfl⟩))
  | true =>
    have e1 : errOf t = 0 := by unfold errOf; rw [ht]; rfl
    cases hu : mayB u with
    | false => exact ahead_bad t u v z m w hIn hIn2 hok hok2 hsz hsz2 hX 0 20 e1 (by unfold errOf; rw [hu]; rfl) (.inr (.inr ⟨rfl, rfl⟩))
    | true => exact ahead_good t u v z m w hIn hIn2 hok hok2 hsz hsz2 hmz hX ht hu
end Rk
end Go.Proofs.YtlmebeiopnfmdaaDoor
