/- The law RankKeys: its walk. -/
import Derived.Test.YtlmebeiopnfmdaaDoorRkRefL
import Derived.Test.YtlmebeiopnfmdaaDoorRkWorks
namespace Go.Proofs.YtlmebeiopnfmdaaDoor
open Go.RowKit
set_option linter.unusedVariables false
set_option linter.unusedSimpArgs false
namespace Rk
open Val (VT Keeps Box okN okNL szV szL szK mayB)
set_option maxHeartbeats 2000000 in
set_option maxRecDepth 100000 in
theorem refKey_any (t : VT) (v : Value) (B : Nat) (w : World) (hIn : VT.In w B t v) (hB : B ≤ w.heap.size) (hok : okN t) (hsz : szV t ≤ 1073741824) :
    Calls Tryd.prog 19 #[v] w fun e w' => e = .returned (.tuple #[.string (keyOf t), .int .i64 (errOf t)]) ∧ Below w.heap.size w w' := by
  have HC := Lib.hid (fun V (hV : Below w.heap.size w V) => Val.May_any t v B V (hIn.keep fun q hq => hV.cell (Nat.lt_of_lt_of_le hq hB)) (Nat.le_trans hB hV.size))
  unfold keyOf errOf
  cases hm : mayB t with
  | false =>
    rw [hm] at HC
    obtain ⟨k, b, n, s, l, ks⟩ := t
    have hx := hIn
    unfold VT.In at hx
    obtain ⟨pl, cl, pk, ck, rfl, h1, h2, h3, h4, hks, hl⟩ := hx
    obtain ⟨nl, hnl⟩ : ∃ m, l.length = m := ⟨_, rfl⟩
    obtain ⟨nk, hnk⟩ : ∃ m, ks.length = m := ⟨_, rfl⟩
    rw [hnl, hnk] at HC ⊢
    clear hIn hok hsz hB hm h1 h2 h3 h4 hks hl
    have hb0 : Below w.heap.size w (w.alloc (.cells #[.int .i64 k, .bool b, .int .i64 n, .string s, .slice pl nl cl, .slice pk nk ck] 26)) := (Below.refl _ w).alloc (Nat.le_refl _) _
    have HC1 := Lib.hid (HC.out _ hb0)
    have HB0 := Lib.hid hb0
    clear hb0
    go_enter Tryd.func19, Tryd.ntmps19
    go_wp2_with fail
    refine HC1.out.mono ?_
    rintro e w1 ⟨rfl, hb1⟩
    have HB1 := Lib.hid (HB0.out.trans (hb1.mono (by simp)))
    clear hb1
    go_wp2
    go_ret2
    exact ⟨rfl, HB1.out⟩
  | true =>
    rw [hm] at HC
    obtain ⟨hgood, hparts⟩ := mayB_good t hm
    have PT := Lib.hid (fun (V : World) (hV : Below w.heap.size w V) => ref_all 4096 t v B V hparts (hIn.keep fun q hq => hV.cell (Nat.lt_of_lt_of_le hq hB)) (Nat.le_trans hB hV.size) hok hgood hsz)
    obtain ⟨q, hq⟩ : ∃ q : ByteArray, (⟨(keyB t).toArray⟩ : ByteArray) = q := ⟨_, rfl⟩
    rw [hq] at PT
    rw [hq]
    obtain ⟨k, b, n, s, l, ks⟩ := t
    have hx := hIn
    unfold VT.In at hx
    obtain ⟨pl, cl, pk, ck, rfl, h1, h2, h3, h4, hks, hl⟩ := hx
    obtain ⟨nl, hnl⟩ : ∃ m, l.length = m := ⟨_, rfl⟩
    obtain ⟨nk, hnk⟩ : ∃ m, ks.length = m := ⟨_, rfl⟩
    rw [hnl, hnk] at HC PT ⊢
    clear hIn hok hsz hB hm h1 h2 h3 h4 hks hl hq hgood hparts
    have hb0 : Below w.heap.size w (w.alloc (.cells #[.int .i64 k, .bool b, .int .i64 n, .string s, .slice pl nl cl, .slice pk nk ck] 26)) := (Below.refl _ w).alloc (Nat.le_refl _) _
    have HC1 := Lib.hid (HC.out _ hb0)
    have HB0 := Lib.hid hb0
    clear hb0
    go_enter Tryd.func19, Tryd.ntmps19
    go_wp2_with fail
    refine HC1.out.mono ?_
    rintro e w1 ⟨rfl, hb1⟩
    have hbox : Box w1 w.heap.size #[.int .i64 k, .bool b, .int .i64 n, .string s, .slice pl nl cl, .slice pk nk ck] := (hb1.block _ (by simp)).trans (Box.new w _)
    obtain ⟨c0, c1, c2, c3, c4, c5⟩ := hbox.cell
    have HB1 := Lib.hid (HB0.out.trans (hb1.mono (by simp)))
    clear hb1 hbox
    go_wp2_with fail
    refine (PT.out w1 HB1.out).mono ?_
    rintro e w2 ⟨rfl, hs⟩
    have HB2 := Lib.hid (HB1.out.trans (hs.mono HB1.out.size))
    clear c0 c1 c2 c3 c4 c5 hs
    go_wp2
    go_ret2
    exact ⟨rfl, HB2.out⟩
set_option maxHeartbeats 2000000 in
set_option maxRecDepth 100000 in
theorem rankKeys_any (t : VT) (v : Value) (w : World) (hIn : VT.In w w.heap.size t v) (hok : okN t) (hsz : szV t ≤ 62914560) (hX : MaxAt w) :
    Calls Tryd.prog 4 #[v] w fun e w' => e = .returned (.bool true) ∧ Below w.heap.size w w' := by
  have KC := Lib.hid (fun (V : World) (hV : Below w.heap.size w V) => key_any t v w.heap.size V (hIn.below hV) hV.size hok (by omega) (MaxAt.low hX hV hX.zero))
  have RC := Lib.hid (fun (V : World) (hV : Below w.heap.size w V) => refKey_any t v w.heap.size V (hIn.below hV) hV.size hok (by omega))
  have WC := Lib.hid (fun (V : World) (hV : Below w.heap.size w V) => works_any V (MaxAt.low hX hV hX.zero))
  obtain ⟨q, hq⟩ : ∃ q, keyOf t = q := ⟨_, rfl⟩
  obtain ⟨x, hx⟩ : ∃ x, errOf t = x := ⟨_, rfl⟩
  rw [hq, hx] at KC RC
  clear hq hx
  obtain ⟨k, b, n, s, l, ks⟩ := t
  have hx := hIn
  unfold VT.In at hx
  obtain ⟨pl, cl, pk, ck, rfl, -⟩ := hx
  obtain ⟨nl, hnl⟩ : ∃ m, l.length = m := ⟨_, rfl⟩
  obtain ⟨nk, hnk⟩ : ∃ m, ks.length = m := ⟨_, rfl⟩
  rw [hnl, hnk] at KC RC ⊢
  clear hIn hok hsz hX
  have HB0 := Lib.hid ((Below.refl w.heap.size w).alloc (Nat.le_refl _) (.cells #[.int .i64 k, .bool b, .int .i64 n, .string s, .slice pl nl cl, .slice pk nk ck] 26))
  go_enter Tryd.func4, Tryd.ntmps4
  go_wp2_with fail
  refine (KC.out _ HB0.out).mono ?_
  rintro e w1 ⟨rfl, hb1⟩
  have hbox : Box w1 w.heap.size #[.int .i64 k, .bool b, .int .i64 n, .string s, .slice pl nl cl, .slice pk nk ck] := (hb1.block _ (by simp)).trans (Box.new w _)
  obtain ⟨c0, c1, c2, c3, c4, c5⟩ := hbox.cell
  have HB1 := Lib.hid (HB0.out.trans (hb1.mono (by simp)))
  clear hb1 hbox
  go_wp2_with fail
  refine (RC.out w1 HB1.out).mono ?_
  rintro e w2 ⟨rfl, hs⟩
  have HB2 := Lib.hid (HB1.out.trans (hs.mono HB1.out.size))
  clear c0 c1 c2 c3 c4 c5 hs
  go_wp2_with fail
  refine (WC.out w2 HB2.out).mono ?_
  rintro e w3 ⟨rfl, hs⟩
  have HB3 := Lib.hid (HB2.out.trans (hs.mono HB2.out.size))
  clear hs
  go_wp2
  go_ret
  exact ⟨rfl, HB3.out⟩
end Rk
end Go.Proofs.YtlmebeiopnfmdaaDoor
