/- value.Map of names and values that came in: the loop, Check, Copy. -/
import Derived.Test.YtiphegccaijbgaaDoorRows
import Derived.Test.YtiphegccaijbgaaDoorValBase
import Derived.Test.YtiphegccaijbgaaDoorVal
import Derived.Test.YtiphegccaijbgaaDoorValCmp
import Derived.Test.YtiphegccaijbgaaDoorValCopy
import Derived.Test.YtiphegccaijbgaaDoorValCopyA
import Derived.Test.YtiphegccaijbgaaDoorValRise3
import Derived.Test.YtiphegccaijbgaaDoorValMapBox
import Derived.WalkKit
import Derived.Lib.Hide
import Derived.WalkSpells
import Derived.WalkLawsBesides
import Derived.Laws.MakeOwn
import Derived.OwnWalk
import Derived.Outline
import Derived.Deep.Cut
import Derived.Deep.CutRange
import Derived.Deep.DeepCutAuto
namespace Go.Proofs.YtiphegccaijbgaaDoor
open Go.RowKit Go.Shelf Go.Lib Go.Sort
set_option linter.unusedVariables false
set_option linter.unusedSimpArgs false
namespace Val
/-- The places that an array of them tells. -/
def placeOf {n : Nat} (d' : Array (Fin (n + 1))) (i : Nat) : Nat := (d'[i]!).val
/-- What Map answers: the map in the order of its names, if it may be. -/
def MapPost (ks : List ByteArray) (l : List VT) (n : Nat) (w : World) (e : Ending) (w' : World) : Prop :=
  ∃ d' : Array (Fin (n + 1)), PermIn 0 (n + 1) (Array.ofFn (n := n + 1) id) d' ∧ SortedIn (ltOf (nameCmp ks n)) 0 (n + 1) d' ∧ Go.RowKit.Below w.heap.size w w' ∧
    ((mayB (mapTree ks l (n + 1) (placeOf d')) = true ∧ ∃ v', e = .returned (.tuple #[v', .int .i64 0]) ∧ VT.Own w' (mapTree ks l (n + 1) (placeOf d')) (fun j => w.heap.size ≤ j ∧ j < w'.heap.size) v') ∨
     (mayB (mapTree ks l (n + 1) (placeOf d')) = false ∧ e = .returned (.tuple #[.agg #[.int .i64 0, .bool false, .int .i64 0, .string ⟨#[]⟩, .slice none 0 0, .slice none 0 0], .int .i64 20])))
def RiseAs (ks : List ByteArray) (n N : Nat) (w : World) (e : Ending) (w' : World) : Prop := ∃ (A : Nat) (d' : Array (Fin (n + 1))), e = .returned (.slice (some ⟨A, 0, none⟩) N N) ∧ Hid (w.heap.size ≤ A ∧ A < w'.heap.size ∧ PermIn 0 (n + 1) (Array.ofFn (n := n + 1) id) d' ∧ SortedIn (ltOf (nameCmp ks n)) 0 (n + 1) d' ∧ (∀ j, j < n + 1 → w'.cell? ⟨A, j, none⟩ = some (encP n d'[j]!)) ∧ Go.RowKit.Below w.heap.size w w')
set_option maxRecDepth 100000 in
set_option maxHeartbeats 4000000 in
theorem map_any (ks : List ByteArray) (l : List VT) (n kb ko c lb lo cv B : Nat) (w : World) (hB : B ≤ w.heap.size) (hkb : kb < B) (hc : ∀ i, i < n + 1 → w.cell? ⟨kb, ko + i, none⟩ = some (.string (ks.getD i default))) (hlb : lb < B) (hL : VT.InL w B lb lo l) (hll : l.length = n + 1) (hn : n + 1 ≤ 4194304) (hO : SWO (ltOf (nameCmp ks n))) :
    Calls Tryd.prog 17 #[.slice (some ⟨kb, ko, none⟩) (n + 1) c, .slice (some ⟨lb, lo, none⟩) (n + 1) cv] w (MapPost ks l n w) := by
  obtain ⟨N, hN⟩ : ∃ N, n + 1 = N := ⟨_, rfl⟩
  have hNb : N ≤ 4194304 := by omega
  have hmk : ∀ V, (Instr.makeSlice 23 (.int .i64 (N : Int)) (.int .i64 (N : Int))).run Tryd.prog V = .ok (.slice (some ⟨V.heap.size, 0, none⟩) N N) (V.alloc (.cells (madeCells #[.string ⟨#[]⟩] N) 9)) := fun V => by
    obtain ⟨ti, hi, hz0, hz1, hz2⟩ := info_parts info9b
    have := run_make (P := Tryd.prog) V 23 9 ti _ Tryd.underlying23 hi hz0 .i64 .i64 (N : Int) (N : Int) (by omega) (Int.le_refl _) (by rw [hz2]; omega) (by omega)
    rw [hz1] at this
    simpa [Value.cells] using this
  have hmk2 : ∀ V, (Instr.makeSlice 22 (.int .i64 (N : Int)) (.int .i64 (N : Int))).run Tryd.prog V = .ok (.slice (some ⟨V.heap.size, 0, none⟩) N N) (V.alloc (.cells (madeCells #[.int .i64 0, .bool false, .int .i64 0, .string ⟨#[]⟩, .slice none 0 0, .slice none 0 0] (N * 6)) 25)) := fun V => by
    obtain ⟨ti, hi, hz0, hz1, hz2⟩ := info_parts info25
    have := run_make (P := Tryd.prog) V 22 25 ti _ Tryd.underlying22 hi hz0 .i64 .i64 (N : Int) (N : Int) (by omega) (Int.le_refl _) (by rw [hz2]; omega) (by omega)
    rw [hz1] at this
    simpa [Value.cells] using this
  have HN := Lib.hid hN
  have HB := Lib.hid (And.intro hB (And.intro hkb hlb))
  have HC := Lib.hid hc
  have HL := Lib.hid (And.intro hL hll)
  have HO := Lib.hid hO
  rw [hN]
  clear hN hc hL hll hO hn hB hkb hlb
  go_enter Tryd.func17, Tryd.ntmps17
  go_upto_region 3 with (fail)
  go_cut [6, 18, 21] from 16 to 22 (fun s6 s18 s21 wx => ∃ MK ML M, s6 = .pointer (some ⟨M, 0, none⟩) ∧ s18 = .slice (some ⟨MK, 0, none⟩) N N ∧ s21 = .slice (some ⟨ML, 0, none⟩) N N ∧ Hid (MapBox N w wx MK ML M))
  case first =>
    go_region
    all_goals (go_wp2_with fail; go_meet)
    all_goals (refine ⟨_, _, _, rfl, rfl, rfl, Lib.hid ⟨box4_below _ _ _ _ _, box4_size _ _ _ _ _, by omega, by rw [box4_size]; omega, ?_, ?_, ?_, box4_0 _ _ _ _ _⟩⟩)
    all_goals first | exact box4_1 _ _ _ _ _ | exact box4_2 _ _ _ _ _ | exact box4_3 _ _ _ _ _
  case rest =>
    obtain ⟨MK, ML, M, rfl, rfl, rfl, HX⟩ := hcut
    have hR : Calls Tryd.prog 36 #[.slice (some ⟨kb, ko, none⟩) N c] wc (RiseAs ks n N wc) := by
      have hN := HN.out
      subst hN
      refine (rising_any ks n kb ko c wc (Nat.lt_of_lt_of_le HB.out.2.1 (Nat.le_trans HB.out.1 HX.out.low.size)) (fun i hi => (HX.out.low.cell (p := ⟨kb, ko + i, none⟩) (Nat.lt_of_lt_of_le HB.out.2.1 HB.out.1)).trans (HC.out i hi)) hNb HO.out).mono ?_
      rintro e w' ⟨A, d', rfl, h1, h2, h3, h4, h5, h6⟩
      exact ⟨A, d', rfl, Lib.hid ⟨h1, h2, h3, h4, h5, h6⟩⟩
    have HR := Lib.hid hR
    clear hR hmk hmk2
    go_wp2_with fail
    refine HR.out.mono ?_
    rintro e w1 ⟨A, d', rfl, HA⟩
    have HLOW : Hid (Go.RowKit.Below w.heap.size w w1) := Lib.hid (HX.out.low.trans (HA.out.2.2.2.2.2.mono HX.out.low.size))
    have H0 : Hid (MapAt N 0 0 MK ML lb lo ks (placeOf d') w w1 w1) := Lib.hid ⟨Keeps.refl _ _, ⟨_, (HA.out.2.2.2.2.2.block MK HX.out.lt.2.2.2.1).trans HX.out.bK, size_madeCells _ _, fun i hi => by omega⟩, ⟨_, (HA.out.2.2.2.2.2.block ML HX.out.lt.2.2.2.2.1).trans HX.out.bL, size_madeCells _ _, fun i e hi => by omega⟩⟩
    clear HR
    go_wp2_with fail
    go_loopw [26] (fun i wr => ∃ j : Nat, j ≤ N ∧ i = .int .i64 j ∧ Hid (MapAt N j j MK ML lb lo ks (placeOf d') w w1 wr)) (fun i _ => N - (intOf i).toNat)
    case atStart => exact ⟨0, Nat.zero_le _, rfl, H0⟩
    case round =>
      rename_i wr
      obtain ⟨j, hj, rfl, HW⟩ := hrel
      clear H0
      have HLW : Hid (Go.RowKit.Below w.heap.size w wr) := Lib.hid (HLOW.out.trans (HW.out.keeps.below (fun k hk => by have := HX.out.lt; omega) HLOW.out.size))
      have hMr : wr.heap[M]? = some (.cells #[.int .i64 5, .bool false, .int .i64 0, .string ⟨#[]⟩, .slice (some ⟨ML, 0, none⟩) N N, .slice (some ⟨MK, 0, none⟩) N N] 25 (0, 0)) := (HW.out.keeps.block M (Nat.lt_of_lt_of_le HX.out.lt.2.2.2.2.2 HA.out.2.2.2.2.2.size) (by have := HX.out.ne; omega)).trans ((HA.out.2.2.2.2.2.block M HX.out.lt.2.2.2.2.2).trans HX.out.bM)
      obtain ⟨m0, m1, m2, m3, m4, m5⟩ := Box.cell hMr
      by_cases hlt : j < N
      · obtain ⟨q, hq⟩ : ∃ q, placeOf d' j = q := ⟨_, rfl⟩
        have hqn : q < n + 1 := by rw [← hq]; exact (d'[j]!).isLt
        have gA : wr.cell? ⟨A, j, none⟩ = some (.int .i64 (q : Int)) := by
          have h1 := HA.out.2.2.2.2.1 j (by rw [HN.out]; exact hlt)
          have h2 := HW.out.keeps.cell (p := ⟨A, j, none⟩) HA.out.2.1 (by have := HX.out.lt; have := HA.out.1; show ¬ (A = MK ∨ A = ML); omega)
          rw [h2, h1, ← hq]
          rfl
        obtain ⟨x, hx⟩ : ∃ x, ks.getD q default = x := ⟨_, rfl⟩
        have gK : wr.cell? ⟨kb, ko + q, none⟩ = some (.string x) := by
          rw [← hx, ← HC.out q hqn]
          exact HLW.out.cell (p := ⟨kb, ko + q, none⟩) (Nat.lt_of_lt_of_le HB.out.2.1 HB.out.1)
        obtain ⟨t, ht⟩ : ∃ t, l[q]? = some t := ⟨l[q]'(by rw [HL.out.2]; exact hqn), List.getElem?_eq_getElem _⟩
        obtain ⟨d0, d1, d2, d3, d4, d5, e0, e1, e2, e3, e4, e5, hI⟩ := HL.out.1.at ht
        obtain ⟨tk, tb, tn, ts, tpl, tnl, tcl, tpk, tnk, tck, rfl, rfl, rfl, rfl, rfl, rfl⟩ := hI.shape
        have hlbw : lb < w.heap.size := Nat.lt_of_lt_of_le HB.out.2.2 HB.out.1
        have E0 := (HLW.out.cell (p := ⟨lb, lo + q * 6, none⟩) hlbw).trans e0
        have E1 := (HLW.out.cell (p := ⟨lb, lo + q * 6 + 1, none⟩) hlbw).trans e1
        have E2 := (HLW.out.cell (p := ⟨lb, lo + q * 6 + 2, none⟩) hlbw).trans e2
        have E3 := (HLW.out.cell (p := ⟨lb, lo + q * 6 + 3, none⟩) hlbw).trans e3
        have E4 := (HLW.out.cell (p := ⟨lb, lo + q * 6 + 4, none⟩) hlbw).trans e4
        have E5 := (HLW.out.cell (p := ⟨lb, lo + q * 6 + 5, none⟩) hlbw).trans e5
        obtain ⟨cs, hcs, hcz, -⟩ := HW.out.bK
        obtain ⟨cl, hcl, hclz, -⟩ := HW.out.bL
        have k0 : wr.cell? ⟨MK, j, none⟩ = some (cs[j]!) := by
          have hb : j < cs.size := by omega
          simp [World.cell?, hcs, hb]
        have k1 : wr.frozen? ⟨MK, j, none⟩ = false := by simp [World.frozen?, hcs]
        have hcell : ∀ i, i < 6 → wr.cell? ⟨ML, j * 6 + i, none⟩ = some (cl[j * 6 + i]!) ∧ wr.frozen? ⟨ML, j * 6 + i, none⟩ = false := fun i hi => by
          have hb : j * 6 + i < cl.size := by omega
          constructor
          · simp [World.cell?, hcl, hb]
          · simp [World.frozen?, hcl]
        obtain ⟨g0, u0⟩ := hcell 0 (by omega)
        obtain ⟨g1, u1⟩ := hcell 1 (by omega)
        obtain ⟨g2, u2⟩ := hcell 2 (by omega)
        obtain ⟨g3, u3⟩ := hcell 3 (by omega)
        obtain ⟨g4, u4⟩ := hcell 4 (by omega)
        obtain ⟨g5, u5⟩ := hcell 5 (by omega)
        simp only [Nat.add_zero] at g0 u0
        have HN1 := Lib.hid (((HW.out.stepK (x := x) HX.out.ne.1 hlt (by rw [hq]; exact hx.symm)).stepL HX.out.ne.1 hlt (by rw [hq]; exact e0) (by rw [hq]; exact e1) (by rw [hq]; exact e2) (by rw [hq]; exact e3) (by rw [hq]; exact e4) (by rw [hq]; exact e5)).drew)
        have HN2 := Lib.hid (((HW.out.stepL HX.out.ne.1 hlt (by rw [hq]; exact e0) (by rw [hq]; exact e1) (by rw [hq]; exact e2) (by rw [hq]; exact e3) (by rw [hq]; exact e4) (by rw [hq]; exact e5)).stepK (x := x) HX.out.ne.1 hlt (by rw [hq]; exact hx.symm)).drew)
        have hne1 : MK ≠ ML := HX.out.ne.1
        have hne2 : ML ≠ MK := fun e => hne1 e.symm
        have hne3 : MK ≠ M := HX.out.ne.2.1
        have hne4 : M ≠ MK := fun e => hne3 e.symm
        have hqN : q < N := by rw [← HN.out]; exact hqn
        clear hcell hcs hcz hcl hclz e0 e1 e2 e3 e4 e5 hI ht hx hq hqn hMr hlbw
        go_wp2_with fail
        go_region
        go_wp2_with fail
        go_roundw
        case rel => exact ⟨j + 1, by omega, by go_num, HN1⟩
        case measure => simp [intOf]; omega
      · obtain rfl : N = j := by omega
        have hMK : MK < wr.heap.size := Nat.lt_of_lt_of_le HX.out.lt.2.2.2.1 (Nat.le_trans HA.out.2.2.2.2.2.size HW.out.keeps.size)
        have hML : ML < wr.heap.size := Nat.lt_of_lt_of_le HX.out.lt.2.2.2.2.1 (Nat.le_trans HA.out.2.2.2.2.2.size HW.out.keeps.size)
        have hMM : M < wr.heap.size := Nat.lt_of_lt_of_le HX.out.lt.2.2.2.2.2 (Nat.le_trans HA.out.2.2.2.2.2.size HW.out.keeps.size)
        have hT := HW.out.tree HLW.out HB.out.1 hMK hML HL.out.1 (fun i _ => by rw [HL.out.2]; exact (d'[i]!).isLt) hNb
        have hbR : Box wr w.heap.size #[.int .i64 0, .bool false, .int .i64 0, .string ⟨#[]⟩, .slice none 0 0, .slice none 0 0] := (HW.out.keeps.block _ (Nat.lt_of_lt_of_le (by have := HX.out.size; omega) HA.out.2.2.2.2.2.size) (by have := HX.out.lt; omega)).trans ((HA.out.2.2.2.2.2.block _ (by have := HX.out.size; omega)).trans HX.out.bR)
        obtain ⟨T, hTT⟩ : ∃ T, mapTree ks l N (placeOf d') = T := ⟨_, rfl⟩
        rw [hTT] at hT
        have hC := check_any T _ wr.heap.size wr hT (Nat.le_refl _)
        rw [may_walk] at hC
        obtain ⟨bt, hbt⟩ : ∃ bt, mayB T = bt := ⟨_, rfl⟩
        rw [hbt] at hC
        have HT := Lib.hid hT
        have HTT := Lib.hid hTT
        have HBT := Lib.hid hbt
        have HBR := Lib.hid hbR
        have HM := Lib.hid hMr
        clear hT hTT hbt hbR hMr hMK hML
        cases bt
        · simp only [Bool.false_eq_true, if_false] at hC
          have HC2 := Lib.hid hC
          clear hC
          go_wp2_with fail
          refine HC2.out.mono ?_
          rintro e w2 ⟨rfl, hb2⟩
          have hr2 : Box w2 w.heap.size _ := (hb2.block _ HBR.out.lt).trans HBR.out
          obtain ⟨r0, r1, r2, r3, r4, r5⟩ := Box.cell hr2
          have z0 := box_free hr2 0
          have z1 := box_free hr2 1
          have z2 := box_free hr2 2
          have z3 := box_free hr2 3
          have z4 := box_free hr2 4
          have z5 := box_free hr2 5
          have hkF : Keeps (· = w.heap.size) w2 (six w2 w.heap.size 0 (.int .i64 0) (.bool false) (.int .i64 0) (.string ⟨#[]⟩) (.slice none 0 0) (.slice none 0 0)) := six_keeps (Keeps.refl (· = w.heap.size) w2) (.inl rfl)
          have hP : MapPost ks l n w (.returned (.tuple #[.agg #[.int .i64 0, .bool false, .int .i64 0, .string ⟨#[]⟩, .slice none 0 0, .slice none 0 0], .int .i64 20])) (six w2 w.heap.size 0 (.int .i64 0) (.bool false) (.int .i64 0) (.string ⟨#[]⟩) (.slice none 0 0) (.slice none 0 0)) := by
            have h3 := HLW.out.size
            refine ⟨d', HA.out.2.2.1, HA.out.2.2.2.1, (HLW.out.trans (hb2.mono h3)).trans (hkF.below (fun j e => by omega) (Nat.le_trans h3 hb2.size)), .inr ?_⟩
            rw [HN.out, HTT.out]
            exact ⟨HBT.out, rfl⟩
          have HP := Lib.hid hP
          have hend := box_six (v0 := .int .i64 0) (v1 := .bool false) (v2 := .int .i64 0) (v3 := .string ⟨#[]⟩) (v4 := .slice none 0 0) (v5 := .slice none 0 0) hr2
          obtain ⟨q0, q1, q2, q3, q4, q5⟩ := Box.cell hend
          unfold six at q0 q1 q2 q3 q4 q5
          simp only [Nat.zero_add] at q0 q1 q2 q3 q4 q5
          have HQ := Lib.hid (And.intro q0 (And.intro q1 (And.intro q2 (And.intro q3 (And.intro q4 q5)))))
          clear q0 q1 q2 q3 q4 q5 hend hP hkF hb2 hr2
          go_wp2_with fail
          obtain ⟨q0, q1, q2, q3, q4, q5⟩ := HQ.out
          exact bodyPost_ret (v := .tuple #[.agg #[.int .i64 0, .bool false, .int .i64 0, .string ⟨#[]⟩, .slice none 0 0, .slice none 0 0], .int .i64 20]) (by simp [results, Tryd.results17, go_sem, q0, q1, q2, q3, q4, q5]) rfl HP.out
        · simp only [if_true] at hC
          have HC2 := Lib.hid hC
          clear hC
          go_wp2_with fail
          refine HC2.out.mono ?_
          rintro e w2 ⟨rfl, hb2⟩
          obtain ⟨n0, n1, n2, n3, n4, n5⟩ := Box.cell ((hb2.block M hMM).trans HM.out)
          have hCP := copy_any T _ wr.heap.size w2 (HT.out.below hb2) hb2.size HBT.out
          have HCP := Lib.hid hCP
          have hr2 : Box w2 w.heap.size _ := (hb2.block _ HBR.out.lt).trans HBR.out
          have HB2 := Lib.hid hb2
          have HR2 := Lib.hid hr2
          clear hb2 hr2 hCP
          go_wp2_with fail
          refine HCP.out.mono ?_
          rintro e w3 ⟨v', rfl, hown, hlow⟩
          obtain ⟨yk, yb, yn, ys, ypl, ynl, ycl, ypk, ynk, yck, rfl⟩ := hown.shape
          have hr3 : Box w3 w.heap.size _ := (hlow.block _ HR2.out.lt).trans HR2.out
          obtain ⟨r0, r1, r2, r3, r4, r5⟩ := Box.cell hr3
          have z0 := box_free hr3 0
          have z1 := box_free hr3 1
          have z2 := box_free hr3 2
          have z3 := box_free hr3 3
          have z4 := box_free hr3 4
          have z5 := box_free hr3 5
          have hkF : Keeps (· = w.heap.size) w3 (six w3 w.heap.size 0 (.int .i64 yk) (.bool yb) (.int .i64 yn) (.string ys) (.slice ypl ynl ycl) (.slice ypk ynk yck)) := six_keeps (Keeps.refl (· = w.heap.size) w3) (.inl rfl)
          have hP : MapPost ks l n w (.returned (.tuple #[.agg #[.int .i64 yk, .bool yb, .int .i64 yn, .string ys, .slice ypl ynl ycl, .slice ypk ynk yck], .int .i64 0])) (six w3 w.heap.size 0 (.int .i64 yk) (.bool yb) (.int .i64 yn) (.string ys) (.slice ypl ynl ycl) (.slice ypk ynk yck)) := by
            have hs := hkF.size
            have h2 := HB2.out.size
            have h3 := HLW.out.size
            have h4 : w.heap.size < wr.heap.size := HBR.out.lt
            refine ⟨d', HA.out.2.2.1, HA.out.2.2.2.1, ?_, .inl ?_⟩
            · exact (((HLW.out.trans (HB2.out.mono h3)).trans (hlow.mono (Nat.le_trans h3 h2)))).trans (hkF.below (fun j e => by omega) (Nat.le_trans (Nat.le_trans h3 h2) hlow.size))
            · rw [HN.out, HTT.out]
              exact ⟨HBT.out, _, rfl, VT.Own.more (fun j hj => ⟨by omega, by omega⟩) (hown.keeps hkF (fun j hj => ⟨hj.2, by show ¬ j = _; omega⟩))⟩
          have HP := Lib.hid hP
          have hend := box_six (v0 := .int .i64 yk) (v1 := .bool yb) (v2 := .int .i64 yn) (v3 := .string ys) (v4 := .slice ypl ynl ycl) (v5 := .slice ypk ynk yck) hr3
          obtain ⟨q0, q1, q2, q3, q4, q5⟩ := Box.cell hend
          unfold six at q0 q1 q2 q3 q4 q5
          simp only [Nat.zero_add] at q0 q1 q2 q3 q4 q5
          have HQ := Lib.hid (And.intro q0 (And.intro q1 (And.intro q2 (And.intro q3 (And.intro q4 q5)))))
          clear q0 q1 q2 q3 q4 q5 hend hP hkF hown hlow hr3
          go_wp2_with fail
          obtain ⟨q0, q1, q2, q3, q4, q5⟩ := HQ.out
          exact bodyPost_ret (v := .tuple #[.agg #[.int .i64 yk, .bool yb, .int .i64 yn, .string ys, .slice ypl ynl ycl, .slice ypk ynk yck], .int .i64 0]) (by simp [results, Tryd.results17, go_sem, q0, q1, q2, q3, q4, q5]) rfl HP.out
end Val
end Go.Proofs.YtiphegccaijbgaaDoor
