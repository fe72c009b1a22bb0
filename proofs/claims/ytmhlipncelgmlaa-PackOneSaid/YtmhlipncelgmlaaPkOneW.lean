/- The law PackOne, of any bytes within the reach: its walk. -/
import Derived.Test.YtmhlipncelgmlaaPkOneL
import Derived.Test.YtmhlipncelgmlaaPkPutW
namespace Go.Proofs.Ytmhlipncelgmlaa
open Go.RowKit
set_option linter.unusedVariables false
set_option linter.unusedSimpArgs false
namespace Pk
open Val (VT Keeps Box okN okNL szV szL szK mayB sameV)
open Rk (Buf Sk goodV goodL ba_len)
set_option maxRecDepth 100000 in
set_option maxHeartbeats 4000000 in
theorem packOneW_any (l : List UInt8) (a : Option Addr) (c : Nat) (w : World) (hle : l.length ≤ c) (hcm : c ≤ maxLen) (hs : Fr.Src w (fun _ => False) a l) (hll : l.length ≤ 140737488351232) :
    Calls Try.prog 6 #[.slice a l.length c] w fun e w' => e = .returned (.bool true) ∧ Below w.heap.size w w' := by
  have hc2 : c ≤ 9223372036854775807 := by unfold maxLen at hcm; omega
  clear hcm
  cases hp : parseV 32 0 l with
  | error x =>
    have HDEC := Lib.hid (decode_no a c l x w hs hle hc2 hp)
    have hx0 : (x == 0) = false := parse_err hp
    obtain ⟨L, hL⟩ : ∃ L, l.length = L := ⟨_, rfl⟩
    rw [hL] at HDEC ⊢
    have hxn : (x != 0) = true := by rw [bne, hx0]; rfl
    clear hs hle hc2 hp hL hll hx0
    go_enter Try.func6, Try.ntmps6
    go_wp2_with fail
    refine HDEC.out.mono ?_
    rintro e w1 ⟨rfl, h1⟩
    have hb2 : Below w1.heap.size w1 (w1.alloc (.cells #[.int .i64 0, .bool false, .int .i64 0, .string ⟨#[]⟩, .slice none 0 0, .slice none 0 0] 25)) := (Below.refl _ w1).alloc (Nat.le_refl _) _
    have HL2 := Lib.hid (h1.trans (hb2.mono h1.size))
    have hsm := Val.same_any (VT.mk 0 false 0 ⟨#[]⟩ [] []).parts (.mk 0 false 0 ⟨#[]⟩ [] []) (.mk 0 false 0 ⟨#[]⟩ [] []) _ _ w1.heap.size _ (Nat.le_refl _) (leaf_in 0 false 0 ⟨#[]⟩ w1.heap.size (w1.alloc (.cells #[.int .i64 0, .bool false, .int .i64 0, .string ⟨#[]⟩, .slice none 0 0, .slice none 0 0] 25))) (leaf_in 0 false 0 ⟨#[]⟩ w1.heap.size _) hb2.size
    rw [same_refl] at hsm
    have HSM := Lib.hid hsm
    obtain ⟨t0, t1, t2, t3, t4, t5⟩ := (Box.new w1 #[.int .i64 0, .bool false, .int .i64 0, .string ⟨#[]⟩, .slice none 0 0, .slice none 0 0]).cell
    clear hsm hb2 h1
    go_wp2_with fail
    refine HSM.out.mono ?_
    rintro e w7 ⟨rfl, h7⟩
    have HL7 := Lib.hid (HL2.out.trans (h7.mono HL2.out.size))
    clear h7 t0 t1 t2 t3 t4 t5
    go_wp2_with fail
    refine (works_any _).mono ?_
    rintro e w8 ⟨rfl, hF⟩
    have HF := Lib.hid (HL7.out.trans (hF.mono HL7.out.size))
    clear hF
    go_wp2
    go_ret
    exact ⟨rfl, HF.out⟩
  | ok x =>
    obtain ⟨t, p2, r⟩ := x
    obtain ⟨hmay, hok, heq⟩ := parse_may hp
    have hpos := packB_pos t
    have hsz : (packB t).length + 60 ≤ 140737488355327 := by
      have h2 := congrArg List.length heq
      rw [List.length_append] at h2
      omega
    have hdec := decode_ok a c l r t p2 w hs hle hc2 hp
    obtain ⟨N, hN⟩ : ∃ N, (packB t).length = N := ⟨_, rfl⟩
    obtain ⟨L, hL⟩ : ∃ L, l.length = L := ⟨_, rfl⟩
    have hNL : N ≤ L ∧ (L : Int) - (r.length : Int) = (N : Int) := by
      have h2 := congrArg List.length heq
      rw [List.length_append] at h2
      omega
    rw [hN] at hpos
    rw [hL] at hdec hle hll ⊢
    rw [hNL.2] at hdec
    have HDEC := Lib.hid hdec
    have HTAKE : Hid (l.take N = packB t) := Lib.hid (by rw [heq, ← hN, List.take_left])
    have he1 : errOf t = 0 := by unfold errOf; rw [hmay]; rfl
    have hc1 : encB t = packB t := by unfold encB; rw [hmay]; rfl
    have HENC : Hid (∀ V B v, VT.In V B t v → B ≤ V.heap.size → Calls Try.prog 14 #[v] V fun e w' => ∃ u, e = .returned (.tuple #[u, .int .i64 0]) ∧ Sk V.heap.size V w' u (packB t)) := Lib.hid fun V B v hi hb => by
      have := PkW.encode_len t v B V hi hb hok hsz
      unfold EncPost at this
      rw [he1, hc1] at this
      exact this
    have HSR := Lib.hid hs
    have HL := Lib.hid hL
    have h1n : ¬ (N : Int) < 1 := by omega
    have h2n : ¬ (L : Int) < (N : Int) := by omega
    have d1 : decide ((N : Int) < 1) = false := by simp; omega
    have d2 : decide ((L : Int) < (N : Int)) = false := by simp; omega
    have hnc : (N : Int) ≤ (c : Int) := by omega
    obtain ⟨z, hz⟩ : ∃ q : ByteArray, (⟨(packB t).toArray⟩ : ByteArray) = q := ⟨_, rfl⟩
    have HZ := Lib.hid hz
    have HNN := Lib.hid hN
    clear hs hle hc2 hp hll hmay hok heq hpos hsz hdec hN hL hNL he1 hc1 hz
    go_enter Try.func6, Try.ntmps6
    go_wp2_with fail
    refine HDEC.out.mono ?_
    rintro e w1 ⟨v, rfl, hown, h1⟩
    obtain ⟨yk, yb, yn, ys, ypl, ynl, ycl, ypk, ynk, yck, rfl⟩ := hown.shape
    have hb2 : Below w1.heap.size w1 (w1.alloc (.cells #[.int .i64 yk, .bool yb, .int .i64 yn, .string ys, .slice ypl ynl ycl, .slice ypk ynk yck] 25)) := (Below.refl _ w1).alloc (Nat.le_refl _) _
    have HL2 := Lib.hid (h1.trans (hb2.mono h1.size))
    have HE := Lib.hid (HENC.out _ w1.heap.size _ ((own_in hown).below hb2) hb2.size)
    obtain ⟨t0, t1, t2, t3, t4, t5⟩ := (Box.new w1 #[.int .i64 yk, .bool yb, .int .i64 yn, .string ys, .slice ypl ynl ycl, .slice ypk ynk yck]).cell
    clear hown h1 hb2
    go_wp2_with fail
    refine HE.out.mono ?_
    rintro e w3 ⟨u, rfl, h3⟩
    have HS : Hid (OneS w _ u (packB t) a l w3) := Lib.hid ⟨HL2.out.trans (h3.low.mono HL2.out.size), h3.buf, src_below HSR.out (HL2.out.trans (h3.low.mono HL2.out.size))⟩
    clear h3 t0 t1 t2 t3 t4 t5 h1n d1 d2
    have HSD := Lib.hid (HS.out.step (Below.refl _ w3).drew)
    go_upto_region 7 with fail
    refine wp_region_seq (OneS w _ u (packB t) a l) [0, 1, 2, 3, 4, 5, 6, 7, 8, 9, 10, 11, 12, 13, 14] (by kernel_rfl) (by kernel_rfl) (by kernel_rfl) (by kernel_rfl) HSD.out ?_
    refine seqS_take (o := _) (.int .i64 0) (by conv => lhs; simp only [List.getElem?_toArray, List.getElem?_cons_succ, List.getElem?_cons_zero]) (by rfl) (by rfl) ?_ (fun _ => by rfl) (by conv => lhs; simp only [Act.put, List.setIfInBounds_toArray, List.set_cons_succ, List.set_cons_zero]) ?_
    · intro w _; go_simp
    refine seqS_take (o := _) (.bool true) (by conv => lhs; simp only [List.getElem?_toArray, List.getElem?_cons_succ, List.getElem?_cons_zero]) (by rfl) (by rfl) ?_ (fun _ => by rfl) (by conv => lhs; simp only [Act.put, List.setIfInBounds_toArray, List.set_cons_succ, List.set_cons_zero]) ?_
    · intro w _; go_simp
    refine seqS_take (o := _) (.bool true) (by conv => lhs; simp only [List.getElem?_toArray, List.getElem?_cons_succ, List.getElem?_cons_zero]) (by rfl) (by rfl) ?_ (fun _ => by rfl) (by conv => lhs; simp only [Act.put, List.setIfInBounds_toArray, List.set_cons_succ, List.set_cons_zero]) ?_
    · intro w _; go_simp
    refine seqS_take (o := _) (u) (by conv => lhs; simp only [List.getElem?_toArray, List.getElem?_cons_succ, List.getElem?_cons_zero]) (by rfl) (by rfl) ?_ (fun _ => by rfl) (by conv => lhs; simp only [Act.put, List.setIfInBounds_toArray, List.set_cons_succ, List.set_cons_zero]) ?_
    · intro w _; go_simp
    refine seqS_take (o := _) (.string z) (by conv => lhs; simp only [List.getElem?_toArray, List.getElem?_cons_succ, List.getElem?_cons_zero]) (by rfl) (by rfl) ?_ (fun _ => by rfl) (by conv => lhs; simp only [Act.put, List.setIfInBounds_toArray, List.set_cons_succ, List.set_cons_zero]) ?_
    · rintro V t0; have hcv := conv_buf _ V u _ t0.buf 9 Try.underlying9; rw [HZ.out] at hcv; clear t0; go_simp
    refine seqS_take (o := _) (.slice a L c) (by conv => lhs; simp only [List.getElem?_toArray, List.getElem?_cons_succ, List.getElem?_cons_zero]) (by rfl) (by rfl) ?_ (fun _ => by rfl) (by conv => lhs; simp only [Act.put, List.setIfInBounds_toArray, List.set_cons_succ, List.set_cons_zero]) ?_
    · intro w _; go_simp
    refine seqS_take (o := _) (.int .i64 (N : Int)) (by conv => lhs; simp only [List.getElem?_toArray, List.getElem?_cons_succ, List.getElem?_cons_zero]) (by rfl) (by rfl) ?_ (fun _ => by rfl) (by conv => lhs; simp only [Act.put, List.setIfInBounds_toArray, List.set_cons_succ, List.set_cons_zero]) ?_
    · intro w _; go_simp
    refine seqS_take (o := _) (.slice a N c) (by conv => lhs; simp only [List.getElem?_toArray, List.getElem?_cons_succ, List.getElem?_cons_zero]) (by rfl) (by rfl) ?_ (fun _ => by rfl) (by conv => lhs; simp only [Act.put, List.setIfInBounds_toArray, List.set_cons_succ, List.set_cons_zero]) ?_
    · intro w _; go_simp
    refine seqS_take (o := _) (.string z) (by conv => lhs; simp only [List.getElem?_toArray, List.getElem?_cons_succ, List.getElem?_cons_zero]) (by rfl) (by rfl) ?_ (fun _ => by rfl) (by conv => lhs; simp only [Act.put, List.setIfInBounds_toArray, List.set_cons_succ, List.set_cons_zero]) ?_
    · rintro V t0; have hcv := conv_src (t0.src.take N) (by rw [HTAKE.out]; exact HNN.out) (n := N) (c := c); rw [HTAKE.out, show baOf (packB t) = z from HZ.out] at hcv; clear t0; go_simp
    refine seqS_take (o := _) (.bool true) (by conv => lhs; simp only [List.getElem?_toArray, List.getElem?_cons_succ, List.getElem?_cons_zero]) (by rfl) (by rfl) ?_ (fun _ => by rfl) (by conv => lhs; simp only [Act.put, List.setIfInBounds_toArray, List.set_cons_succ, List.set_cons_zero]) ?_
    · intro w _; go_simp
    refine seqS_take (o := _) (.bool true) (by conv => lhs; simp only [List.getElem?_toArray, List.getElem?_cons_succ, List.getElem?_cons_zero]) (by rfl) (by rfl) ?_ (fun _ => by rfl) (by conv => lhs; simp only [Act.put, List.setIfInBounds_toArray, List.set_cons_succ, List.set_cons_zero]) ?_
    · intro w _; go_simp
    refine seqS_take (o := _) (.bool true) (by conv => lhs; simp only [List.getElem?_toArray, List.getElem?_cons_succ, List.getElem?_cons_zero]) (by rfl) (by rfl) ?_ (fun _ => by rfl) (by conv => lhs; simp only [Act.put, List.setIfInBounds_toArray, List.set_cons_succ, List.set_cons_zero]) ?_
    · intro w _; go_simp
    refine seqS_call (o := _) rfl (by conv => lhs; simp only [List.getElem?_toArray, List.getElem?_cons_succ, List.getElem?_cons_zero]) (by rfl) (by rfl) ?_ (works_any w3.drew) ?_
    · go_simp
    rintro e w4 ⟨rfl, h4⟩
    have H4 := Lib.hid (HSD.out.step h4)
    clear h4
    refine ⟨_, _, rfl, (by conv => lhs; simp only [Act.put, List.setIfInBounds_toArray, List.set_cons_succ, List.set_cons_zero]), H4.out, ?_⟩
    refine seqS_take (o := _) (.bool true) (by conv => lhs; simp only [List.getElem?_toArray, List.getElem?_cons_succ, List.getElem?_cons_zero]) (by rfl) (by rfl) ?_ (fun _ => by rfl) (by conv => lhs; simp only [Act.put, List.setIfInBounds_toArray, List.set_cons_succ, List.set_cons_zero]) ?_
    · intro w _; go_simp
    refine seqS_take (o := _) (.bool true) (by conv => lhs; simp only [List.getElem?_toArray, List.getElem?_cons_succ, List.getElem?_cons_zero]) (by rfl) (by rfl) ?_ (fun _ => by rfl) (by conv => lhs; simp only [Act.put, List.setIfInBounds_toArray, List.set_cons_succ, List.set_cons_zero]) ?_
    · intro w _; go_simp
    refine NoPanic.normal ?_
    go_wp2
    go_ret
    exact ⟨rfl, H4.out.low⟩
end Pk
end Go.Proofs.Ytmhlipncelgmlaa
