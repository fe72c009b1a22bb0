/- The document's reader of values: a map's rows. -/
import Derived.Test.YtmhlipncelgmlaaPkRefE
namespace Go.Proofs.Ytmhlipncelgmlaa
open Go.RowKit
set_option linter.unusedVariables false
set_option linter.unusedSimpArgs false
namespace Pk
open Val (VT Keeps Box StrBlock)
open Rk (info_parts)
set_option maxRecDepth 100000 in
set_option maxHeartbeats 8000000 in
theorem refDict_any (d : Nat) (a : Option Addr) (c0 L : Nat) (all : List UInt8) (at_ p n : Nat) (w : World) (D : Int) (IH : Hid (ReadIH d a c0 L all)) (h : Data w a c0 L all) (hat : at_ ≤ L) (hp : p ≤ 4096) (hn : n < 18446744073709551616) (hd : d ≤ 32) (hD : D = (d : Int) + 1) :
    Calls Try.prog 71 #[.slice a L c0, .int .i64 (at_ : Int), .int .i64 D, .int .i64 (p : Int), .bool true, .int .u64 (n : Int)] w (RefPost L w (dictQ d p n (all.drop at_))) := by
  obtain ⟨i0, hi0, hz0, hz1, hz2⟩ := info_parts info26
  obtain ⟨j0, hj0, jz0, jz1, jz2⟩ := info_parts infoS
  have hdw : IntKind.i64.wrap (D - 1) = (d : Int) := by simp [IntKind.wrap, IntKind.bits, IntKind.signed]; omega
  have hdw2 : wrap64 (D - 1) = (d : Int) := by unfold wrap64; omega
  have HDAT := Lib.hid h
  have HLL := Lib.hid h.len
  have HN64 := Lib.hid hn
  clear hD
  have HL0 : Hid (TRel true 5 d L n all (all.drop at_) p w 0 p at_ [] [] (.slice none 0 0) (.slice none 0 0) [] ((w.alloc (.cells #[.int .i64 0, .bool false, .int .i64 0, .string ⟨#[]⟩, .slice none 0 0, .slice none 0 0] 25)).alloc (.cells #[.int .i64 5, .bool false, .int .i64 0, .string ⟨#[]⟩, .slice none 0 0, .slice none 0 0] 25))) := Lib.hid ⟨DT.start5 w, rfl, hat, hp, by simp, rfl⟩
  clear h hat hp hn
  go_enter Try.func71, Try.ntmps71
  go_wp2
  go_loopw [1, 3, 17] (fun av pv iv wr => ∃ (j p1 at1 : Nat) (ts : List VT) (ks : List ByteArray) (lv kv : Value) (xs : List Value), av = .int .i64 (at1 : Int) ∧ pv = .int .i64 (p1 : Int) ∧ iv = .int .u64 (j : Int) ∧ j ≤ n ∧ Hid (TRel true 5 d L n all (all.drop at_) p w j p1 at1 ts ks lv kv xs wr)) (fun _ _ iv _ => (n - (intOf iv).toNat))
  case atStart => exact ⟨0, p, at_, [], [], _, _, _, rfl, rfl, rfl, Nat.zero_le _, HL0⟩
  case round =>
   obtain ⟨j, p1, at1, ts, ks, lv, kv, xs, rfl, rfl, rfl, hj, HL⟩ := hrel
   clear HL0
   by_cases hjn : j < n
   · have hjn2 : (j : Int) < n := by omega
     have HJ := Lib.hid hjn
     clear hjn hj
     have HDT := Lib.hid HL.out.dt
     have HN := Lib.hid (refNum_any a c0 L all at1 wr (HDAT.out.below HDT.out.low) HL.out.at_)
     go_wp2_with fail
     refine HN.out.mono ?_
     cases hr : numP (all.drop at1) with
     | error c =>
       have HE : Hid (dictQ d p n (all.drop at_) = .error c) := Lib.hid (by unfold dictQ; rw [HL.out.same, rowsA_stepM HJ.out, nextP_err (by rw [keyP_def, hr]; rfl)]; rfl)
       have hc0 := numP_err hr
       have hc : (c != 0) = true := by unfold bne; rw [hc0]; rfl
       rintro e w1 ⟨rfl, hw1⟩
       subst w1
       simp only [numV]
       clear hr HN
       have hf := fun i => box_free HDT.out.box0 i
       obtain ⟨z0, z1, z2, z3, z4, z5⟩ := HDT.out.box0.cell
       have hlt0 := HDT.out.box0.lt
       have HS := Lib.hid (box_six HDT.out.box0 (.int .i64 0) (.bool false) (.int .i64 0) (.string ⟨#[]⟩) (.slice none 0 0) (.slice none 0 0))
       go_wp2
       obtain ⟨q0, q1, q2, q3, q4, q5⟩ := HS.out.cell
       unfold six at q0 q1 q2 q3 q4 q5
       refine bodyPost_ret (v := .tuple #[.agg #[.int .i64 0, .bool false, .int .i64 0, .string ⟨#[]⟩, .slice none 0 0, .slice none 0 0], .int .i64 0, .int .i64 0, .int .i64 c]) (by simp [results, Try.results71, go_sem, q0, q1, q2, q3, q4, q5]) rfl ?_
       rw [HE.out]
       exact HDT.out.fault L _
     | ok b =>
       obtain ⟨m, r⟩ := b
       have hm64 := (numP_ok hr).2
       obtain ⟨at2, hat2, hr2, hpl, -⟩ := drop_rest HLL.out HL.out.at_ (numP_ok hr).1
       subst hr2
       rintro e w1 ⟨rfl, hw1⟩
       subst w1
       simp only [numV]
       rw [hpl]
       have HR := Lib.hid hr
       have HM := Lib.hid hm64
       have HAT2 := Lib.hid hat2
       clear hr hm64 hpl hat2 HN
       by_cases h1 : m < 1
       · have HE : Hid (dictQ d p n (all.drop at_) = .error 1) := Lib.hid (by unfold dictQ; rw [HL.out.same, rowsA_stepM HJ.out, nextP_err (by rw [keyP_def, HR.out, thenP_ok, if_neg (by omega)])]; rfl)
         have t1 : decide ((m : Int) < 1) = true := by simp; omega
         have t1b : decide (m < 1) = true := by simp; omega
         clear h1
         have hf := fun i => box_free HDT.out.box0 i
         obtain ⟨z0, z1, z2, z3, z4, z5⟩ := HDT.out.box0.cell
         have hlt0 := HDT.out.box0.lt
         have HS := Lib.hid (box_six HDT.out.box0 (.int .i64 0) (.bool false) (.int .i64 0) (.string ⟨#[]⟩) (.slice none 0 0) (.slice none 0 0))
         go_wp2
         obtain ⟨q0, q1, q2, q3, q4, q5⟩ := HS.out.cell
         unfold six at q0 q1 q2 q3 q4 q5
         refine bodyPost_ret (v := .tuple #[.agg #[.int .i64 0, .bool false, .int .i64 0, .string ⟨#[]⟩, .slice none 0 0, .slice none 0 0], .int .i64 0, .int .i64 0, .int .i64 1]) (by simp [results, Try.results71, go_sem, q0, q1, q2, q3, q4, q5]) rfl ?_
         rw [HE.out]
         exact HDT.out.fault L _
       · by_cases h2 : 64 < m
         · have HE : Hid (dictQ d p n (all.drop at_) = .error 1) := Lib.hid (by unfold dictQ; rw [HL.out.same, rowsA_stepM HJ.out, nextP_err (by rw [keyP_def, HR.out, thenP_ok, if_neg (by omega)])]; rfl)
           have t1 : decide ((m : Int) < 1) = false := by simp; omega
           have t2 : decide ((64 : Int) < (m : Int)) = true := by simp; omega
           clear h1 h2
           have hf := fun i => box_free HDT.out.box0 i
           obtain ⟨z0, z1, z2, z3, z4, z5⟩ := HDT.out.box0.cell
           have hlt0 := HDT.out.box0.lt
           have HS := Lib.hid (box_six HDT.out.box0 (.int .i64 0) (.bool false) (.int .i64 0) (.string ⟨#[]⟩) (.slice none 0 0) (.slice none 0 0))
           go_wp2
           obtain ⟨q0, q1, q2, q3, q4, q5⟩ := HS.out.cell
           unfold six at q0 q1 q2 q3 q4 q5
           refine bodyPost_ret (v := .tuple #[.agg #[.int .i64 0, .bool false, .int .i64 0, .string ⟨#[]⟩, .slice none 0 0, .slice none 0 0], .int .i64 0, .int .i64 0, .int .i64 1]) (by simp [results, Try.results71, go_sem, q0, q1, q2, q3, q4, q5]) rfl ?_
           rw [HE.out]
           exact HDT.out.fault L _
         · have HK1 : Hid (keyP (all.drop at1) = thenP (takeP m (all.drop at2)) fun y => .ok (baOf y.1, y.2)) := Lib.hid (by rw [keyP_def, HR.out, thenP_ok, if_pos (by omega)])
           have HM1 : Hid (1 ≤ m) := Lib.hid (by omega)
           have t1 : decide ((m : Int) < 1) = false := by simp; omega
           have t2 : decide ((64 : Int) < (m : Int)) = false := by simp; omega
           have HT := Lib.hid (refText_any a c0 L all at2 m wr (HDAT.out.below HDT.out.low) HAT2.out HM.out)
           clear h1 h2
           go_wp2_with fail
           refine HT.out.mono ?_
           clear t1 t2
           cases ht : takeP m (all.drop at2) with
           | error c =>
             have HE : Hid (dictQ d p n (all.drop at_) = .error c) := Lib.hid (by unfold dictQ; rw [HL.out.same, rowsA_stepM HJ.out, nextP_err (by rw [HK1.out, ht]; rfl)]; rfl)
             have hc0 := takeP_err ht
             have hc : (c != 0) = true := by unfold bne; rw [hc0]; rfl
             rintro e w1 ⟨rfl, hw1⟩
             subst w1
             simp only [textV]
             clear ht HT
             have hf := fun i => box_free HDT.out.box0 i
             obtain ⟨z0, z1, z2, z3, z4, z5⟩ := HDT.out.box0.cell
             have hlt0 := HDT.out.box0.lt
             have HS := Lib.hid (box_six HDT.out.box0 (.int .i64 0) (.bool false) (.int .i64 0) (.string ⟨#[]⟩) (.slice none 0 0) (.slice none 0 0))
             go_wp2
             obtain ⟨q0, q1, q2, q3, q4, q5⟩ := HS.out.cell
             unfold six at q0 q1 q2 q3 q4 q5
             refine bodyPost_ret (v := .tuple #[.agg #[.int .i64 0, .bool false, .int .i64 0, .string ⟨#[]⟩, .slice none 0 0, .slice none 0 0], .int .i64 0, .int .i64 0, .int .i64 c]) (by simp [results, Try.results71, go_sem, q0, q1, q2, q3, q4, q5]) rfl ?_
             rw [HE.out]
             exact HDT.out.fault L _
           | ok b =>
             obtain ⟨bs, r⟩ := b
             have hto := takeP_ok ht
             obtain ⟨at3, hat3, hr3, hpl, -⟩ := drop_rest HLL.out HAT2.out hto.1
             subst hr3
             obtain ⟨key, hkey⟩ : ∃ x, baOf bs = x := ⟨_, rfl⟩
             have hks : 0 < key.size := by
               have : key.size = bs.length := by rw [← hkey]; unfold baOf; simp [ByteArray.size]
               have := HM1.out
               omega
             have hkp : keyP (all.drop at1) = .ok (key, all.drop at3) := by rw [HK1.out, ht, thenP_ok, hkey]
             have hnx := nextP_two (ks := ks) hkp
             rintro e w1 ⟨rfl, hw1⟩
             subst w1
             simp only [textV]
             rw [hpl, hkey]
             have HAT := Lib.hid hat3
             clear ht HT hto hpl hkey hkp hat3
             have hup : Hid (ks = [] → nextP ks (all.drop at1) = .ok (ks ++ [key], all.drop at3)) := Lib.hid (fun h => by subst h; rw [hnx, List.getLastD_nil, less_empty hks, if_pos rfl])
             obtain ⟨pl, cl, hlv, -⟩ := HDT.out.row.slice
             obtain ⟨pk, ck, hkv, -, -, hkb, -⟩ := keys_form HDT.out.keys rfl
             subst hlv hkv
             obtain ⟨b0, b1, b2, b3, b4, b5⟩ := HDT.out.box1.cell
             by_cases hk0 : ks = []
             · have HNX := Lib.hid (hup.out hk0)
               have t3 : decide (0 < ks.length) = false := by rw [hk0]; rfl
               have t4 : decide ((0 : Int) < (ks.length : Int)) = false := by rw [hk0]; rfl
               clear hnx hk0 hkb
               have hklen : ks.length ≤ 4096 := by have h1 := HL.out.klen; simp only [cond_true] at h1; have := HL.out.few; have := HL.out.le; omega
               have HKL := Lib.hid hklen
               clear hklen
               go_upto_region 18 with fail
               have V5a := Lib.hid (own_keeps HDT.out.keys ((Keeps.refl (fun _ => False) wr).alloc (.cells #[.string key] 9)) (fun j hj => hj.elim))
               have HLS := Lib.hid (lit_str wr key)
               have hb6 : w.heap.size + 2 ≤ (wr.alloc (.cells #[.string key] 9)).heap.size := by have := HDT.out.box1.lt; rw [World.size_alloc]; omega
               go_wp2_with (at_builtin; go_must (refine wpList_append_lies _ rfl (.tmp 89) (.tmp 91) 23 rfl (w.heap.size + 2) 9 j0 (.string ⟨#[]⟩) 1 16 Try.underlying23 hj0 jz0 jz1 jz2 rfl (by decide) (.slice pk ks.length ck) ks.length (ks.map Value.string) rfl V5a.out ⟨wr.heap.size, 0, none⟩ 1 1 [.string key] rfl rfl HLS.out (str_one key) (by decide) ?a1a ?a2a hb6 _ rfl ?_))
               case a1a => have := HKL.out; unfold maxLen; omega
               case a2a => have := HKL.out; omega
               intro g6 cap6 w6 hrow6 hg6 hl6 hlt6
               have HDS6 := Lib.hid (HDT.out.key key hrow6 hg6 (hl6.imp id (fun e => e.trans (World.size_alloc _ _).symm)))
               clear hrow6 hg6 hl6 hlt6 b0 b1 b2 b3 b4 b5
               have hf := fun i => box_free HDS6.out.1 i
               obtain ⟨b0, b1, b2, b3, b4, b5⟩ := HDS6.out.1.cell
               go_upto_region 19 with fail
               clear hf b0 b1 b2 b3 b4 b5
               have DS7 := Lib.hid HDS6.out.2
               clear HDS6 V5a HLS hb6
               generalize w6.setCell ⟨w.heap.size + 1, 5, none⟩ (.slice (some ⟨g6, 0, none⟩) (ks.length + 1) cap6) = w7 at *
               have HV := Lib.hid (IH.out at3 p1 w7 (HDAT.out.below DS7.out.low) HAT.out HL.out.le)
               go_wp2_with fail
               refine HV.out.mono ?_
               cases hv : parseV d p1 (all.drop at3) with
               | error c =>
                 have HE : Hid (dictQ d p n (all.drop at_) = .error c) := Lib.hid (by unfold dictQ; rw [HL.out.same, rowsA_stepM HJ.out, HNX.out, thenP_ok, hv]; rfl)
                 have hc : (c != 0) = true := by unfold bne; rw [parse_err hv]; rfl
                 rintro e w8 ⟨hb8, rfl⟩
                 have D8 := Lib.hid ((DS7.out.got hb8).got (((Keeps.refl (fun _ => False) w8).alloc (.cells #[.int .i64 0, .bool false, .int .i64 0, .string ⟨#[]⟩, .slice none 0 0, .slice none 0 0] 25)).below (fun _ f => f.elim) (Nat.le_refl _)))
                 clear hb8 hv
                 have hf := fun i => box_free D8.out.box0 i
                 obtain ⟨z0, z1, z2, z3, z4, z5⟩ := D8.out.box0.cell
                 have hlt0 := D8.out.box0.lt
                 have HS := Lib.hid (box_six D8.out.box0 (.int .i64 0) (.bool false) (.int .i64 0) (.string ⟨#[]⟩) (.slice none 0 0) (.slice none 0 0))
                 go_wp2
                 obtain ⟨q0, q1, q2, q3, q4, q5⟩ := HS.out.cell
                 unfold six at q0 q1 q2 q3 q4 q5
                 refine bodyPost_ret (v := .tuple #[.agg #[.int .i64 0, .bool false, .int .i64 0, .string ⟨#[]⟩, .slice none 0 0, .slice none 0 0], .int .i64 0, .int .i64 0, .int .i64 c]) (by simp [results, Try.results71, go_sem, q0, q1, q2, q3, q4, q5]) rfl ?_
                 rw [HE.out]
                 exact D8.out.fault L _
               | ok y =>
                 obtain ⟨t, p2, cur2⟩ := y
                 have hright := parse_right d _ _ _ _ _ hv
                 obtain ⟨at2, hat2, hcur2, hpl2, -⟩ := drop_rest HLL.out HAT.out hright.2.2
                 subst hcur2
                 have hle2 : p2 ≤ 4096 ∧ ts.length + 1 ≤ p2 := by
                   have h1 := Val.mayV_le t _ _ _ hright.1
                   have h2 := HL.out.few
                   omega
                 have HLE2 := Lib.hid hle2
                 have HAT2 := Lib.hid hat2
                 have HE : Hid (rowsA (parseV d) true n p [] [] (all.drop at_) = rowsA (parseV d) true (n - (j + 1)) p2 (ts ++ [t]) (ks ++ [key]) (all.drop at2)) := Lib.hid (by rw [HL.out.same, rowsA_stepM HJ.out, HNX.out, thenP_ok, hv]; rfl)
                 clear hright hle2 hv hat2
                 rintro e w8 ⟨hb8, v, rfl, hown⟩
                 rw [hpl2]
                 clear hpl2
                 obtain ⟨yk, yb, yn, ys, ypl, ynl, ycl, ypk, ynk, yck, rfl⟩ := hown.shape
                 have hbx := hb8.trans (((Keeps.refl (fun _ => False) w8).alloc (.cells #[.int .i64 yk, .bool yb, .int .i64 yn, .string ys, .slice ypl ynl ycl, .slice ypk ynk yck] 25)).below (fun _ f => f.elim) hb8.size)
                 have D9 := Lib.hid (DS7.out.got hbx)
                 have HOX := Lib.hid (VT.Own.more (S' := Made w7 (w8.alloc (.cells #[.int .i64 yk, .bool yb, .int .i64 yn, .string ys, .slice ypl ynl ycl, .slice ypk ynk yck] 25))) (fun k hk => ⟨hk.1, by rw [World.size_alloc]; have := hk.2; omega⟩) (hown.keeps ((Keeps.refl (fun _ => False) w8).alloc (.cells #[.int .i64 yk, .bool yb, .int .i64 yn, .string ys, .slice ypl ynl ycl, .slice ypk ynk yck] 25)) (fun q hq => ⟨hq.2, fun h => h⟩)))
                 have HBX := Lib.hid hbx
                 have XB := Lib.hid (Box.new w8 #[.int .i64 yk, .bool yb, .int .i64 yn, .string ys, .slice ypl ynl ycl, .slice ypk ynk yck])
                 clear hbx hb8 hown
                 go_upto_region 23 with fail
                 obtain ⟨x0, x1, x2, x3, x4, x5⟩ := XB.out.cell
                 obtain ⟨b0, b1, b2, b3, b4, b5⟩ := D9.out.box1.cell
                 have hsz9 := D9.out.box1.lt
                 rw [World.size_alloc] at hsz9
                 have W9 := Lib.hid (own_keeps D9.out.row.1 ((Keeps.refl (fun _ => False) (w8.alloc (.cells #[.int .i64 yk, .bool yb, .int .i64 yn, .string ys, .slice ypl ynl ycl, .slice ypk ynk yck] 25))).alloc (.cells #[.int .i64 yk, .bool yb, .int .i64 yn, .string ys, .slice ypl ynl ycl, .slice ypk ynk yck] 25)) (fun k f => f.elim))
                 have HLS9 := Lib.hid (six_cells (w8.alloc (.cells #[.int .i64 yk, .bool yb, .int .i64 yn, .string ys, .slice ypl ynl ycl, .slice ypk ynk yck] 25)) (.int .i64 yk) (.bool yb) (.int .i64 yn) (.string ys) (.slice ypl ynl ycl) (.slice ypk ynk yck))
                 rw [World.size_alloc] at HLS9
                 go_wp2_with (at_builtin; go_must (refine wpList_append_lies _ rfl (.tmp 111) (.tmp 113) 22 rfl (w.heap.size + 2) 25 i0 _ 6 88 Try.underlying22 hi0 hz0 hz1 hz2 rfl (by decide) (.slice pl ts.length cl) ts.length xs rfl W9.out ⟨w8.heap.size + 1, 0, none⟩ 1 1 [.int .i64 yk, .bool yb, .int .i64 yn, .string ys, .slice ypl ynl ycl, .slice ypk ynk yck] rfl rfl HLS9.out (six_one yk yn yb ys ypl ypk ynl ycl ynk yck) (by decide) ?c2a ?c3a (by simp only [World.size_alloc]; omega) _ rfl ?_))
                 case c2a => have := HLE2.out; unfold maxLen; omega
                 case c3a => have := HLE2.out; omega
                 intro g' cap' w9 hrow9 hg9 hl9 hlt9
                 have HDS := Lib.hid (DS7.out.val HBX.out HOX.out hrow9 hg9 (hl9.imp id (fun e => e.trans (by rw [World.size_alloc, World.size_alloc]))))
                 clear hrow9 hg9 hl9 hlt9 x0 x1 x2 x3 x4 x5 b0 b1 b2 b3 b4 b5 hsz9
                 have hf := fun i => box_free HDS.out.1 i
                 obtain ⟨b0, b1, b2, b3, b4, b5⟩ := HDS.out.1.cell
                 go_upto_region 24 with fail
                 clear hf b0 b1 b2 b3 b4 b5
                 have HF : Hid (TRel true 5 d L n all (all.drop at_) p w (j + 1) p2 at2 (ts ++ [t]) (ks ++ [key]) (.slice (some ⟨g', 0, none⟩) (ts.length + 1) cap') _ _ (w9.setCell ⟨w.heap.size + 1, 4, none⟩ (.slice (some ⟨g', 0, none⟩) (ts.length + 1) cap'))) := Lib.hid
                   ⟨HDS.out.2, HE.out, HAT2.out, HLE2.out.1, by rw [List.length_append, List.length_singleton]; exact HLE2.out.2, by have := HL.out.klen; simp only [cond_true] at this; simp [this]⟩
                 clear HDS HLS9 W9 XB HBX HOX D9
                 generalize w9.setCell ⟨w.heap.size + 1, 4, none⟩ (.slice (some ⟨g', 0, none⟩) (ts.length + 1) cap') = w10 at *
                 have hj64 : (j : Int) + 1 < 18446744073709551616 := by have := HN64.out; have := HJ.out; omega
                 have HJ64 := Lib.hid hj64
                 clear hj64
                 go_wp2
                 go_roundw
                 case rel => exact ⟨j + 1, p2, at2, ts ++ [t], ks ++ [key], _, _, _, rfl, rfl, by have := HJ64.out; simp only [IntKind.wrap_u64]; congr 1; omega, HJ.out, HF⟩
                 case measure => have := HJ64.out; have := HJ.out; simp [intOf, IntKind.wrap_u64]; omega
             · obtain ⟨jn, hjn1⟩ : ∃ jn, ks.length = jn + 1 := ⟨ks.length - 1, by have : ks.length ≠ 0 := fun h => hk0 (List.length_eq_zero_iff.1 h); omega⟩
               have hkl : ks.length ≤ 4096 := by have h1 := HL.out.klen; simp only [cond_true] at h1; have := HL.out.few; have := HL.out.le; omega
               obtain ⟨kb, rfl, -, -, cs, hcs, hcs1, hcs2⟩ := hkb (by omega)
               obtain ⟨last, hlast⟩ : ∃ x, ks.getLastD ByteArray.empty = x := ⟨_, rfl⟩
               have hcell : wr.cell? ⟨kb, jn, none⟩ = some (.string last) := by
                 refine VT.cell_of hcs ?_
                 rw [hcs2 jn (by omega), ← ks_last ks ByteArray.empty jn hjn1, hlast]
               rw [hlast] at hnx
               have hsub : wrap64 ((ks.length : Int) - 1) = (jn : Int) := by unfold wrap64; omega
               have hlt : (jn : Int) < (ks.length : Int) := by omega
               have t3 : decide (0 < ks.length) = true := by simp; omega
               have t4 : decide ((0 : Int) < (ks.length : Int)) = true := by simp; omega
               have htri := less_tri last.toList key.toList
               clear hk0 hjn1 hkl hkb hcs hcs1 hcs2 hlast
               cases hless : Op.bytesLess last.toList key.toList with
               | false =>
                 rw [hless] at htri hnx
                 have HE : Hid (dictQ d p n (all.drop at_) = .error 1) := Lib.hid (by unfold dictQ; rw [HL.out.same, rowsA_stepM HJ.out, hnx]; rfl)
                 have k3 : (Op.bytesLess key.toList last.toList || key.toList == last.toList) = true := htri
                 clear hnx htri
                 have hf := fun i => box_free HDT.out.box0 i
                 obtain ⟨z0, z1, z2, z3, z4, z5⟩ := HDT.out.box0.cell
                 have hlt0 := HDT.out.box0.lt
                 have HS := Lib.hid (box_six HDT.out.box0 (.int .i64 0) (.bool false) (.int .i64 0) (.string ⟨#[]⟩) (.slice none 0 0) (.slice none 0 0))
                 go_wp2
                 obtain ⟨q0, q1, q2, q3, q4, q5⟩ := HS.out.cell
                 unfold six at q0 q1 q2 q3 q4 q5
                 refine bodyPost_ret (v := .tuple #[.agg #[.int .i64 0, .bool false, .int .i64 0, .string ⟨#[]⟩, .slice none 0 0, .slice none 0 0], .int .i64 0, .int .i64 0, .int .i64 1]) (by simp [results, Try.results71, go_sem, q0, q1, q2, q3, q4, q5]) rfl ?_
                 rw [HE.out]
                 exact HDT.out.fault L _
               | true =>
                 rw [hless] at htri hnx
                 have HNX : Hid (nextP ks (all.drop at1) = .ok (ks ++ [key], all.drop at3)) := Lib.hid hnx
                 have k3 : (Op.bytesLess key.toList last.toList || key.toList == last.toList) = false := htri
                 clear hnx htri
                 have hklen : ks.length ≤ 4096 := by have h1 := HL.out.klen; simp only [cond_true] at h1; have := HL.out.few; have := HL.out.le; omega
                 have HKL := Lib.hid hklen
                 clear hklen
                 go_upto_region 18 with fail
                 have V5a := Lib.hid (own_keeps HDT.out.keys ((Keeps.refl (fun _ => False) wr).alloc (.cells #[.string key] 9)) (fun j hj => hj.elim))
                 have HLS := Lib.hid (lit_str wr key)
                 have hb6 : w.heap.size + 2 ≤ (wr.alloc (.cells #[.string key] 9)).heap.size := by have := HDT.out.box1.lt; rw [World.size_alloc]; omega
                 go_wp2_with (at_builtin; go_must (refine wpList_append_lies _ rfl (.tmp 89) (.tmp 91) 23 rfl (w.heap.size + 2) 9 j0 (.string ⟨#[]⟩) 1 16 Try.underlying23 hj0 jz0 jz1 jz2 rfl (by decide) (.slice (some ⟨kb, 0, none⟩) ks.length ck) ks.length (ks.map Value.string) rfl V5a.out ⟨wr.heap.size, 0, none⟩ 1 1 [.string key] rfl rfl HLS.out (str_one key) (by decide) ?a1b ?a2b hb6 _ rfl ?_))
                 case a1b => have := HKL.out; unfold maxLen; omega
                 case a2b => have := HKL.out; omega
                 intro g6 cap6 w6 hrow6 hg6 hl6 hlt6
                 have HDS6 := Lib.hid (HDT.out.key key hrow6 hg6 (hl6.imp id (fun e => e.trans (World.size_alloc _ _).symm)))
                 clear hrow6 hg6 hl6 hlt6 b0 b1 b2 b3 b4 b5
                 have hf := fun i => box_free HDS6.out.1 i
                 obtain ⟨b0, b1, b2, b3, b4, b5⟩ := HDS6.out.1.cell
                 go_upto_region 19 with fail
                 clear hf b0 b1 b2 b3 b4 b5
                 have DS7 := Lib.hid HDS6.out.2
                 clear HDS6 V5a HLS hb6
                 generalize w6.setCell ⟨w.heap.size + 1, 5, none⟩ (.slice (some ⟨g6, 0, none⟩) (ks.length + 1) cap6) = w7 at *
                 have HV := Lib.hid (IH.out at3 p1 w7 (HDAT.out.below DS7.out.low) HAT.out HL.out.le)
                 go_wp2_with fail
                 refine HV.out.mono ?_
                 cases hv : parseV d p1 (all.drop at3) with
                 | error c =>
                   have HE : Hid (dictQ d p n (all.drop at_) = .error c) := Lib.hid (by unfold dictQ; rw [HL.out.same, rowsA_stepM HJ.out, HNX.out, thenP_ok, hv]; rfl)
                   have hc : (c != 0) = true := by unfold bne; rw [parse_err hv]; rfl
                   rintro e w8 ⟨hb8, rfl⟩
                   have D8 := Lib.hid ((DS7.out.got hb8).got (((Keeps.refl (fun _ => False) w8).alloc (.cells #[.int .i64 0, .bool false, .int .i64 0, .string ⟨#[]⟩, .slice none 0 0, .slice none 0 0] 25)).below (fun _ f => f.elim) (Nat.le_refl _)))
                   clear hb8 hv
                   have hf := fun i => box_free D8.out.box0 i
                   obtain ⟨z0, z1, z2, z3, z4, z5⟩ := D8.out.box0.cell
                   have hlt0 := D8.out.box0.lt
                   have HS := Lib.hid (box_six D8.out.box0 (.int .i64 0) (.bool false) (.int .i64 0) (.string ⟨#[]⟩) (.slice none 0 0) (.slice none 0 0))
                   go_wp2
                   obtain ⟨q0, q1, q2, q3, q4, q5⟩ := HS.out.cell
                   unfold six at q0 q1 q2 q3 q4 q5
                   refine bodyPost_ret (v := .tuple #[.agg #[.int .i64 0, .bool false, .int .i64 0, .string ⟨#[]⟩, .slice none 0 0, .slice none 0 0], .int .i64 0, .int .i64 0, .int .i64 c]) (by simp [results, Try.results71, go_sem, q0, q1, q2, q3, q4, q5]) rfl ?_
                   rw [HE.out]
                   exact D8.out.fault L _
                 | ok y =>
                   obtain ⟨t, p2, cur2⟩ := y
                   have hright := parse_right d _ _ _ _ _ hv
                   obtain ⟨at2, hat2, hcur2, hpl2, -⟩ := drop_rest HLL.out HAT.out hright.2.2
                   subst hcur2
                   have hle2 : p2 ≤ 4096 ∧ ts.length + 1 ≤ p2 := by
                     have h1 := Val.mayV_le t _ _ _ hright.1
                     have h2 := HL.out.few
                     omega
                   have HLE2 := Lib.hid hle2
                   have HAT2 := Lib.hid hat2
                   have HE : Hid (rowsA (parseV d) true n p [] [] (all.drop at_) = rowsA (parseV d) true (n - (j + 1)) p2 (ts ++ [t]) (ks ++ [key]) (all.drop at2)) := Lib.hid (by rw [HL.out.same, rowsA_stepM HJ.out, HNX.out, thenP_ok, hv]; rfl)
                   clear hright hle2 hv hat2
                   rintro e w8 ⟨hb8, v, rfl, hown⟩
                   rw [hpl2]
                   clear hpl2
                   obtain ⟨yk, yb, yn, ys, ypl, ynl, ycl, ypk, ynk, yck, rfl⟩ := hown.shape
                   have hbx := hb8.trans (((Keeps.refl (fun _ => False) w8).alloc (.cells #[.int .i64 yk, .bool yb, .int .i64 yn, .string ys, .slice ypl ynl ycl, .slice ypk ynk yck] 25)).below (fun _ f => f.elim) hb8.size)
                   have D9 := Lib.hid (DS7.out.got hbx)
                   have HOX := Lib.hid (VT.Own.more (S' := Made w7 (w8.alloc (.cells #[.int .i64 yk, .bool yb, .int .i64 yn, .string ys, .slice ypl ynl ycl, .slice ypk ynk yck] 25))) (fun k hk => ⟨hk.1, by rw [World.size_alloc]; have := hk.2; omega⟩) (hown.keeps ((Keeps.refl (fun _ => False) w8).alloc (.cells #[.int .i64 yk, .bool yb, .int .i64 yn, .string ys, .slice ypl ynl ycl, .slice ypk ynk yck] 25)) (fun q hq => ⟨hq.2, fun h => h⟩)))
                   have HBX := Lib.hid hbx
                   have XB := Lib.hid (Box.new w8 #[.int .i64 yk, .bool yb, .int .i64 yn, .string ys, .slice ypl ynl ycl, .slice ypk ynk yck])
                   clear hbx hb8 hown
                   go_upto_region 23 with fail
                   obtain ⟨x0, x1, x2, x3, x4, x5⟩ := XB.out.cell
                   obtain ⟨b0, b1, b2, b3, b4, b5⟩ := D9.out.box1.cell
                   have hsz9 := D9.out.box1.lt
                   rw [World.size_alloc] at hsz9
                   have W9 := Lib.hid (own_keeps D9.out.row.1 ((Keeps.refl (fun _ => False) (w8.alloc (.cells #[.int .i64 yk, .bool yb, .int .i64 yn, .string ys, .slice ypl ynl ycl, .slice ypk ynk yck] 25))).alloc (.cells #[.int .i64 yk, .bool yb, .int .i64 yn, .string ys, .slice ypl ynl ycl, .slice ypk ynk yck] 25)) (fun k f => f.elim))
                   have HLS9 := Lib.hid (six_cells (w8.alloc (.cells #[.int .i64 yk, .bool yb, .int .i64 yn, .string ys, .slice ypl ynl ycl, .slice ypk ynk yck] 25)) (.int .i64 yk) (.bool yb) (.int .i64 yn) (.string ys) (.slice ypl ynl ycl) (.slice ypk ynk yck))
                   rw [World.size_alloc] at HLS9
                   go_wp2_with (at_builtin; go_must (refine wpList_append_lies _ rfl (.tmp 111) (.tmp 113) 22 rfl (w.heap.size + 2) 25 i0 _ 6 88 Try.underlying22 hi0 hz0 hz1 hz2 rfl (by decide) (.slice pl ts.length cl) ts.length xs rfl W9.out ⟨w8.heap.size + 1, 0, none⟩ 1 1 [.int .i64 yk, .bool yb, .int .i64 yn, .string ys, .slice ypl ynl ycl, .slice ypk ynk yck] rfl rfl HLS9.out (six_one yk yn yb ys ypl ypk ynl ycl ynk yck) (by decide) ?c2b ?c3b (by simp only [World.size_alloc]; omega) _ rfl ?_))
                   case c2b => have := HLE2.out; unfold maxLen; omega
                   case c3b => have := HLE2.out; omega
                   intro g' cap' w9 hrow9 hg9 hl9 hlt9
                   have HDS := Lib.hid (DS7.out.val HBX.out HOX.out hrow9 hg9 (hl9.imp id (fun e => e.trans (by rw [World.size_alloc, World.size_alloc]))))
                   clear hrow9 hg9 hl9 hlt9 x0 x1 x2 x3 x4 x5 b0 b1 b2 b3 b4 b5 hsz9
                   have hf := fun i => box_free HDS.out.1 i
                   obtain ⟨b0, b1, b2, b3, b4, b5⟩ := HDS.out.1.cell
                   go_upto_region 24 with fail
                   clear hf b0 b1 b2 b3 b4 b5
                   have HF : Hid (TRel true 5 d L n all (all.drop at_) p w (j + 1) p2 at2 (ts ++ [t]) (ks ++ [key]) (.slice (some ⟨g', 0, none⟩) (ts.length + 1) cap') _ _ (w9.setCell ⟨w.heap.size + 1, 4, none⟩ (.slice (some ⟨g', 0, none⟩) (ts.length + 1) cap'))) := Lib.hid
                     ⟨HDS.out.2, HE.out, HAT2.out, HLE2.out.1, by rw [List.length_append, List.length_singleton]; exact HLE2.out.2, by have := HL.out.klen; simp only [cond_true] at this; simp [this]⟩
                   clear HDS HLS9 W9 XB HBX HOX D9
                   generalize w9.setCell ⟨w.heap.size + 1, 4, none⟩ (.slice (some ⟨g', 0, none⟩) (ts.length + 1) cap') = w10 at *
                   have hj64 : (j : Int) + 1 < 18446744073709551616 := by have := HN64.out; have := HJ.out; omega
                   have HJ64 := Lib.hid hj64
                   clear hj64
                   go_wp2
                   go_roundw
                   case rel => exact ⟨j + 1, p2, at2, ts ++ [t], ks ++ [key], _, _, _, rfl, rfl, by have := HJ64.out; simp only [IntKind.wrap_u64]; congr 1; omega, HJ.out, HF⟩
                   case measure => have := HJ64.out; have := HJ.out; simp [intOf, IntKind.wrap_u64]; omega
   · obtain rfl : j = n := by omega
     have hf := fun i => box_free HL.out.dt.box0 i
     obtain ⟨pl, cl, hlv, -⟩ := HL.out.dt.row.slice
     obtain ⟨pk, ck, hkv, -⟩ := keys_form HL.out.dt.keys rfl
     subst hlv hkv
     obtain ⟨b0, b1, b2, b3, b4, b5⟩ := HL.out.dt.box1.cell
     obtain ⟨z0, z1, z2, z3, z4, z5⟩ := HL.out.dt.box0.cell
     have hlt0 := HL.out.dt.box0.lt
     have HS := Lib.hid (box_six HL.out.dt.box0 (.int .i64 5) (.bool false) (.int .i64 0) (.string ⟨#[]⟩) (.slice pl ts.length cl) (.slice pk ks.length ck))
     have HE : Hid (dictQ d p j (all.drop at_) = .ok (.mk 5 false 0 E0 ts ks, p1, all.drop at1)) := Lib.hid (by
       unfold dictQ
       rw [HL.out.same, Nat.sub_self]
       rfl)
     have HPL : Hid ((L : Int) - ((all.drop at1).length : Int) = (at1 : Int)) := Lib.hid (by have := HL.out.at_; rw [List.length_drop, HLL.out]; omega)
     go_wp2
     obtain ⟨q0, q1, q2, q3, q4, q5⟩ := HS.out.cell
     unfold six at q0 q1 q2 q3 q4 q5
     refine bodyPost_ret (v := .tuple #[.agg #[.int .i64 5, .bool false, .int .i64 0, .string ⟨#[]⟩, .slice pl ts.length cl, .slice pk ks.length ck], .int .i64 (at1 : Int), .int .i64 (p1 : Int), .int .i64 0]) (by simp [results, Try.results71, go_sem, q0, q1, q2, q3, q4, q5]) rfl ?_
     have hk6 := keeps_six (Keeps.refl (· = w.heap.size) wr) (.inl rfl) (.int .i64 5) (.bool false) (.int .i64 0) (.string ⟨#[]⟩) (.slice pl ts.length cl) (.slice pk ks.length ck)
     rw [HE.out]
     refine ⟨HL.out.dt.low.trans (hk6.below (fun k e => by omega) HL.out.dt.low.size), _, ?_, own_map HL.out.dt.row HL.out.dt.keys hk6 (by omega)⟩
     show _ = Ending.returned (.tuple #[_, .int .i64 ((L : Int) - ((all.drop at1).length : Int)), .int .i64 (p1 : Int), .int .i64 0])
     rw [HPL.out]
end Pk
end Go.Proofs.Ytmhlipncelgmlaa
