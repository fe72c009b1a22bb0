/- The document's reader of values: a list's rows. -/
import Derived.Test.YtmhlipncelgmlaaPkRefE
namespace Go.Proofs.Ytmhlipncelgmlaa
open Go.RowKit
set_option linter.unusedVariables false
set_option linter.unusedSimpArgs false
namespace Pk
open Val (VT Keeps Box StrBlock)
open Rk (info_parts)
set_option maxRecDepth 100000 in
set_option maxHeartbeats 8000000 in
theorem refList_any (d : Nat) (a : Option Addr) (c0 L : Nat) (all : List UInt8) (at_ p n : Nat) (w : World) (D : Int) (IH : Hid (ReadIH d a c0 L all)) (h : Data w a c0 L all) (hat : at_ ≤ L) (hp : p ≤ 4096) (hn : n < 18446744073709551616) (hd : d ≤ 32) (hD : D = (d : Int) + 1) :
    Calls Try.prog 71 #[.slice a L c0, .int .i64 (at_ : Int), .int .i64 D, .int .i64 (p : Int), .bool false, .int .u64 (n : Int)] w (RefPost L w (listQ d p n (all.drop at_))) := by
  obtain ⟨i0, hi0, hz0, hz1, hz2⟩ := info_parts info26
  obtain ⟨j0, hj0, jz0, jz1, jz2⟩ := info_parts infoS
  have hdw : IntKind.i64.wrap (D - 1) = (d : Int) := by simp [IntKind.wrap, IntKind.bits, IntKind.signed]; omega
  have hdw2 : wrap64 (D - 1) = (d : Int) := by unfold wrap64; omega
  have HDAT := Lib.hid h
  have HLL := Lib.hid h.len
  have HN64 := Lib.hid hn
  clear hD
  have HL0 : Hid (TRel false 4 d L n all (all.drop at_) p w 0 p at_ [] [] (.slice none 0 0) (.slice none 0 0) [] ((w.alloc (.cells #[.int .i64 0, .bool false, .int .i64 0, .string ⟨#[]⟩, .slice none 0 0, .slice none 0 0] 25)).alloc (.cells #[.int .i64 4, .bool false, .int .i64 0, .string ⟨#[]⟩, .slice none 0 0, .slice none 0 0] 25))) := Lib.hid ⟨DT.start4 w, rfl, hat, hp, by simp, rfl⟩
  clear h hat hp hn
  go_enter Try.func71, Try.ntmps71
  go_wp2
  go_loopw [1, 3, 17] (fun av pv iv wr => ∃ (j p1 at1 : Nat) (ts : List VT) (lv : Value) (xs : List Value), av = .int .i64 (at1 : Int) ∧ pv = .int .i64 (p1 : Int) ∧ iv = .int .u64 (j : Int) ∧ j ≤ n ∧ Hid (TRel false 4 d L n all (all.drop at_) p w j p1 at1 ts [] lv (.slice none 0 0) xs wr)) (fun _ _ iv _ => (n - (intOf iv).toNat))
  case atStart => exact ⟨0, p, at_, [], _, _, rfl, rfl, rfl, Nat.zero_le _, HL0⟩
  case round =>
   obtain ⟨j, p1, at1, ts, lv, xs, rfl, rfl, rfl, hj, HL⟩ := hrel
   clear HL0
   by_cases hjn : j < n
   · have hjn2 : (j : Int) < n := by omega
     have HJ := Lib.hid hjn
     clear hjn hj
     obtain ⟨pl, cl, hlv, -⟩ := HL.out.dt.row.slice
     subst hlv
     have HDT := Lib.hid HL.out.dt
     have HAT := Lib.hid HL.out.at_
     have HV := Lib.hid (IH.out at1 p1 wr (HDAT.out.below HDT.out.low) HAT.out HL.out.le)
     go_wp2_with fail
     refine HV.out.mono ?_
     cases hv : parseV d p1 (all.drop at1) with
     | error c =>
       have HE : Hid (listQ d p n (all.drop at_) = .error c) := Lib.hid (by unfold listQ; rw [HL.out.same, rowsA_step HJ.out, hv]; rfl)
       have hc : (c != 0) = true := by unfold bne; rw [parse_err hv]; rfl
       rintro e w8 ⟨hb8, rfl⟩
       have D8 := Lib.hid ((HDT.out.got hb8).got (((Keeps.refl (fun _ => False) w8).alloc (.cells #[.int .i64 0, .bool false, .int .i64 0, .string ⟨#[]⟩, .slice none 0 0, .slice none 0 0] 25)).below (fun _ f => f.elim) (Nat.le_refl _)))
       clear hb8 hv
       have hf := fun i => box_free D8.out.box0 i
       obtain ⟨z0, z1, z2, z3, z4, z5⟩ := D8.out.box0.cell
       have hlt0 := D8.out.box0.lt
       have HS := Lib.hid (box_six D8.out.box0 (.int .i64 0) (.bool false) (.int .i64 0) (.string ⟨#[]⟩) (.slice none 0 0) (.slice none 0 0))
       go_wp2
       obtain ⟨q0, q1, q2, q3, q4, q5⟩ := HS.out.cell
       unfold six at q0 q1 q2 q3 q4 q5
       refine bodyPost_ret (v := .tuple #[.agg #[.int .i64 0, .bool false, .int .i64 0, .string ⟨#[]⟩, .slice none 0 0, .slice none 0 0], .int .i64 0, .int .i64 0, .int .i64 c]) (by simp [results, Try.results71, go_sem, q0, q1, q2, q3, q4, q5]) rfl ?_
       rw [HE.out]
       exact D8.out.fault L _
     | ok y =>
       obtain ⟨t, p2, cur2⟩ := y
       have hright := parse_right d _ _ _ _ _ hv
       obtain ⟨at2, hat2, hcur2, hpl2, -⟩ := drop_rest HLL.out HAT.out hright.2.2
       subst hcur2
       have hle2 : p2 ≤ 4096 ∧ ts.length + 1 ≤ p2 := by
         have h1 := Val.mayV_le t _ _ _ hright.1
         have h2 := HL.out.few
         omega
       have HLE2 := Lib.hid hle2
       have HAT2 := Lib.hid hat2
       have HE : Hid (rowsA (parseV d) false n p [] [] (all.drop at_) = rowsA (parseV d) false (n - (j + 1)) p2 (ts ++ [t]) [] (all.drop at2)) := Lib.hid (by rw [HL.out.same, rowsA_step HJ.out, hv]; rfl)
       clear hright hle2 hv hat2
       rintro e w8 ⟨hb8, v, rfl, hown⟩
       rw [hpl2]
       clear hpl2
       obtain ⟨yk, yb, yn, ys, ypl, ynl, ycl, ypk, ynk, yck, rfl⟩ := hown.shape
       have hbx := hb8.trans (((Keeps.refl (fun _ => False) w8).alloc (.cells #[.int .i64 yk, .bool yb, .int .i64 yn, .string ys, .slice ypl ynl ycl, .slice ypk ynk yck] 25)).below (fun _ f => f.elim) hb8.size)
       have D9 := Lib.hid (HDT.out.got hbx)
       have HOX := Lib.hid (VT.Own.more (S' := Made wr (w8.alloc (.cells #[.int .i64 yk, .bool yb, .int .i64 yn, .string ys, .slice ypl ynl ycl, .slice ypk ynk yck] 25))) (fun k hk => ⟨hk.1, by rw [World.size_alloc]; have := hk.2; omega⟩) (hown.keeps ((Keeps.refl (fun _ => False) w8).alloc (.cells #[.int .i64 yk, .bool yb, .int .i64 yn, .string ys, .slice ypl ynl ycl, .slice ypk ynk yck] 25)) (fun q hq => ⟨hq.2, fun h => h⟩)))
       have HBX := Lib.hid hbx
       have XB := Lib.hid (Box.new w8 #[.int .i64 yk, .bool yb, .int .i64 yn, .string ys, .slice ypl ynl ycl, .slice ypk ynk yck])
       clear hbx hb8 hown
       go_upto_region 23 with fail
       obtain ⟨x0, x1, x2, x3, x4, x5⟩ := XB.out.cell
       obtain ⟨b0, b1, b2, b3, b4, b5⟩ := D9.out.box1.cell
       have hsz9 := D9.out.box1.lt
       rw [World.size_alloc] at hsz9
       have W9 := Lib.hid (own_keeps D9.out.row.1 ((Keeps.refl (fun _ => False) (w8.alloc (.cells #[.int .i64 yk, .bool yb, .int .i64 yn, .string ys, .slice ypl ynl ycl, .slice ypk ynk yck] 25))).alloc (.cells #[.int .i64 yk, .bool yb, .int .i64 yn, .string ys, .slice ypl ynl ycl, .slice ypk ynk yck] 25)) (fun k f => f.elim))
       have HLS9 := Lib.hid (six_cells (w8.alloc (.cells #[.int .i64 yk, .bool yb, .int .i64 yn, .string ys, .slice ypl ynl ycl, .slice ypk ynk yck] 25)) (.int .i64 yk) (.bool yb) (.int .i64 yn) (.string ys) (.slice ypl ynl ycl) (.slice ypk ynk yck))
       rw [World.size_alloc] at HLS9
       go_wp2_with (at_builtin; go_must (refine wpList_append_lies _ rfl (.tmp 111) (.tmp 113) 22 rfl (w.heap.size + 2) 25 i0 _ 6 88 Try.underlying22 hi0 hz0 hz1 hz2 rfl (by decide) (.slice pl ts.length cl) ts.length xs rfl W9.out ⟨w8.heap.size + 1, 0, none⟩ 1 1 [.int .i64 yk, .bool yb, .int .i64 yn, .string ys, .slice ypl ynl ycl, .slice ypk ynk yck] rfl rfl HLS9.out (six_one yk yn yb ys ypl ypk ynl ycl ynk yck) (by decide) ?c2 ?c3 (by simp only [World.size_alloc]; omega) _ rfl ?_))
       case c2 => have := HLE2.out; unfold maxLen; omega
       case c3 => have := HLE2.out; omega
       intro g' cap' w9 hrow9 hg9 hl9 hlt9
       have HDS := Lib.hid (HDT.out.val HBX.out HOX.out hrow9 hg9 (hl9.imp id (fun e => e.trans (by rw [World.size_alloc, World.size_alloc]))))
       clear hrow9 hg9 hl9 hlt9 x0 x1 x2 x3 x4 x5 b0 b1 b2 b3 b4 b5 hsz9
       have hf := fun i => box_free HDS.out.1 i
       obtain ⟨b0, b1, b2, b3, b4, b5⟩ := HDS.out.1.cell
       go_upto_region 24 with fail
       clear hf b0 b1 b2 b3 b4 b5
       have HF : Hid (TRel false 4 d L n all (all.drop at_) p w (j + 1) p2 at2 (ts ++ [t]) [] (.slice (some ⟨g', 0, none⟩) (ts.length + 1) cap') _ _ (w9.setCell ⟨w.heap.size + 1, 4, none⟩ (.slice (some ⟨g', 0, none⟩) (ts.length + 1) cap'))) := Lib.hid
         ⟨HDS.out.2, HE.out, HAT2.out, HLE2.out.1, by rw [List.length_append, List.length_singleton]; exact HLE2.out.2, rfl⟩
       clear HDS HLS9 W9 XB HBX HOX D9
       generalize w9.setCell ⟨w.heap.size + 1, 4, none⟩ (.slice (some ⟨g', 0, none⟩) (ts.length + 1) cap') = w10 at *
       have hj64 : (j : Int) + 1 < 18446744073709551616 := by have := HN64.out; have := HJ.out; omega
       have HJ64 := Lib.hid hj64
       clear hj64
       go_wp2
       go_roundw
       case rel => exact ⟨j + 1, p2, at2, ts ++ [t], _, _, rfl, rfl, by have := HJ64.out; simp only [IntKind.wrap_u64]; congr 1; omega, HJ.out, HF⟩
       case measure => have := HJ64.out; have := HJ.out; simp [intOf, IntKind.wrap_u64]; omega
   · obtain rfl : j = n := by omega
     have hf := fun i => box_free HL.out.dt.box0 i
     obtain ⟨pl, cl, hlv, -⟩ := HL.out.dt.row.slice
     subst hlv
     obtain ⟨b0, b1, b2, b3, b4, b5⟩ := HL.out.dt.box1.cell
     obtain ⟨z0, z1, z2, z3, z4, z5⟩ := HL.out.dt.box0.cell
     have hlt0 := HL.out.dt.box0.lt
     have HS := Lib.hid (box_six HL.out.dt.box0 (.int .i64 4) (.bool false) (.int .i64 0) (.string ⟨#[]⟩) (.slice pl ts.length cl) (.slice none 0 0))
     have HE : Hid (listQ d p j (all.drop at_) = .ok (.mk 4 false 0 E0 ts [], p1, all.drop at1)) := Lib.hid (by
       unfold listQ
       rw [HL.out.same, Nat.sub_self]
       rfl)
     have HPL : Hid ((L : Int) - ((all.drop at1).length : Int) = (at1 : Int)) := Lib.hid (by have := HL.out.at_; rw [List.length_drop, HLL.out]; omega)
     go_wp2
     obtain ⟨q0, q1, q2, q3, q4, q5⟩ := HS.out.cell
     unfold six at q0 q1 q2 q3 q4 q5
     refine bodyPost_ret (v := .tuple #[.agg #[.int .i64 4, .bool false, .int .i64 0, .string ⟨#[]⟩, .slice pl ts.length cl, .slice none 0 0], .int .i64 (at1 : Int), .int .i64 (p1 : Int), .int .i64 0]) (by simp [results, Try.results71, go_sem, q0, q1, q2, q3, q4, q5]) rfl ?_
     have hk6 := keeps_six (Keeps.refl (· = w.heap.size) wr) (.inl rfl) (.int .i64 4) (.bool false) (.int .i64 0) (.string ⟨#[]⟩) (.slice pl ts.length cl) (.slice none 0 0)
     rw [HE.out]
     refine ⟨HL.out.dt.low.trans (hk6.below (fun k e => by omega) HL.out.dt.low.size), _, ?_, own_list (R := 0) (HL.out.dt.row.beside (N' := fun _ => False) (fun _ f => f.elim)) (by omega) hk6 (by omega)⟩
     show _ = Ending.returned (.tuple #[_, .int .i64 ((L : Int) - ((all.drop at1).length : Int)), .int .i64 (p1 : Int), .int .i64 0])
     rw [HPL.out]
end Pk
end Go.Proofs.Ytmhlipncelgmlaa
