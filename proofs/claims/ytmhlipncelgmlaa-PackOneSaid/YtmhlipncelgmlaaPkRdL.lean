/- Bytes as values: the reader's lists. -/
import Derived.Test.YtmhlipncelgmlaaPkOwn
namespace Go.Proofs.Ytmhlipncelgmlaa
open Go.RowKit
set_option linter.unusedVariables false
set_option linter.unusedSimpArgs false
namespace Pk
open Val (VT Keeps Box StrBlock)
open Rk (info_parts)
structure LRel (d R B n : Nat) (l0 : List UInt8) (p : Nat) (w : World) (j p1 : Nat) (ts : List VT) (cur : List UInt8) (lv : Value) (xs : List Value) (wr : World) : Prop where
  rd : Rb wr R B cur (p1 : Int)
  same : rowsA (parseV d) false n p [] [] l0 = rowsA (parseV d) false (n - j) p1 ts [] cur
  le : p1 ≤ 4096
  few : ts.length ≤ p1
  box0 : Box wr w.heap.size #[.int .i64 0, .bool false, .int .i64 0, .string ⟨#[]⟩, .slice none 0 0, .slice none 0 0]
  box1 : Box wr (w.heap.size + 1) #[.int .i64 4, .bool false, .int .i64 0, .string ⟨#[]⟩, lv, .slice none 0 0]
  row : RowW (w.heap.size + 2) (fun _ => False) ts wr lv xs
  keeps : Keeps (· = R) w wr
def listP (d p : Nat) (l : List UInt8) : Except Int (VT × Nat × List UInt8) := thenP (numP l) fun x => thenP (rowsA (parseV d) false x.1 p [] [] x.2) fun y => .ok (.mk 4 false 0 E0 y.1.1 [], y.2)
theorem listP_no {d p : Nat} {l : List UInt8} {c : Int} (h : numP l = .error c) : listP d p l = .error c := by unfold listP; rw [h]; rfl
theorem listP_ok {d p n : Nat} {l r : List UInt8} (h : numP l = .ok (n, r)) : listP d p l = thenP (rowsA (parseV d) false n p [] [] r) fun y => .ok (.mk 4 false 0 E0 y.1.1 [], y.2) := by unfold listP; rw [h]; rfl
theorem rowsA_step {pv : Nat → List UInt8 → Except Int (VT × Nat × List UInt8)} {n j p1 : Nat} {ts : List VT} {ks : List ByteArray} {cur : List UInt8} (h : j < n) : rowsA pv false (n - j) p1 ts ks cur = thenP (pv p1 cur) fun y => rowsA pv false (n - (j + 1)) y.2.1 (ts ++ [y.1]) ks y.2.2 := by
  rw [show n - j = (n - (j + 1)) + 1 by omega]
  rfl
/-- What the region of a round looks at. -/
def LS (A : Nat) (lv : Value) (V : World) : Prop := V.cell? ⟨A, 4, none⟩ = some lv
set_option maxRecDepth 100000 in
set_option maxHeartbeats 8000000 in
theorem list_any (d R B : Nat) (l : List UInt8) (p : Nat) (w : World) (D : Int) (IH : Hid (ValIH d)) (h : Rb w R B l (p : Int)) (hB : B ≤ w.heap.size) (hp : p ≤ 4096) (hd : d ≤ 32) (hD : D = 32 - (d : Int)) :
    Calls Try.prog 66 #[.pointer (some ⟨R, 0, none⟩), .int .i64 D] w (ValPost R B w (listP d p l)) := by
  obtain ⟨i0, hi0, hz0, hz1, hz2⟩ := info_parts info26
  have hRw := h.lt
  have hdw : IntKind.i64.wrap (D + 1) = 33 - (d : Int) := by simp [IntKind.wrap, IntKind.bits, IntKind.signed]; omega
  have HDW := Lib.hid hdw
  clear hD hdw
  have HN := Lib.hid (number_any R B l p _ ((h.alloc (.cells #[.int .i64 0, .bool false, .int .i64 0, .string ⟨#[]⟩, .slice none 0 0, .slice none 0 0] 25)).alloc (.cells #[.int .i64 4, .bool false, .int .i64 0, .string ⟨#[]⟩, .slice none 0 0, .slice none 0 0] 25)))
  have H0 : Hid (Box ((w.alloc (.cells #[.int .i64 0, .bool false, .int .i64 0, .string ⟨#[]⟩, .slice none 0 0, .slice none 0 0] 25)).alloc (.cells #[.int .i64 4, .bool false, .int .i64 0, .string ⟨#[]⟩, .slice none 0 0, .slice none 0 0] 25)) w.heap.size #[.int .i64 0, .bool false, .int .i64 0, .string ⟨#[]⟩, .slice none 0 0, .slice none 0 0] ∧ Box ((w.alloc (.cells #[.int .i64 0, .bool false, .int .i64 0, .string ⟨#[]⟩, .slice none 0 0, .slice none 0 0] 25)).alloc (.cells #[.int .i64 4, .bool false, .int .i64 0, .string ⟨#[]⟩, .slice none 0 0, .slice none 0 0] 25)) (w.heap.size + 1) #[.int .i64 4, .bool false, .int .i64 0, .string ⟨#[]⟩, .slice none 0 0, .slice none 0 0] ∧ Keeps (· = R) w ((w.alloc (.cells #[.int .i64 0, .bool false, .int .i64 0, .string ⟨#[]⟩, .slice none 0 0, .slice none 0 0] 25)).alloc (.cells #[.int .i64 4, .bool false, .int .i64 0, .string ⟨#[]⟩, .slice none 0 0, .slice none 0 0] 25))) := Lib.hid
    ⟨(Box.new w _).alloc _, by
      have := Box.new (w.alloc (.cells #[.int .i64 0, .bool false, .int .i64 0, .string ⟨#[]⟩, .slice none 0 0, .slice none 0 0] 25)) #[.int .i64 4, .bool false, .int .i64 0, .string ⟨#[]⟩, .slice none 0 0, .slice none 0 0]
      rwa [World.size_alloc] at this, ((Keeps.refl _ w).alloc _).alloc _⟩
  have hA0 : w.heap.size ≠ R := by omega
  have hA1 : w.heap.size + 1 ≠ R := by omega
  clear h
  go_enter Try.func66, Try.ntmps66
  go_wp2_with fail
  refine HN.out.mono ?_
  cases hr : numP l with
  | error c =>
    rintro e w1 ⟨rfl, k1⟩
    refine ⟨rfl, ?_⟩
    rw [listP_no hr]
    exact ⟨rfl, H0.out.2.2.trans k1⟩
  | ok a =>
    obtain ⟨n, r⟩ := a
    rintro e w1 ⟨rfl, g1⟩
    have HLP := Lib.hid (listP_ok (d := d) (p := p) hr)
    have hn64 := (numP_ok hr).2
    have HL0 : Hid (LRel d R B n r p w 0 p [] r (.slice none 0 0) [] w1) := Lib.hid ⟨g1.1, rfl, hp, by simp, box_keeps H0.out.1 g1.2 hA0, box_keeps H0.out.2.1 g1.2 hA1, RowW.nil _ _ _, H0.out.2.2.trans g1.2⟩
    have HN64 := Lib.hid hn64
    clear g1 H0 HN hr hn64 hp
    unfold u64V
    go_wp2
    go_loopw [9] (fun iv wr => ∃ (j p1 : Nat) (ts : List VT) (cur : List UInt8) (lv : Value) (xs : List Value), iv = .int .u64 (j : Int) ∧ j ≤ n ∧ Hid (LRel d R B n r p w j p1 ts cur lv xs wr)) (fun iv _ => (n - (intOf iv).toNat))
    case atStart => exact ⟨0, p, [], r, _, _, rfl, Nat.zero_le _, HL0⟩
    case round =>
     obtain ⟨j, p1, ts, cur, lv, xs, rfl, hj, HL⟩ := hrel
     clear HL0
     by_cases hjn : j < n
     · have hjn2 : (j : Int) < n := by omega
       have HJ := Lib.hid hjn
       have hsl := HL.out.row.slice
       obtain ⟨pl, cl, hlv, -⟩ := hsl
       subst hlv
       clear hjn hj
       go_upto_region 4 with fail
       refine wp_region_seqE (LS (w.heap.size + 1) (.slice pl ts.length cl)) 9 [0, 1, 2, 3, 4, 5, 6, 7, 8, 9] (by kernel_rfl) (by kernel_rfl) (by kernel_rfl) (by kernel_rfl) (fun _ _ e _ _ h => by cases e <;> exact h) HL.out.box1.cell.2.2.2.2.1 ?_
       refine seqE_take (o := _) (.pointer (some ⟨w.heap.size + 1, 4, none⟩)) (by conv => lhs; simp only [List.getElem?_toArray, List.getElem?_cons_succ, List.getElem?_cons_zero]) (by rfl) (by rfl) ?_ (fun _ => by rfl) (by conv => lhs; simp only [Act.put, List.setIfInBounds_toArray, List.set_cons_succ, List.set_cons_zero]) ?_
       · intro w _; go_simp
       refine seqE_take (o := _) (.slice pl ts.length cl) (by conv => lhs; simp only [List.getElem?_toArray, List.getElem?_cons_succ, List.getElem?_cons_zero]) (by rfl) (by rfl) ?_ (fun _ => by rfl) (by conv => lhs; simp only [Act.put, List.setIfInBounds_toArray, List.set_cons_succ, List.set_cons_zero]) ?_
       · intro w' t0; unfold LS at t0; go_simp
       refine seqE_take (o := _) (.pointer (some ⟨R, 0, none⟩)) (by conv => lhs; simp only [List.getElem?_toArray, List.getElem?_cons_succ, List.getElem?_cons_zero]) (by rfl) (by rfl) ?_ (fun _ => by rfl) (by conv => lhs; simp only [Act.put, List.setIfInBounds_toArray, List.set_cons_succ, List.set_cons_zero]) ?_
       · intro w _; go_simp
       refine seqE_take (o := _) (.int .i64 D) (by conv => lhs; simp only [List.getElem?_toArray, List.getElem?_cons_succ, List.getElem?_cons_zero]) (by rfl) (by rfl) ?_ (fun _ => by rfl) (by conv => lhs; simp only [Act.put, List.setIfInBounds_toArray, List.set_cons_succ, List.set_cons_zero]) ?_
       · intro w _; go_simp
       refine seqE_take (o := _) (.int .i64 (33 - (d : Int))) (by conv => lhs; simp only [List.getElem?_toArray, List.getElem?_cons_succ, List.getElem?_cons_zero]) (by rfl) (by rfl) ?_ (fun _ => by rfl) (by conv => lhs; simp only [Act.put, List.setIfInBounds_toArray, List.set_cons_succ, List.set_cons_zero]) ?_
       · intro w _; go_simp; exact HDW.out
       have HV := Lib.hid (IH.out R B cur p1 wr.drew (HL.out.rd.keeps ((Keeps.refl (fun _ => False) wr).drew) (fun _ f _ => f.elim)) (by have := HL.out.keeps.size; show B ≤ wr.heap.size; omega) HL.out.le)
       refine seqE_call (o := _) rfl (by conv => lhs; simp only [List.getElem?_toArray, List.getElem?_cons_succ, List.getElem?_cons_zero]) (by rfl) (by rfl) ?_ HV.out ?_
       · go_simp
       cases hv : parseV d p1 cur with
       | error c =>
         have HE : Hid (listP d p l = .error c) := Lib.hid (by rw [HLP.out, HL.out.same, rowsA_step HJ.out, hv]; rfl)
         rintro e w2 ⟨rfl, k2⟩
         right
         refine ⟨_, rfl, ?_⟩
         refine ⟨rfl, ?_⟩
         rw [HE.out]
         exact ⟨rfl, (HL.out.keeps.drew).trans k2⟩
       | ok y =>
         obtain ⟨t, p2, cur2⟩ := y
         have hright := parse_right d _ _ _ _ _ hv
         have hle2 : p2 ≤ 4096 ∧ ts.length + 1 ≤ p2 := by
           have h1 := Val.mayV_le t _ _ _ hright.1
           have h2 := HL.out.few
           omega
         have HLE2 := Lib.hid hle2
         have HE : Hid (rowsA (parseV d) false n p [] [] r = rowsA (parseV d) false (n - (j + 1)) p2 (ts ++ [t]) [] cur2) := Lib.hid (by rw [HL.out.same, rowsA_step HJ.out, hv]; rfl)
         clear hright hle2 hv
         rintro e w2 ⟨v, rfl, hown, hg2⟩
         obtain ⟨yk, yb, yn, ys, ypl, ynl, ycl, ypk, ynk, yck, rfl⟩ := hown.shape
         have k2 : Keeps (· = R) wr w2 := ((Keeps.refl (· = R) wr).drew).trans hg2.2
         have B02 := Lib.hid (box_keeps HL.out.box0 k2 hA0)
         have B12 := Lib.hid (box_keeps HL.out.box1 k2 hA1)
         have K2 := Lib.hid (HL.out.keeps.trans k2)
         have HK2 := Lib.hid k2
         have R2 := Lib.hid hg2.1
         have HO := Lib.hid hown
         have hwr2 : w.heap.size + 2 ≤ wr.heap.size := HL.out.box1.lt
         clear hown hg2 k2
         left
         refine ⟨_, _, rfl, (by conv => lhs; simp only [Act.put, List.setIfInBounds_toArray, List.set_cons_succ, List.set_cons_zero]), B12.out.cell.2.2.2.2.1, ?_⟩
         have HK5 := Lib.hid (HK2.out.alloc (.cells #[.int .i64 yk, .bool yb, .int .i64 yn, .string ys, .slice ypl ynl ycl, .slice ypk ynk yck] 25))
         have W5 := Lib.hid (HL.out.row.keeps HK5.out (fun k hk => .inl (by omega)))
         have B05 := Lib.hid (B02.out.alloc (.cells #[.int .i64 yk, .bool yb, .int .i64 yn, .string ys, .slice ypl ynl ycl, .slice ypk ynk yck] 25))
         have B15 := Lib.hid (B12.out.alloc (.cells #[.int .i64 yk, .bool yb, .int .i64 yn, .string ys, .slice ypl ynl ycl, .slice ypk ynk yck] 25))
         have R5 := Lib.hid (R2.out.alloc (.cells #[.int .i64 yk, .bool yb, .int .i64 yn, .string ys, .slice ypl ynl ycl, .slice ypk ynk yck] 25))
         have hsz2 : w.heap.size + 2 ≤ w2.heap.size := B12.out.lt
         refine seqE_do (o := _) (.slice (some ⟨w2.heap.size, 0, none⟩) 1 1) rfl (by conv => lhs; simp only [List.getElem?_toArray, List.getElem?_cons_succ, List.getElem?_cons_zero]) (by rfl) (by rfl) ?_ (by conv => lhs; simp only [Act.put, List.setIfInBounds_toArray, List.set_cons_succ, List.set_cons_zero]) B15.out.cell.2.2.2.2.1 ?_
         · go_simp
         refine seqE_append (o := _) rfl (by conv => lhs; simp only [List.getElem?_toArray, List.getElem?_cons_succ, List.getElem?_cons_zero]) rfl (.tmp 12) (.tmp 17) 22 rfl (w.heap.size + 2) 25 i0 _ 6 88 Try.underlying22 hi0 hz0 hz1 hz2 rfl (by decide) (.slice pl ts.length cl) ts.length xs rfl W5.out.1 ⟨w2.heap.size, 0, none⟩ 1 1 [.int .i64 yk, .bool yb, .int .i64 yn, .string ys, .slice ypl ynl ycl, .slice ypk ynk yck] rfl rfl (six_cells w2 _ _ _ _ _ _) (six_one yk yn yb ys ypl ypk ynl ycl ynk yck) (by decide) (by have := HLE2.out; unfold maxLen; omega) (by have := HLE2.out; omega) (by rw [World.size_alloc]; omega) _ rfl ?_
         intro g' cap' w5 hrow5 hg5 hl5
         have hown := fun k (hk : (Value.slice pl ts.length cl).ownBlock = some k) => (W5.out.block k hk).2
         have hk5 : Keeps (fun k => (Value.slice pl ts.length cl).ownBlock = some k) (w2.alloc (.cells #[.int .i64 yk, .bool yb, .int .i64 yn, .string ys, .slice ypl ynl ycl, .slice ypk ynk yck] 25)) w5 := ⟨hg5.os, hg5.tape, hg5.output, hg5.size, fun k hk hn => hg5.block k hk (fun e => hn e.symm)⟩
         have B06 : Hid (Box w5 w.heap.size #[.int .i64 0, .bool false, .int .i64 0, .string ⟨#[]⟩, .slice none 0 0, .slice none 0 0]) := Lib.hid ((hk5.block _ B05.out.lt (fun e => by have := (hown _ e).1; omega)).trans B05.out)
         have B16 : Hid (Box w5 (w.heap.size + 1) #[.int .i64 4, .bool false, .int .i64 0, .string ⟨#[]⟩, .slice pl ts.length cl, .slice none 0 0]) := Lib.hid ((hk5.block _ B15.out.lt (fun e => by have := (hown _ e).1; omega)).trans B15.out)
         have R6 : Hid (Rb w5 R B cur2 (p2 : Int)) := Lib.hid (R5.out.keeps hk5 (fun k e _ => by have := (hown k e).1; exact ⟨by omega, by omega⟩))
         have K6 : Hid (Keeps (· = R) w w5) := Lib.hid ((K2.out.alloc _).grown hg5 (fun q e => .inr (by have := (hown q e).1; omega)))
         have hO5 : VT.Own (w2.alloc (.cells #[.int .i64 yk, .bool yb, .int .i64 yn, .string ys, .slice ypl ynl ycl, .slice ypk ynk yck] 25)) t (fun k => wr.heap.size ≤ k ∧ k < (w2.alloc (.cells #[.int .i64 yk, .bool yb, .int .i64 yn, .string ys, .slice ypl ynl ycl, .slice ypk ynk yck] 25)).heap.size) (.agg #[.int .i64 yk, .bool yb, .int .i64 yn, .string ys, .slice ypl ynl ycl, .slice ypk ynk yck]) :=
           VT.Own.more (fun k hk => ⟨hk.1, by rw [World.size_alloc]; have := hk.2; omega⟩) (HO.out.keeps ((Keeps.refl (fun _ => False) w2).alloc _) (fun q hq => ⟨hq.2, fun h => h⟩))
         have WN := Lib.hid (HL.out.row.snoc (x := t) (N := fun _ => False) HK5.out (fun k hk => .inl (by omega)) hrow5 hg5 hl5 rfl (fun k hk => hk.elim) (fun k hk => hk.elim) hwr2 (fun k hk => ⟨hk.1, hk.2, fun h => h⟩) hO5)
         have HCC := Lib.hid B16.out.cell.2.2.2.2.1
         clear hrow5 hg5 hl5 hown hk5 hO5
         refine ⟨_, (by conv => lhs; simp only [Act.put, List.setIfInBounds_toArray, List.set_cons_succ, List.set_cons_zero]), HCC.out, ?_⟩
         refine seqE_take (o := _) (.pointer (some ⟨w.heap.size + 1, 4, none⟩)) (by conv => lhs; simp only [List.getElem?_toArray, List.getElem?_cons_succ, List.getElem?_cons_zero]) (by rfl) (by rfl) ?_ (fun _ => by rfl) (by conv => lhs; simp only [Act.put, List.setIfInBounds_toArray, List.set_cons_succ, List.set_cons_zero]) ?_
         · intro w _; go_simp
         have hset : Keeps (· = w.heap.size + 1) w5 (w5.setCell ⟨w.heap.size + 1, 4, none⟩ (.slice (some ⟨g', 0, none⟩) (ts.length + 1) cap')) := (Keeps.refl (· = w.heap.size + 1) w5).setCell (.inl rfl) _
         have h01 : w.heap.size ≠ w.heap.size + 1 := by omega
         have HF : Hid (LRel d R B n r p w (j + 1) p2 (ts ++ [t]) cur2 (.slice (some ⟨g', 0, none⟩) (ts.length + 1) cap') _ (w5.setCell ⟨w.heap.size + 1, 4, none⟩ (.slice (some ⟨g', 0, none⟩) (ts.length + 1) cap'))) := Lib.hid
           ⟨R6.out.keeps hset (fun k (e : k = w.heap.size + 1) _ => by subst e; exact ⟨hA1, by omega⟩), HE.out, HLE2.out.1, by rw [List.length_append, List.length_singleton]; exact HLE2.out.2, B06.out.far h01 _, box_set4 B16.out _, WN.out.keeps hset (fun k (hk : k = w.heap.size + 1) => .inl (by omega)), K6.out.setCell (p := ⟨w.heap.size + 1, 4, none⟩) (.inr (Nat.le_succ _)) _⟩
         have hf := fun i => box_free B16.out i
         refine seqE_lay (o := _) (w1 := w5.setCell ⟨w.heap.size + 1, 4, none⟩ (.slice (some ⟨g', 0, none⟩) (ts.length + 1) cap')) rfl (by conv => lhs; simp only [List.getElem?_toArray, List.getElem?_cons_succ, List.getElem?_cons_zero]) (by rfl) (by rfl) (by rfl) ?_ ?_
         · have hcc := HCC.out
           go_simp
         generalize w5.setCell ⟨w.heap.size + 1, 4, none⟩ (.slice (some ⟨g', 0, none⟩) (ts.length + 1) cap') = w6 at *
         clear hset hf
         have hj64 : (j : Int) + 1 < 18446744073709551616 := by have := HN64.out; have := HJ.out; omega
         have HJ64 := Lib.hid hj64
         clear hj64
         go_wp2
         go_roundw
         case rel => exact ⟨j + 1, p2, ts ++ [t], cur2, _, _, by have := HJ64.out; simp only [IntKind.wrap_u64]; congr 1; omega, HJ.out, HF⟩
         case measure => have := HJ64.out; have := HJ.out; simp [intOf, IntKind.wrap_u64]; omega
   
     · obtain rfl : j = n := by omega
       have hf := fun i => box_free HL.out.box0 i
       obtain ⟨b0, b1, b2, b3, b4, b5⟩ := HL.out.box1.cell
       obtain ⟨z0, z1, z2, z3, z4, z5⟩ := HL.out.box0.cell
       have hlt0 := HL.out.box0.lt
       have HS := Lib.hid (box_six HL.out.box0 (.int .i64 4) (.bool false) (.int .i64 0) (.string ⟨#[]⟩) lv (.slice none 0 0))
       have HE : Hid (rowsA (parseV d) false j p [] [] r = .ok ((ts, []), p1, cur)) := Lib.hid (by rw [HL.out.same, Nat.sub_self]; rfl)
       obtain ⟨pl, cl, hlv, -⟩ := HL.out.row.slice
       subst hlv
       go_wp2
       obtain ⟨q0, q1, q2, q3, q4, q5⟩ := HS.out.cell
       unfold six at q0 q1 q2 q3 q4 q5
       refine bodyPost_ret (v := .agg #[.int .i64 4, .bool false, .int .i64 0, .string ⟨#[]⟩, .slice pl ts.length cl, .slice none 0 0]) (by simp [results, Try.results66, go_sem, q0, q1, q2, q3, q4, q5]) rfl ?_
       rw [HLP.out, HE.out]
       have hk6 := keeps_six (Keeps.refl (· = w.heap.size) wr) (.inl rfl) (.int .i64 4) (.bool false) (.int .i64 0) (.string ⟨#[]⟩) (.slice pl ts.length cl) (.slice none 0 0)
       exact ⟨_, rfl, own_list (R := R) HL.out.row (by omega) hk6 (by omega), six_rb HL.out.rd hA0 hB _ _ _ _ _ _, keeps_six HL.out.keeps (.inr (Nat.le_refl _)) _ _ _ _ _ _⟩
end Pk
end Go.Proofs.Ytmhlipncelgmlaa
