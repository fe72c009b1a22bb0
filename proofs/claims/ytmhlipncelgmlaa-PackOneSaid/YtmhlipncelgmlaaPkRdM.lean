/- Bytes as values: the reader's maps. -/
import Derived.Test.YtmhlipncelgmlaaPkRdD
namespace Go.Proofs.Ytmhlipncelgmlaa
open Go.RowKit
set_option linter.unusedVariables false
set_option linter.unusedSimpArgs false
namespace Pk
open Val (VT Keeps Box StrBlock)
open Rk (info_parts)
theorem less_tri : ∀ a b : List UInt8, (Op.bytesLess b a || b == a) = !Op.bytesLess a b
  | [], [] => by rfl
  | [], _ :: _ => by rfl
  | _ :: _, [] => by rfl
  | x :: a, y :: b => by
    unfold Op.bytesLess
    have ih := less_tri a b
    by_cases h1 : x < y
    · have h2 : ¬ y < x := UInt8.lt_asymm h1
      have h3 : (y == x) = false := by
        cases hv : y == x
        · rfl
        · rw [beq_iff_eq] at hv; subst hv; exact absurd h1 (UInt8.lt_irrefl _)
      simp [h1, h2, h3]
    · by_cases h2 : y < x
      · have h3 : (x == y) = false := by
          cases hv : x == y
          · rfl
          · rw [beq_iff_eq] at hv; subst hv; exact absurd h2 (UInt8.lt_irrefl _)
        simp [h1, h2, h3]
      · have h3 : x = y := UInt8.le_antisymm (UInt8.not_lt.1 h2) (UInt8.not_lt.1 h1)
        subst h3
        simpa [h1] using ih
structure DRel (d R B n : Nat) (l0 : List UInt8) (p : Nat) (w : World) (j p1 : Nat) (ts : List VT) (ks : List ByteArray) (cur : List UInt8) (lv kv : Value) (xs : List Value) (wr : World) : Prop where
  ds : DS R B w ts ks lv kv xs cur p1 wr
  same : rowsA (parseV d) true n p [] [] l0 = rowsA (parseV d) true (n - j) p1 ts ks cur
  le : p1 ≤ 4096
  few : ts.length ≤ p1
  klen : ks.length = ts.length
def dictP (d p : Nat) (l : List UInt8) : Except Int (VT × Nat × List UInt8) := thenP (numP l) fun x => thenP (rowsA (parseV d) true x.1 p [] [] x.2) fun y => .ok (.mk 5 false 0 E0 y.1.1 y.1.2, y.2)
theorem dictP_no {d p : Nat} {l : List UInt8} {c : Int} (h : numP l = .error c) : dictP d p l = .error c := by unfold dictP; rw [h]; rfl
theorem dictP_ok {d p n : Nat} {l r : List UInt8} (h : numP l = .ok (n, r)) : dictP d p l = thenP (rowsA (parseV d) true n p [] [] r) fun y => .ok (.mk 5 false 0 E0 y.1.1 y.1.2, y.2) := by unfold dictP; rw [h]; rfl
theorem rowsA_stepM {pv : Nat → List UInt8 → Except Int (VT × Nat × List UInt8)} {n j p1 : Nat} {ts : List VT} {ks : List ByteArray} {cur : List UInt8} (h : j < n) : rowsA pv true (n - j) p1 ts ks cur = thenP (nextP ks cur) fun x => thenP (pv p1 x.2) fun y => rowsA pv true (n - (j + 1)) y.2.1 (ts ++ [y.1]) x.1 y.2.2 := by
  rw [show n - j = (n - (j + 1)) + 1 by omega]
  rfl
theorem nextP_err {ks : List ByteArray} {cur : List UInt8} {c : Int} (h : keyP cur = .error c) : nextP ks cur = .error c := by unfold nextP; rw [h]; rfl
theorem nextP_two {ks : List ByteArray} {cur r : List UInt8} {k : ByteArray} (h : keyP cur = .ok (k, r)) : nextP ks cur = if Op.bytesLess (ks.getLastD ByteArray.empty).toList k.toList then .ok (ks ++ [k], r) else .error 1 := by unfold nextP; rw [h]; rfl
set_option maxRecDepth 100000 in
set_option maxHeartbeats 8000000 in
theorem dict_any (d R B : Nat) (l : List UInt8) (p : Nat) (w : World) (D : Int) (IH : Hid (ValIH d)) (h : Rb w R B l (p : Int)) (hB : B ≤ w.heap.size) (hp : p ≤ 4096) (hd : d ≤ 32) (hD : D = 32 - (d : Int)) :
    Calls Try.prog 67 #[.pointer (some ⟨R, 0, none⟩), .int .i64 D] w (ValPost R B w (dictP d p l)) := by
  obtain ⟨i0, hi0, hz0, hz1, hz2⟩ := info_parts info26
  obtain ⟨j0, hj0, jz0, jz1, jz2⟩ := info_parts infoS
  have hRw := h.lt
  have hdw : IntKind.i64.wrap (D + 1) = 33 - (d : Int) := by simp [IntKind.wrap, IntKind.bits, IntKind.signed]; omega
  have HDW := Lib.hid hdw
  clear hD hdw
  have HN := Lib.hid (number_any R B l p _ ((h.alloc (.cells #[.int .i64 0, .bool false, .int .i64 0, .string ⟨#[]⟩, .slice none 0 0, .slice none 0 0] 25)).alloc (.cells #[.int .i64 5, .bool false, .int .i64 0, .string ⟨#[]⟩, .slice none 0 0, .slice none 0 0] 25)))
  have H0 : Hid (Box ((w.alloc (.cells #[.int .i64 0, .bool false, .int .i64 0, .string ⟨#[]⟩, .slice none 0 0, .slice none 0 0] 25)).alloc (.cells #[.int .i64 5, .bool false, .int .i64 0, .string ⟨#[]⟩, .slice none 0 0, .slice none 0 0] 25)) w.heap.size #[.int .i64 0, .bool false, .int .i64 0, .string ⟨#[]⟩, .slice none 0 0, .slice none 0 0] ∧ Box ((w.alloc (.cells #[.int .i64 0, .bool false, .int .i64 0, .string ⟨#[]⟩, .slice none 0 0, .slice none 0 0] 25)).alloc (.cells #[.int .i64 5, .bool false, .int .i64 0, .string ⟨#[]⟩, .slice none 0 0, .slice none 0 0] 25)) (w.heap.size + 1) #[.int .i64 5, .bool false, .int .i64 0, .string ⟨#[]⟩, .slice none 0 0, .slice none 0 0] ∧ Keeps (· = R) w ((w.alloc (.cells #[.int .i64 0, .bool false, .int .i64 0, .string ⟨#[]⟩, .slice none 0 0, .slice none 0 0] 25)).alloc (.cells #[.int .i64 5, .bool false, .int .i64 0, .string ⟨#[]⟩, .slice none 0 0, .slice none 0 0] 25))) := Lib.hid
    ⟨(Box.new w _).alloc _, by
      have := Box.new (w.alloc (.cells #[.int .i64 0, .bool false, .int .i64 0, .string ⟨#[]⟩, .slice none 0 0, .slice none 0 0] 25)) #[.int .i64 5, .bool false, .int .i64 0, .string ⟨#[]⟩, .slice none 0 0, .slice none 0 0]
      rwa [World.size_alloc] at this, ((Keeps.refl _ w).alloc _).alloc _⟩
  have hA0 : w.heap.size ≠ R := by omega
  have hA1 : w.heap.size + 1 ≠ R := by omega
  clear h
  go_enter Try.func67, Try.ntmps67
  go_wp2_with fail
  refine HN.out.mono ?_
  cases hr : numP l with
  | error c =>
    rintro e w1 ⟨rfl, k1⟩
    refine ⟨rfl, ?_⟩
    rw [dictP_no hr]
    exact ⟨rfl, H0.out.2.2.trans k1⟩
  | ok a =>
    obtain ⟨n, r⟩ := a
    rintro e w1 ⟨rfl, g1⟩
    have HLP := Lib.hid (dictP_ok (d := d) (p := p) hr)
    have hn64 := (numP_ok hr).2
    have HL0 : Hid (DRel d R B n r p w 0 p [] [] r (.slice none 0 0) (.slice none 0 0) [] w1) := Lib.hid ⟨⟨g1.1, box_keeps H0.out.1 g1.2 hA0, box_keeps H0.out.2.1 g1.2 hA1, RowW.nil _ _ _, World.ownsRow_nil _ _ _ _, H0.out.2.2.trans g1.2⟩, rfl, hp, by simp, rfl⟩
    have HN64 := Lib.hid hn64
    clear g1 H0 HN hr hn64 hp
    unfold u64V
    go_wp2
    go_loopw [6, 11] (fun sv iv wr => ∃ (j p1 : Nat) (ts : List VT) (ks : List ByteArray) (cur : List UInt8) (lv kv : Value) (xs : List Value), sv = .string (ks.getLastD ByteArray.empty) ∧ iv = .int .u64 (j : Int) ∧ j ≤ n ∧ Hid (DRel d R B n r p w j p1 ts ks cur lv kv xs wr)) (fun _ iv _ => (n - (intOf iv).toNat))
    case atStart => exact ⟨0, p, [], [], r, _, _, _, rfl, rfl, Nat.zero_le _, HL0⟩
    case round =>
     obtain ⟨j, p1, ts, ks, cur, lv, kv, xs, rfl, rfl, hj, HL⟩ := hrel
     clear HL0
     by_cases hjn : j < n
     · have hjn2 : (j : Int) < n := by omega
       have HJ := Lib.hid hjn
       obtain ⟨last, hlast⟩ : ∃ x, ks.getLastD ByteArray.empty = x := ⟨_, rfl⟩
       rw [hlast]
       have HLAST := Lib.hid hlast
       have HK := Lib.hid (key_any R B cur p1 wr HL.out.ds.rd)
       clear hjn hj hlast
       go_wp2_with fail
       refine HK.out.mono ?_
       cases hk : keyP cur with
       | error c =>
         have HE : Hid (dictP d p l = .error c) := Lib.hid (by rw [HLP.out, HL.out.same, rowsA_stepM HJ.out, nextP_err hk]; rfl)
         rintro e w2 ⟨rfl, k2⟩
         refine ⟨rfl, ?_⟩
         rw [HE.out]
         exact ⟨rfl, HL.out.ds.keeps.trans k2⟩
       | ok ky =>
         obtain ⟨key, cu1⟩ := ky
         have hnx := nextP_two (ks := ks) hk
         rw [HLAST.out] at hnx
         rintro e w2 ⟨rfl, g2⟩
         have DS2 := Lib.hid (HL.out.ds.got hRw g2)
         have htri := less_tri last.toList key.toList
         clear g2 hk HK
         unfold strV
         cases hless : Op.bytesLess last.toList key.toList with
         | false =>
           rw [hless] at htri hnx
           have HE : Hid (dictP d p l = .error 1) := Lib.hid (by rw [HLP.out, HL.out.same, rowsA_stepM HJ.out, hnx]; rfl)
           have k3 : (Op.bytesLess key.toList last.toList || key.toList == last.toList) = true := htri
           clear hnx htri hless
           go_wp2_with fail
           refine (demand_no _).mono ?_
           rintro e w3 ⟨rfl, rfl⟩
           refine ⟨rfl, ?_⟩
           rw [HE.out]
           exact ⟨rfl, DS2.out.keeps⟩
         | true =>
           rw [hless] at htri hnx
           have HNX : Hid (nextP ks cur = .ok (ks ++ [key], cu1)) := Lib.hid hnx
           have k3 : (Op.bytesLess key.toList last.toList || key.toList == last.toList) = false := htri
           clear hnx htri hless
           go_wp2_with fail
           refine (demand_yes _).mono ?_
           rintro e w3 ⟨⟨dv, rfl⟩, rfl⟩
           obtain ⟨pl, cl, hlv, -⟩ := DS2.out.row.slice
           obtain ⟨pk, ck, hkv, -⟩ := keys_form DS2.out.keys rfl
           subst hlv hkv
           have hklen : ks.length ≤ 4096 := by have := HL.out.klen; have := HL.out.few; have := HL.out.le; omega
           go_upto_region 8 with fail
           have V5a := Lib.hid (own_keeps DS2.out.keys ((Keeps.refl (fun _ => False) w3).alloc (.cells #[.string key] 9)) (fun j hj => hj.elim))
           have HLS := Lib.hid (lit_str w3 key)
           have hb6 : w.heap.size + 2 ≤ (w3.alloc (.cells #[.string key] 9)).heap.size := by have := DS2.out.box1.lt; rw [World.size_alloc]; omega
           obtain ⟨b0, b1, b2, b3, b4, b5⟩ := DS2.out.box1.cell
           go_wp2_with (at_builtin; refine wpList_append_lies _ rfl (.tmp 21) (.tmp 23) 23 rfl (w.heap.size + 2) 9 j0 (.string ⟨#[]⟩) 1 16 Try.underlying23 hj0 jz0 jz1 jz2 rfl (by decide) (.slice pk ks.length ck) ks.length (ks.map Value.string) rfl V5a.out ⟨w3.heap.size, 0, none⟩ 1 1 [.string key] rfl rfl HLS.out (str_one key) (by decide) ?c2 ?c3 hb6 _ rfl ?_)
           case c2 => unfold maxLen; omega
           case c3 => omega
           intro g6 cap6 w6 hrow6 hg6 hl6 hlt6
           have HDS6 := Lib.hid (DS2.out.key hRw hB key hrow6 hg6 (hl6.imp id (fun e => e.trans (World.size_alloc _ _).symm)))
           clear hrow6 hg6 hl6 hlt6 b0 b1 b2 b3 b4 b5
           have hf := fun i => box_free HDS6.out.1 i
           obtain ⟨b0, b1, b2, b3, b4, b5⟩ := HDS6.out.1.cell
           go_upto_region 9 with fail
           clear hf b0 b1 b2 b3 b4 b5
           have DS7 := Lib.hid HDS6.out.2
           clear HDS6 V5a HLS hb6
           generalize w6.setCell ⟨w.heap.size + 1, 5, none⟩ (.slice (some ⟨g6, 0, none⟩) (ks.length + 1) cap6) = w7 at *
           refine wp_region_seqE (LS (w.heap.size + 1) (.slice pl ts.length cl)) 9 [0, 1, 2, 3, 4, 5, 6, 7, 8, 9] (by kernel_rfl) (by kernel_rfl) (by kernel_rfl) (by kernel_rfl) (fun _ _ e _ _ h => by cases e <;> exact h) DS7.out.box1.cell.2.2.2.2.1 ?_
           refine seqE_take (o := _) (.pointer (some ⟨w.heap.size + 1, 4, none⟩)) (by conv => lhs; simp only [List.getElem?_toArray, List.getElem?_cons_succ, List.getElem?_cons_zero]) (by rfl) (by rfl) ?_ (fun _ => by rfl) (by conv => lhs; simp only [Act.put, List.setIfInBounds_toArray, List.set_cons_succ, List.set_cons_zero]) ?_
           · intro w _; go_simp
           refine seqE_take (o := _) (.slice pl ts.length cl) (by conv => lhs; simp only [List.getElem?_toArray, List.getElem?_cons_succ, List.getElem?_cons_zero]) (by rfl) (by rfl) ?_ (fun _ => by rfl) (by conv => lhs; simp only [Act.put, List.setIfInBounds_toArray, List.set_cons_succ, List.set_cons_zero]) ?_
           · intro w' t0; unfold LS at t0; go_simp
           refine seqE_take (o := _) (.pointer (some ⟨R, 0, none⟩)) (by conv => lhs; simp only [List.getElem?_toArray, List.getElem?_cons_succ, List.getElem?_cons_zero]) (by rfl) (by rfl) ?_ (fun _ => by rfl) (by conv => lhs; simp only [Act.put, List.setIfInBounds_toArray, List.set_cons_succ, List.set_cons_zero]) ?_
           · intro w _; go_simp
           refine seqE_take (o := _) (.int .i64 D) (by conv => lhs; simp only [List.getElem?_toArray, List.getElem?_cons_succ, List.getElem?_cons_zero]) (by rfl) (by rfl) ?_ (fun _ => by rfl) (by conv => lhs; simp only [Act.put, List.setIfInBounds_toArray, List.set_cons_succ, List.set_cons_zero]) ?_
           · intro w _; go_simp
           refine seqE_take (o := _) (.int .i64 (33 - (d : Int))) (by conv => lhs; simp only [List.getElem?_toArray, List.getElem?_cons_succ, List.getElem?_cons_zero]) (by rfl) (by rfl) ?_ (fun _ => by rfl) (by conv => lhs; simp only [Act.put, List.setIfInBounds_toArray, List.set_cons_succ, List.set_cons_zero]) ?_
           · intro w _; go_simp; exact HDW.out
           have DR : Hid (Got R B (p1 : Int) w7 cu1 w7.drew) := Lib.hid ⟨DS7.out.rd.keeps ((Keeps.refl (fun _ => False) w7).drew) (fun _ f _ => f.elim), (Keeps.refl _ w7).drew⟩
           have HV := Lib.hid (IH.out R B cu1 p1 w7.drew DR.out.1 (by have := DS7.out.keeps.size; show B ≤ w7.heap.size; omega) HL.out.le)
           refine seqE_call (o := _) rfl (by conv => lhs; simp only [List.getElem?_toArray, List.getElem?_cons_succ, List.getElem?_cons_zero]) (by rfl) (by rfl) ?_ HV.out ?_
           · go_simp
           cases hv : parseV d p1 cu1 with
           | error c =>
             have HE : Hid (dictP d p l = .error c) := Lib.hid (by rw [HLP.out, HL.out.same, rowsA_stepM HJ.out, HNX.out, thenP_ok, hv]; rfl)
             rintro e w8 ⟨rfl, k8⟩
             right
             refine ⟨_, rfl, ?_⟩
             refine ⟨rfl, ?_⟩
             rw [HE.out]
             exact ⟨rfl, (DS7.out.keeps.drew).trans k8⟩
           | ok y =>
             obtain ⟨t, p2, cur2⟩ := y
             have hright := parse_right d _ _ _ _ _ hv
             have hle2 : p2 ≤ 4096 ∧ ts.length + 1 ≤ p2 := by
               have h1 := Val.mayV_le t _ _ _ hright.1
               have h2 := HL.out.few
               omega
             have HLE2 := Lib.hid hle2
             have HE : Hid (rowsA (parseV d) true n p [] [] r = rowsA (parseV d) true (n - (j + 1)) p2 (ts ++ [t]) (ks ++ [key]) cur2) := Lib.hid (by rw [HL.out.same, rowsA_stepM HJ.out, HNX.out, thenP_ok, hv]; rfl)
             clear hright hle2 hv
             rintro e w8 ⟨v, rfl, hown, hg8⟩
             obtain ⟨yk, yb, yn, ys, ypl, ynl, ycl, ypk, ynk, yck, rfl⟩ := hown.shape
             have k8 : Keeps (· = R) w7 w8 := ((Keeps.refl (· = R) w7).drew).trans hg8.2
             have B18 := Lib.hid (box_keeps DS7.out.box1 k8 hA1)
             have HK8 := Lib.hid k8
             have R8 := Lib.hid hg8.1
             have HO := Lib.hid hown
             clear hown hg8 k8
             left
             refine ⟨_, _, rfl, (by conv => lhs; simp only [Act.put, List.setIfInBounds_toArray, List.set_cons_succ, List.set_cons_zero]), B18.out.cell.2.2.2.2.1, ?_⟩
             have HK9 := Lib.hid (HK8.out.alloc (.cells #[.int .i64 yk, .bool yb, .int .i64 yn, .string ys, .slice ypl ynl ycl, .slice ypk ynk yck] 25))
             have W9 := Lib.hid (own_keeps DS7.out.row.1 HK9.out (fun k (hk : k = R) => .inl (by omega)))
             have B19 := Lib.hid (B18.out.alloc (.cells #[.int .i64 yk, .bool yb, .int .i64 yn, .string ys, .slice ypl ynl ycl, .slice ypk ynk yck] 25))
             have hsz8 : w.heap.size + 2 ≤ w8.heap.size := B18.out.lt
             refine seqE_do (o := _) (.slice (some ⟨w8.heap.size, 0, none⟩) 1 1) rfl (by conv => lhs; simp only [List.getElem?_toArray, List.getElem?_cons_succ, List.getElem?_cons_zero]) (by rfl) (by rfl) ?_ (by conv => lhs; simp only [Act.put, List.setIfInBounds_toArray, List.set_cons_succ, List.set_cons_zero]) B19.out.cell.2.2.2.2.1 ?_
             · go_simp
             refine seqE_append (o := _) rfl (by conv => lhs; simp only [List.getElem?_toArray, List.getElem?_cons_succ, List.getElem?_cons_zero]) rfl (.tmp 27) (.tmp 32) 22 rfl (w.heap.size + 2) 25 i0 _ 6 88 Try.underlying22 hi0 hz0 hz1 hz2 rfl (by decide) (.slice pl ts.length cl) ts.length xs rfl W9.out ⟨w8.heap.size, 0, none⟩ 1 1 [.int .i64 yk, .bool yb, .int .i64 yn, .string ys, .slice ypl ynl ycl, .slice ypk ynk yck] rfl rfl (six_cells w8 _ _ _ _ _ _) (six_one yk yn yb ys ypl ypk ynl ycl ynk yck) (by decide) (by have := HLE2.out; unfold maxLen; omega) (by have := HLE2.out; omega) (by rw [World.size_alloc]; omega) _ rfl ?_
             intro g' cap' w9 hrow9 hg9 hl9
             have HDS := Lib.hid (DS7.out.val hRw hB HK8.out R8.out HO.out hrow9 hg9 hl9)
             clear hrow9 hg9 hl9
             refine ⟨_, (by conv => lhs; simp only [Act.put, List.setIfInBounds_toArray, List.set_cons_succ, List.set_cons_zero]), HDS.out.1.cell.2.2.2.2.1, ?_⟩
             refine seqE_take (o := _) (.pointer (some ⟨w.heap.size + 1, 4, none⟩)) (by conv => lhs; simp only [List.getElem?_toArray, List.getElem?_cons_succ, List.getElem?_cons_zero]) (by rfl) (by rfl) ?_ (fun _ => by rfl) (by conv => lhs; simp only [Act.put, List.setIfInBounds_toArray, List.set_cons_succ, List.set_cons_zero]) ?_
             · intro w _; go_simp
             have HF : Hid (DRel d R B n r p w (j + 1) p2 (ts ++ [t]) (ks ++ [key]) cur2 (.slice (some ⟨g', 0, none⟩) (ts.length + 1) cap') _ _ (w9.setCell ⟨w.heap.size + 1, 4, none⟩ (.slice (some ⟨g', 0, none⟩) (ts.length + 1) cap'))) := Lib.hid
               ⟨HDS.out.2, HE.out, HLE2.out.1, by rw [List.length_append, List.length_singleton]; exact HLE2.out.2, by rw [List.length_append, List.length_append, HL.out.klen]; rfl⟩
             have hf := fun i => box_free HDS.out.1 i
             have hcc := HDS.out.1.cell.2.2.2.2.1
             refine seqE_lay (o := _) (w1 := w9.setCell ⟨w.heap.size + 1, 4, none⟩ (.slice (some ⟨g', 0, none⟩) (ts.length + 1) cap')) rfl (by conv => lhs; simp only [List.getElem?_toArray, List.getElem?_cons_succ, List.getElem?_cons_zero]) (by rfl) (by rfl) (by rfl) ?_ ?_
             · go_simp
             clear hf hcc HDS
             generalize w9.setCell ⟨w.heap.size + 1, 4, none⟩ (.slice (some ⟨g', 0, none⟩) (ts.length + 1) cap') = w10 at *
             have hj64 : (j : Int) + 1 < 18446744073709551616 := by have := HN64.out; have := HJ.out; omega
             have HJ64 := Lib.hid hj64
             clear hj64
             go_wp2
             go_roundw
             case rel => exact ⟨j + 1, p2, ts ++ [t], ks ++ [key], cur2, _, _, _, by simp, by have := HJ64.out; simp only [IntKind.wrap_u64]; congr 1; omega, HJ.out, HF⟩
             case measure => have := HJ64.out; have := HJ.out; simp [intOf, IntKind.wrap_u64]; omega
     · obtain rfl : j = n := by omega
       have hf := fun i => box_free HL.out.ds.box0 i
       obtain ⟨b0, b1, b2, b3, b4, b5⟩ := HL.out.ds.box1.cell
       obtain ⟨z0, z1, z2, z3, z4, z5⟩ := HL.out.ds.box0.cell
       have hlt0 := HL.out.ds.box0.lt
       have HS := Lib.hid (box_six HL.out.ds.box0 (.int .i64 5) (.bool false) (.int .i64 0) (.string ⟨#[]⟩) lv kv)
       have HE : Hid (rowsA (parseV d) true j p [] [] r = .ok ((ts, ks), p1, cur)) := Lib.hid (by rw [HL.out.same, Nat.sub_self]; rfl)
       obtain ⟨pl, cl, hlv, -⟩ := HL.out.ds.row.slice
       obtain ⟨pk, ck, hkv, -⟩ := keys_form HL.out.ds.keys rfl
       subst hlv hkv
       go_wp2
       obtain ⟨q0, q1, q2, q3, q4, q5⟩ := HS.out.cell
       unfold six at q0 q1 q2 q3 q4 q5
       refine bodyPost_ret (v := .agg #[.int .i64 5, .bool false, .int .i64 0, .string ⟨#[]⟩, .slice pl ts.length cl, .slice pk ks.length ck]) (by simp [results, Try.results67, go_sem, q0, q1, q2, q3, q4, q5]) rfl ?_
       rw [HLP.out, HE.out]
       have hk6 := keeps_six (Keeps.refl (· = w.heap.size) wr) (.inl rfl) (.int .i64 5) (.bool false) (.int .i64 0) (.string ⟨#[]⟩) (.slice pl ts.length cl) (.slice pk ks.length ck)
       exact ⟨_, rfl, own_map HL.out.ds.row HL.out.ds.keys hk6 (by omega), six_rb HL.out.ds.rd hA0 hB _ _ _ _ _ _, keeps_six HL.out.ds.keeps (.inr (Nat.le_refl _)) _ _ _ _ _ _⟩
end Pk
end Go.Proofs.Ytmhlipncelgmlaa
