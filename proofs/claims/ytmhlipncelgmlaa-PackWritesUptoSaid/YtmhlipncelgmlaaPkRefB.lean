/- The document's bytes of any value. -/
import Derived.Test.YtmhlipncelgmlaaPkRefNum
import Derived.Test.YtmhlipncelgmlaaPkWorks2
namespace Go.Proofs.Ytmhlipncelgmlaa
open Go.RowKit
set_option linter.unusedVariables false
set_option linter.unusedSimpArgs false
namespace Pk
open Val (VT Keeps Box okN okNL szV szL szK mayB)
open Rk (goodV goodL goodL_at ba_len)
theorem ba_append (a b : ByteArray) : (a ++ b).data.toList = a.data.toList ++ b.data.toList := by
  rw [ByteArray.data_append, Array.toList_append]
theorem ret_text {a : ByteArray} {l : List UInt8} (h : a.data.toList = l) : Ending.returned (.string a) = .returned (.string ⟨l.toArray⟩) := by
  rw [← h]
def RtIH (N : Nat) : Prop := ∀ (t : VT) (v : Value) (B : Nat) (w : World), t.parts ≤ N → VT.In w B t v → B ≤ w.heap.size → okN t → goodV t → szV t ≤ 1073741824 →
  Calls Try.prog 36 #[v] w fun e w' => e = .returned (.string ⟨(packB t).toArray⟩) ∧ Below w.heap.size w w'
section
variable (b : Bool) (n : Int) (s : ByteArray) (pl pk : Option Addr) (nl cl nk ck : Nat) (w : World)
set_option maxRecDepth 100000 in
theorem ref_null : Calls Try.prog 36 #[.agg #[.int .i64 0, .bool b, .int .i64 n, .string s, .slice pl nl cl, .slice pk nk ck]] w fun e w' => e = .returned (.string ⟨([0] : List UInt8).toArray⟩) ∧ Below w.heap.size w w' := by
  go_enter Try.func36, Try.ntmps36
  go_wp2
  go_ret
  exact ⟨rfl, ((Below.refl _ w).alloc (Nat.le_refl _) _)⟩
set_option maxRecDepth 100000 in
theorem ref_bool : Calls Try.prog 36 #[.agg #[.int .i64 1, .bool b, .int .i64 n, .string s, .slice pl nl cl, .slice pk nk ck]] w fun e w' => e = .returned (.string ⟨([if b then 2 else 1] : List UInt8).toArray⟩) ∧ Below w.heap.size w w' := by
  cases b
  all_goals
    go_enter Try.func36, Try.ntmps36
    go_wp2
    go_ret
    exact ⟨rfl, ((Below.refl _ w).alloc (Nat.le_refl _) _)⟩
set_option maxRecDepth 100000 in
theorem ref_node (hN : 0 ≤ n ∧ n ≤ 9223372036854775807) : Calls Try.prog 36 #[.agg #[.int .i64 6, .bool b, .int .i64 n, .string s, .slice pl nl cl, .slice pk nk ck]] w fun e w' => e = .returned (.string ⟨(7 :: sevL n.toNat : List UInt8).toArray⟩) ∧ Below w.heap.size w w' := by
  have HE := Lib.hid (fun V => (show Calls Try.prog 60 #[.int .u64 n] V fun e w' => e = .returned (.string (sevS n.toNat)) ∧ Below V.heap.size V w' from by
    have := refNumber_any n.toNat n.toNat V (Nat.le_refl _) (by omega)
    rwa [show ((n.toNat : Nat) : Int) = n by omega] at this))
  obtain ⟨q, hq⟩ : ∃ q : ByteArray, sevS n.toNat = q := ⟨_, rfl⟩
  have hqd : q.data.toList = sevL n.toNat := by rw [← hq]; rfl
  have hqs : q.size ≤ 10 := by rw [← ba_len, hqd]; exact sevL_len10 (by omega)
  rw [hq] at HE
  rw [← hqd]
  clear hqd hq
  go_enter Try.func36, Try.ntmps36
  go_wp2_with (go_at_call 60; refine (HE.out _).mono ?_; rintro e w1 ⟨rfl, hb⟩; have HB := Lib.hid (((Below.refl _ w).alloc (Nat.le_refl _) _).trans (hb.mono (by simp))); clear hb)
  go_ret
  exact ⟨ret_text (by rw [ba_append]; rfl), HB.out⟩
set_option maxRecDepth 100000 in
theorem ref_edge (hN : 0 ≤ n ∧ n ≤ 9223372036854775807) : Calls Try.prog 36 #[.agg #[.int .i64 7, .bool b, .int .i64 n, .string s, .slice pl nl cl, .slice pk nk ck]] w fun e w' => e = .returned (.string ⟨(8 :: sevL n.toNat : List UInt8).toArray⟩) ∧ Below w.heap.size w w' := by
  have HE := Lib.hid (fun V => (show Calls Try.prog 60 #[.int .u64 n] V fun e w' => e = .returned (.string (sevS n.toNat)) ∧ Below V.heap.size V w' from by
    have := refNumber_any n.toNat n.toNat V (Nat.le_refl _) (by omega)
    rwa [show ((n.toNat : Nat) : Int) = n by omega] at this))
  obtain ⟨q, hq⟩ : ∃ q : ByteArray, sevS n.toNat = q := ⟨_, rfl⟩
  have hqd : q.data.toList = sevL n.toNat := by rw [← hq]; rfl
  have hqs : q.size ≤ 10 := by rw [← ba_len, hqd]; exact sevL_len10 (by omega)
  rw [hq] at HE
  rw [← hqd]
  clear hqd hq
  go_enter Try.func36, Try.ntmps36
  go_wp2_with (go_at_call 60; refine (HE.out _).mono ?_; rintro e w1 ⟨rfl, hb⟩; have HB := Lib.hid (((Below.refl _ w).alloc (Nat.le_refl _) _).trans (hb.mono (by simp))); clear hb)
  go_ret
  exact ⟨ret_text (by rw [ba_append]; rfl), HB.out⟩
set_option maxRecDepth 100000 in
theorem ref_int (hN : -9223372036854775808 ≤ n ∧ n ≤ 9223372036854775807) : Calls Try.prog 36 #[.agg #[.int .i64 2, .bool b, .int .i64 n, .string s, .slice pl nl cl, .slice pk nk ck]] w fun e w' => e = .returned (.string ⟨(3 :: sevL (foldN n) : List UInt8).toArray⟩) ∧ Below w.heap.size w w' := by
  have HE := Lib.hid (fun V => refNumber_any (foldN n) (foldN n) V (Nat.le_refl _) (foldN_le hN))
  have HZZ := Lib.hid (fun V => zigzag_any n hN V)
  obtain ⟨q, hq⟩ : ∃ q : ByteArray, sevS (foldN n) = q := ⟨_, rfl⟩
  have hqd : q.data.toList = sevL (foldN n) := by rw [← hq]; rfl
  have hqs : q.size ≤ 10 := by rw [← ba_len, hqd]; exact sevL_len10 (foldN_le hN)
  rw [hq] at HE
  rw [← hqd]
  clear hqd hq hN
  go_enter Try.func36, Try.ntmps36
  go_wp2_with fail
  refine (HZZ.out _).mono ?_
  rintro e w1 ⟨rfl, rfl⟩
  go_wp2_with fail
  refine (HE.out _).mono ?_
  rintro e w2 ⟨rfl, hb⟩
  have HB := Lib.hid (((Below.refl _ w).alloc (Nat.le_refl _) _).trans (hb.mono (by simp)))
  clear hb
  go_wp2
  go_ret
  exact ⟨ret_text (by rw [ba_append]; rfl), HB.out⟩
set_option maxRecDepth 100000 in
theorem ref_str (hs : s.size ≤ 4294967000) : Calls Try.prog 36 #[.agg #[.int .i64 3, .bool b, .int .i64 n, .string s, .slice pl nl cl, .slice pk nk ck]] w fun e w' => e = .returned (.string ⟨(4 :: textB s : List UInt8).toArray⟩) ∧ Below w.heap.size w w' := by
  have HE := Lib.hid (fun V => refNumber_any s.size s.size V (Nat.le_refl _) (by omega))
  obtain ⟨q, hq⟩ : ∃ q : ByteArray, sevS s.size = q := ⟨_, rfl⟩
  have hqd : q.data.toList = sevL s.size := by rw [← hq]; rfl
  have hqs : q.size ≤ 10 := by rw [← ba_len, hqd]; exact sevL_len10 (by omega)
  have hqi : (q.size : Int) ≤ 10 := by omega
  have hsi : (s.size : Int) ≤ 4294967000 := by omega
  have hwr : IntKind.u64.wrap (s.size : Int) = (s.size : Int) := by rw [IntKind.wrap_u64]; omega
  have SZ : ((⟨#[4]⟩ ++ q : ByteArray).size : Int) = 1 + (q.size : Int) := by rw [ByteArray.size_append]; show ((1 + q.size : Nat) : Int) = _; omega
  rw [hq] at HE
  have HTX : Hid (textB s = q.data.toList ++ s.data.toList) := Lib.hid (by rw [hqd]; rfl)
  have HS0 := Lib.hid (Seen.new w #[.int .i64 3, .bool b, .int .i64 n, .string s, .slice pl nl cl, .slice pk nk ck])
  clear hqd hq hs hqs
  go_enter Try.func36, Try.ntmps36
  go_upto_region 11 with fail
  have HSD := Lib.hid (HS0.out.step (Below.refl _ _).drew)
  refine wp_region_seq (Seen w #[.int .i64 3, .bool b, .int .i64 n, .string s, .slice pl nl cl, .slice pk nk ck]) [0, 1, 2, 3, 6, 7, 4, 5, 8, 9] (by kernel_rfl) (by kernel_rfl) (by kernel_rfl) (by kernel_rfl) HSD.out ?_
  refine seqS_take (o := _) (.pointer (some ⟨w.heap.size, 3, none⟩)) (by conv => lhs; simp only [List.getElem?_toArray, List.getElem?_cons_succ, List.getElem?_cons_zero]) (by rfl) (by rfl) ?_ (fun _ => by rfl) (by conv => lhs; simp only [Act.put, List.setIfInBounds_toArray, List.set_cons_succ, List.set_cons_zero]) ?_
  · intro w _; go_simp
  refine seqS_take (o := _) (.string s) (by conv => lhs; simp only [List.getElem?_toArray, List.getElem?_cons_succ, List.getElem?_cons_zero]) (by rfl) (by rfl) ?_ (fun _ => by rfl) (by conv => lhs; simp only [Act.put, List.setIfInBounds_toArray, List.set_cons_succ, List.set_cons_zero]) ?_
  · rintro w' t0; obtain ⟨c0, c1, c2, c3, c4, c5⟩ := t0.box.cell; clear t0; go_simp
  refine seqS_take (o := _) (.int .i64 (s.size : Int)) (by conv => lhs; simp only [List.getElem?_toArray, List.getElem?_cons_succ, List.getElem?_cons_zero]) (by rfl) (by rfl) ?_ (fun _ => by rfl) (by conv => lhs; simp only [Act.put, List.setIfInBounds_toArray, List.set_cons_succ, List.set_cons_zero]) ?_
  · intro w _; go_simp
  refine seqS_take (o := _) (.int .u64 (s.size : Int)) (by conv => lhs; simp only [List.getElem?_toArray, List.getElem?_cons_succ, List.getElem?_cons_zero]) (by rfl) (by rfl) ?_ (fun _ => by rfl) (by conv => lhs; simp only [Act.put, List.setIfInBounds_toArray, List.set_cons_succ, List.set_cons_zero]) ?_
  · intro w _; go_simp; try exact hwr
  refine seqS_take (o := _) (.pointer (some ⟨w.heap.size, 3, none⟩)) (by conv => lhs; simp only [List.getElem?_toArray, List.getElem?_cons_succ, List.getElem?_cons_zero]) (by rfl) (by rfl) ?_ (fun _ => by rfl) (by conv => lhs; simp only [Act.put, List.setIfInBounds_toArray, List.set_cons_succ, List.set_cons_zero]) ?_
  · intro w _; go_simp
  refine seqS_take (o := _) (.string s) (by conv => lhs; simp only [List.getElem?_toArray, List.getElem?_cons_succ, List.getElem?_cons_zero]) (by rfl) (by rfl) ?_ (fun _ => by rfl) (by conv => lhs; simp only [Act.put, List.setIfInBounds_toArray, List.set_cons_succ, List.set_cons_zero]) ?_
  · rintro w' t0; obtain ⟨c0, c1, c2, c3, c4, c5⟩ := t0.box.cell; clear t0; go_simp
  refine seqS_call (o := _) rfl (by conv => lhs; simp only [List.getElem?_toArray, List.getElem?_cons_succ, List.getElem?_cons_zero]) (by rfl) (by rfl) ?_ (HE.out (w.alloc (.cells #[.int .i64 3, .bool b, .int .i64 n, .string s, .slice pl nl cl, .slice pk nk ck] 25)).drew) ?_
  · go_simp
  rintro e w3 ⟨rfl, hb3⟩
  have T3 := HSD.out.step hb3
  refine ⟨_, _, rfl, (by conv => lhs; simp only [Act.put, List.setIfInBounds_toArray, List.set_cons_succ, List.set_cons_zero]), T3, ?_⟩
  refine seqS_take (o := _) (.string (⟨#[4]⟩ ++ q)) (by conv => lhs; simp only [List.getElem?_toArray, List.getElem?_cons_succ, List.getElem?_cons_zero]) (by rfl) (by rfl) ?_ (fun _ => by rfl) (by conv => lhs; simp only [Act.put, List.setIfInBounds_toArray, List.set_cons_succ, List.set_cons_zero]) ?_
  · intro w _; go_simp; try omega
  refine seqS_take (o := _) (.string (⟨#[4]⟩ ++ q ++ s)) (by conv => lhs; simp only [List.getElem?_toArray, List.getElem?_cons_succ, List.getElem?_cons_zero]) (by rfl) (by rfl) ?_ (fun _ => by rfl) (by conv => lhs; simp only [Act.put, List.setIfInBounds_toArray, List.set_cons_succ, List.set_cons_zero]) ?_
  · intro w _; go_simp; try omega
  refine seqS_take (o := _) (.string (⟨#[4]⟩ ++ q ++ s)) (by conv => lhs; simp only [List.getElem?_toArray, List.getElem?_cons_succ, List.getElem?_cons_zero]) (by rfl) (by rfl) ?_ (fun _ => by rfl) (by conv => lhs; simp only [Act.put, List.setIfInBounds_toArray, List.set_cons_succ, List.set_cons_zero]) ?_
  · intro w _; go_simp
  have HL := Lib.hid T3.low
  clear T3 hb3
  refine NoPanic.normal ?_
  go_wp2
  go_ret
  exact ⟨ret_text (by rw [ba_append, ba_append, HTX.out]; rfl), HL.out⟩
end
/-- Where the document's loop over the parts stands: all of it behind `c`. -/
structure RtAt (c : List UInt8) (l : List VT) (ks : List ByteArray) (m : Bool) (w : World) (cs : Array Value) (j : Nat) (acc : ByteArray) (wr : World) : Prop where
  text : acc.data.toList ++ partsP (l.drop j) m (ks.drop j) = c ++ partsP l m ks
  stay : Seen w cs wr
set_option maxRecDepth 100000 in
set_option maxHeartbeats 8000000 in
theorem ref_list (b : Bool) (n : Int) (s : ByteArray) (l : List VT) (N B : Nat) (pl pk : Option Addr) (nl cl nk ck : Nat) (w : World) (IH : Hid (RtIH N)) (hT : Hid (∀ x, x ∈ l → x.parts ≤ N)) (HL : Hid (l.length = nl)) 
    (HM : Hid (0 < l.length → ∃ bl ol, pl = some ⟨bl, ol, none⟩ ∧ bl < B ∧ VT.InL w B bl ol l)) (hB : B ≤ w.heap.size) (HN : Hid (okNL l)) (HG : Hid (goodL l)) (HLEN : Hid ((partsP l false []).length ≤ 1073741824)) (HZ : Hid (szL l ≤ 1073741824)) (hnl : nl ≤ maxLen) :
    Calls Try.prog 36 #[.agg #[.int .i64 4, .bool b, .int .i64 n, .string s, .slice pl nl cl, .slice pk nk ck]] w fun e w' => e = .returned (.string ⟨(5 :: (sevL nl ++ partsP l false []) : List UInt8).toArray⟩) ∧ Below w.heap.size w w' := by
  unfold maxLen at hnl
  have hwr : IntKind.u64.wrap (nl : Int) = (nl : Int) := by rw [IntKind.wrap_u64]; omega
  have HE := Lib.hid (fun V => refNumber_any nl nl V (Nat.le_refl _) (by omega))
  obtain ⟨q, hq⟩ : ∃ q : ByteArray, sevS nl = q := ⟨_, rfl⟩
  have hqd : q.data.toList = sevL nl := by rw [← hq]; rfl
  have hqs : q.size ≤ 10 := by rw [← ba_len, hqd]; exact sevL_len10 (by omega)
  have HQS := Lib.hid hqs
  have HQD := Lib.hid hqd
  have hqi : (q.size : Int) ≤ 10 := by omega
  rw [hq] at HE
  have HS0 := Lib.hid (Seen.new w #[.int .i64 4, .bool b, .int .i64 n, .string s, .slice pl nl cl, .slice pk nk ck])
  clear hqd hq hqs
  go_enter Try.func36, Try.ntmps36
  go_wp2_with fail
  refine (HE.out _).mono ?_
  rintro e w1 ⟨rfl, hb1⟩
  have HW0 : Hid (RtAt (5 :: sevL nl) l [] false w #[.int .i64 4, .bool b, .int .i64 n, .string s, .slice pl nl cl, .slice pk nk ck] 0 (⟨#[5]⟩ ++ q) w1) := Lib.hid ⟨by rw [ba_append, HQD.out]; rfl, HS0.out.step hb1⟩
  obtain ⟨c0, c1, c2, c3, c4, c5⟩ := HW0.out.stay.box.cell
  clear hb1
  go_wp2
  clear c0 c1 c2 c3 c4 c5
  go_loopw [3, 4] (fun a i wr => ∃ (j : Nat) (acc : ByteArray), a = .string acc ∧ i = .int .i64 (j : Int) ∧ j ≤ nl ∧ Hid (RtAt (5 :: sevL nl) l [] false w #[.int .i64 4, .bool b, .int .i64 n, .string s, .slice pl nl cl, .slice pk nk ck] j acc wr)) (fun _ i _ => nl - (intOf i).toNat)
  case atStart => exact ⟨0, _, rfl, rfl, Nat.zero_le _, HW0⟩
  case round =>
    rename_i wr
    obtain ⟨j, acc, rfl, rfl, hj, HS⟩ := hrel
    clear HW0
    obtain ⟨c0, c1, c2, c3, c4, c5⟩ := HS.out.stay.box.cell
    have hwlt : w.heap.size < wr.heap.size := HS.out.stay.box.lt
    have hal : (acc.size : Int) ≤ 1073741845 := by
      have hl := congrArg List.length HS.out.text
      simp only [List.length_append, List.length_cons, ba_len] at hl
      have := HLEN.out
      have := HQS.out
      have h10 := congrArg List.length HQD.out
      rw [ba_len] at h10
      omega
    by_cases hlt : j < nl
    · obtain ⟨x, hx⟩ : ∃ x, l[j]? = some x := ⟨l[j]'(by rw [HL.out]; exact hlt), List.getElem?_eq_getElem _⟩
      obtain ⟨bl, ol, hpl, hbl, hInL⟩ := HM.out (by rw [HL.out]; omega)
      obtain ⟨d0, d1, d2, d3, d4, d5, e0, e1, e2, e3, e4, e5, hInx⟩ := hInL.at hx
      obtain ⟨xk, xb, xn, xs, xpl, xnl, xcl, xpk, xnk, xck, rfl, rfl, rfl, rfl, rfl, rfl⟩ := hInx.shape
      have hji : (j : Int) < nl := by omega
      have hxg := goodL_at HG.out hx
      have hsz := Val.szL_at hx
      have hZZ := HZ.out
      have hpa := parts_at l j x false [] hx
      have htot := HS.out.text
      simp only [List.drop_nil] at htot hpa
      rw [hpa] at htot
      simp only [Bool.false_eq_true, if_false, List.nil_append] at htot
      obtain ⟨xt, hxt⟩ : ∃ q : ByteArray, (⟨(packB x).toArray⟩ : ByteArray) = q := ⟨_, rfl⟩
      have hxd : packB x = xt.data.toList := by rw [← hxt]
      rw [hxd] at htot
      have hlens := congrArg List.length htot
      simp only [List.length_append, List.length_cons, ba_len] at hlens
      have hq10 : (sevL nl).length = q.size := by rw [← HQD.out, ba_len]
      rw [hq10] at hlens
      have hkl0 : ((acc.size : Int) + xt.size ≤ 1073741845) := by
        have := HLEN.out
        have := HQS.out
        omega
      have ELEM : Hid (∀ V, Seen w #[.int .i64 4, .bool b, .int .i64 n, .string s, .slice pl nl cl, .slice pk nk ck] V → V.cell? ⟨bl, ol + j * 6, none⟩ = some (.int .i64 xk) ∧ V.cell? ⟨bl, ol + j * 6 + 1, none⟩ = some (.bool xb) ∧ V.cell? ⟨bl, ol + j * 6 + 2, none⟩ = some (.int .i64 xn) ∧ V.cell? ⟨bl, ol + j * 6 + 3, none⟩ = some (.string xs) ∧ V.cell? ⟨bl, ol + j * 6 + 4, none⟩ = some (.slice xpl xnl xcl) ∧ V.cell? ⟨bl, ol + j * 6 + 5, none⟩ = some (.slice xpk xnk xck)) := Lib.hid fun V hV => by
        have hq := fun i => hV.low.cell (p := ⟨bl, i, none⟩) (Nat.lt_of_lt_of_le hbl hB)
        exact ⟨(hq _).trans e0, (hq _).trans e1, (hq _).trans e2, (hq _).trans e3, (hq _).trans e4, (hq _).trans e5⟩
      have CALL : Hid (∀ V, Seen w #[.int .i64 4, .bool b, .int .i64 n, .string s, .slice pl nl cl, .slice pk nk ck] V → Calls Try.prog 36 #[.agg #[.int .i64 xk, .bool xb, .int .i64 xn, .string xs, .slice xpl xnl xcl, .slice xpk xnk xck]] V fun e w' => e = .returned (.string xt) ∧ Below V.heap.size V w') := Lib.hid fun V hV => by
        rw [← hxt]
        exact IH.out x _ B V (hT.out x (List.mem_of_getElem? hx)) (hInx.keep fun q hq => hV.low.cell (Nat.lt_of_lt_of_le hq hB)) (Nat.le_trans hB hV.low.size) (Val.okNL_at HN.out hx) hxg (by omega)
      have HX : Hid ((acc ++ xt).data.toList ++ partsP (l.drop (j + 1)) false ([].drop (j + 1)) = 5 :: sevL nl ++ partsP l false []) := Lib.hid (by rw [← htot, List.drop_nil]; simp [ba_append])
      clear hInx hInL hx hxg hsz hZZ hpa htot hxt hxd e0 e1 e2 e3 e4 e5 hlens hq10
      subst hpl
      have HT3 := Lib.hid HS.out.stay
      obtain ⟨d0, d1, d2, d3, d4, d5⟩ := ELEM.out wr HS.out.stay
      go_wp2_with fail
      refine (CALL.out _ HT3.out).mono ?_
      rintro e w5 ⟨rfl, hb5⟩
      have HF : Hid (RtAt (5 :: sevL nl) l [] false w _ (j + 1) (acc ++ xt) w5) := Lib.hid ⟨HX.out, HT3.out.step hb5⟩
      clear hb5
      go_wp2
      go_roundw
      case rel => exact ⟨j + 1, _, rfl, by go_num, by omega, HF⟩
      case measure => simp [intOf]; omega
    · have hjn : j = nl := by omega
      have HJ := Lib.hid hjn
      have hji : ¬ (j : Int) < nl := by omega
      clear hjn
      go_wp2
      go_ret
      have hA := HS.out.text
      rw [HJ.out, ← HL.out, List.drop_length, partsP, List.append_nil, HL.out] at hA
      exact ⟨ret_text hA, HS.out.stay.low⟩
set_option maxRecDepth 100000 in
set_option maxHeartbeats 8000000 in
theorem ref_map (b : Bool) (n : Int) (s : ByteArray) (l : List VT) (ks : List ByteArray) (N B : Nat) (pl pk : Option Addr) (nl cl ck : Nat) (w : World) (IH : Hid (RtIH N)) (hT : Hid (∀ x, x ∈ l → x.parts ≤ N)) (HL : Hid (l.length = nl)) (HKL : Hid (ks.length = nl)) 
    (HM : Hid (0 < l.length → ∃ bl ol, pl = some ⟨bl, ol, none⟩ ∧ bl < B ∧ VT.InL w B bl ol l)) (HK : Hid (VT.KeysIn w B pk ks)) (hB : B ≤ w.heap.size) (HN : Hid (okNL l)) (HG : Hid (goodL l)) (HLEN : Hid ((partsP l true ks).length ≤ 1073741824)) (HZ : Hid (szL l + szK ks ≤ 1073741824)) (hnl : nl ≤ maxLen) :
    Calls Try.prog 36 #[.agg #[.int .i64 5, .bool b, .int .i64 n, .string s, .slice pl nl cl, .slice pk nl ck]] w fun e w' => e = .returned (.string ⟨(6 :: (sevL nl ++ partsP l true ks) : List UInt8).toArray⟩) ∧ Below w.heap.size w w' := by
  unfold maxLen at hnl
  have hwr : IntKind.u64.wrap (nl : Int) = (nl : Int) := by rw [IntKind.wrap_u64]; omega
  have HE := Lib.hid (fun V => refNumber_any nl nl V (Nat.le_refl _) (by omega))
  obtain ⟨q, hq⟩ : ∃ q : ByteArray, sevS nl = q := ⟨_, rfl⟩
  have hqd : q.data.toList = sevL nl := by rw [← hq]; rfl
  have hqs : q.size ≤ 10 := by rw [← ba_len, hqd]; exact sevL_len10 (by omega)
  have HQS := Lib.hid hqs
  have HQD := Lib.hid hqd
  have hqi : (q.size : Int) ≤ 10 := by omega
  rw [hq] at HE
  have HS0 := Lib.hid (Seen.new w #[.int .i64 5, .bool b, .int .i64 n, .string s, .slice pl nl cl, .slice pk nl ck])
  clear hqd hq hqs
  go_enter Try.func36, Try.ntmps36
  go_wp2_with fail
  refine (HE.out _).mono ?_
  rintro e w1 ⟨rfl, hb1⟩
  have HW0 : Hid (RtAt (6 :: sevL nl) l ks true w #[.int .i64 5, .bool b, .int .i64 n, .string s, .slice pl nl cl, .slice pk nl ck] 0 (⟨#[6]⟩ ++ q) w1) := Lib.hid ⟨by rw [ba_append, HQD.out]; rfl, HS0.out.step hb1⟩
  obtain ⟨c0, c1, c2, c3, c4, c5⟩ := HW0.out.stay.box.cell
  clear hb1
  go_wp2
  clear c0 c1 c2 c3 c4 c5
  go_loopw [3, 4] (fun a i wr => ∃ (j : Nat) (acc : ByteArray), a = .string acc ∧ i = .int .i64 (j : Int) ∧ j ≤ nl ∧ Hid (RtAt (6 :: sevL nl) l ks true w #[.int .i64 5, .bool b, .int .i64 n, .string s, .slice pl nl cl, .slice pk nl ck] j acc wr)) (fun _ i _ => nl - (intOf i).toNat)
  case atStart => exact ⟨0, _, rfl, rfl, Nat.zero_le _, HW0⟩
  case round =>
    rename_i wr
    obtain ⟨j, acc, rfl, rfl, hj, HS⟩ := hrel
    clear HW0
    obtain ⟨c0, c1, c2, c3, c4, c5⟩ := HS.out.stay.box.cell
    have hwlt : w.heap.size < wr.heap.size := HS.out.stay.box.lt
    have hal : (acc.size : Int) ≤ 1073741845 := by
      have hl := congrArg List.length HS.out.text
      simp only [List.length_append, List.length_cons, ba_len] at hl
      have := HLEN.out
      have := HQS.out
      have h10 := congrArg List.length HQD.out
      rw [ba_len] at h10
      omega
    by_cases hlt : j < nl
    · obtain ⟨x, hx⟩ : ∃ x, l[j]? = some x := ⟨l[j]'(by rw [HL.out]; exact hlt), List.getElem?_eq_getElem _⟩
      obtain ⟨bl, ol, hpl, hbl, hInL⟩ := HM.out (by rw [HL.out]; omega)
      obtain ⟨d0, d1, d2, d3, d4, d5, e0, e1, e2, e3, e4, e5, hInx⟩ := hInL.at hx
      obtain ⟨xk, xb, xn, xs, xpl, xnl, xcl, xpk, xnk, xck, rfl, rfl, rfl, rfl, rfl, rfl⟩ := hInx.shape
      have hji : (j : Int) < nl := by omega
      have hjk : j < ks.length := by rw [HKL.out]; omega
      obtain ⟨kb, ko, hpk, hkb, hkc⟩ := HK.out (by omega)
      have hkz : 4 * (ks.getD j default).size + 8 ≤ szK ks := Val.szK_at (by rw [List.getD_eq_getElem?_getD, List.getElem?_eq_getElem hjk]; rfl)
      have hxg := goodL_at HG.out hx
      have hsz := Val.szL_at hx
      have hZZ := HZ.out
      have hpa := parts_at l j x true ks hx
      have htot := HS.out.text
      rw [hpa] at htot
      simp only [if_true] at htot
      have hck := hkc j hjk
      obtain ⟨key, hkey⟩ : ∃ key, ks.getD j default = key := ⟨_, rfl⟩
      rw [hkey] at hkz htot hck
      obtain ⟨kt, hkt⟩ : ∃ q : ByteArray, sevS key.size = q := ⟨_, rfl⟩
      have hkd : textB key = kt.data.toList ++ key.data.toList := by rw [← hkt]; rfl
      obtain ⟨xt, hxt⟩ : ∃ q : ByteArray, (⟨(packB x).toArray⟩ : ByteArray) = q := ⟨_, rfl⟩
      have hxd : packB x = xt.data.toList := by rw [← hxt]
      rw [hxd, hkd] at htot
      have hlens := congrArg List.length htot
      simp only [List.length_append, List.length_cons, ba_len] at hlens
      have hq10 : (sevL nl).length = q.size := by rw [← HQD.out, ba_len]
      rw [hq10] at hlens
      have hkl0 : ((acc.size : Int) + kt.size + key.size + xt.size ≤ 1073741845) := by
        have := HLEN.out
        have := HQS.out
        omega
      have ELEM : Hid (∀ V, Seen w #[.int .i64 5, .bool b, .int .i64 n, .string s, .slice pl nl cl, .slice pk nl ck] V → V.cell? ⟨bl, ol + j * 6, none⟩ = some (.int .i64 xk) ∧ V.cell? ⟨bl, ol + j * 6 + 1, none⟩ = some (.bool xb) ∧ V.cell? ⟨bl, ol + j * 6 + 2, none⟩ = some (.int .i64 xn) ∧ V.cell? ⟨bl, ol + j * 6 + 3, none⟩ = some (.string xs) ∧ V.cell? ⟨bl, ol + j * 6 + 4, none⟩ = some (.slice xpl xnl xcl) ∧ V.cell? ⟨bl, ol + j * 6 + 5, none⟩ = some (.slice xpk xnk xck)) := Lib.hid fun V hV => by
        have hq := fun i => hV.low.cell (p := ⟨bl, i, none⟩) (Nat.lt_of_lt_of_le hbl hB)
        exact ⟨(hq _).trans e0, (hq _).trans e1, (hq _).trans e2, (hq _).trans e3, (hq _).trans e4, (hq _).trans e5⟩
      have CALL : Hid (∀ V, Seen w #[.int .i64 5, .bool b, .int .i64 n, .string s, .slice pl nl cl, .slice pk nl ck] V → Calls Try.prog 36 #[.agg #[.int .i64 xk, .bool xb, .int .i64 xn, .string xs, .slice xpl xnl xcl, .slice xpk xnk xck]] V fun e w' => e = .returned (.string xt) ∧ Below V.heap.size V w') := Lib.hid fun V hV => by
        rw [← hxt]
        exact IH.out x _ B V (hT.out x (List.mem_of_getElem? hx)) (hInx.keep fun q hq => hV.low.cell (Nat.lt_of_lt_of_le hq hB)) (Nat.le_trans hB hV.low.size) (Val.okNL_at HN.out hx) hxg (by omega)
      have KEYM : Hid (∀ V, Seen w #[.int .i64 5, .bool b, .int .i64 n, .string s, .slice pl nl cl, .slice pk nl ck] V → V.cell? ⟨kb, ko + j, none⟩ = some (.string key)) := Lib.hid fun V hV => (hV.low.cell (p := ⟨kb, ko + j, none⟩) (Nat.lt_of_lt_of_le hkb hB)).trans hck
      have KEYC : Hid (∀ V, Calls Try.prog 60 #[.int .u64 (key.size : Int)] V fun e w' => e = .returned (.string kt) ∧ Below V.heap.size V w') := Lib.hid fun V => by
        rw [← hkt]
        exact refNumber_any key.size key.size V (Nat.le_refl _) (by omega)
      have hkw : IntKind.u64.wrap (key.size : Int) = (key.size : Int) := by rw [IntKind.wrap_u64]; omega
      have HX : Hid ((acc ++ kt ++ key ++ xt).data.toList ++ partsP (l.drop (j + 1)) true (ks.drop (j + 1)) = 6 :: sevL nl ++ partsP l true ks) := Lib.hid (by rw [← htot]; simp [ba_append])
      have SZ : ((acc ++ kt).size : Int) = (acc.size : Int) + kt.size := by rw [ByteArray.size_append]; omega
      have SZ2 : ((acc ++ kt ++ key).size : Int) = (acc.size : Int) + kt.size + key.size := by rw [ByteArray.size_append, ByteArray.size_append]; omega
      clear hInx hInL hx hxg hsz hZZ hpa htot hxt hxd hkt hkd hck hkc hkz hkey e0 e1 e2 e3 e4 e5 hlens hq10
      subst hpl hpk
      go_upto_region 24 with fail
      have ST0 := Lib.hid (HS.out.stay.step (Below.refl _ _).drew)
      refine wp_region_seq (Seen w #[.int .i64 5, .bool b, .int .i64 n, .string s, .slice (some ⟨bl, ol, none⟩) nl cl, .slice (some ⟨kb, ko, none⟩) nl ck]) [0, 1, 2, 3, 4, 5, 6, 7, 10, 11, 12, 13, 14, 8, 9, 15, 16] (by kernel_rfl) (by kernel_rfl) (by kernel_rfl) (by kernel_rfl) ST0.out ?_
      refine seqS_take (o := _) (.string acc) (by conv => lhs; simp only [List.getElem?_toArray, List.getElem?_cons_succ, List.getElem?_cons_zero]) (by rfl) (by rfl) ?_ (fun _ => by rfl) (by conv => lhs; simp only [Act.put, List.setIfInBounds_toArray, List.set_cons_succ, List.set_cons_zero]) ?_
      · intro w _; go_simp
      refine seqS_take (o := _) (.pointer (some ⟨w.heap.size, 5, none⟩)) (by conv => lhs; simp only [List.getElem?_toArray, List.getElem?_cons_succ, List.getElem?_cons_zero]) (by rfl) (by rfl) ?_ (fun _ => by rfl) (by conv => lhs; simp only [Act.put, List.setIfInBounds_toArray, List.set_cons_succ, List.set_cons_zero]) ?_
      · intro w _; go_simp
      refine seqS_take (o := _) (.slice (some ⟨kb, ko, none⟩) nl ck) (by conv => lhs; simp only [List.getElem?_toArray, List.getElem?_cons_succ, List.getElem?_cons_zero]) (by rfl) (by rfl) ?_ (fun _ => by rfl) (by conv => lhs; simp only [Act.put, List.setIfInBounds_toArray, List.set_cons_succ, List.set_cons_zero]) ?_
      · rintro w' t0; obtain ⟨c0, c1, c2, c3, c4, c5⟩ := t0.box.cell; clear t0; go_simp
      refine seqS_take (o := _) (.int .i64 (j : Int)) (by conv => lhs; simp only [List.getElem?_toArray, List.getElem?_cons_succ, List.getElem?_cons_zero]) (by rfl) (by rfl) ?_ (fun _ => by rfl) (by conv => lhs; simp only [Act.put, List.setIfInBounds_toArray, List.set_cons_succ, List.set_cons_zero]) ?_
      · intro w _; go_simp
      refine seqS_take (o := _) (.pointer (some ⟨kb, ko + j, none⟩)) (by conv => lhs; simp only [List.getElem?_toArray, List.getElem?_cons_succ, List.getElem?_cons_zero]) (by rfl) (by rfl) ?_ (fun _ => by rfl) (by conv => lhs; simp only [Act.put, List.setIfInBounds_toArray, List.set_cons_succ, List.set_cons_zero]) ?_
      · intro w _; go_simp
      refine seqS_take (o := _) (.string key) (by conv => lhs; simp only [List.getElem?_toArray, List.getElem?_cons_succ, List.getElem?_cons_zero]) (by rfl) (by rfl) ?_ (fun _ => by rfl) (by conv => lhs; simp only [Act.put, List.setIfInBounds_toArray, List.set_cons_succ, List.set_cons_zero]) ?_
      · rintro w' t0; have ck := KEYM.out w' t0; clear t0; go_simp
      refine seqS_take (o := _) (.int .i64 (key.size : Int)) (by conv => lhs; simp only [List.getElem?_toArray, List.getElem?_cons_succ, List.getElem?_cons_zero]) (by rfl) (by rfl) ?_ (fun _ => by rfl) (by conv => lhs; simp only [Act.put, List.setIfInBounds_toArray, List.set_cons_succ, List.set_cons_zero]) ?_
      · intro w _; go_simp
      refine seqS_take (o := _) (.int .u64 (key.size : Int)) (by conv => lhs; simp only [List.getElem?_toArray, List.getElem?_cons_succ, List.getElem?_cons_zero]) (by rfl) (by rfl) ?_ (fun _ => by rfl) (by conv => lhs; simp only [Act.put, List.setIfInBounds_toArray, List.set_cons_succ, List.set_cons_zero]) ?_
      · intro w _; go_simp; try exact hkw
      refine seqS_take (o := _) (.pointer (some ⟨w.heap.size, 5, none⟩)) (by conv => lhs; simp only [List.getElem?_toArray, List.getElem?_cons_succ, List.getElem?_cons_zero]) (by rfl) (by rfl) ?_ (fun _ => by rfl) (by conv => lhs; simp only [Act.put, List.setIfInBounds_toArray, List.set_cons_succ, List.set_cons_zero]) ?_
      · intro w _; go_simp
      refine seqS_take (o := _) (.slice (some ⟨kb, ko, none⟩) nl ck) (by conv => lhs; simp only [List.getElem?_toArray, List.getElem?_cons_succ, List.getElem?_cons_zero]) (by rfl) (by rfl) ?_ (fun _ => by rfl) (by conv => lhs; simp only [Act.put, List.setIfInBounds_toArray, List.set_cons_succ, List.set_cons_zero]) ?_
      · rintro w' t0; obtain ⟨c0, c1, c2, c3, c4, c5⟩ := t0.box.cell; clear t0; go_simp
      refine seqS_take (o := _) (.int .i64 (j : Int)) (by conv => lhs; simp only [List.getElem?_toArray, List.getElem?_cons_succ, List.getElem?_cons_zero]) (by rfl) (by rfl) ?_ (fun _ => by rfl) (by conv => lhs; simp only [Act.put, List.setIfInBounds_toArray, List.set_cons_succ, List.set_cons_zero]) ?_
      · intro w _; go_simp
      refine seqS_take (o := _) (.pointer (some ⟨kb, ko + j, none⟩)) (by conv => lhs; simp only [List.getElem?_toArray, List.getElem?_cons_succ, List.getElem?_cons_zero]) (by rfl) (by rfl) ?_ (fun _ => by rfl) (by conv => lhs; simp only [Act.put, List.setIfInBounds_toArray, List.set_cons_succ, List.set_cons_zero]) ?_
      · intro w _; go_simp
      refine seqS_take (o := _) (.string key) (by conv => lhs; simp only [List.getElem?_toArray, List.getElem?_cons_succ, List.getElem?_cons_zero]) (by rfl) (by rfl) ?_ (fun _ => by rfl) (by conv => lhs; simp only [Act.put, List.setIfInBounds_toArray, List.set_cons_succ, List.set_cons_zero]) ?_
      · rintro w' t0; have ck := KEYM.out w' t0; clear t0; go_simp
      refine seqS_call (o := _) rfl (by conv => lhs; simp only [List.getElem?_toArray, List.getElem?_cons_succ, List.getElem?_cons_zero]) (by rfl) (by rfl) ?_ (KEYC.out wr.drew) ?_
      · go_simp
      rintro e w3 ⟨rfl, hb3⟩
      have T3 := ST0.out.step hb3
      refine ⟨_, _, rfl, (by conv => lhs; simp only [Act.put, List.setIfInBounds_toArray, List.set_cons_succ, List.set_cons_zero]), T3, ?_⟩
      refine seqS_take (o := _) (.string (acc ++ kt)) (by conv => lhs; simp only [List.getElem?_toArray, List.getElem?_cons_succ, List.getElem?_cons_zero]) (by rfl) (by rfl) ?_ (fun _ => by rfl) (by conv => lhs; simp only [Act.put, List.setIfInBounds_toArray, List.set_cons_succ, List.set_cons_zero]) ?_
      · intro w _; go_simp; try omega
      refine seqS_take (o := _) (.string (acc ++ kt ++ key)) (by conv => lhs; simp only [List.getElem?_toArray, List.getElem?_cons_succ, List.getElem?_cons_zero]) (by rfl) (by rfl) ?_ (fun _ => by rfl) (by conv => lhs; simp only [Act.put, List.setIfInBounds_toArray, List.set_cons_succ, List.set_cons_zero]) ?_
      · intro w _; go_simp; try omega
      refine seqS_take (o := _) (.string (acc ++ kt ++ key)) (by conv => lhs; simp only [List.getElem?_toArray, List.getElem?_cons_succ, List.getElem?_cons_zero]) (by rfl) (by rfl) ?_ (fun _ => by rfl) (by conv => lhs; simp only [Act.put, List.setIfInBounds_toArray, List.set_cons_succ, List.set_cons_zero]) ?_
      · intro w _; go_simp
      refine NoPanic.normal ?_
      have HT3 := Lib.hid T3
      obtain ⟨d0, d1, d2, d3, d4, d5⟩ := ELEM.out w3 T3
      obtain ⟨c0, c1, c2, c3, c4, c5⟩ := T3.box.cell
      clear T3 hb3
      go_wp2_with fail
      refine (CALL.out _ HT3.out).mono ?_
      rintro e w5 ⟨rfl, hb5⟩
      have HF : Hid (RtAt (6 :: sevL nl) l ks true w _ (j + 1) (acc ++ kt ++ key ++ xt) w5) := Lib.hid ⟨HX.out, HT3.out.step hb5⟩
      clear hb5
      go_wp2
      go_roundw
      case rel => exact ⟨j + 1, _, rfl, by go_num, by omega, HF⟩
      case measure => simp [intOf]; omega
    · have hjn : j = nl := by omega
      have HJ := Lib.hid hjn
      have hji : ¬ (j : Int) < nl := by omega
      clear hjn
      go_wp2
      go_ret
      have hA := HS.out.text
      rw [HJ.out, ← HL.out, List.drop_length, partsP, List.append_nil, HL.out] at hA
      exact ⟨ret_text hA, HS.out.stay.low⟩
theorem ref_all : ∀ N, RtIH N
  | 0 => fun t _ _ _ h => by have := t.parts_pos; omega
  | N + 1 => fun t v B w hN hIn hB hok hg hsz => by
    have IH := ref_all N
    have hlen := packB_len t hg hok
    obtain ⟨k, b, n, s, l, ks⟩ := t
    have hx := hIn
    unfold VT.In at hx
    obtain ⟨pl, cl, pk, ck, rfl, h1, h2, h3, h4, hks, hl⟩ := hx
    unfold goodV at hg
    unfold okN at hok
    have hsz' := hsz
    unfold szV at hsz
    rw [VT.parts] at hN
    have hp : ∀ x, x ∈ l → x.parts ≤ N := fun x hx => by have := VT.parts_mem hx; omega
    obtain ⟨⟨⟨hk0, hk7⟩, hg5, hg67⟩, hgl⟩ := hg
    unfold packB at hlen ⊢
    by_cases k5 : k = 5
    · subst k5
      rw [if_pos rfl] at hlen ⊢
      have hkl := hg5 rfl
      rw [hkl] at h3 ⊢
      simp only [List.length_cons, List.length_append, List.length_nil] at hlen
      exact ref_map b n s l ks N B pl pk l.length cl ck w (Lib.hid IH) (Lib.hid hp) (Lib.hid rfl) (Lib.hid hkl) (Lib.hid hl) (Lib.hid hks) hB (Lib.hid hok.2) (Lib.hid hgl) (Lib.hid (by omega)) (Lib.hid (by omega)) (by omega)
    rw [if_neg k5] at hlen ⊢
    by_cases k6 : k = 6
    · subst k6
      rw [if_pos rfl]
      exact ref_node b n s pl pk l.length cl ks.length ck w ⟨by have := hg67 (.inl rfl); omega, hok.1.2⟩
    rw [if_neg k6] at hlen ⊢
    by_cases k7 : k = 7
    · subst k7
      rw [if_pos rfl]
      exact ref_edge b n s pl pk l.length cl ks.length ck w ⟨by have := hg67 (.inr rfl); omega, hok.1.2⟩
    rw [if_neg k7] at hlen ⊢
    by_cases k4 : k = 4
    · subst k4
      rw [if_pos rfl] at hlen ⊢
      simp only [List.length_cons, List.length_append, List.length_nil] at hlen
      exact ref_list b n s l N B pl pk l.length cl ks.length ck w (Lib.hid IH) (Lib.hid hp) (Lib.hid rfl) (Lib.hid hl) hB (Lib.hid hok.2) (Lib.hid hgl) (Lib.hid (by omega)) (Lib.hid (by omega)) (by omega)
    rw [if_neg k4]
    by_cases k3 : k = 3
    · subst k3
      rw [if_pos rfl]
      exact ref_str b n s pl pk l.length cl ks.length ck w (by omega)
    rw [if_neg k3]
    by_cases k1 : k = 1
    · subst k1
      rw [if_pos rfl]
      exact ref_bool b n s pl pk l.length cl ks.length ck w
    rw [if_neg k1]
    by_cases k2 : k = 2
    · subst k2
      rw [if_pos rfl]
      exact ref_int b n s pl pk l.length cl ks.length ck w hok.1
    rw [if_neg k2]
    obtain rfl : k = 0 := by omega
    exact ref_null b n s pl pk l.length cl ks.length ck w
end Pk
end Go.Proofs.Ytmhlipncelgmlaa
