/- Values as bytes: the names and bytes of the parts of a map are written behind. -/
import Derived.Test.YtmhlipncelgmlaaPkPutL
namespace Go.Proofs.Ytmhlipncelgmlaa
open Go.RowKit
set_option linter.unusedVariables false
set_option linter.unusedSimpArgs false
namespace Pk
open Val (VT Keeps Box okN okNL szV szL szK)
open Rk (Buf Sk RkPost infoB info_parts lit_one one_one ba_len box_kept goodV goodL goodL_at)
set_option maxRecDepth 100000 in
set_option maxHeartbeats 8000000 in
theorem map_step (b : Bool) (n : Int) (s : ByteArray) (l : List VT) (ks : List ByteArray) (N B C : Nat) (pl pk : Option Addr) (nl cl ck : Nat) (b0 : Value) (bs : List UInt8) (w : World) (IH : Hid (PutIH N)) (hT : Hid (∀ x, x ∈ l → x.parts ≤ N)) (HL : Hid (l.length = nl)) (HKL : Hid (ks.length = nl))
    (HM : Hid (0 < l.length → ∃ bl ol, pl = some ⟨bl, ol, none⟩ ∧ bl < B ∧ VT.InL w B bl ol l)) (HK : Hid (VT.KeysIn w B pk ks)) (hBC : B ≤ C) (hC : C ≤ w.heap.size) (hb : Buf C w b0 bs) (HN : Hid (okNL l)) (HG : Hid (goodL l)) (HLEN : Hid (bs.length + (sevL nl).length + (partsP l true ks).length + 60 ≤ 35184372088832)) (hnl : nl ≤ maxLen) :
    Calls Try.prog 58 #[b0, .agg #[.int .i64 5, .bool b, .int .i64 n, .string s, .slice pl nl cl, .slice pk nl ck]] w fun e w' => RkPost C w (bs ++ (sevL nl ++ partsP l true ks)) e w' := by
  unfold maxLen at hnl
  have HX0 : Hid (Box (w.alloc (.cells #[.int .i64 5, .bool b, .int .i64 n, .string s, .slice pl nl cl, .slice pk nl ck] 25)) w.heap.size #[.int .i64 5, .bool b, .int .i64 n, .string s, .slice pl nl cl, .slice pk nl ck]) := Lib.hid (Box.new w _)
  have S0 := Lib.hid (startA hb hC (.cells #[.int .i64 5, .bool b, .int .i64 n, .string s, .slice pl nl cl, .slice pk nl ck] 25))
  have CALL : Hid (Calls Try.prog 54 #[b0, .int .u64 (nl : Int)] (w.alloc (.cells #[.int .i64 5, .bool b, .int .i64 n, .string s, .slice pl nl cl, .slice pk nl ck] 25)) fun e w' => RkPost C (w.alloc (.cells #[.int .i64 5, .bool b, .int .i64 n, .string s, .slice pl nl cl, .slice pk nl ck] 25)) (bs ++ sevL nl) e w') := Lib.hid (putNumber_any C b0 bs nl _ S0.out.buf (S0.out.hC hC) (by have := HLEN.out; omega) (by omega))
  clear hb
  go_enter Try.func58, Try.ntmps58
  go_wp2_with fail
  refine CALL.out.mono ?_
  rintro e w1 ⟨u1, rfl, h1⟩
  obtain ⟨b1, hb1⟩ : ∃ b1, bs ++ sevL nl = b1 := ⟨_, rfl⟩
  rw [hb1] at h1
  have HB1 := Lib.hid hb1
  clear hb1
  have HW0 : Hid (PRel l ks true b1 C w 0 u1 w1 ∧ Box w1 w.heap.size #[.int .i64 5, .bool b, .int .i64 n, .string s, .slice pl nl cl, .slice pk nl ck]) := Lib.hid ⟨⟨b1, S0.out.trans h1, by simp⟩, box_kept HX0.out h1.kept⟩
  have HLEN1 : Hid (b1.length + (partsP l true ks).length + 60 ≤ 35184372088832) := Lib.hid (by rw [← HB1.out, List.length_append]; exact HLEN.out)
  clear h1 CALL
  obtain ⟨p0, p1, p2, p3, p4, p5⟩ := HW0.out.2.cell
  go_wp2
  go_loopw [0, 16] (fun v i wr => ∃ j : Nat, i = .int .i64 (j : Int) ∧ j ≤ nl ∧ Hid (PRel l ks true b1 C w j v wr ∧ Box wr w.heap.size #[.int .i64 5, .bool b, .int .i64 n, .string s, .slice pl nl cl, .slice pk nl ck])) (fun _ i _ => nl - (intOf i).toNat)
  case atStart => exact ⟨0, rfl, Nat.zero_le _, HW0⟩
  case round =>
    rename_i u wr
    obtain ⟨j, rfl, hj, HR⟩ := hrel
    obtain ⟨acc, HS0, HA0⟩ := HR.out.1
    have HS := Lib.hid HS0
    have HA := Lib.hid HA0
    have HB := Lib.hid HR.out.2
    clear HS0 HA0
    by_cases hlt : j < nl
    · obtain ⟨x, hx⟩ : ∃ x, l[j]? = some x := ⟨l[j]'(by rw [HL.out]; exact hlt), List.getElem?_eq_getElem _⟩
      obtain ⟨bl, ol, hpl, hbl, hInL⟩ := HM.out (by rw [HL.out]; omega)
      obtain ⟨d0, d1, d2, d3, d4, d5, e0, e1, e2, e3, e4, e5, hInx⟩ := hInL.at hx
      obtain ⟨xk, xb, xn, xs, xpl, xnl, xcl, xpk, xnk, xck, rfl, rfl, rfl, rfl, rfl, rfl⟩ := hInx.shape
      have hjk : j < ks.length := by rw [HKL.out]; omega
      obtain ⟨kb, ko, hpk, hkb, hkc⟩ := HK.out (by omega)
      have hkey0 := (HS.out.low.cell (p := ⟨kb, ko + j, none⟩) (Nat.lt_of_lt_of_le hkb hBC)).trans (hkc j hjk)
      have hxg := goodL_at HG.out hx
      have hpa := parts_at l j x true ks hx
      have htot := HA.out
      rw [hpa] at htot
      simp only [if_true] at htot
      obtain ⟨key, hkey⟩ : ∃ key, ks.getD j default = key := ⟨_, rfl⟩
      rw [hkey] at hkey0 htot
      have hl := congrArg List.length htot
      simp only [List.length_append, List.length_cons] at hl
      have hLEN := HLEN1.out
      have hji : (j : Int) < nl := by omega
      have ELEM : Hid (∀ V, Stay C w w.heap.size #[.int .i64 5, .bool b, .int .i64 n, .string s, .slice pl nl cl, .slice pk nl ck] V → V.cell? ⟨bl, ol + j * 6, none⟩ = some (.int .i64 xk) ∧ V.cell? ⟨bl, ol + j * 6 + 1, none⟩ = some (.bool xb) ∧ V.cell? ⟨bl, ol + j * 6 + 2, none⟩ = some (.int .i64 xn) ∧ V.cell? ⟨bl, ol + j * 6 + 3, none⟩ = some (.string xs) ∧ V.cell? ⟨bl, ol + j * 6 + 4, none⟩ = some (.slice xpl xnl xcl) ∧ V.cell? ⟨bl, ol + j * 6 + 5, none⟩ = some (.slice xpk xnk xck)) := Lib.hid fun V hV => by
        have hq := fun i => hV.low.cell (p := ⟨bl, i, none⟩) (Nat.lt_of_lt_of_le hbl hBC)
        exact ⟨(hq _).trans e0, (hq _).trans e1, (hq _).trans e2, (hq _).trans e3, (hq _).trans e4, (hq _).trans e5⟩
      have CALL : Hid (∀ (V : World) (u' : Value), Sk C w V u' (acc ++ textB key) → Calls Try.prog 34 #[u', .agg #[.int .i64 xk, .bool xb, .int .i64 xn, .string xs, .slice xpl xnl xcl, .slice xpk xnk xck]] V fun e V' => RkPost C V (acc ++ textB key ++ packB x) e V') := Lib.hid fun V u' hS => by
        refine IH.out x _ _ _ B C V (hT.out x (List.mem_of_getElem? hx)) (hInx.keep fun q hq => hS.low.cell (Nat.lt_of_lt_of_le hq hBC)) hBC (hS.hC hC) hS.buf (Val.okNL_at HN.out hx) hxg ?_
        simp only [List.length_append, List.length_cons, List.length_nil]
        omega
      have KEYC : Hid (∀ (V : World) (u' : Value), Sk C w V u' acc → Calls Try.prog 56 #[u', .string key] V fun e V' => RkPost C V (acc ++ textB key) e V') := Lib.hid fun V u' hS => by
        refine putText_any C u' _ key V hS.buf (hS.hC hC) ?_
        unfold textB at hl
        simp only [List.length_append, ba_len] at hl
        omega
      have HT : Hid (∀ (V : World) (u' : Value), Sk C w V u' (acc ++ textB key ++ packB x) → PRel l ks true b1 C w (j + 1) u' V) := Lib.hid fun V u' hS => ⟨_, hS, by rw [← htot]; simp [List.append_assoc]⟩
      clear hInx hInL hx hxg hpa htot hl hLEN hkey hkc e0 e1 e2 e3 e4 e5
      subst hpl hpk
      obtain ⟨c0, c1, c2, c3, c4, c5⟩ := HB.out.cell
      go_upto_region 5 with fail
      rename_i KK hKK
      have ST0 : Hid (Stay C w w.heap.size #[.int .i64 5, .bool b, .int .i64 n, .string s, .slice (some ⟨bl, ol, none⟩) nl cl, .slice (some ⟨kb, ko, none⟩) nl ck] wr.drew) := Lib.hid ⟨HB.out, (HS.out.drew hC).low⟩
      have SD := Lib.hid (HS.out.drew hC)
      refine wp_region_seq (Stay C w w.heap.size #[.int .i64 5, .bool b, .int .i64 n, .string s, .slice (some ⟨bl, ol, none⟩) nl cl, .slice (some ⟨kb, ko, none⟩) nl ck]) [0, 1, 3, 4, 5, 6, 7, 2, 8, 9] (by kernel_rfl) (by kernel_rfl) (by kernel_rfl) (by kernel_rfl) ST0.out ?_
      refine seqS_take (o := _) u0 (by conv => lhs; simp only [List.getElem?_toArray, List.getElem?_cons_succ, List.getElem?_cons_zero]) (by rfl) (by rfl) ?_ (fun _ => by rfl) (by conv => lhs; simp only [Act.put, List.setIfInBounds_toArray, List.set_cons_succ, List.set_cons_zero]) ?_
      · intro w _; go_simp
      refine seqS_take (o := _) (.string key) (by conv => lhs; simp only [List.getElem?_toArray, List.getElem?_cons_succ, List.getElem?_cons_zero]) (by rfl) (by rfl) ?_ (fun _ => by rfl) (by conv => lhs; simp only [Act.put, List.setIfInBounds_toArray, List.set_cons_succ, List.set_cons_zero]) ?_
      · intro w _; go_simp
      refine seqS_take (o := _) (.pointer (some ⟨w.heap.size, 4, none⟩)) (by conv => lhs; simp only [List.getElem?_toArray, List.getElem?_cons_succ, List.getElem?_cons_zero]) (by rfl) (by rfl) ?_ (fun _ => by rfl) (by conv => lhs; simp only [Act.put, List.setIfInBounds_toArray, List.set_cons_succ, List.set_cons_zero]) ?_
      · intro w _; go_simp
      refine seqS_take (o := _) (.slice (some ⟨bl, ol, none⟩) nl cl) (by conv => lhs; simp only [List.getElem?_toArray, List.getElem?_cons_succ, List.getElem?_cons_zero]) (by rfl) (by rfl) ?_ (fun _ => by rfl) (by conv => lhs; simp only [Act.put, List.setIfInBounds_toArray, List.set_cons_succ, List.set_cons_zero]) ?_
      · rintro w' t0; obtain ⟨c0, c1, c2, c3, c4, c5⟩ := t0.box.cell; clear t0; go_simp
      refine seqS_take (o := _) (.int .i64 (j : Int)) (by conv => lhs; simp only [List.getElem?_toArray, List.getElem?_cons_succ, List.getElem?_cons_zero]) (by rfl) (by rfl) ?_ (fun _ => by rfl) (by conv => lhs; simp only [Act.put, List.setIfInBounds_toArray, List.set_cons_succ, List.set_cons_zero]) ?_
      · intro w _; go_simp
      refine seqS_take (o := _) (.pointer (some ⟨bl, ol + j * 6, none⟩)) (by conv => lhs; simp only [List.getElem?_toArray, List.getElem?_cons_succ, List.getElem?_cons_zero]) (by rfl) (by rfl) ?_ (fun _ => by rfl) (by conv => lhs; simp only [Act.put, List.setIfInBounds_toArray, List.set_cons_succ, List.set_cons_zero]) ?_
      · intro w _; go_simp
      refine seqS_take (o := _) (.agg #[.int .i64 xk, .bool xb, .int .i64 xn, .string xs, .slice xpl xnl xcl, .slice xpk xnk xck]) (by conv => lhs; simp only [List.getElem?_toArray, List.getElem?_cons_succ, List.getElem?_cons_zero]) (by rfl) (by rfl) ?_ (fun _ => by rfl) (by conv => lhs; simp only [Act.put, List.setIfInBounds_toArray, List.set_cons_succ, List.set_cons_zero]) ?_
      · rintro w' t0; obtain ⟨c0, c1, c2, c3, c4, c5⟩ := ELEM.out w' t0; clear t0; go_simp
      have S2 := SD.out
      have T2 := ST0.out
      refine seqS_call (o := _) rfl (by conv => lhs; simp only [List.getElem?_toArray, List.getElem?_cons_succ, List.getElem?_cons_zero]) (by rfl) (by rfl) ?_ (KEYC.out _ _ S2) ?_
      · go_simp
      rintro e w3 ⟨u3, rfl, S3⟩
      refine ⟨_, _, rfl, (by conv => lhs; simp only [Act.put, List.setIfInBounds_toArray, List.set_cons_succ, List.set_cons_zero]), T2.of S3, ?_⟩
      refine seqS_call (o := _) rfl (by conv => lhs; simp only [List.getElem?_toArray, List.getElem?_cons_succ, List.getElem?_cons_zero]) (by rfl) (by rfl) ?_ (CALL.out _ _ (S2.trans S3)) ?_
      · go_simp
      rintro e w4 ⟨u4, rfl, S4⟩
      refine ⟨_, _, rfl, (by conv => lhs; simp only [Act.put, List.setIfInBounds_toArray, List.set_cons_succ, List.set_cons_zero]), (T2.of S3).of S4, ?_⟩
      refine seqS_take (o := _) u4 (by conv => lhs; simp only [List.getElem?_toArray, List.getElem?_cons_succ, List.getElem?_cons_zero]) (by rfl) (by rfl) ?_ (fun _ => by rfl) (by conv => lhs; simp only [Act.put, List.setIfInBounds_toArray, List.set_cons_succ, List.set_cons_zero]) ?_
      · intro w _; go_simp
      refine NoPanic.normal ?_
      have HR' : Hid (PRel l ks true b1 C w (j + 1) u4 w4 ∧ Box w4 w.heap.size #[.int .i64 5, .bool b, .int .i64 n, .string s, .slice (some ⟨bl, ol, none⟩) nl cl, .slice (some ⟨kb, ko, none⟩) nl ck]) := Lib.hid ⟨HT.out _ _ ((S2.trans S3).trans S4), ((T2.of S3).of S4).box⟩
      clear S2 T2 S3 S4
      refine hKK _ _ ?_
      clear hKK
      go_wp2
      go_roundw
      case rel => exact ⟨j + 1, by go_num, by omega, HR'⟩
      case measure => simp [intOf]; omega
    · have hjn : j = nl := by omega
      have HJ := Lib.hid hjn
      have hji : ¬ (j : Int) < nl := by omega
      clear hjn
      have hA := HA.out
      rw [HJ.out, ← HL.out, List.drop_length, partsP, List.append_nil] at hA
      have HA2 := Lib.hid hA
      clear hA
      go_wp2
      go_ret
      have hq := HS.out.post
      rw [HA2.out, ← HB1.out, List.append_assoc] at hq
      exact hq
end Pk
end Go.Proofs.Ytmhlipncelgmlaa
