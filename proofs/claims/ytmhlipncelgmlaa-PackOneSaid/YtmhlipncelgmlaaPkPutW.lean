/- Bytes as values: the writer, bounded by the length of what it writes alone. -/
import Derived.Test.YtmhlipncelgmlaaPkPutA
import Derived.Test.YtmhlipncelgmlaaPkPutV
namespace Go.Proofs.Ytmhlipncelgmlaa
open Go.RowKit
set_option linter.unusedVariables false
set_option linter.unusedSimpArgs false
namespace PkW
open Pk
open Val (VT Keeps Box okN okNL szV szL szK mayB)
open Rk (Buf Sk RkPost infoB info_parts lit_one one_one ba_len box_kept goodV goodL goodL_at kept_of_below)
def PutIH (N : Nat) : Prop := ∀ (t : VT) (v b : Value) (bs : List UInt8) (B C : Nat) (w : World), t.parts ≤ N → VT.In w B t v → B ≤ C → C ≤ w.heap.size → Buf C w b bs → okN t → goodV t → bs.length + (packB t).length + 60 ≤ 140737488355327 →
  Calls Try.prog 34 #[b, v] w fun e w' => RkPost C w (bs ++ packB t) e w'
set_option maxRecDepth 100000 in
set_option maxHeartbeats 4000000 in
theorem list_step (l : List VT) (N B C : Nat) (pl : Option Addr) (nl cl : Nat) (b0 : Value) (bs : List UInt8) (w : World) (IH : Hid (PutIH N)) (hT : Hid (∀ x, x ∈ l → x.parts ≤ N)) (HL : Hid (l.length = nl))
    (HM : Hid (0 < l.length → ∃ bl ol, pl = some ⟨bl, ol, none⟩ ∧ bl < B ∧ VT.InL w B bl ol l)) (hBC : B ≤ C) (hC : C ≤ w.heap.size) (hb : Buf C w b0 bs) (HN : Hid (okNL l)) (HG : Hid (goodL l)) (HLEN : Hid (bs.length + (sevL nl).length + (partsP l false []).length + 60 ≤ 140737488355327)) (hnl : nl ≤ maxLen) :
    Calls Try.prog 57 #[b0, .slice pl nl cl] w fun e w' => RkPost C w (bs ++ (sevL nl ++ partsP l false [])) e w' := by
  unfold maxLen at hnl
  have CALL : Hid (Calls Try.prog 54 #[b0, .int .u64 (nl : Int)] w fun e w' => RkPost C w (bs ++ sevL nl) e w') := Lib.hid (putNumber_any C b0 bs nl w hb hC (by have := HLEN.out; omega) (by omega))
  clear hb
  go_enter Try.func57, Try.ntmps57
  go_wp2_with fail
  refine CALL.out.mono ?_
  rintro e w1 ⟨u1, rfl, h1⟩
  obtain ⟨b1, hb1⟩ : ∃ b1, bs ++ sevL nl = b1 := ⟨_, rfl⟩
  rw [hb1] at h1
  have HB1 := Lib.hid hb1
  clear hb1
  have HW0 : Hid (PRel l [] false b1 C w 0 u1 w1) := Lib.hid ⟨b1, h1, by simp⟩
  have HLEN1 : Hid (b1.length + (partsP l false []).length + 60 ≤ 140737488355327) := Lib.hid (by rw [← HB1.out, List.length_append]; exact HLEN.out)
  clear h1
  go_wp2
  go_loopw [0, 14] (fun v i wr => ∃ j : Nat, i = .int .i64 (j : Int) ∧ j ≤ nl ∧ Hid (PRel l [] false b1 C w j v wr)) (fun _ i _ => nl - (intOf i).toNat)
  case atStart => exact ⟨0, rfl, Nat.zero_le _, HW0⟩
  case round =>
    rename_i u wr
    obtain ⟨j, rfl, hj, HR⟩ := hrel
    obtain ⟨acc, HS0, HA0⟩ := HR.out
    have HS := Lib.hid HS0
    have HA := Lib.hid HA0
    clear HS0 HA0
    by_cases hlt : j < nl
    · obtain ⟨x, hx⟩ : ∃ x, l[j]? = some x := ⟨l[j]'(by rw [HL.out]; exact hlt), List.getElem?_eq_getElem _⟩
      obtain ⟨bl, ol, hpl, hbl, hInL⟩ := HM.out (by rw [HL.out]; omega)
      obtain ⟨d0, d1, d2, d3, d4, d5, e0, e1, e2, e3, e4, e5, hInx⟩ := (VT.InL.keep (fun q hq => HS.out.low.cell (Nat.lt_of_lt_of_le hq hBC)) hbl hInL).at hx
      obtain ⟨xk, xb, xn, xs, xpl, xnl, xcl, xpk, xnk, xck, rfl, rfl, rfl, rfl, rfl, rfl⟩ := hInx.shape
      have hji : (j : Int) < nl := by omega
      have hxg := goodL_at HG.out hx
      have hpa := parts_at l j x false [] hx
      have htot := HA.out
      simp only [List.drop_nil] at htot hpa
      rw [hpa] at htot
      simp only [Bool.false_eq_true, if_false, List.nil_append] at htot
      have hl := congrArg List.length htot
      rw [List.length_append, List.length_append, List.length_append] at hl
      have hLEN := HLEN1.out
      have CALL : Hid (∀ o, Calls Try.prog 34 #[u0, .agg #[.int .i64 xk, .bool xb, .int .i64 xn, .string xs, .slice xpl xnl xcl, .slice xpk xnk xck]] (wr.alloc o) fun e V' => ∃ u', e = .returned u' ∧ Hid (PRel l [] false b1 C w (j + 1) u' V')) := Lib.hid fun o => by
        have hS := HS.out.alloc hC o
        refine (IH.out x _ _ acc B C (wr.alloc o) (hT.out x (List.mem_of_getElem? hx)) (hInx.below ((Below.refl B wr).alloc (Nat.le_trans hBC (HS.out.hC hC)) o)) hBC (hS.hC hC) hS.buf (Val.okNL_at HN.out hx) hxg (by omega)).mono ?_
        rintro e V' ⟨u', rfl, h1⟩
        exact ⟨u', rfl, Lib.hid ⟨_, hS.trans h1, by rw [List.append_assoc, List.drop_nil]; exact htot⟩⟩
      clear hInx hInL hx hxg hpa htot hl hLEN
      subst hpl
      go_wp2_with fail
      refine (CALL.out _).mono ?_
      rintro e V' ⟨u', rfl, HR'⟩
      go_wp2
      go_roundw
      case rel => exact ⟨j + 1, by go_num, by omega, HR'⟩
      case measure => simp [intOf]; omega
    · have hjn : j = nl := by omega
      have HJ := Lib.hid hjn
      have hji : ¬ (j : Int) < nl := by omega
      clear hjn
      have hA := HA.out
      rw [HJ.out, ← HL.out, List.drop_length, partsP, List.append_nil] at hA
      have HA2 := Lib.hid hA
      clear hA
      go_wp2
      go_ret
      have hq := HS.out.post
      rw [HA2.out, ← HB1.out, List.append_assoc] at hq
      exact hq
set_option maxRecDepth 100000 in
set_option maxHeartbeats 8000000 in
theorem map_step (b : Bool) (n : Int) (s : ByteArray) (l : List VT) (ks : List ByteArray) (N B C : Nat) (pl pk : Option Addr) (nl cl ck : Nat) (b0 : Value) (bs : List UInt8) (w : World) (IH : Hid (PutIH N)) (hT : Hid (∀ x, x ∈ l → x.parts ≤ N)) (HL : Hid (l.length = nl)) (HKL : Hid (ks.length = nl))
    (HM : Hid (0 < l.length → ∃ bl ol, pl = some ⟨bl, ol, none⟩ ∧ bl < B ∧ VT.InL w B bl ol l)) (HK : Hid (VT.KeysIn w B pk ks)) (hBC : B ≤ C) (hC : C ≤ w.heap.size) (hb : Buf C w b0 bs) (HN : Hid (okNL l)) (HG : Hid (goodL l)) (HLEN : Hid (bs.length + (sevL nl).length + (partsP l true ks).length + 60 ≤ 140737488355327)) (hnl : nl ≤ maxLen) :
    Calls Try.prog 58 #[b0, .agg #[.int .i64 5, .bool b, .int .i64 n, .string s, .slice pl nl cl, .slice pk nl ck]] w fun e w' => RkPost C w (bs ++ (sevL nl ++ partsP l true ks)) e w' := by
  unfold maxLen at hnl
  have HX0 : Hid (Box (w.alloc (.cells #[.int .i64 5, .bool b, .int .i64 n, .string s, .slice pl nl cl, .slice pk nl ck] 25)) w.heap.size #[.int .i64 5, .bool b, .int .i64 n, .string s, .slice pl nl cl, .slice pk nl ck]) := Lib.hid (Box.new w _)
  have S0 := Lib.hid (startA hb hC (.cells #[.int .i64 5, .bool b, .int .i64 n, .string s, .slice pl nl cl, .slice pk nl ck] 25))
  have CALL : Hid (Calls Try.prog 54 #[b0, .int .u64 (nl : Int)] (w.alloc (.cells #[.int .i64 5, .bool b, .int .i64 n, .string s, .slice pl nl cl, .slice pk nl ck] 25)) fun e w' => RkPost C (w.alloc (.cells #[.int .i64 5, .bool b, .int .i64 n, .string s, .slice pl nl cl, .slice pk nl ck] 25)) (bs ++ sevL nl) e w') := Lib.hid (putNumber_any C b0 bs nl _ S0.out.buf (S0.out.hC hC) (by have := HLEN.out; omega) (by omega))
  clear hb
  go_enter Try.func58, Try.ntmps58
  go_wp2_with fail
  refine CALL.out.mono ?_
  rintro e w1 ⟨u1, rfl, h1⟩
  obtain ⟨b1, hb1⟩ : ∃ b1, bs ++ sevL nl = b1 := ⟨_, rfl⟩
  rw [hb1] at h1
  have HB1 := Lib.hid hb1
  clear hb1
  have HW0 : Hid (PRel l ks true b1 C w 0 u1 w1 ∧ Box w1 w.heap.size #[.int .i64 5, .bool b, .int .i64 n, .string s, .slice pl nl cl, .slice pk nl ck]) := Lib.hid ⟨⟨b1, S0.out.trans h1, by simp⟩, box_kept HX0.out h1.kept⟩
  have HLEN1 : Hid (b1.length + (partsP l true ks).length + 60 ≤ 140737488355327) := Lib.hid (by rw [← HB1.out, List.length_append]; exact HLEN.out)
  clear h1 CALL
  obtain ⟨p0, p1, p2, p3, p4, p5⟩ := HW0.out.2.cell
  go_wp2
  go_loopw [0, 16] (fun v i wr => ∃ j : Nat, i = .int .i64 (j : Int) ∧ j ≤ nl ∧ Hid (PRel l ks true b1 C w j v wr ∧ Box wr w.heap.size #[.int .i64 5, .bool b, .int .i64 n, .string s, .slice pl nl cl, .slice pk nl ck])) (fun _ i _ => nl - (intOf i).toNat)
  case atStart => exact ⟨0, rfl, Nat.zero_le _, HW0⟩
  case round =>
    rename_i u wr
    obtain ⟨j, rfl, hj, HR⟩ := hrel
    obtain ⟨acc, HS0, HA0⟩ := HR.out.1
    have HS := Lib.hid HS0
    have HA := Lib.hid HA0
    have HB := Lib.hid HR.out.2
    clear HS0 HA0
    by_cases hlt : j < nl
    · obtain ⟨x, hx⟩ : ∃ x, l[j]? = some x := ⟨l[j]'(by rw [HL.out]; exact hlt), List.getElem?_eq_getElem _⟩
      obtain ⟨bl, ol, hpl, hbl, hInL⟩ := HM.out (by rw [HL.out]; omega)
      obtain ⟨d0, d1, d2, d3, d4, d5, e0, e1, e2, e3, e4, e5, hInx⟩ := hInL.at hx
      obtain ⟨xk, xb, xn, xs, xpl, xnl, xcl, xpk, xnk, xck, rfl, rfl, rfl, rfl, rfl, rfl⟩ := hInx.shape
      have hjk : j < ks.length := by rw [HKL.out]; omega
      obtain ⟨kb, ko, hpk, hkb, hkc⟩ := HK.out (by omega)
      have hkey0 := (HS.out.low.cell (p := ⟨kb, ko + j, none⟩) (Nat.lt_of_lt_of_le hkb hBC)).trans (hkc j hjk)
      have hxg := goodL_at HG.out hx
      have hpa := parts_at l j x true ks hx
      have htot := HA.out
      rw [hpa] at htot
      simp only [if_true] at htot
      obtain ⟨key, hkey⟩ : ∃ key, ks.getD j default = key := ⟨_, rfl⟩
      rw [hkey] at hkey0 htot
      have hl := congrArg List.length htot
      simp only [List.length_append, List.length_cons] at hl
      have hLEN := HLEN1.out
      have hji : (j : Int) < nl := by omega
      have ELEM : Hid (∀ V, Stay C w w.heap.size #[.int .i64 5, .bool b, .int .i64 n, .string s, .slice pl nl cl, .slice pk nl ck] V → V.cell? ⟨bl, ol + j * 6, none⟩ = some (.int .i64 xk) ∧ V.cell? ⟨bl, ol + j * 6 + 1, none⟩ = some (.bool xb) ∧ V.cell? ⟨bl, ol + j * 6 + 2, none⟩ = some (.int .i64 xn) ∧ V.cell? ⟨bl, ol + j * 6 + 3, none⟩ = some (.string xs) ∧ V.cell? ⟨bl, ol + j * 6 + 4, none⟩ = some (.slice xpl xnl xcl) ∧ V.cell? ⟨bl, ol + j * 6 + 5, none⟩ = some (.slice xpk xnk xck)) := Lib.hid fun V hV => by
        have hq := fun i => hV.low.cell (p := ⟨bl, i, none⟩) (Nat.lt_of_lt_of_le hbl hBC)
        exact ⟨(hq _).trans e0, (hq _).trans e1, (hq _).trans e2, (hq _).trans e3, (hq _).trans e4, (hq _).trans e5⟩
      have CALL : Hid (∀ (V : World) (u' : Value), Sk C w V u' (acc ++ textB key) → Calls Try.prog 34 #[u', .agg #[.int .i64 xk, .bool xb, .int .i64 xn, .string xs, .slice xpl xnl xcl, .slice xpk xnk xck]] V fun e V' => RkPost C V (acc ++ textB key ++ packB x) e V') := Lib.hid fun V u' hS => by
        refine IH.out x _ _ _ B C V (hT.out x (List.mem_of_getElem? hx)) (hInx.keep fun q hq => hS.low.cell (Nat.lt_of_lt_of_le hq hBC)) hBC (hS.hC hC) hS.buf (Val.okNL_at HN.out hx) hxg ?_
        simp only [List.length_append, List.length_cons, List.length_nil]
        omega
      have KEYC : Hid (∀ (V : World) (u' : Value), Sk C w V u' acc → Calls Try.prog 56 #[u', .string key] V fun e V' => RkPost C V (acc ++ textB key) e V') := Lib.hid fun V u' hS => by
        refine putText_any C u' _ key V hS.buf (hS.hC hC) ?_
        unfold textB at hl
        simp only [List.length_append, ba_len] at hl
        omega
      have HT : Hid (∀ (V : World) (u' : Value), Sk C w V u' (acc ++ textB key ++ packB x) → PRel l ks true b1 C w (j + 1) u' V) := Lib.hid fun V u' hS => ⟨_, hS, by rw [← htot]; simp [List.append_assoc]⟩
      clear hInx hInL hx hxg hpa htot hl hLEN hkey hkc e0 e1 e2 e3 e4 e5
      subst hpl hpk
      obtain ⟨c0, c1, c2, c3, c4, c5⟩ := HB.out.cell
      go_upto_region 5 with fail
      rename_i KK hKK
      have ST0 : Hid (Stay C w w.heap.size #[.int .i64 5, .bool b, .int .i64 n, .string s, .slice (some ⟨bl, ol, none⟩) nl cl, .slice (some ⟨kb, ko, none⟩) nl ck] wr.drew) := Lib.hid ⟨HB.out, (HS.out.drew hC).low⟩
      have SD := Lib.hid (HS.out.drew hC)
      refine wp_region_seq (Stay C w w.heap.size #[.int .i64 5, .bool b, .int .i64 n, .string s, .slice (some ⟨bl, ol, none⟩) nl cl, .slice (some ⟨kb, ko, none⟩) nl ck]) [0, 1, 3, 4, 5, 6, 7, 2, 8, 9] (by kernel_rfl) (by kernel_rfl) (by kernel_rfl) (by kernel_rfl) ST0.out ?_
      refine seqS_take (o := _) u0 (by conv => lhs; simp only [List.getElem?_toArray, List.getElem?_cons_succ, List.getElem?_cons_zero]) (by rfl) (by rfl) ?_ (fun _ => by rfl) (by conv => lhs; simp only [Act.put, List.setIfInBounds_toArray, List.set_cons_succ, List.set_cons_zero]) ?_
      · intro w _; go_simp
      refine seqS_take (o := _) (.string key) (by conv => lhs; simp only [List.getElem?_toArray, List.getElem?_cons_succ, List.getElem?_cons_zero]) (by rfl) (by rfl) ?_ (fun _ => by rfl) (by conv => lhs; simp only [Act.put, List.setIfInBounds_toArray, List.set_cons_succ, List.set_cons_zero]) ?_
      · intro w _; go_simp
      refine seqS_take (o := _) (.pointer (some ⟨w.heap.size, 4, none⟩)) (by conv => lhs; simp only [List.getElem?_toArray, List.getElem?_cons_succ, List.getElem?_cons_zero]) (by rfl) (by rfl) ?_ (fun _ => by rfl) (by conv => lhs; simp only [Act.put, List.setIfInBounds_toArray, List.set_cons_succ, List.set_cons_zero]) ?_
      · intro w _; go_simp
      refine seqS_take (o := _) (.slice (some ⟨bl, ol, none⟩) nl cl) (by conv => lhs; simp only [List.getElem?_toArray, List.getElem?_cons_succ, List.getElem?_cons_zero]) (by rfl) (by rfl) ?_ (fun _ => by rfl) (by conv => lhs; simp only [Act.put, List.setIfInBounds_toArray, List.set_cons_succ, List.set_cons_zero]) ?_
      · rintro w' t0; obtain ⟨c0, c1, c2, c3, c4, c5⟩ := t0.box.cell; clear t0; go_simp
      refine seqS_take (o := _) (.int .i64 (j : Int)) (by conv => lhs; simp only [List.getElem?_toArray, List.getElem?_cons_succ, List.getElem?_cons_zero]) (by rfl) (by rfl) ?_ (fun _ => by rfl) (by conv => lhs; simp only [Act.put, List.setIfInBounds_toArray, List.set_cons_succ, List.set_cons_zero]) ?_
      · intro w _; go_simp
      refine seqS_take (o := _) (.pointer (some ⟨bl, ol + j * 6, none⟩)) (by conv => lhs; simp only [List.getElem?_toArray, List.getElem?_cons_succ, List.getElem?_cons_zero]) (by rfl) (by rfl) ?_ (fun _ => by rfl) (by conv => lhs; simp only [Act.put, List.setIfInBounds_toArray, List.set_cons_succ, List.set_cons_zero]) ?_
      · intro w _; go_simp
      refine seqS_take (o := _) (.agg #[.int .i64 xk, .bool xb, .int .i64 xn, .string xs, .slice xpl xnl xcl, .slice xpk xnk xck]) (by conv => lhs; simp only [List.getElem?_toArray, List.getElem?_cons_succ, List.getElem?_cons_zero]) (by rfl) (by rfl) ?_ (fun _ => by rfl) (by conv => lhs; simp only [Act.put, List.setIfInBounds_toArray, List.set_cons_succ, List.set_cons_zero]) ?_
      · rintro w' t0; obtain ⟨c0, c1, c2, c3, c4, c5⟩ := ELEM.out w' t0; clear t0; go_simp
      have S2 := SD.out
      have T2 := ST0.out
      refine seqS_call (o := _) rfl (by conv => lhs; simp only [List.getElem?_toArray, List.getElem?_cons_succ, List.getElem?_cons_zero]) (by rfl) (by rfl) ?_ (KEYC.out _ _ S2) ?_
      · go_simp
      rintro e w3 ⟨u3, rfl, S3⟩
      refine ⟨_, _, rfl, (by conv => lhs; simp only [Act.put, List.setIfInBounds_toArray, List.set_cons_succ, List.set_cons_zero]), T2.of S3, ?_⟩
      refine seqS_call (o := _) rfl (by conv => lhs; simp only [List.getElem?_toArray, List.getElem?_cons_succ, List.getElem?_cons_zero]) (by rfl) (by rfl) ?_ (CALL.out _ _ (S2.trans S3)) ?_
      · go_simp
      rintro e w4 ⟨u4, rfl, S4⟩
      refine ⟨_, _, rfl, (by conv => lhs; simp only [Act.put, List.setIfInBounds_toArray, List.set_cons_succ, List.set_cons_zero]), (T2.of S3).of S4, ?_⟩
      refine seqS_take (o := _) u4 (by conv => lhs; simp only [List.getElem?_toArray, List.getElem?_cons_succ, List.getElem?_cons_zero]) (by rfl) (by rfl) ?_ (fun _ => by rfl) (by conv => lhs; simp only [Act.put, List.setIfInBounds_toArray, List.set_cons_succ, List.set_cons_zero]) ?_
      · intro w _; go_simp
      refine NoPanic.normal ?_
      have HR' : Hid (PRel l ks true b1 C w (j + 1) u4 w4 ∧ Box w4 w.heap.size #[.int .i64 5, .bool b, .int .i64 n, .string s, .slice (some ⟨bl, ol, none⟩) nl cl, .slice (some ⟨kb, ko, none⟩) nl ck]) := Lib.hid ⟨HT.out _ _ ((S2.trans S3).trans S4), ((T2.of S3).of S4).box⟩
      clear S2 T2 S3 S4
      refine hKK _ _ ?_
      clear hKK
      go_wp2
      go_roundw
      case rel => exact ⟨j + 1, by go_num, by omega, HR'⟩
      case measure => simp [intOf]; omega
    · have hjn : j = nl := by omega
      have HJ := Lib.hid hjn
      have hji : ¬ (j : Int) < nl := by omega
      clear hjn
      have hA := HA.out
      rw [HJ.out, ← HL.out, List.drop_length, partsP, List.append_nil] at hA
      have HA2 := Lib.hid hA
      clear hA
      go_wp2
      go_ret
      have hq := HS.out.post
      rw [HA2.out, ← HB1.out, List.append_assoc] at hq
      exact hq
theorem put_all : ∀ N, PutIH N
  | 0 => fun t _ _ _ _ _ _ h => by have := t.parts_pos; omega
  | N + 1 => fun t v u bs B C w hN hIn hBC hC hb hok hg hlen => by
    have IH := put_all N
    obtain ⟨k, b, n, s, l, ks⟩ := t
    have hx := hIn
    unfold VT.In at hx
    obtain ⟨pl, cl, pk, ck, rfl, h1, h2, h3, h4, hks, hl⟩ := hx
    unfold goodV at hg
    unfold okN at hok
    rw [VT.parts] at hN
    have hp : ∀ x, x ∈ l → x.parts ≤ N := fun x hx => by have := VT.parts_mem hx; omega
    obtain ⟨⟨⟨hk0, hk7⟩, hg5, hg67⟩, hgl⟩ := hg
    have hlb : bs.length + 40 ≤ 140737488355307 := by omega
    unfold packB at hlen ⊢
    by_cases k5 : k = 5
    · subst k5
      rw [if_pos rfl] at hlen ⊢
      have hkl := hg5 rfl
      rw [hkl] at h3 hlen ⊢
      refine put_map C u bs b n s pl pk l.length cl l.length ck w hb hC hlb (sevL l.length ++ partsP l true ks) (Lib.hid fun V u' hT hS => ?_)
      have keep : ∀ q : Addr, q.block < B → V.cell? q = w.cell? q := fun q hq => hS.low.cell (Nat.lt_of_lt_of_le hq hBC)
      refine map_step b n s l ks N B C pl pk l.length cl ck u' (bs ++ [6]) V (Lib.hid IH) (Lib.hid hp) (Lib.hid rfl) (Lib.hid hkl) (Lib.hid fun h0 => by
        obtain ⟨bl, ol, e1, e2, e3⟩ := hl h0
        exact ⟨bl, ol, e1, e2, VT.InL.keep keep e2 e3⟩) (Lib.hid (hks.keep keep)) hBC (hS.hC hC) hS.buf (Lib.hid hok.2) (Lib.hid hgl) (Lib.hid ?_) (by omega)
      simp only [List.length_cons, List.length_append, List.length_nil] at hlen ⊢
      omega
    rw [if_neg k5] at hlen ⊢
    by_cases k6 : k = 6
    · subst k6
      rw [if_pos rfl] at hlen ⊢
      exact put_node C u bs b n s pl pk l.length cl ks.length ck w hb hC hlb ⟨by have := hg67 (.inl rfl); omega, hok.1.2⟩
    rw [if_neg k6] at hlen ⊢
    by_cases k7 : k = 7
    · subst k7
      rw [if_pos rfl] at hlen ⊢
      exact put_edge C u bs b n s pl pk l.length cl ks.length ck w hb hC hlb ⟨by have := hg67 (.inr rfl); omega, hok.1.2⟩
    rw [if_neg k7] at hlen ⊢
    by_cases k4 : k = 4
    · subst k4
      rw [if_pos rfl] at hlen ⊢
      refine put_list C u bs b n s pl pk l.length cl ks.length ck w hb hC hlb (sevL l.length ++ partsP l false []) (Lib.hid fun V u' hT hS => ?_)
      have keep : ∀ q : Addr, q.block < B → V.cell? q = w.cell? q := fun q hq => hS.low.cell (Nat.lt_of_lt_of_le hq hBC)
      refine list_step l N B C pl l.length cl u' (bs ++ [5]) V (Lib.hid IH) (Lib.hid hp) (Lib.hid rfl) (Lib.hid fun h0 => by
        obtain ⟨bl, ol, e1, e2, e3⟩ := hl h0
        exact ⟨bl, ol, e1, e2, VT.InL.keep keep e2 e3⟩) hBC (hS.hC hC) hS.buf (Lib.hid hok.2) (Lib.hid hgl) (Lib.hid ?_) (by omega)
      simp only [List.length_cons, List.length_append, List.length_nil] at hlen ⊢
      omega
    rw [if_neg k4] at hlen ⊢
    by_cases k3 : k = 3
    · subst k3
      rw [if_pos rfl] at hlen ⊢
      refine put_str C u bs b n s pl pk l.length cl ks.length ck w hb hC ?_
      unfold textB at hlen
      simp only [List.length_cons, List.length_append, ba_len] at hlen
      omega
    rw [if_neg k3] at hlen ⊢
    by_cases k1 : k = 1
    · subst k1
      rw [if_pos rfl] at hlen ⊢
      cases b with
      | true => exact put_true C u bs n s pl pk l.length cl ks.length ck w hb hC hlb
      | false => exact put_false C u bs n s pl pk l.length cl ks.length ck w hb hC hlb
    rw [if_neg k1] at hlen ⊢
    by_cases k2 : k = 2
    · subst k2
      rw [if_pos rfl] at hlen ⊢
      exact put_int C u bs b n s pl pk l.length cl ks.length ck w hb hC hlb hok.1
    rw [if_neg k2] at hlen ⊢
    obtain rfl : k = 0 := by omega
    exact put_null C u bs b n s pl pk l.length cl ks.length ck w hb hC hlb
/-! ### How long the bytes are -/
set_option maxHeartbeats 2000000 in
set_option maxRecDepth 100000 in
theorem encode_len (t : VT) (v : Value) (B : Nat) (w : World) (hIn : VT.In w B t v) (hB : B ≤ w.heap.size) (hok : okN t) (hsz : (packB t).length + 60 ≤ 140737488355327) :
    Calls Try.prog 14 #[v] w fun e w' => EncPost t w e w' := by
  have HC := Lib.hid (fun V (hV : Below w.heap.size w V) => Val.check_any t v B V (hIn.keep fun q hq => hV.cell (Nat.lt_of_lt_of_le hq hB)) (Nat.le_trans hB hV.size))
  rw [Val.may_walk] at HC
  unfold EncPost encB errOf
  cases hm : mayB t with
  | false =>
    rw [hm] at HC
    obtain ⟨k, b, n, s, l, ks⟩ := t
    have hx := hIn
    unfold VT.In at hx
    obtain ⟨pl, cl, pk, ck, rfl, h1, h2, h3, h4, hks, hl⟩ := hx
    obtain ⟨nl, hnl⟩ : ∃ m, l.length = m := ⟨_, rfl⟩
    obtain ⟨nk, hnk⟩ : ∃ m, ks.length = m := ⟨_, rfl⟩
    rw [hnl, hnk] at HC ⊢
    clear hIn hok hsz hB hm h1 h2 h3 h4 hks hl
    have hb0 : Below w.heap.size w (w.alloc (.cells #[.int .i64 k, .bool b, .int .i64 n, .string s, .slice pl nl cl, .slice pk nk ck] 25)) := (Below.refl _ w).alloc (Nat.le_refl _) _
    have HC1 := Lib.hid (HC.out _ hb0)
    have HB0 := Lib.hid hb0
    clear hb0
    go_enter Try.func14, Try.ntmps14
    go_wp2_with fail
    refine HC1.out.mono ?_
    rintro e w1 ⟨rfl, hb1⟩
    have HB1 := Lib.hid (HB0.out.trans (hb1.mono (by simp)))
    clear hb1
    go_wp2
    go_ret2
    exact ⟨_, rfl, Buf.nil _ _, HB1.out, kept_of_below HB1.out⟩
  | true =>
    rw [hm] at HC
    obtain ⟨hgood, hparts⟩ := Rk.mayB_good t hm
    have PT := Lib.hid (fun (V : World) (hV : Below w.heap.size w V) => put_all 4096 t v (.slice none 0 0) [] B w.heap.size V hparts (hIn.keep fun q hq => hV.cell (Nat.lt_of_lt_of_le hq hB)) hB hV.size (Buf.nil _ _) hok hgood (by rw [List.length_nil]; omega))
    obtain ⟨KB, hKB⟩ : ∃ KB, packB t = KB := ⟨_, rfl⟩
    rw [hKB] at PT ⊢
    obtain ⟨k, b, n, s, l, ks⟩ := t
    have hx := hIn
    unfold VT.In at hx
    obtain ⟨pl, cl, pk, ck, rfl, h1, h2, h3, h4, hks, hl⟩ := hx
    obtain ⟨nl, hnl⟩ : ∃ m, l.length = m := ⟨_, rfl⟩
    obtain ⟨nk, hnk⟩ : ∃ m, ks.length = m := ⟨_, rfl⟩
    rw [hnl, hnk] at HC PT ⊢
    clear hIn hok hsz hB hm h1 h2 h3 h4 hks hl hKB hgood hparts
    have hb0 : Below w.heap.size w (w.alloc (.cells #[.int .i64 k, .bool b, .int .i64 n, .string s, .slice pl nl cl, .slice pk nk ck] 25)) := (Below.refl _ w).alloc (Nat.le_refl _) _
    have HC1 := Lib.hid (HC.out _ hb0)
    have HB0 := Lib.hid hb0
    clear hb0
    go_enter Try.func14, Try.ntmps14
    go_wp2_with fail
    refine HC1.out.mono ?_
    rintro e w1 ⟨rfl, hb1⟩
    have hbox : Box w1 w.heap.size #[.int .i64 k, .bool b, .int .i64 n, .string s, .slice pl nl cl, .slice pk nk ck] := (hb1.block _ (by simp)).trans (Box.new w _)
    obtain ⟨c0, c1, c2, c3, c4, c5⟩ := hbox.cell
    have HB1 := Lib.hid (HB0.out.trans (hb1.mono (by simp)))
    clear hb1 hbox
    go_wp2_with fail
    refine (PT.out w1 HB1.out).mono ?_
    rintro e w2 ⟨u, rfl, hs⟩
    rw [List.nil_append] at hs
    have HS := Lib.hid hs
    clear c0 c1 c2 c3 c4 c5 hs
    go_wp2
    go_ret2
    exact ⟨_, rfl, HS.out.buf, HB1.out.trans HS.out.low, (kept_of_below HB1.out).trans HS.out.kept⟩
end PkW
end Go.Proofs.Ytmhlipncelgmlaa
