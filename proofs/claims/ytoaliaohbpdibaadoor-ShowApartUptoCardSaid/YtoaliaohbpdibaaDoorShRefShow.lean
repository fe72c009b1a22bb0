/- The document's Show. -/
import Derived.Test.YtoaliaohbpdibaaDoorHeld
import Derived.Test.YtoaliaohbpdibaaDoorShTree
import Derived.Test.YtoaliaohbpdibaaDoorShRefQuote
import Derived.Test.YtoaliaohbpdibaaDoorNumRefText
import Derived.Test.YtoaliaohbpdibaaDoorValCmp
import Derived.Outline
namespace Go.Proofs.YtoaliaohbpdibaaDoor
open Go.RowKit
set_option linter.unusedVariables false
set_option linter.unusedSimpArgs false
namespace Sh
open Val (VT Keeps Box okN okNL szV szL szK)
theorem partsB_keyless : ∀ (l : List VT) (first : Bool) (ks : List ByteArray), partsB l false first ks = partsB l false first []
  | [], _, _ => by simp [partsB]
  | t :: ts, first, ks => by
    unfold partsB
    rw [partsB_keyless ts false ks.tail, partsB_keyless ts false [].tail]
    simp
def RsIH (N : Nat) : Prop := ∀ (t : VT) (v : Value) (B : Nat) (w : World), t.parts ≤ N → VT.In w B t v → B ≤ w.heap.size → okN t → goodV t → szV t ≤ 1099511627776 →
  Calls Tryd.prog 19 #[v] w fun e w' => e = .returned (.string ⟨(showB t).toArray⟩) ∧ Below w.heap.size w w'
/-- Where the document's loop over the parts stands. -/
structure RsAt (l : List VT) (ks : List ByteArray) (m : Bool) (w : World) (cs : Array Value) (j : Nat) (acc : ByteArray) (wr : World) : Prop where
  text : acc.data.toList ++ partsB (l.drop j) m (decide (j = 0)) (ks.drop j) = partsB l m true ks
  low : Below w.heap.size w wr
  box : Box wr w.heap.size cs
theorem ret_text {a : ByteArray} {l : List UInt8} (h : a.data.toList = l) : Ending.returned (.string a) = .returned (.string ⟨l.toArray⟩) := by
  rw [← h]
set_option maxRecDepth 100000 in
theorem ref_null (b : Bool) (n : Int) (s : ByteArray) (pl pk : Option Addr) (nl cl nk ck : Nat) (w : World) :
    Calls Tryd.prog 19 #[.agg #[.int .i64 0, .bool b, .int .i64 n, .string s, .slice pl nl cl, .slice pk nk ck]] w fun e w' => e = .returned (.string ⟨(([110, 117, 108, 108] : List UInt8)).toArray⟩) ∧ Below w.heap.size w w' := by
  go_enter Tryd.func19, Tryd.ntmps19
  go_wp2
  go_ret
  exact ⟨rfl, ((Below.refl _ w).alloc (Nat.le_refl _) _)⟩
set_option maxRecDepth 100000 in
theorem ref_bool (b : Bool) (n : Int) (s : ByteArray) (pl pk : Option Addr) (nl cl nk ck : Nat) (w : World) :
    Calls Tryd.prog 19 #[.agg #[.int .i64 1, .bool b, .int .i64 n, .string s, .slice pl nl cl, .slice pk nk ck]] w fun e w' => e = .returned (.string ⟨(if b then ([116, 114, 117, 101] : List UInt8) else [102, 97, 108, 115, 101]).toArray⟩) ∧ Below w.heap.size w w' := by
  cases b
  all_goals
   go_enter Tryd.func19, Tryd.ntmps19
   go_wp2
   go_ret
   exact ⟨rfl, ((Below.refl _ w).alloc (Nat.le_refl _) _)⟩
set_option maxRecDepth 100000 in
theorem ref_int (b : Bool) (n : Int) (s : ByteArray) (pl pk : Option Addr) (nl cl nk ck : Nat) (w : World) (hN : -9223372036854775808 ≤ n ∧ n ≤ 9223372036854775807) :
    Calls Tryd.prog 19 #[.agg #[.int .i64 2, .bool b, .int .i64 n, .string s, .slice pl nl cl, .slice pk nk ck]] w fun e w' => e = .returned (.string ⟨(Num.textU n).toArray⟩) ∧ Below w.heap.size w w' := by
  obtain ⟨q, hq⟩ : ∃ q, strOfNums (Num.textN n) = q := ⟨_, rfl⟩
  have hqd : q.data.toList = Num.textU n := by rw [← hq]; exact Num.text_bytes n
  have HT := Lib.hid (fun V => Num.rtext_any n V hN.1 hN.2)
  rw [hq] at HT
  rw [← hqd]
  have hqs : q.size ≤ 20 := by rw [ba_size, hqd]; exact textU_len n hN
  clear hqd hq hN
  go_enter Tryd.func19, Tryd.ntmps19
  go_wp2_with (go_at_call 35; refine (HT.out _).mono ?_; rintro e w1 ⟨rfl, hb⟩; have HB := Lib.hid (((Below.refl _ w).alloc (Nat.le_refl _) _).trans (hb.mono (by simp))); clear hb)
  go_ret
  exact ⟨ret_text rfl, HB.out⟩
set_option maxRecDepth 100000 in
theorem ref_node (b : Bool) (n : Int) (s : ByteArray) (pl pk : Option Addr) (nl cl nk ck : Nat) (w : World) (hN : -9223372036854775808 ≤ n ∧ n ≤ 9223372036854775807) :
    Calls Tryd.prog 19 #[.agg #[.int .i64 6, .bool b, .int .i64 n, .string s, .slice pl nl cl, .slice pk nk ck]] w fun e w' => e = .returned (.string ⟨(35 :: 110 :: Num.textU n).toArray⟩) ∧ Below w.heap.size w w' := by
  obtain ⟨q, hq⟩ : ∃ q, strOfNums (Num.textN n) = q := ⟨_, rfl⟩
  have hqd : q.data.toList = Num.textU n := by rw [← hq]; exact Num.text_bytes n
  have HT := Lib.hid (fun V => Num.rtext_any n V hN.1 hN.2)
  rw [hq] at HT
  rw [← hqd]
  have hqs : q.size ≤ 20 := by rw [ba_size, hqd]; exact textU_len n hN
  clear hqd hq hN
  go_enter Tryd.func19, Tryd.ntmps19
  go_wp2_with (go_at_call 35; refine (HT.out _).mono ?_; rintro e w1 ⟨rfl, hb⟩; have HB := Lib.hid (((Below.refl _ w).alloc (Nat.le_refl _) _).trans (hb.mono (by simp))); clear hb)
  go_ret
  exact ⟨ret_text (by rw [ba_append]; rfl), HB.out⟩
set_option maxRecDepth 100000 in
theorem ref_edge (b : Bool) (n : Int) (s : ByteArray) (pl pk : Option Addr) (nl cl nk ck : Nat) (w : World) (hN : -9223372036854775808 ≤ n ∧ n ≤ 9223372036854775807) :
    Calls Tryd.prog 19 #[.agg #[.int .i64 7, .bool b, .int .i64 n, .string s, .slice pl nl cl, .slice pk nk ck]] w fun e w' => e = .returned (.string ⟨(35 :: 101 :: Num.textU n).toArray⟩) ∧ Below w.heap.size w w' := by
  obtain ⟨q, hq⟩ : ∃ q, strOfNums (Num.textN n) = q := ⟨_, rfl⟩
  have hqd : q.data.toList = Num.textU n := by rw [← hq]; exact Num.text_bytes n
  have HT := Lib.hid (fun V => Num.rtext_any n V hN.1 hN.2)
  rw [hq] at HT
  rw [← hqd]
  have hqs : q.size ≤ 20 := by rw [ba_size, hqd]; exact textU_len n hN
  clear hqd hq hN
  go_enter Tryd.func19, Tryd.ntmps19
  go_wp2_with (go_at_call 35; refine (HT.out _).mono ?_; rintro e w1 ⟨rfl, hb⟩; have HB := Lib.hid (((Below.refl _ w).alloc (Nat.le_refl _) _).trans (hb.mono (by simp))); clear hb)
  go_ret
  exact ⟨ret_text (by rw [ba_append]; rfl), HB.out⟩
set_option maxRecDepth 100000 in
theorem ref_str (b : Bool) (n : Int) (s : ByteArray) (pl pk : Option Addr) (nl cl nk ck : Nat) (w : World) (hs : s.size ≤ 35184372088000) :
    Calls Tryd.prog 19 #[.agg #[.int .i64 3, .bool b, .int .i64 n, .string s, .slice pl nl cl, .slice pk nk ck]] w fun e w' => e = .returned (.string ⟨(quoteL s.data.toList).toArray⟩) ∧ Below w.heap.size w w' := by
  have HT := Lib.hid (fun V => refQuote_any s V hs)
  clear hs
  go_enter Tryd.func19, Tryd.ntmps19
  go_wp2_with (go_at_call 11; refine (HT.out _).mono ?_; rintro e w1 ⟨rfl, hb⟩; have HB := Lib.hid (((Below.refl _ w).alloc (Nat.le_refl _) _).trans (hb.mono (by simp))); clear hb)
  go_ret
  exact ⟨rfl, HB.out⟩
set_option maxRecDepth 100000 in
set_option maxHeartbeats 8000000 in
theorem ref_list (b : Bool) (n : Int) (s : ByteArray) (pl pk : Option Addr) (nl cl nk ck : Nat) (l : List VT) (ks : List ByteArray) (N B : Nat) (w : World) (IH : Hid (RsIH N)) (hT : Hid (∀ x, x ∈ l → x.parts ≤ N)) (HL : Hid (l.length = nl)) (HKL : Hid (ks.length = nk))
    (HM : Hid (0 < l.length → ∃ bl ol, pl = some ⟨bl, ol, none⟩ ∧ bl < B ∧ VT.InL w B bl ol l)) (HK : Hid (VT.KeysIn w B pk ks)) (hB : B ≤ w.heap.size) (HN : Hid (okNL l)) (HG : Hid (goodL l)) (HNK : Hid (True)) (HLEN : Hid ((partsB l false true ks).length ≤ 1099511627776)) (HZ : Hid (szL l + szK ks ≤ 1099511627776)) (hnl : nl ≤ maxLen) (hnk : nk ≤ maxLen) :
    Calls Tryd.prog 19 #[.agg #[.int .i64 4, .bool b, .int .i64 n, .string s, .slice pl nl cl, .slice pk nk ck]] w fun e w' => e = .returned (.string ⟨(91 :: (partsB l false true ks ++ [93])).toArray⟩) ∧ Below w.heap.size w w' := by
  unfold maxLen at hnl hnk
  have HW0 : Hid (RsAt l ks false w #[.int .i64 4, .bool b, .int .i64 n, .string s, .slice pl nl cl, .slice pk nk ck] 0 ⟨#[]⟩ (w.alloc (.cells #[.int .i64 4, .bool b, .int .i64 n, .string s, .slice pl nl cl, .slice pk nk ck] 31))) := Lib.hid ⟨rfl, (Below.refl _ _).alloc (Nat.le_refl _) _, Box.new w _⟩
  go_enter Tryd.func19, Tryd.ntmps19
  go_wp2
  go_loopw [3, 4] (fun a i wr => ∃ (j : Nat) (acc : ByteArray), a = .string acc ∧ i = .int .i64 (j : Int) ∧ j ≤ nl ∧ Hid (RsAt l ks false w #[.int .i64 4, .bool b, .int .i64 n, .string s, .slice pl nl cl, .slice pk nk ck] j acc wr)) (fun _ i _ => nl - (intOf i).toNat)
  case atStart => exact ⟨0, _, rfl, rfl, Nat.zero_le _, HW0⟩
  case round =>
    rename_i wr
    obtain ⟨j, acc, rfl, rfl, hj, HS⟩ := hrel
    clear HW0
    obtain ⟨c0, c1, c2, c3, c4, c5⟩ := HS.out.box.cell
    have hwlt : w.heap.size < wr.heap.size := HS.out.box.lt
    have hal : acc.size ≤ 1099511627776 := by
      have hl := congrArg List.length HS.out.text
      rw [List.length_append, ← ba_size] at hl
      have := HLEN.out
      omega
    by_cases hlt : j < nl
    · obtain ⟨x, hx⟩ : ∃ x, l[j]? = some x := ⟨l[j]'(by rw [HL.out]; exact hlt), List.getElem?_eq_getElem _⟩
      obtain ⟨bl, ol, rfl, hbl, hInL⟩ := HM.out (by rw [HL.out]; omega)
      have hlow : ∀ V, Below w.heap.size w V → ∀ q : Addr, q.block < B → V.cell? q = w.cell? q := fun V hV q hq => hV.cell (Nat.lt_of_lt_of_le hq hB)
      obtain ⟨d0, d1, d2, d3, d4, d5, e0, e1, e2, e3, e4, e5, hInx⟩ := (VT.InL.keep (hlow wr HS.out.low) hbl hInL).at hx
      obtain ⟨xk, xb, xn, xs, xpl, xnl, xcl, xpk, xnk, xck, rfl, rfl, rfl, rfl, rfl, rfl⟩ := hInx.shape
      have hji : (j : Int) < nl := by omega
      have hblw : bl < wr.heap.size := by omega
      have hxg := goodL_at HG.out hx
      have hsz := Val.szL_at hx
      have hZZ := HZ.out
      have hpa := parts_at l j x false ks hx
      have htot := HS.out.text
      rw [hpa] at htot
      obtain ⟨xt, hxt⟩ : ∃ q : ByteArray, (⟨(showB x).toArray⟩ : ByteArray) = q := ⟨_, rfl⟩
      have hxd : showB x = xt.data.toList := by rw [← hxt]
      have CALL := Lib.hid (fun (V : World) (hV : Below wr.heap.size wr V) => IH.out x (.agg #[.int .i64 xk, .bool xb, .int .i64 xn, .string xs, .slice xpl xnl xcl, .slice xpk xnk xck]) B V (hT.out x (List.mem_of_getElem? hx)) (hInx.keep fun q hq => hV.cell (p := q) (by omega)) (by have := hV.size; omega) (Val.okNL_at HN.out hx) hxg (by omega))
      rw [hxt] at CALL
      rw [hxd] at htot
      have hkl : acc.size + xt.size + 4 ≤ 1099511627800 := by
        have hl := congrArg List.length htot
        simp only [List.length_append, List.length_cons, List.length_nil, ← ba_size] at hl
        have := HLEN.out
        omega
      have HT1 := Lib.hid htot
      clear hInx hInL hx hxg hsz hZZ hpa htot hxt hxd hlow
      by_cases hj0 : j = 0
      · have hj0i : decide (0 < (j : Int)) = false := decide_eq_false (by omega)
        have hj0j : decide (0 < j) = false := decide_eq_false (by omega)
        have HT0 := HT1.out
        rw [if_pos hj0, List.nil_append] at HT0
        have HX : Hid ((acc ++ xt).data.toList ++ partsB (l.drop (j + 1)) false (decide (j + 1 = 0)) (ks.drop (j + 1)) = partsB l false true ks) := Lib.hid (by rw [← HT0]; simp)
        clear HT0 hj0
        go_wp2_with fail
        refine (CALL.out _ (Below.refl _ _)).mono ?_
        rintro e w2 ⟨rfl, hb2⟩
        have HF : Hid (RsAt l ks false w _ (j + 1) (acc ++ xt) w2) := Lib.hid ⟨HX.out, HS.out.low.trans (hb2.mono (by omega)), (hb2.block _ hwlt).trans HS.out.box⟩
        clear hb2
        go_wp2
        go_roundw
        case rel => exact ⟨j + 1, _, rfl, by go_num, by omega, HF⟩
        case measure => simp [intOf]; omega
      · have hj0i : 0 < (j : Int) := by omega
        have HT0 := HT1.out
        rw [if_neg hj0] at HT0
        have HX : Hid (((acc ++ ByteArray.mk #[44, 32]) ++ xt).data.toList ++ partsB (l.drop (j + 1)) false (decide (j + 1 = 0)) (ks.drop (j + 1)) = partsB l false true ks) := Lib.hid (by rw [← HT0]; simp)
        clear HT0
        go_wp2_with fail
        refine (CALL.out _ (Below.refl _ _)).mono ?_
        rintro e w2 ⟨rfl, hb2⟩
        have HF : Hid (RsAt l ks false w _ (j + 1) ((acc ++ ByteArray.mk #[44, 32]) ++ xt) w2) := Lib.hid ⟨HX.out, HS.out.low.trans (hb2.mono (by omega)), (hb2.block _ hwlt).trans HS.out.box⟩
        clear hb2
        go_wp2
        go_roundw
        case rel => exact ⟨j + 1, _, rfl, by go_num, by omega, HF⟩
        case measure => simp [intOf]; omega
    · have hjn : j = nl := by omega
      have HJ := Lib.hid hjn
      have hji : ¬ (j : Int) < nl := by omega
      clear hjn
      go_wp2
      go_ret
      have hA := HS.out.text
      rw [HJ.out, ← HL.out, List.drop_length, partsB, List.append_nil] at hA
      exact ⟨ret_text (by rw [ba_append, ba_append, hA]; rfl), HS.out.low⟩
set_option maxRecDepth 100000 in
set_option maxHeartbeats 8000000 in
theorem ref_map (b : Bool) (n : Int) (s : ByteArray) (pl pk : Option Addr) (nl cl nk ck : Nat) (l : List VT) (ks : List ByteArray) (N B : Nat) (w : World) (IH : Hid (RsIH N)) (hT : Hid (∀ x, x ∈ l → x.parts ≤ N)) (HL : Hid (l.length = nl)) (HKL : Hid (ks.length = nk))
    (HM : Hid (0 < l.length → ∃ bl ol, pl = some ⟨bl, ol, none⟩ ∧ bl < B ∧ VT.InL w B bl ol l)) (HK : Hid (VT.KeysIn w B pk ks)) (hB : B ≤ w.heap.size) (HN : Hid (okNL l)) (HG : Hid (goodL l)) (HNK : Hid (nl ≤ nk)) (HLEN : Hid ((partsB l true true ks).length ≤ 1099511627776)) (HZ : Hid (szL l + szK ks ≤ 1099511627776)) (hnl : nl ≤ maxLen) (hnk : nk ≤ maxLen) :
    Calls Tryd.prog 19 #[.agg #[.int .i64 5, .bool b, .int .i64 n, .string s, .slice pl nl cl, .slice pk nk ck]] w fun e w' => e = .returned (.string ⟨(123 :: (partsB l true true ks ++ [125])).toArray⟩) ∧ Below w.heap.size w w' := by
  unfold maxLen at hnl hnk
  have HW0 : Hid (RsAt l ks true w #[.int .i64 5, .bool b, .int .i64 n, .string s, .slice pl nl cl, .slice pk nk ck] 0 ⟨#[]⟩ (w.alloc (.cells #[.int .i64 5, .bool b, .int .i64 n, .string s, .slice pl nl cl, .slice pk nk ck] 31))) := Lib.hid ⟨rfl, (Below.refl _ _).alloc (Nat.le_refl _) _, Box.new w _⟩
  go_enter Tryd.func19, Tryd.ntmps19
  go_wp2
  go_loopw [5, 6] (fun a i wr => ∃ (j : Nat) (acc : ByteArray), a = .string acc ∧ i = .int .i64 (j : Int) ∧ j ≤ nl ∧ Hid (RsAt l ks true w #[.int .i64 5, .bool b, .int .i64 n, .string s, .slice pl nl cl, .slice pk nk ck] j acc wr)) (fun _ i _ => nl - (intOf i).toNat)
  case atStart => exact ⟨0, _, rfl, rfl, Nat.zero_le _, HW0⟩
  case round =>
    rename_i wr
    obtain ⟨j, acc, rfl, rfl, hj, HS⟩ := hrel
    clear HW0
    obtain ⟨c0, c1, c2, c3, c4, c5⟩ := HS.out.box.cell
    have hwlt : w.heap.size < wr.heap.size := HS.out.box.lt
    have hal : acc.size ≤ 1099511627776 := by
      have hl := congrArg List.length HS.out.text
      rw [List.length_append, ← ba_size] at hl
      have := HLEN.out
      omega
    by_cases hlt : j < nl
    · obtain ⟨x, hx⟩ : ∃ x, l[j]? = some x := ⟨l[j]'(by rw [HL.out]; exact hlt), List.getElem?_eq_getElem _⟩
      obtain ⟨bl, ol, rfl, hbl, hInL⟩ := HM.out (by rw [HL.out]; omega)
      have hlow : ∀ V, Below w.heap.size w V → ∀ q : Addr, q.block < B → V.cell? q = w.cell? q := fun V hV q hq => hV.cell (Nat.lt_of_lt_of_le hq hB)
      obtain ⟨d0, d1, d2, d3, d4, d5, e0, e1, e2, e3, e4, e5, hInx⟩ := (VT.InL.keep (hlow wr HS.out.low) hbl hInL).at hx
      obtain ⟨xk, xb, xn, xs, xpl, xnl, xcl, xpk, xnk, xck, rfl, rfl, rfl, rfl, rfl, rfl⟩ := hInx.shape
      have hji : (j : Int) < nl := by omega
      have hblw : bl < wr.heap.size := by omega
      have hxg := goodL_at HG.out hx
      have hsz := Val.szL_at hx
      have hZZ := HZ.out
      have hpa := parts_at l j x true ks hx
      have htot := HS.out.text
      rw [hpa] at htot
      obtain ⟨xt, hxt⟩ : ∃ q : ByteArray, (⟨(showB x).toArray⟩ : ByteArray) = q := ⟨_, rfl⟩
      have hxd : showB x = xt.data.toList := by rw [← hxt]
      have CALL := Lib.hid (fun (V : World) (hV : Below wr.heap.size wr V) => IH.out x (.agg #[.int .i64 xk, .bool xb, .int .i64 xn, .string xs, .slice xpl xnl xcl, .slice xpk xnk xck]) B V (hT.out x (List.mem_of_getElem? hx)) (hInx.keep fun q hq => hV.cell (p := q) (by omega)) (by have := hV.size; omega) (Val.okNL_at HN.out hx) hxg (by omega))
      rw [hxt] at CALL
      rw [hxd] at htot
      have hjk : j < ks.length := by rw [HKL.out]; have := HNK.out; omega
      obtain ⟨kb, ko, rfl, hkb, hkc⟩ := HK.out (by omega)
      obtain ⟨key, hkey⟩ : ∃ key, ks.getD j default = key := ⟨_, rfl⟩
      have hkcell : wr.cell? ⟨kb, ko + j, none⟩ = some (.string key) := by rw [← hkey]; exact (hlow wr HS.out.low ⟨kb, ko + j, none⟩ hkb).trans (hkc j hjk)
      rw [hkey] at htot
      have hks : 4 * key.size + 8 ≤ szK ks := by rw [← hkey]; exact Val.szK_at (by rw [List.getD_eq_getElem?_getD, List.getElem?_eq_getElem hjk]; rfl)
      obtain ⟨kt, hkt⟩ : ∃ q : ByteArray, (⟨(keyL key.data.toList).toArray⟩ : ByteArray) = q := ⟨_, rfl⟩
      have hktd : keyL key.data.toList = kt.data.toList := by rw [← hkt]
      have KEY := Lib.hid (fun V => refKey_any key V (by omega))
      rw [hkt] at KEY
      rw [hktd] at htot
      have hjki : (j : Int) < nk := by have := HKL.out; omega
      have hkbw : kb < wr.heap.size := by omega
      have hkl : acc.size + kt.size + xt.size + 4 ≤ 1099511627800 := by
        have hl := congrArg List.length htot
        simp only [List.length_append, List.length_cons, List.length_nil, if_true, ← ba_size] at hl
        have := HLEN.out
        omega
      have HT1 := Lib.hid htot
      clear hInx hInL hx hxg hsz hZZ hpa htot hxt hxd hlow hjk hkey hkt hktd hks hkc
      by_cases hj0 : j = 0
      · have hj0i : decide (0 < (j : Int)) = false := decide_eq_false (by omega)
        have hj0j : decide (0 < j) = false := decide_eq_false (by omega)
        have HT0 := HT1.out
        rw [if_pos hj0, List.nil_append] at HT0
        have HX : Hid ((acc ++ kt ++ ByteArray.mk #[58, 32] ++ xt).data.toList ++ partsB (l.drop (j + 1)) true (decide (j + 1 = 0)) (ks.drop (j + 1)) = partsB l true true ks) := Lib.hid (by rw [← HT0]; simp)
        clear HT0 hj0
        go_upto_region 30 with fail
        have hS0 : Below wr.heap.size wr wr.drew := (Below.refl _ _).drew
        rename_i Q' K1 hK1
        refine wp_region_noPanic ?_
        refine wpIn_wide (n := 5).1 ?_
        refine wpIn_region_text (fun w' => Below wr.heap.size wr w') [0, 1, 2, 3, 4, 5, 9, 10, 11, 12, 13, 6, 7, 8, 14, 15, 16] rfl (by kernel_rfl) (by kernel_rfl) (by kernel_rfl) (by kernel_rfl) (fun _ _ _ _ _ h => h) hS0 ?_
        refine textS_take (o := _) (.string acc) (by conv => lhs; simp only [List.getElem?_toArray, List.getElem?_cons_succ, List.getElem?_cons_zero]) (by rfl) (by rfl) ?_ (fun _ => by rfl) (by conv => lhs; simp only [Act.put, List.setIfInBounds_toArray, List.set_cons_succ, List.set_cons_zero]) ?_
        · intro w _; go_simp
        refine textS_take (o := _) (.pointer (some ⟨w.heap.size, 5, none⟩)) (by conv => lhs; simp only [List.getElem?_toArray, List.getElem?_cons_succ, List.getElem?_cons_zero]) (by rfl) (by rfl) ?_ (fun _ => by rfl) (by conv => lhs; simp only [Act.put, List.setIfInBounds_toArray, List.set_cons_succ, List.set_cons_zero]) ?_
        · intro w _; go_simp
        refine textS_take (o := _) (.slice (some ⟨kb, ko, none⟩) nk ck) (by conv => lhs; simp only [List.getElem?_toArray, List.getElem?_cons_succ, List.getElem?_cons_zero]) (by rfl) (by rfl) ?_ (fun _ => by rfl) (by conv => lhs; simp only [Act.put, List.setIfInBounds_toArray, List.set_cons_succ, List.set_cons_zero]) ?_
        · intro w' hS; have q0 := (hS.cell (p := ⟨w.heap.size, 5, none⟩) hwlt).trans c5; clear hS; go_simp
        refine textS_take (o := _) (.int .i64 j) (by conv => lhs; simp only [List.getElem?_toArray, List.getElem?_cons_succ, List.getElem?_cons_zero]) (by rfl) (by rfl) ?_ (fun _ => by rfl) (by conv => lhs; simp only [Act.put, List.setIfInBounds_toArray, List.set_cons_succ, List.set_cons_zero]) ?_
        · intro w _; go_simp
        refine textS_take (o := _) (.pointer (some ⟨kb, ko + j, none⟩)) (by conv => lhs; simp only [List.getElem?_toArray, List.getElem?_cons_succ, List.getElem?_cons_zero]) (by rfl) (by rfl) ?_ (fun _ => by rfl) (by conv => lhs; simp only [Act.put, List.setIfInBounds_toArray, List.set_cons_succ, List.set_cons_zero]) ?_
        · intro w _; go_simp
        refine textS_take (o := _) (.string key) (by conv => lhs; simp only [List.getElem?_toArray, List.getElem?_cons_succ, List.getElem?_cons_zero]) (by rfl) (by rfl) ?_ (fun _ => by rfl) (by conv => lhs; simp only [Act.put, List.setIfInBounds_toArray, List.set_cons_succ, List.set_cons_zero]) ?_
        · intro w' hS; have q0 := (hS.cell (p := ⟨kb, ko + j, none⟩) hkbw).trans hkcell; clear hS; go_simp
        refine textS_take (o := _) (.pointer (some ⟨w.heap.size, 4, none⟩)) (by conv => lhs; simp only [List.getElem?_toArray, List.getElem?_cons_succ, List.getElem?_cons_zero]) (by rfl) (by rfl) ?_ (fun _ => by rfl) (by conv => lhs; simp only [Act.put, List.setIfInBounds_toArray, List.set_cons_succ, List.set_cons_zero]) ?_
        · intro w _; go_simp
        refine textS_take (o := _) (.slice (some ⟨bl, ol, none⟩) nl cl) (by conv => lhs; simp only [List.getElem?_toArray, List.getElem?_cons_succ, List.getElem?_cons_zero]) (by rfl) (by rfl) ?_ (fun _ => by rfl) (by conv => lhs; simp only [Act.put, List.setIfInBounds_toArray, List.set_cons_succ, List.set_cons_zero]) ?_
        · intro w' hS; have q0 := (hS.cell (p := ⟨w.heap.size, 4, none⟩) hwlt).trans c4; clear hS; go_simp
        refine textS_take (o := _) (.int .i64 j) (by conv => lhs; simp only [List.getElem?_toArray, List.getElem?_cons_succ, List.getElem?_cons_zero]) (by rfl) (by rfl) ?_ (fun _ => by rfl) (by conv => lhs; simp only [Act.put, List.setIfInBounds_toArray, List.set_cons_succ, List.set_cons_zero]) ?_
        · intro w _; go_simp
        refine textS_take (o := _) (.pointer (some ⟨bl, ol + j * 6, none⟩)) (by conv => lhs; simp only [List.getElem?_toArray, List.getElem?_cons_succ, List.getElem?_cons_zero]) (by rfl) (by rfl) ?_ (fun _ => by rfl) (by conv => lhs; simp only [Act.put, List.setIfInBounds_toArray, List.set_cons_succ, List.set_cons_zero]) ?_
        · intro w _; go_simp
        refine textS_take (o := _) (.agg #[.int .i64 xk, .bool xb, .int .i64 xn, .string xs, .slice xpl xnl xcl, .slice xpk xnk xck]) (by conv => lhs; simp only [List.getElem?_toArray, List.getElem?_cons_succ, List.getElem?_cons_zero]) (by rfl) (by rfl) ?_ (fun _ => by rfl) (by conv => lhs; simp only [Act.put, List.setIfInBounds_toArray, List.set_cons_succ, List.set_cons_zero]) ?_
        · intro w' hS; have q0 := (hS.cell (p := ⟨bl, ol + j * 6, none⟩) hblw).trans e0; have q1 := (hS.cell (p := ⟨bl, ol + j * 6 + 1, none⟩) hblw).trans e1; have q2 := (hS.cell (p := ⟨bl, ol + j * 6 + 2, none⟩) hblw).trans e2; have q3 := (hS.cell (p := ⟨bl, ol + j * 6 + 3, none⟩) hblw).trans e3; have q4 := (hS.cell (p := ⟨bl, ol + j * 6 + 4, none⟩) hblw).trans e4; have q5 := (hS.cell (p := ⟨bl, ol + j * 6 + 5, none⟩) hblw).trans e5; clear hS; go_simp
        refine textS_call (o := _) (by conv => lhs; simp only [List.getElem?_toArray, List.getElem?_cons_succ, List.getElem?_cons_zero]) (by rfl) (by rfl) ?_
        refine wpIn_call rfl ?_ (((KEY.out _).mono (fun e w2 h2 => And.intro h2.1 (hS0.trans (h2.2.mono hS0.size))))) ?_
        · go_simp
        rintro e whS0_1 ⟨rfl, hS0_1⟩
        refine ⟨_, _, rfl, (by conv => lhs; simp only [Act.put, List.setIfInBounds_toArray, List.set_cons_succ, List.set_cons_zero]), hS0_1, ?_⟩
        refine textS_take (o := _) (.string (acc ++ kt)) (by conv => lhs; simp only [List.getElem?_toArray, List.getElem?_cons_succ, List.getElem?_cons_zero]) (by rfl) (by rfl) ?_ (fun _ => by rfl) (by conv => lhs; simp only [Act.put, List.setIfInBounds_toArray, List.set_cons_succ, List.set_cons_zero]) ?_
        · intro w _; go_simp; omega
        refine textS_take (o := _) (.string (acc ++ kt ++ ByteArray.mk #[58, 32])) (by conv => lhs; simp only [List.getElem?_toArray, List.getElem?_cons_succ, List.getElem?_cons_zero]) (by rfl) (by rfl) ?_ (fun _ => by rfl) (by conv => lhs; simp only [Act.put, List.setIfInBounds_toArray, List.set_cons_succ, List.set_cons_zero]) ?_
        · intro w _; go_simp; omega
        refine textS_call (o := _) (by conv => lhs; simp only [List.getElem?_toArray, List.getElem?_cons_succ, List.getElem?_cons_zero]) (by rfl) (by rfl) ?_
        refine wpIn_call rfl ?_ (((CALL.out _ hS0_1).mono (fun e w2 h2 => And.intro h2.1 (hS0_1.trans (h2.2.mono hS0_1.size))))) ?_
        · go_simp
        rintro e whS0_2 ⟨rfl, hS0_2⟩
        refine ⟨_, _, rfl, (by conv => lhs; simp only [Act.put, List.setIfInBounds_toArray, List.set_cons_succ, List.set_cons_zero]), hS0_2, ?_⟩
        refine textS_take (o := _) (.string (acc ++ kt ++ ByteArray.mk #[58, 32] ++ xt)) (by conv => lhs; simp only [List.getElem?_toArray, List.getElem?_cons_succ, List.getElem?_cons_zero]) (by rfl) (by rfl) ?_ (fun _ => by rfl) (by conv => lhs; simp only [Act.put, List.setIfInBounds_toArray, List.set_cons_succ, List.set_cons_zero]) ?_
        · intro w _; go_simp; omega
        refine textS_take (o := _) (.string (acc ++ kt ++ ByteArray.mk #[58, 32] ++ xt)) (by conv => lhs; simp only [List.getElem?_toArray, List.getElem?_cons_succ, List.getElem?_cons_zero]) (by rfl) (by rfl) ?_ (fun _ => by rfl) (by conv => lhs; simp only [Act.put, List.setIfInBounds_toArray, List.set_cons_succ, List.set_cons_zero]) ?_
        · intro w _; go_simp
        refine NoPanic.normal ?_
        refine hK1 _ _ ?_
        clear hK1
        have HF : Hid (RsAt l ks true w _ (j + 1) (acc ++ kt ++ ByteArray.mk #[58, 32] ++ xt) whS0_2) := Lib.hid ⟨HX.out, HS.out.low.trans (hS0_2.mono (by omega)), (hS0_2.block _ hwlt).trans HS.out.box⟩
        clear hS0 hS0_1 hS0_2
        go_wp2
        go_roundw
        case rel => exact ⟨j + 1, _, rfl, by go_num, by omega, HF⟩
        case measure => simp [intOf]; omega
      · have hj0i : 0 < (j : Int) := by omega
        have hj0j : decide (0 < j) = true := decide_eq_true (by omega)
        have HT0 := HT1.out
        rw [if_neg hj0] at HT0
        have HX : Hid (((acc ++ ByteArray.mk #[44, 32]) ++ kt ++ ByteArray.mk #[58, 32] ++ xt).data.toList ++ partsB (l.drop (j + 1)) true (decide (j + 1 = 0)) (ks.drop (j + 1)) = partsB l true true ks) := Lib.hid (by rw [← HT0]; simp)
        clear HT0
        go_upto_region 30 with fail
        have hS0 : Below wr.heap.size wr wr.drew := (Below.refl _ _).drew
        rename_i Q' K1 hK1
        refine wp_region_noPanic ?_
        refine wpIn_wide (n := 5).1 ?_
        refine wpIn_region_text (fun w' => Below wr.heap.size wr w') [0, 1, 2, 3, 4, 5, 9, 10, 11, 12, 13, 6, 7, 8, 14, 15, 16] rfl (by kernel_rfl) (by kernel_rfl) (by kernel_rfl) (by kernel_rfl) (fun _ _ _ _ _ h => h) hS0 ?_
        refine textS_take (o := _) (.string (acc ++ ByteArray.mk #[44, 32])) (by conv => lhs; simp only [List.getElem?_toArray, List.getElem?_cons_succ, List.getElem?_cons_zero]) (by rfl) (by rfl) ?_ (fun _ => by rfl) (by conv => lhs; simp only [Act.put, List.setIfInBounds_toArray, List.set_cons_succ, List.set_cons_zero]) ?_
        · intro w _; go_simp
        refine textS_take (o := _) (.pointer (some ⟨w.heap.size, 5, none⟩)) (by conv => lhs; simp only [List.getElem?_toArray, List.getElem?_cons_succ, List.getElem?_cons_zero]) (by rfl) (by rfl) ?_ (fun _ => by rfl) (by conv => lhs; simp only [Act.put, List.setIfInBounds_toArray, List.set_cons_succ, List.set_cons_zero]) ?_
        · intro w _; go_simp
        refine textS_take (o := _) (.slice (some ⟨kb, ko, none⟩) nk ck) (by conv => lhs; simp only [List.getElem?_toArray, List.getElem?_cons_succ, List.getElem?_cons_zero]) (by rfl) (by rfl) ?_ (fun _ => by rfl) (by conv => lhs; simp only [Act.put, List.setIfInBounds_toArray, List.set_cons_succ, List.set_cons_zero]) ?_
        · intro w' hS; have q0 := (hS.cell (p := ⟨w.heap.size, 5, none⟩) hwlt).trans c5; clear hS; go_simp
        refine textS_take (o := _) (.int .i64 j) (by conv => lhs; simp only [List.getElem?_toArray, List.getElem?_cons_succ, List.getElem?_cons_zero]) (by rfl) (by rfl) ?_ (fun _ => by rfl) (by conv => lhs; simp only [Act.put, List.setIfInBounds_toArray, List.set_cons_succ, List.set_cons_zero]) ?_
        · intro w _; go_simp
        refine textS_take (o := _) (.pointer (some ⟨kb, ko + j, none⟩)) (by conv => lhs; simp only [List.getElem?_toArray, List.getElem?_cons_succ, List.getElem?_cons_zero]) (by rfl) (by rfl) ?_ (fun _ => by rfl) (by conv => lhs; simp only [Act.put, List.setIfInBounds_toArray, List.set_cons_succ, List.set_cons_zero]) ?_
        · intro w _; go_simp
        refine textS_take (o := _) (.string key) (by conv => lhs; simp only [List.getElem?_toArray, List.getElem?_cons_succ, List.getElem?_cons_zero]) (by rfl) (by rfl) ?_ (fun _ => by rfl) (by conv => lhs; simp only [Act.put, List.setIfInBounds_toArray, List.set_cons_succ, List.set_cons_zero]) ?_
        · intro w' hS; have q0 := (hS.cell (p := ⟨kb, ko + j, none⟩) hkbw).trans hkcell; clear hS; go_simp
        refine textS_take (o := _) (.pointer (some ⟨w.heap.size, 4, none⟩)) (by conv => lhs; simp only [List.getElem?_toArray, List.getElem?_cons_succ, List.getElem?_cons_zero]) (by rfl) (by rfl) ?_ (fun _ => by rfl) (by conv => lhs; simp only [Act.put, List.setIfInBounds_toArray, List.set_cons_succ, List.set_cons_zero]) ?_
        · intro w _; go_simp
        refine textS_take (o := _) (.slice (some ⟨bl, ol, none⟩) nl cl) (by conv => lhs; simp only [List.getElem?_toArray, List.getElem?_cons_succ, List.getElem?_cons_zero]) (by rfl) (by rfl) ?_ (fun _ => by rfl) (by conv => lhs; simp only [Act.put, List.setIfInBounds_toArray, List.set_cons_succ, List.set_cons_zero]) ?_
        · intro w' hS; have q0 := (hS.cell (p := ⟨w.heap.size, 4, none⟩) hwlt).trans c4; clear hS; go_simp
        refine textS_take (o := _) (.int .i64 j) (by conv => lhs; simp only [List.getElem?_toArray, List.getElem?_cons_succ, List.getElem?_cons_zero]) (by rfl) (by rfl) ?_ (fun _ => by rfl) (by conv => lhs; simp only [Act.put, List.setIfInBounds_toArray, List.set_cons_succ, List.set_cons_zero]) ?_
        · intro w _; go_simp
        refine textS_take (o := _) (.pointer (some ⟨bl, ol + j * 6, none⟩)) (by conv => lhs; simp only [List.getElem?_toArray, List.getElem?_cons_succ, List.getElem?_cons_zero]) (by rfl) (by rfl) ?_ (fun _ => by rfl) (by conv => lhs; simp only [Act.put, List.setIfInBounds_toArray, List.set_cons_succ, List.set_cons_zero]) ?_
        · intro w _; go_simp
        refine textS_take (o := _) (.agg #[.int .i64 xk, .bool xb, .int .i64 xn, .string xs, .slice xpl xnl xcl, .slice xpk xnk xck]) (by conv => lhs; simp only [List.getElem?_toArray, List.getElem?_cons_succ, List.getElem?_cons_zero]) (by rfl) (by rfl) ?_ (fun _ => by rfl) (by conv => lhs; simp only [Act.put, List.setIfInBounds_toArray, List.set_cons_succ, List.set_cons_zero]) ?_
        · intro w' hS; have q0 := (hS.cell (p := ⟨bl, ol + j * 6, none⟩) hblw).trans e0; have q1 := (hS.cell (p := ⟨bl, ol + j * 6 + 1, none⟩) hblw).trans e1; have q2 := (hS.cell (p := ⟨bl, ol + j * 6 + 2, none⟩) hblw).trans e2; have q3 := (hS.cell (p := ⟨bl, ol + j * 6 + 3, none⟩) hblw).trans e3; have q4 := (hS.cell (p := ⟨bl, ol + j * 6 + 4, none⟩) hblw).trans e4; have q5 := (hS.cell (p := ⟨bl, ol + j * 6 + 5, none⟩) hblw).trans e5; clear hS; go_simp
        refine textS_call (o := _) (by conv => lhs; simp only [List.getElem?_toArray, List.getElem?_cons_succ, List.getElem?_cons_zero]) (by rfl) (by rfl) ?_
        refine wpIn_call rfl ?_ (((KEY.out _).mono (fun e w2 h2 => And.intro h2.1 (hS0.trans (h2.2.mono hS0.size))))) ?_
        · go_simp
        rintro e whS0_1 ⟨rfl, hS0_1⟩
        refine ⟨_, _, rfl, (by conv => lhs; simp only [Act.put, List.setIfInBounds_toArray, List.set_cons_succ, List.set_cons_zero]), hS0_1, ?_⟩
        refine textS_take (o := _) (.string ((acc ++ ByteArray.mk #[44, 32]) ++ kt)) (by conv => lhs; simp only [List.getElem?_toArray, List.getElem?_cons_succ, List.getElem?_cons_zero]) (by rfl) (by rfl) ?_ (fun _ => by rfl) (by conv => lhs; simp only [Act.put, List.setIfInBounds_toArray, List.set_cons_succ, List.set_cons_zero]) ?_
        · intro w _; go_simp; omega
        refine textS_take (o := _) (.string ((acc ++ ByteArray.mk #[44, 32]) ++ kt ++ ByteArray.mk #[58, 32])) (by conv => lhs; simp only [List.getElem?_toArray, List.getElem?_cons_succ, List.getElem?_cons_zero]) (by rfl) (by rfl) ?_ (fun _ => by rfl) (by conv => lhs; simp only [Act.put, List.setIfInBounds_toArray, List.set_cons_succ, List.set_cons_zero]) ?_
        · intro w _; go_simp; omega
        refine textS_call (o := _) (by conv => lhs; simp only [List.getElem?_toArray, List.getElem?_cons_succ, List.getElem?_cons_zero]) (by rfl) (by rfl) ?_
        refine wpIn_call rfl ?_ (((CALL.out _ hS0_1).mono (fun e w2 h2 => And.intro h2.1 (hS0_1.trans (h2.2.mono hS0_1.size))))) ?_
        · go_simp
        rintro e whS0_2 ⟨rfl, hS0_2⟩
        refine ⟨_, _, rfl, (by conv => lhs; simp only [Act.put, List.setIfInBounds_toArray, List.set_cons_succ, List.set_cons_zero]), hS0_2, ?_⟩
        refine textS_take (o := _) (.string ((acc ++ ByteArray.mk #[44, 32]) ++ kt ++ ByteArray.mk #[58, 32] ++ xt)) (by conv => lhs; simp only [List.getElem?_toArray, List.getElem?_cons_succ, List.getElem?_cons_zero]) (by rfl) (by rfl) ?_ (fun _ => by rfl) (by conv => lhs; simp only [Act.put, List.setIfInBounds_toArray, List.set_cons_succ, List.set_cons_zero]) ?_
        · intro w _; go_simp; omega
        refine textS_take (o := _) (.string ((acc ++ ByteArray.mk #[44, 32]) ++ kt ++ ByteArray.mk #[58, 32] ++ xt)) (by conv => lhs; simp only [List.getElem?_toArray, List.getElem?_cons_succ, List.getElem?_cons_zero]) (by rfl) (by rfl) ?_ (fun _ => by rfl) (by conv => lhs; simp only [Act.put, List.setIfInBounds_toArray, List.set_cons_succ, List.set_cons_zero]) ?_
        · intro w _; go_simp
        refine NoPanic.normal ?_
        refine hK1 _ _ ?_
        clear hK1
        have HF : Hid (RsAt l ks true w _ (j + 1) ((acc ++ ByteArray.mk #[44, 32]) ++ kt ++ ByteArray.mk #[58, 32] ++ xt) whS0_2) := Lib.hid ⟨HX.out, HS.out.low.trans (hS0_2.mono (by omega)), (hS0_2.block _ hwlt).trans HS.out.box⟩
        clear hS0 hS0_1 hS0_2
        go_wp2
        go_roundw
        case rel => exact ⟨j + 1, _, rfl, by go_num, by omega, HF⟩
        case measure => simp [intOf]; omega
    · have hjn : j = nl := by omega
      have HJ := Lib.hid hjn
      have hji : ¬ (j : Int) < nl := by omega
      clear hjn
      go_wp2
      go_ret
      have hA := HS.out.text
      rw [HJ.out, ← HL.out, List.drop_length, partsB, List.append_nil] at hA
      exact ⟨ret_text (by rw [ba_append, ba_append, hA]; rfl), HS.out.low⟩
end Sh
end Go.Proofs.YtoaliaohbpdibaaDoor
