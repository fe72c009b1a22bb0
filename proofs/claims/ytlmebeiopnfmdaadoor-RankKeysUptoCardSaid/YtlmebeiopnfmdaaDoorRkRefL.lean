/- The document's key of a list, of a map; of any value that may be. -/
import Derived.Test.YtlmebeiopnfmdaaDoorRkRef
import Derived.Test.YtlmebeiopnfmdaaDoorRkPutK
import Derived.Test.YtlmebeiopnfmdaaDoorValMay4
namespace Go.Proofs.YtlmebeiopnfmdaaDoor
open Go.RowKit
set_option linter.unusedVariables false
set_option linter.unusedSimpArgs false
namespace Rk
open Val (VT Keeps Box okN okNL szV szL szK mayB)
/-- Where the document's loop over the parts stands: all of it behind `c`. -/
structure RtAt (c : UInt8) (l : List VT) (ks : List ByteArray) (m : Bool) (w : World) (cs : Array Value) (j : Nat) (acc : ByteArray) (wr : World) : Prop where
  text : acc.data.toList ++ partsK (l.drop j) m (ks.drop j) = c :: partsK l m ks
  stay : Stay w.heap.size w w.heap.size cs wr
theorem Stay.new (w : World) (cs : Array Value) : Stay w.heap.size w w.heap.size cs (w.alloc (.cells cs 26)) := ⟨Box.new w cs, (Below.refl _ _).alloc (Nat.le_refl _) _⟩
theorem Stay.next {w V V' : World} {A : Nat} {cs : Array Value} (h : Stay w.heap.size w A cs V) (hb : Below V.heap.size V V') : Stay w.heap.size w A cs V' := ⟨(hb.block _ h.box.lt).trans h.box, h.low.trans (hb.mono h.low.size)⟩
theorem Stay.drew {w V : World} {A : Nat} {cs : Array Value} (h : Stay w.heap.size w A cs V) : Stay w.heap.size w A cs V.drew := ⟨h.box, h.low.drew⟩
set_option maxRecDepth 100000 in
set_option maxHeartbeats 4000000 in
theorem ref_list (b : Bool) (n : Int) (s : ByteArray) (l : List VT) (N B : Nat) (pl pk : Option Addr) (nl cl nk ck : Nat) (w : World) (IH : Hid (RtIH N)) (hT : Hid (∀ x, x ∈ l → x.parts ≤ N)) (HL : Hid (l.length = nl))
    (HM : Hid (0 < l.length → ∃ bl ol, pl = some ⟨bl, ol, none⟩ ∧ bl < B ∧ VT.InL w B bl ol l)) (hB : B ≤ w.heap.size) (HN : Hid (okNL l)) (HG : Hid (goodL l)) (HLEN : Hid ((partsK l false []).length ≤ 1073741824)) (HZ : Hid (szL l ≤ 1073741824)) (hnl : nl ≤ maxLen) :
    Calls Tryd.prog 33 #[.agg #[.int .i64 4, .bool b, .int .i64 n, .string s, .slice pl nl cl, .slice pk nk ck]] w fun e w' => e = .returned (.string ⟨(4 :: (partsK l false [] ++ [0])).toArray⟩) ∧ Below w.heap.size w w' := by
  unfold maxLen at hnl
  have HW0 : Hid (RtAt 4 l [] false w #[.int .i64 4, .bool b, .int .i64 n, .string s, .slice pl nl cl, .slice pk nk ck] 0 ⟨#[4]⟩ (w.alloc (.cells #[.int .i64 4, .bool b, .int .i64 n, .string s, .slice pl nl cl, .slice pk nk ck] 26))) := Lib.hid ⟨rfl, Stay.new w _⟩
  go_enter Tryd.func33, Tryd.ntmps33
  go_wp2
  go_loopw [5, 6] (fun a i wr => ∃ (j : Nat) (acc : ByteArray), a = .string acc ∧ i = .int .i64 (j : Int) ∧ j ≤ nl ∧ Hid (RtAt 4 l [] false w #[.int .i64 4, .bool b, .int .i64 n, .string s, .slice pl nl cl, .slice pk nk ck] j acc wr)) (fun _ i _ => nl - (intOf i).toNat)
  case atStart => exact ⟨0, _, rfl, rfl, Nat.zero_le _, HW0⟩
  case round =>
    rename_i wr
    obtain ⟨j, acc, rfl, rfl, hj, HS⟩ := hrel
    clear HW0
    obtain ⟨c0, c1, c2, c3, c4, c5⟩ := HS.out.stay.box.cell
    have hwlt : w.heap.size < wr.heap.size := HS.out.stay.box.lt
    have hal : (acc.size : Int) ≤ 1073741825 := by
      have hl := congrArg List.length HS.out.text
      rw [List.length_append, List.length_cons, ← ba_size] at hl
      have := HLEN.out
      omega
    by_cases hlt : j < nl
    · obtain ⟨x, hx⟩ : ∃ x, l[j]? = some x := ⟨l[j]'(by rw [HL.out]; exact hlt), List.getElem?_eq_getElem _⟩
      obtain ⟨bl, ol, rfl, hbl, hInL⟩ := HM.out (by rw [HL.out]; omega)
      obtain ⟨d0, d1, d2, d3, d4, d5, e0, e1, e2, e3, e4, e5, hInx⟩ := (VT.InL.keep (fun q hq => HS.out.stay.low.cell (Nat.lt_of_lt_of_le hq hB)) hbl hInL).at hx
      obtain ⟨xk, xb, xn, xs, xpl, xnl, xcl, xpk, xnk, xck, rfl, rfl, rfl, rfl, rfl, rfl⟩ := hInx.shape
      have hji : (j : Int) < nl := by omega
      have hxg := goodL_at HG.out hx
      have hsz := Val.szL_at hx
      have hZZ := HZ.out
      have hpa := parts_at l j x false [] hx
      have htot := HS.out.text
      simp only [List.drop_nil] at htot hpa
      rw [hpa] at htot
      simp only [Bool.false_eq_true, if_false, List.nil_append] at htot
      obtain ⟨xt, hxt⟩ : ∃ q : ByteArray, (⟨(keyB x).toArray⟩ : ByteArray) = q := ⟨_, rfl⟩
      have hxd : keyB x = xt.data.toList := by rw [← hxt]
      have CALL := Lib.hid (IH.out x (.agg #[.int .i64 xk, .bool xb, .int .i64 xn, .string xs, .slice xpl xnl xcl, .slice xpk xnk xck]) B wr (hT.out x (List.mem_of_getElem? hx)) hInx (by omega) (Val.okNL_at HN.out hx) hxg (by omega))
      rw [hxt] at CALL
      rw [hxd] at htot
      have hkl : (xt.size : Int) ≤ 1073741825 := by
        have hl := congrArg List.length htot
        simp only [List.length_append, List.length_cons, ← ba_size] at hl
        have := HLEN.out
        omega
      have HX : Hid ((acc ++ xt).data.toList ++ partsK (l.drop (j + 1)) false ([].drop (j + 1)) = 4 :: partsK l false []) := Lib.hid (by rw [← htot, List.drop_nil]; simp)
      clear hInx hInL hx hxg hsz hZZ hpa htot hxt hxd
      go_wp2_with fail
      refine CALL.out.mono ?_
      rintro e w2 ⟨rfl, hb2⟩
      have HF : Hid (RtAt 4 l [] false w _ (j + 1) (acc ++ xt) w2) := Lib.hid ⟨HX.out, HS.out.stay.next hb2⟩
      clear hb2
      go_wp2
      go_roundw
      case rel => exact ⟨j + 1, _, rfl, by go_num, by omega, HF⟩
      case measure => simp [intOf]; omega
    · have hjn : j = nl := by omega
      have HJ := Lib.hid hjn
      have hji : ¬ (j : Int) < nl := by omega
      clear hjn
      go_wp2
      go_ret
      have hA := HS.out.text
      rw [HJ.out, ← HL.out, List.drop_length, partsK, List.append_nil] at hA
      exact ⟨ret_text (by rw [ba_append, hA]; rfl), HS.out.stay.low⟩
set_option maxRecDepth 100000 in
set_option maxHeartbeats 8000000 in
theorem ref_map (b : Bool) (n : Int) (s : ByteArray) (l : List VT) (ks : List ByteArray) (N B : Nat) (pl pk : Option Addr) (nl cl ck : Nat) (w : World) (IH : Hid (RtIH N)) (hT : Hid (∀ x, x ∈ l → x.parts ≤ N)) (HL : Hid (l.length = nl)) (HKL : Hid (ks.length = nl))
    (HM : Hid (0 < l.length → ∃ bl ol, pl = some ⟨bl, ol, none⟩ ∧ bl < B ∧ VT.InL w B bl ol l)) (HK : Hid (VT.KeysIn w B pk ks)) (hB : B ≤ w.heap.size) (HN : Hid (okNL l)) (HG : Hid (goodL l)) (HLEN : Hid ((partsK l true ks).length ≤ 1073741824)) (HZ : Hid (szL l + szK ks ≤ 1073741824)) (hnl : nl ≤ maxLen) :
    Calls Tryd.prog 33 #[.agg #[.int .i64 5, .bool b, .int .i64 n, .string s, .slice pl nl cl, .slice pk nl ck]] w fun e w' => e = .returned (.string ⟨(1 :: (partsK l true ks ++ [0])).toArray⟩) ∧ Below w.heap.size w w' := by
  unfold maxLen at hnl
  have HW0 : Hid (RtAt 1 l ks true w #[.int .i64 5, .bool b, .int .i64 n, .string s, .slice pl nl cl, .slice pk nl ck] 0 ⟨#[1]⟩ (w.alloc (.cells #[.int .i64 5, .bool b, .int .i64 n, .string s, .slice pl nl cl, .slice pk nl ck] 26))) := Lib.hid ⟨rfl, Stay.new w _⟩
  go_enter Tryd.func33, Tryd.ntmps33
  go_wp2
  go_loopw [3, 4] (fun a i wr => ∃ (j : Nat) (acc : ByteArray), a = .string acc ∧ i = .int .i64 (j : Int) ∧ j ≤ nl ∧ Hid (RtAt 1 l ks true w #[.int .i64 5, .bool b, .int .i64 n, .string s, .slice pl nl cl, .slice pk nl ck] j acc wr)) (fun _ i _ => nl - (intOf i).toNat)
  case atStart => exact ⟨0, _, rfl, rfl, Nat.zero_le _, HW0⟩
  case round =>
    rename_i wr
    obtain ⟨j, acc, rfl, rfl, hj, HS⟩ := hrel
    clear HW0
    obtain ⟨c0, c1, c2, c3, c4, c5⟩ := HS.out.stay.box.cell
    have hwlt : w.heap.size < wr.heap.size := HS.out.stay.box.lt
    have hal : (acc.size : Int) ≤ 1073741825 := by
      have hl := congrArg List.length HS.out.text
      rw [List.length_append, List.length_cons, ← ba_size] at hl
      have := HLEN.out
      omega
    by_cases hlt : j < nl
    · obtain ⟨x, hx⟩ : ∃ x, l[j]? = some x := ⟨l[j]'(by rw [HL.out]; exact hlt), List.getElem?_eq_getElem _⟩
      obtain ⟨bl, ol, hpl, hbl, hInL⟩ := HM.out (by rw [HL.out]; omega)
      obtain ⟨d0, d1, d2, d3, d4, d5, e0, e1, e2, e3, e4, e5, hInx⟩ := hInL.at hx
      obtain ⟨xk, xb, xn, xs, xpl, xnl, xcl, xpk, xnk, xck, rfl, rfl, rfl, rfl, rfl, rfl⟩ := hInx.shape
      have hji : (j : Int) < nl := by omega
      have hjk : j < ks.length := by rw [HKL.out]; omega
      obtain ⟨kb, ko, hpk, hkb, hkc⟩ := HK.out (by omega)
      have hkz : 4 * (ks.getD j default).size + 8 ≤ szK ks := Val.szK_at (by rw [List.getD_eq_getElem?_getD, List.getElem?_eq_getElem hjk]; rfl)
      have hxg := goodL_at HG.out hx
      have hsz := Val.szL_at hx
      have hZZ := HZ.out
      have hpa := parts_at l j x true ks hx
      have htot := HS.out.text
      rw [hpa] at htot
      simp only [if_true] at htot
      have hck := hkc j hjk
      obtain ⟨key, hkey⟩ : ∃ key, ks.getD j default = key := ⟨_, rfl⟩
      rw [hkey] at hkz htot hck
      obtain ⟨xt, hxt⟩ : ∃ q : ByteArray, (⟨(keyB x).toArray⟩ : ByteArray) = q := ⟨_, rfl⟩
      have hxd : keyB x = xt.data.toList := by rw [← hxt]
      obtain ⟨kt, hkt⟩ : ∃ q : ByteArray, (⟨(endB key.data.toList).toArray⟩ : ByteArray) = q := ⟨_, rfl⟩
      have hkd : endB key.data.toList = kt.data.toList := by rw [← hkt]
      rw [hxd, hkd] at htot
      have hkl : (xt.size : Int) ≤ 1073741825 ∧ (kt.size : Int) ≤ 1073741825 ∧ ((acc.size : Int) + 1 + kt.size + xt.size ≤ 1073741825) := by
        have hl := congrArg List.length htot
        simp only [List.length_append, List.length_cons, ← ba_size] at hl
        have := HLEN.out
        omega
      obtain ⟨hkl1, hkl2, hkl3⟩ := hkl
      have ELEM : Hid (∀ V, Stay w.heap.size w w.heap.size #[.int .i64 5, .bool b, .int .i64 n, .string s, .slice pl nl cl, .slice pk nl ck] V → V.cell? ⟨bl, ol + j * 6, none⟩ = some (.int .i64 xk) ∧ V.cell? ⟨bl, ol + j * 6 + 1, none⟩ = some (.bool xb) ∧ V.cell? ⟨bl, ol + j * 6 + 2, none⟩ = some (.int .i64 xn) ∧ V.cell? ⟨bl, ol + j * 6 + 3, none⟩ = some (.string xs) ∧ V.cell? ⟨bl, ol + j * 6 + 4, none⟩ = some (.slice xpl xnl xcl) ∧ V.cell? ⟨bl, ol + j * 6 + 5, none⟩ = some (.slice xpk xnk xck)) := Lib.hid fun V hV => by
        have hq := fun i => hV.low.cell (p := ⟨bl, i, none⟩) (Nat.lt_of_lt_of_le hbl hB)
        exact ⟨(hq _).trans e0, (hq _).trans e1, (hq _).trans e2, (hq _).trans e3, (hq _).trans e4, (hq _).trans e5⟩
      have KEYM : Hid (∀ V, Stay w.heap.size w w.heap.size #[.int .i64 5, .bool b, .int .i64 n, .string s, .slice pl nl cl, .slice pk nl ck] V → V.cell? ⟨kb, ko + j, none⟩ = some (.string key)) := Lib.hid fun V hV => (hV.low.cell (p := ⟨kb, ko + j, none⟩) (Nat.lt_of_lt_of_le hkb hB)).trans hck
      have CALL : Hid (∀ V, Stay w.heap.size w w.heap.size #[.int .i64 5, .bool b, .int .i64 n, .string s, .slice pl nl cl, .slice pk nl ck] V → Calls Tryd.prog 33 #[.agg #[.int .i64 xk, .bool xb, .int .i64 xn, .string xs, .slice xpl xnl xcl, .slice xpk xnk xck]] V fun e w' => e = .returned (.string xt) ∧ Below V.heap.size V w') := Lib.hid fun V hV => by
        rw [← hxt]
        exact IH.out x _ B V (hT.out x (List.mem_of_getElem? hx)) (hInx.keep fun q hq => hV.low.cell (Nat.lt_of_lt_of_le hq hB)) (Nat.le_trans hB hV.low.size) (Val.okNL_at HN.out hx) hxg (by omega)
      have KEYC : Hid (∀ V, Calls Tryd.prog 56 #[.string key] V fun e w' => e = .returned (.string kt) ∧ Below V.heap.size V w') := Lib.hid fun V => by
        rw [← hkt]
        exact refEnded_any key V (by omega)
      have HX : Hid ((acc ++ ⟨#[1]⟩ ++ kt ++ xt).data.toList ++ partsK (l.drop (j + 1)) true (ks.drop (j + 1)) = 1 :: partsK l true ks) := Lib.hid (by rw [← htot]; simp [ba_append])
      clear hInx hInL hx hxg hsz hZZ hpa htot hxt hxd hkt hkd hck hkc hkz hkey e0 e1 e2 e3 e4 e5
      subst hpl hpk
      go_upto_region 7 with fail
      rename_i KK hKK
      have ST0 := Lib.hid HS.out.stay.drew
      have SZ : ((acc ++ (⟨#[1]⟩ : ByteArray)).size : Int) = (acc.size : Int) + 1 := by rw [ByteArray.size_append]; rfl
      have SZ2 : ((acc ++ (⟨#[1]⟩ : ByteArray) ++ kt).size : Int) = (acc.size : Int) + 1 + kt.size := by rw [ByteArray.size_append, ByteArray.size_append]; show ((acc.size + 1 + kt.size : Nat) : Int) = _; omega
      refine wp_region_seq (Stay w.heap.size w w.heap.size #[.int .i64 5, .bool b, .int .i64 n, .string s, .slice (some ⟨bl, ol, none⟩) nl cl, .slice (some ⟨kb, ko, none⟩) nl ck]) [0, 1, 2, 3, 4, 5, 6, 9, 10, 11, 12, 13, 7, 8, 14, 15, 16] (by kernel_rfl) (by kernel_rfl) (by kernel_rfl) (by kernel_rfl) ST0.out ?_
      refine seqS_take (o := _) (.string acc) (by conv => lhs; simp only [List.getElem?_toArray, List.getElem?_cons_succ, List.getElem?_cons_zero]) (by rfl) (by rfl) ?_ (fun _ => by rfl) (by conv => lhs; simp only [Act.put, List.setIfInBounds_toArray, List.set_cons_succ, List.set_cons_zero]) ?_
      · intro w _; go_simp
      refine seqS_take (o := _) (.string (acc ++ ⟨#[1]⟩)) (by conv => lhs; simp only [List.getElem?_toArray, List.getElem?_cons_succ, List.getElem?_cons_zero]) (by rfl) (by rfl) ?_ (fun _ => by rfl) (by conv => lhs; simp only [Act.put, List.setIfInBounds_toArray, List.set_cons_succ, List.set_cons_zero]) ?_
      · intro w _; go_simp; omega
      refine seqS_take (o := _) (.pointer (some ⟨w.heap.size, 5, none⟩)) (by conv => lhs; simp only [List.getElem?_toArray, List.getElem?_cons_succ, List.getElem?_cons_zero]) (by rfl) (by rfl) ?_ (fun _ => by rfl) (by conv => lhs; simp only [Act.put, List.setIfInBounds_toArray, List.set_cons_succ, List.set_cons_zero]) ?_
      · intro w _; go_simp
      refine seqS_take (o := _) (.slice (some ⟨kb, ko, none⟩) nl ck) (by conv => lhs; simp only [List.getElem?_toArray, List.getElem?_cons_succ, List.getElem?_cons_zero]) (by rfl) (by rfl) ?_ (fun _ => by rfl) (by conv => lhs; simp only [Act.put, List.setIfInBounds_toArray, List.set_cons_succ, List.set_cons_zero]) ?_
      · rintro w' t0; obtain ⟨c0, c1, c2, c3, c4, c5⟩ := t0.box.cell; clear t0; go_simp
      refine seqS_take (o := _) (.int .i64 (j : Int)) (by conv => lhs; simp only [List.getElem?_toArray, List.getElem?_cons_succ, List.getElem?_cons_zero]) (by rfl) (by rfl) ?_ (fun _ => by rfl) (by conv => lhs; simp only [Act.put, List.setIfInBounds_toArray, List.set_cons_succ, List.set_cons_zero]) ?_
      · intro w _; go_simp
      refine seqS_take (o := _) (.pointer (some ⟨kb, ko + j, none⟩)) (by conv => lhs; simp only [List.getElem?_toArray, List.getElem?_cons_succ, List.getElem?_cons_zero]) (by rfl) (by rfl) ?_ (fun _ => by rfl) (by conv => lhs; simp only [Act.put, List.setIfInBounds_toArray, List.set_cons_succ, List.set_cons_zero]) ?_
      · intro w _; go_simp
      refine seqS_take (o := _) (.string key) (by conv => lhs; simp only [List.getElem?_toArray, List.getElem?_cons_succ, List.getElem?_cons_zero]) (by rfl) (by rfl) ?_ (fun _ => by rfl) (by conv => lhs; simp only [Act.put, List.setIfInBounds_toArray, List.set_cons_succ, List.set_cons_zero]) ?_
      · rintro w' t0; have ck := KEYM.out w' t0; clear t0; go_simp
      refine seqS_take (o := _) (.pointer (some ⟨w.heap.size, 4, none⟩)) (by conv => lhs; simp only [List.getElem?_toArray, List.getElem?_cons_succ, List.getElem?_cons_zero]) (by rfl) (by rfl) ?_ (fun _ => by rfl) (by conv => lhs; simp only [Act.put, List.setIfInBounds_toArray, List.set_cons_succ, List.set_cons_zero]) ?_
      · intro w _; go_simp
      refine seqS_take (o := _) (.slice (some ⟨bl, ol, none⟩) nl cl) (by conv => lhs; simp only [List.getElem?_toArray, List.getElem?_cons_succ, List.getElem?_cons_zero]) (by rfl) (by rfl) ?_ (fun _ => by rfl) (by conv => lhs; simp only [Act.put, List.setIfInBounds_toArray, List.set_cons_succ, List.set_cons_zero]) ?_
      · rintro w' t0; obtain ⟨c0, c1, c2, c3, c4, c5⟩ := t0.box.cell; clear t0; go_simp
      refine seqS_take (o := _) (.int .i64 (j : Int)) (by conv => lhs; simp only [List.getElem?_toArray, List.getElem?_cons_succ, List.getElem?_cons_zero]) (by rfl) (by rfl) ?_ (fun _ => by rfl) (by conv => lhs; simp only [Act.put, List.setIfInBounds_toArray, List.set_cons_succ, List.set_cons_zero]) ?_
      · intro w _; go_simp
      refine seqS_take (o := _) (.pointer (some ⟨bl, ol + j * 6, none⟩)) (by conv => lhs; simp only [List.getElem?_toArray, List.getElem?_cons_succ, List.getElem?_cons_zero]) (by rfl) (by rfl) ?_ (fun _ => by rfl) (by conv => lhs; simp only [Act.put, List.setIfInBounds_toArray, List.set_cons_succ, List.set_cons_zero]) ?_
      · intro w _; go_simp
      refine seqS_take (o := _) (.agg #[.int .i64 xk, .bool xb, .int .i64 xn, .string xs, .slice xpl xnl xcl, .slice xpk xnk xck]) (by conv => lhs; simp only [List.getElem?_toArray, List.getElem?_cons_succ, List.getElem?_cons_zero]) (by rfl) (by rfl) ?_ (fun _ => by rfl) (by conv => lhs; simp only [Act.put, List.setIfInBounds_toArray, List.set_cons_succ, List.set_cons_zero]) ?_
      · rintro w' t0; obtain ⟨c0, c1, c2, c3, c4, c5⟩ := ELEM.out w' t0; clear t0; go_simp
      refine seqS_call (o := _) rfl (by conv => lhs; simp only [List.getElem?_toArray, List.getElem?_cons_succ, List.getElem?_cons_zero]) (by rfl) (by rfl) ?_ (KEYC.out wr.drew) ?_
      · go_simp
      rintro e w3 ⟨rfl, hb3⟩
      have T3 := ST0.out.next hb3
      refine ⟨_, _, rfl, (by conv => lhs; simp only [Act.put, List.setIfInBounds_toArray, List.set_cons_succ, List.set_cons_zero]), T3, ?_⟩
      refine seqS_take (o := _) (.string (acc ++ ⟨#[1]⟩ ++ kt)) (by conv => lhs; simp only [List.getElem?_toArray, List.getElem?_cons_succ, List.getElem?_cons_zero]) (by rfl) (by rfl) ?_ (fun _ => by rfl) (by conv => lhs; simp only [Act.put, List.setIfInBounds_toArray, List.set_cons_succ, List.set_cons_zero]) ?_
      · intro w _; go_simp; omega
      refine seqS_call (o := _) rfl (by conv => lhs; simp only [List.getElem?_toArray, List.getElem?_cons_succ, List.getElem?_cons_zero]) (by rfl) (by rfl) ?_ (CALL.out _ T3) ?_
      · go_simp
      rintro e w4 ⟨rfl, hb4⟩
      have T4 := T3.next hb4
      refine ⟨_, _, rfl, (by conv => lhs; simp only [Act.put, List.setIfInBounds_toArray, List.set_cons_succ, List.set_cons_zero]), T4, ?_⟩
      refine seqS_take (o := _) (.string (acc ++ ⟨#[1]⟩ ++ kt ++ xt)) (by conv => lhs; simp only [List.getElem?_toArray, List.getElem?_cons_succ, List.getElem?_cons_zero]) (by rfl) (by rfl) ?_ (fun _ => by rfl) (by conv => lhs; simp only [Act.put, List.setIfInBounds_toArray, List.set_cons_succ, List.set_cons_zero]) ?_
      · intro w _; go_simp; omega
      refine seqS_take (o := _) (.string (acc ++ ⟨#[1]⟩ ++ kt ++ xt)) (by conv => lhs; simp only [List.getElem?_toArray, List.getElem?_cons_succ, List.getElem?_cons_zero]) (by rfl) (by rfl) ?_ (fun _ => by rfl) (by conv => lhs; simp only [Act.put, List.setIfInBounds_toArray, List.set_cons_succ, List.set_cons_zero]) ?_
      · intro w _; go_simp
      refine NoPanic.normal ?_
      have HF : Hid (RtAt 1 l ks true w _ (j + 1) (acc ++ ⟨#[1]⟩ ++ kt ++ xt) w4) := Lib.hid ⟨HX.out, T4⟩
      clear T3 T4 hb3 hb4
      refine hKK _ _ ?_
      clear hKK
      go_wp2
      go_roundw
      case rel => exact ⟨j + 1, _, rfl, by go_num, by omega, HF⟩
      case measure => simp [intOf]; omega
    · have hjn : j = nl := by omega
      have HJ := Lib.hid hjn
      have hji : ¬ (j : Int) < nl := by omega
      clear hjn
      go_wp2
      go_ret
      have hA := HS.out.text
      rw [HJ.out, ← HL.out, List.drop_length, partsK, List.append_nil] at hA
      exact ⟨ret_text (by rw [ba_append, hA]; rfl), HS.out.stay.low⟩
theorem ref_all : ∀ N, RtIH N
  | 0 => fun t _ _ _ h => by have := t.parts_pos; omega
  | N + 1 => fun t v B w hN hIn hB hok hg hsz => by
    have IH := ref_all N
    have hlen := keyB_len t hg
    obtain ⟨k, b, n, s, l, ks⟩ := t
    have hx := hIn
    unfold VT.In at hx
    obtain ⟨pl, cl, pk, ck, rfl, h1, h2, h3, h4, hks, hl⟩ := hx
    unfold goodV at hg
    unfold okN at hok
    have hsz' := hsz
    unfold szV at hsz
    rw [VT.parts] at hN
    have hp : ∀ x, x ∈ l → x.parts ≤ N := fun x hx => by have := VT.parts_mem hx; omega
    obtain ⟨⟨⟨hk0, hk7⟩, hg5, hg67⟩, hgl⟩ := hg
    unfold keyB at hlen ⊢
    by_cases k5 : k = 5
    · subst k5
      rw [if_pos rfl] at hlen ⊢
      have hkl := hg5 rfl
      rw [hkl] at h3 ⊢
      simp only [List.length_cons, List.length_append, List.length_nil] at hlen
      exact ref_map b n s l ks N B pl pk l.length cl ck w (Lib.hid IH) (Lib.hid hp) (Lib.hid rfl) (Lib.hid hkl) (Lib.hid hl) (Lib.hid hks) hB (Lib.hid hok.2) (Lib.hid hgl) (Lib.hid (by omega)) (Lib.hid (by omega)) (by omega)
    rw [if_neg k5] at hlen ⊢
    by_cases k6 : k = 6
    · subst k6
      rw [if_pos rfl]
      exact ref_node b n s pl pk l.length cl ks.length ck w ⟨by have := hg67 (.inl rfl); omega, hok.1.2⟩
    rw [if_neg k6] at hlen ⊢
    by_cases k7 : k = 7
    · subst k7
      rw [if_pos rfl]
      exact ref_edge b n s pl pk l.length cl ks.length ck w ⟨by have := hg67 (.inr rfl); omega, hok.1.2⟩
    rw [if_neg k7] at hlen ⊢
    by_cases k4 : k = 4
    · subst k4
      rw [if_pos rfl] at hlen ⊢
      simp only [List.length_cons, List.length_append, List.length_nil] at hlen
      exact ref_list b n s l N B pl pk l.length cl ks.length ck w (Lib.hid IH) (Lib.hid hp) (Lib.hid rfl) (Lib.hid hl) hB (Lib.hid hok.2) (Lib.hid hgl) (Lib.hid (by omega)) (Lib.hid (by omega)) (by omega)
    rw [if_neg k4]
    by_cases k3 : k = 3
    · subst k3
      rw [if_pos rfl]
      exact ref_str b n s pl pk l.length cl ks.length ck w (by omega)
    rw [if_neg k3]
    by_cases k1 : k = 1
    · subst k1
      rw [if_pos rfl]
      exact ref_bool b n s pl pk l.length cl ks.length ck w
    rw [if_neg k1]
    by_cases k2 : k = 2
    · subst k2
      rw [if_pos rfl]
      exact ref_int b n s pl pk l.length cl ks.length ck w hok.1
    rw [if_neg k2]
    obtain rfl : k = 0 := by omega
    exact ref_null b n s pl pk l.length cl ks.length ck w
end Rk
end Go.Proofs.YtlmebeiopnfmdaaDoor
