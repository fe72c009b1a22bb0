/- The document's keys: eight bytes, ended texts. -/
import Derived.Test.YtlmebeiopnfmdaaDoorRkBase
import Derived.Lib.BufferRead
import Derived.Lib.SlBytesRow
namespace Go.Proofs.YtlmebeiopnfmdaaDoor
open Go.RowKit
set_option linter.unusedVariables false
set_option linter.unusedSimpArgs false
namespace Rk
open Val (VT Keeps Box okN okNL szV szL szK)
theorem ba_append (a b : ByteArray) : (a ++ b).data.toList = a.data.toList ++ b.data.toList := by
  rw [ByteArray.data_append, Array.toList_append]
theorem ba_ext {a b : ByteArray} (h : a.data.toList = b.data.toList) : a = b := ByteArray.ext (Array.ext' h)
theorem ba_size (a : ByteArray) : a.size = a.data.toList.length := by simp
theorem ret_text {a : ByteArray} {l : List UInt8} (h : a.data.toList = l) : Ending.returned (.string a) = .returned (.string ⟨l.toArray⟩) := by
  rw [← h]
theorem be8_drop (n j : Nat) (h : j < 8) : (be8 n).drop (8 - (j + 1)) = dig n j :: (be8 n).drop (8 - j) := by
  have h8 : j = 0 ∨ j = 1 ∨ j = 2 ∨ j = 3 ∨ j = 4 ∨ j = 5 ∨ j = 6 ∨ j = 7 := by omega
  rcases h8 with rfl | rfl | rfl | rfl | rfl | rfl | rfl | rfl <;> rfl
set_option maxRecDepth 100000 in
theorem refEight_any (n : Nat) (w : World) (hn : (n : Int) ≤ 18446744073709551615) :
    Calls Tryd.prog 57 #[.int .u64 (n : Int)] w fun e w' => e = .returned (.string ⟨(be8 n).toArray⟩) ∧ Below w.heap.size w w' := by
  go_enter Tryd.func57, Tryd.ntmps57
  go_wp2
  go_loopw [0, 3, 4] (fun m s i wr => ∃ (j : Nat) (t : ByteArray) (q : Nat), i = .int .i64 (j : Int) ∧ j ≤ 8 ∧ m = .int .u64 (q : Int) ∧ s = .string t ∧ Hid (q = n / 256 ^ j ∧ t.data.toList = (be8 n).drop (8 - j) ∧ Below w.heap.size w wr)) (fun _ _ i _ => 8 - (intOf i).toNat)
  case atStart => exact ⟨0, ⟨#[]⟩, n, rfl, by omega, rfl, rfl, Lib.hid ⟨by simp, rfl, Below.refl _ _⟩⟩
  case round =>
    rename_i wr
    obtain ⟨j, t, q, rfl, hj, rfl, rfl, H⟩ := hrel
    by_cases hlt : j < 8
    · have hji : (j : Int) < 8 := by omega
      have hts : t.size ≤ 8 := by rw [ba_size, H.out.2.1, List.length_drop]; simp [be8]
      have hqn : (q : Int) ≤ 18446744073709551615 := by
        have : n / 256 ^ j ≤ n := Nat.div_le_self _ _
        have := H.out.1
        omega
      have hd : ((q : Int) % 256) = ((dig n j).toNat : Int) := by
        rw [dig_toNat, ← H.out.1]; simp
      have hcv : (convert 52 9 (.slice (some ⟨wr.heap.size, 0, none⟩) 1 1)).run Tryd.prog (wr.alloc (.cells #[.int .u8 ((q : Int) % 256)] 5)) = .ok (.string ⟨#[dig n j]⟩) (wr.alloc (.cells #[.int .u8 ((q : Int) % 256)] 5)) := by
        rw [hd]
        refine run_convert_bytes_back _ 52 9 5 ⟨wr.heap.size, 0, none⟩ 1 [dig n j] Tryd.underlying52 Tryd.underlying5 Tryd.underlying9 ?_
        exact Lib.bytes_of_row (World.alloc_heap_new wr _) rfl
      have HD := Lib.hid hd
      clear hd
      go_wp2
      refine ⟨⟨j + 1, _, q / 256, by go_num, by omega, by go_num, rfl, Lib.hid ⟨?_, ?_, ?_⟩⟩, by simp [intOf]; omega⟩
      · rw [H.out.1, Nat.div_div_eq_div_mul, Nat.pow_succ]
      · rw [ba_append, H.out.2.1, be8_drop n j hlt]
        rfl
      · exact H.out.2.2.alloc H.out.2.2.size _
    · have hj8 : j = 8 := by omega
      have HJ := Lib.hid hj8
      have hji : ¬ (j : Int) < 8 := by omega
      clear hj8
      go_wp2
      go_ret
      have hq := H.out
      rw [HJ.out] at hq
      exact ⟨ret_text hq.2.1, hq.2.2⟩
theorem esc_at (s : ByteArray) (j : Nat) (h : j < s.size) : escZ (s.data.toList.drop j) = (if s[j] = 0 then [0, 255] else [s[j]]) ++ escZ (s.data.toList.drop (j + 1)) := by
  have hl : j < s.data.toList.length := by simpa using h
  rw [List.drop_eq_getElem_cons hl, escZ]
  have : s.data.toList[j] = s[j] := by simp [ByteArray.getElem_eq_getElem_data]
  rw [this]
theorem extract_one (s : ByteArray) (j : Nat) (h : j < s.size) : (s.extract j (j + 1)).data.toList = [s[j]] := by
  have hl : j < s.data.toList.length := by simpa using h
  rw [Lib.extract_data, show j + 1 - j = 1 by omega, List.drop_eq_getElem_cons hl]
  simp [ByteArray.getElem_eq_getElem_data]
set_option maxRecDepth 100000 in
theorem refEnded_any (s : ByteArray) (w : World) (hs : s.size ≤ 4294967000) :
    Calls Tryd.prog 56 #[.string s] w fun e w' => e = .returned (.string ⟨(endB s.data.toList).toArray⟩) ∧ Below w.heap.size w w' := by
  go_enter Tryd.func56, Tryd.ntmps56
  go_wp2
  go_loopw [3, 4] (fun u i wr => ∃ (j : Nat) (t : ByteArray), i = .int .i64 (j : Int) ∧ j ≤ s.size ∧ u = .string t ∧ t.size ≤ 2 * j ∧ Hid (t.data.toList ++ escZ (s.data.toList.drop j) = escZ s.data.toList) ∧ wr = w) (fun _ i _ => s.size - (intOf i).toNat)
  case atStart => exact ⟨0, ⟨#[]⟩, rfl, by omega, rfl, by decide, Lib.hid rfl, rfl⟩
  case round =>
    obtain ⟨j, t, rfl, hj, rfl, hts, H, rfl⟩ := hrel
    have hsi : (s.size : Int) ≤ 4294967000 := by omega
    have hti : (t.size : Int) ≤ 8589934000 := by omega
    by_cases hlt : j < s.size
    · have hji : (j : Int) < s.size := by omega
      have HE := Lib.hid (esc_at s j hlt)
      have hX := extract_one s j hlt
      have hx1 : (s.extract j (j + 1)).size = 1 := by rw [ba_size, hX]; rfl
      have HX := Lib.hid hX
      clear hX
      by_cases h0 : s[j] = 0
      · have H0 := Lib.hid h0
        have hz : ((s[j].toNat : Int) == 0) = true := by rw [h0]; rfl
        clear h0
        go_wp2
        go_roundw
        case rel =>
          refine ⟨j + 1, _, by go_num, by omega, rfl, ?_, Lib.hid ?_, trivial⟩
          · simp only [ByteArray.size_append, hx1]
            show t.size + 1 + 1 ≤ _
            omega
          · rw [ba_append, ba_append, HX.out, H0.out, ← H.out, HE.out, if_pos H0.out]
            simp
        case measure => simp [intOf]; omega
      · have H0 := Lib.hid h0
        have hz : ((s[j].toNat : Int) == 0) = false := by
          simp only [beq_eq_false_iff_ne, ne_eq]
          intro h
          apply h0
          have : s[j].toNat = 0 := by omega
          exact UInt8.toNat_inj.1 (by simpa using this)
        clear h0
        go_wp2
        go_roundw
        case rel =>
          refine ⟨j + 1, _, by go_num, by omega, rfl, ?_, Lib.hid ?_, trivial⟩
          · simp only [ByteArray.size_append, hx1]
            omega
          · rw [ba_append, HX.out, ← H.out, HE.out, if_neg H0.out]
            simp
        case measure => simp [intOf]; omega
    · have hjn : j = s.size := by omega
      have HJ := Lib.hid hjn
      have hji : ¬ (j : Int) < s.size := by omega
      clear hjn
      go_wp2
      go_ret
      have hq := H.out
      rw [HJ.out, show s.data.toList.drop s.size = [] by simp, escZ, List.append_nil] at hq
      exact ⟨ret_text (by rw [ba_append, hq]; rfl), Below.refl _ _⟩
/-! ### The document's key of a value of each kind -/
def RtIH (N : Nat) : Prop := ∀ (t : VT) (v : Value) (B : Nat) (w : World), t.parts ≤ N → VT.In w B t v → B ≤ w.heap.size → okN t → goodV t → szV t ≤ 1073741824 →
  Calls Tryd.prog 33 #[v] w fun e w' => e = .returned (.string ⟨(keyB t).toArray⟩) ∧ Below w.heap.size w w'
section
variable (b : Bool) (n : Int) (s : ByteArray) (pl pk : Option Addr) (nl cl nk ck : Nat) (w : World)
set_option maxRecDepth 100000 in
theorem ref_null : Calls Tryd.prog 33 #[.agg #[.int .i64 0, .bool b, .int .i64 n, .string s, .slice pl nl cl, .slice pk nk ck]] w fun e w' => e = .returned (.string ⟨([8] : List UInt8).toArray⟩) ∧ Below w.heap.size w w' := by
  go_enter Tryd.func33, Tryd.ntmps33
  go_wp2
  go_ret
  exact ⟨rfl, (Below.refl _ w).alloc (Nat.le_refl _) _⟩
set_option maxRecDepth 100000 in
theorem ref_bool : Calls Tryd.prog 33 #[.agg #[.int .i64 1, .bool b, .int .i64 n, .string s, .slice pl nl cl, .slice pk nk ck]] w fun e w' => e = .returned (.string ⟨([6, if b then 1 else 0] : List UInt8).toArray⟩) ∧ Below w.heap.size w w' := by
  cases b
  all_goals
    go_enter Tryd.func33, Tryd.ntmps33
    go_wp2
    go_ret
    exact ⟨rfl, (Below.refl _ w).alloc (Nat.le_refl _) _⟩
theorem eight_call (m : Nat) (x : Int) (hx : x = (m : Int)) (hm : x ≤ 18446744073709551615) (V : World) : ∃ q : ByteArray, q.data.toList = be8 m ∧ q.size = 8 ∧ Calls Tryd.prog 57 #[.int .u64 x] V fun e w' => e = .returned (.string q) ∧ Below V.heap.size V w' :=
  ⟨⟨(be8 m).toArray⟩, rfl, rfl, by rw [hx]; exact refEight_any m V (by omega)⟩
set_option maxRecDepth 100000 in
theorem ref_node (hN : 0 ≤ n ∧ n ≤ 9223372036854775807) : Calls Tryd.prog 33 #[.agg #[.int .i64 6, .bool b, .int .i64 n, .string s, .slice pl nl cl, .slice pk nk ck]] w fun e w' => e = .returned (.string ⟨(2 :: be8 n.toNat).toArray⟩) ∧ Below w.heap.size w w' := by
  have HE := Lib.hid (fun V => (show Calls Tryd.prog 57 #[.int .u64 n] V fun e w' => e = .returned (.string ⟨(be8 n.toNat).toArray⟩) ∧ Below V.heap.size V w' from by
    have := refEight_any n.toNat V (by omega)
    rwa [show ((n.toNat : Nat) : Int) = n by omega] at this))
  obtain ⟨q, hq⟩ : ∃ q : ByteArray, (⟨(be8 n.toNat).toArray⟩ : ByteArray) = q := ⟨_, rfl⟩
  have hqd : q.data.toList = be8 n.toNat := by rw [← hq]
  have hqs : q.size = 8 := by rw [ba_size, hqd]; rfl
  rw [hq] at HE
  rw [← hqd]
  clear hqd hq
  go_enter Tryd.func33, Tryd.ntmps33
  go_wp2_with (go_at_call 57; refine (HE.out _).mono ?_; rintro e w1 ⟨rfl, hb⟩; have HB := Lib.hid (((Below.refl _ w).alloc (Nat.le_refl _) _).trans (hb.mono (by simp))); clear hb)
  go_ret
  exact ⟨ret_text (by rw [ba_append]; rfl), HB.out⟩
set_option maxRecDepth 100000 in
theorem ref_edge (hN : 0 ≤ n ∧ n ≤ 9223372036854775807) : Calls Tryd.prog 33 #[.agg #[.int .i64 7, .bool b, .int .i64 n, .string s, .slice pl nl cl, .slice pk nk ck]] w fun e w' => e = .returned (.string ⟨(3 :: be8 n.toNat).toArray⟩) ∧ Below w.heap.size w w' := by
  have HE := Lib.hid (fun V => (show Calls Tryd.prog 57 #[.int .u64 n] V fun e w' => e = .returned (.string ⟨(be8 n.toNat).toArray⟩) ∧ Below V.heap.size V w' from by
    have := refEight_any n.toNat V (by omega)
    rwa [show ((n.toNat : Nat) : Int) = n by omega] at this))
  obtain ⟨q, hq⟩ : ∃ q : ByteArray, (⟨(be8 n.toNat).toArray⟩ : ByteArray) = q := ⟨_, rfl⟩
  have hqd : q.data.toList = be8 n.toNat := by rw [← hq]
  have hqs : q.size = 8 := by rw [ba_size, hqd]; rfl
  rw [hq] at HE
  rw [← hqd]
  clear hqd hq
  go_enter Tryd.func33, Tryd.ntmps33
  go_wp2_with (go_at_call 57; refine (HE.out _).mono ?_; rintro e w1 ⟨rfl, hb⟩; have HB := Lib.hid (((Below.refl _ w).alloc (Nat.le_refl _) _).trans (hb.mono (by simp))); clear hb)
  go_ret
  exact ⟨ret_text (by rw [ba_append]; rfl), HB.out⟩
set_option maxRecDepth 100000 in
theorem ref_int (hN : -9223372036854775808 ≤ n ∧ n ≤ 9223372036854775807) : Calls Tryd.prog 33 #[.agg #[.int .i64 2, .bool b, .int .i64 n, .string s, .slice pl nl cl, .slice pk nk ck]] w fun e w' => e = .returned (.string ⟨(7 :: be8 (n + 9223372036854775808).toNat).toArray⟩) ∧ Below w.heap.size w w' := by
  have HE := Lib.hid (fun V (x : Int) (hx : x = n + 9223372036854775808) => (show Calls Tryd.prog 57 #[.int .u64 x] V fun e w' => e = .returned (.string ⟨(be8 (n + 9223372036854775808).toNat).toArray⟩) ∧ Below V.heap.size V w' from by
    have := refEight_any (n + 9223372036854775808).toNat V (by omega)
    rwa [show (((n + 9223372036854775808).toNat : Nat) : Int) = x by omega] at this))
  obtain ⟨q, hq⟩ : ∃ q : ByteArray, (⟨(be8 (n + 9223372036854775808).toNat).toArray⟩ : ByteArray) = q := ⟨_, rfl⟩
  have hqd : q.data.toList = be8 (n + 9223372036854775808).toNat := by rw [← hq]
  have hqs : q.size = 8 := by rw [ba_size, hqd]; rfl
  rw [hq] at HE
  rw [← hqd]
  clear hqd hq
  obtain ⟨hn1, hn2⟩ := hN
  by_cases h0 : n < 0
  · go_enter Tryd.func33, Tryd.ntmps33
    go_wp2_with (first | (go_at_call 57; refine (HE.out _ _ (by omega)).mono ?_; rintro e w1 ⟨rfl, hb⟩; have HB := Lib.hid (((Below.refl _ w).alloc (Nat.le_refl _) _).trans (hb.mono (by simp))); clear hb))
    go_ret
    exact ⟨ret_text (by rw [ba_append]; rfl), HB.out⟩
  · have h0' : decide (n < 0) = false := by simp; omega
    have h00 : 0 ≤ n := by omega
    clear h0
    go_enter Tryd.func33, Tryd.ntmps33
    go_wp2_with (first | (go_at_call 57; refine (HE.out _ _ (by omega)).mono ?_; rintro e w1 ⟨rfl, hb⟩; have HB := Lib.hid (((Below.refl _ w).alloc (Nat.le_refl _) _).trans (hb.mono (by simp))); clear hb))
    go_ret
    exact ⟨ret_text (by rw [ba_append]; rfl), HB.out⟩
set_option maxRecDepth 100000 in
theorem ref_str (hs : s.size ≤ 4294967000) : Calls Tryd.prog 33 #[.agg #[.int .i64 3, .bool b, .int .i64 n, .string s, .slice pl nl cl, .slice pk nk ck]] w fun e w' => e = .returned (.string ⟨(5 :: endB s.data.toList).toArray⟩) ∧ Below w.heap.size w w' := by
  have HE := Lib.hid (fun V => refEnded_any s V hs)
  obtain ⟨q, hq⟩ : ∃ q : ByteArray, (⟨(endB s.data.toList).toArray⟩ : ByteArray) = q := ⟨_, rfl⟩
  have hqd : q.data.toList = endB s.data.toList := by rw [← hq]
  have hqs : q.size ≤ 8589934100 := by
    have := endB_len s.data.toList
    rw [ba_len] at this
    rw [ba_size, hqd]; omega
  have hqi : (q.size : Int) ≤ 8589934100 := by omega
  rw [hq] at HE
  rw [← hqd]
  clear hqd hq hs hqs
  go_enter Tryd.func33, Tryd.ntmps33
  go_wp2_with (go_at_call 56; refine (HE.out _).mono ?_; rintro e w1 ⟨rfl, hb⟩; have HB := Lib.hid (((Below.refl _ w).alloc (Nat.le_refl _) _).trans (hb.mono (by simp))); clear hb)
  go_ret
  exact ⟨ret_text (by rw [ba_append]; rfl), HB.out⟩
end
end Rk
end Go.Proofs.YtlmebeiopnfmdaaDoor
