/- THE WALK over num.Parse. -/
import Derived.Test.YtbefjenenciflaaDoorNumParse
import Derived.WalkKit
import Derived.Lib.Hide
import Derived.Deep.QuietTactic
import Derived.BigQuiet
import Derived.WalkSpells
import Derived.WalkLawsBesides
namespace Go.Proofs.YtbefjenenciflaaDoor
open Go.RowKit
set_option linter.unusedVariables false
set_option linter.unusedSimpArgs false
namespace Num
theorem written_is (s : ByteArray) (b : Bool) (w : World) (hd : Digs w) (hm : s.size ≤ maxLen) (h : wr s.data.toList = b) :
    Calls Tryd.prog 29 #[.string s] w fun e w' => e = .returned (.bool b) ∧ Below w.heap.size w w' := by
  rw [← h]; exact written_any s w hd hm
theorem count_small (s : ByteArray) (n : Nat) (w : World) (hd : Digs w) (hm : s.size ≤ maxLen) (hall : s.data.toList.all isDig = true ∧ valU s.data.toList = n ∧ n ≤ 9223372036854775808) :
    Calls Tryd.prog 30 #[.string s] w fun e w' => e = .returned (.tuple #[.int .u64 (n : Int), .int .i64 0]) ∧ Below w.heap.size w w' :=
  (count_any s w hd hm hall.1).mono fun e w' ⟨he, hb⟩ => ⟨by rw [he, cntV, cntE, hall.2.1, if_pos hall.2.2, if_pos hall.2.2], hb⟩
theorem count_big (s : ByteArray) (w : World) (hd : Digs w) (hm : s.size ≤ maxLen) (hall : s.data.toList.all isDig = true ∧ ¬ valU s.data.toList ≤ 9223372036854775808) :
    Calls Tryd.prog 30 #[.string s] w fun e w' => e = .returned (.tuple #[.int .u64 0, .int .i64 4]) ∧ Below w.heap.size w w' :=
  (count_any s w hd hm hall.1).mono fun e w' ⟨he, hb⟩ => ⟨by rw [he, cntV, cntE, if_neg hall.2, if_neg hall.2], hb⟩
set_option maxHeartbeats 400000 in
theorem parse_nil (w : World) :
    Calls Tryd.prog 22 #[.string ⟨#[]⟩] w fun e w' => e = .returned (.tuple #[.int .i64 0, .int .i64 1]) ∧ Below w.heap.size w w' := by
  go_enter Tryd.func22, Tryd.ntmps22
  go_wp2_with (go_at_call 29; refine (written_nil _).mono ?_; rintro e w' ⟨rfl, hb⟩)
  go_ret2
  exact ⟨rfl, hb⟩
set_option maxHeartbeats 400000 in
theorem parse_ma (s : ByteArray) (w : World) (hd : Digs w) (hm : s.size ≤ maxLen) (h0 : 0 < s.size) (hz : ((s[0].toNat : Int) == 45) = true) (HW : Hid (wr (s.extract 1 s.size).data.toList = false)) (HL : Hid ((s.extract 1 s.size).size ≤ maxLen)) :
    Calls Tryd.prog 22 #[.string s] w fun e w' => e = .returned (.tuple #[.int .i64 0, .int .i64 1]) ∧ Below w.heap.size w w' := by
  unfold maxLen at hm
  have hE : s.toList.isEmpty = false := toList_ne s (by omega)
  have hE2 : (!s.toList.isEmpty) = true := by rw [hE]; rfl
  have HD := Lib.hid hd
  clear hd
  go_enter Tryd.func22, Tryd.ntmps22
  go_wp2_with (first | (go_at_call 29; refine (written_is _ false _ HD.out HL.out HW.out).mono ?_; rintro e w' ⟨rfl, hb⟩))
  go_ret2
  exact ⟨rfl, hb⟩
set_option maxHeartbeats 400000 in
theorem parse_mb (s : ByteArray) (w : World) (hd : Digs w) (hm : s.size ≤ maxLen) (h0 : 0 < s.size) (hz : ((s[0].toNat : Int) == 45) = true) (HW : Hid (wr (s.extract 1 s.size).data.toList = true)) (HL : Hid ((s.extract 1 s.size).size ≤ maxLen)) (ht : ((s.extract 1 s.size).toList == [48]) = true) :
    Calls Tryd.prog 22 #[.string s] w fun e w' => e = .returned (.tuple #[.int .i64 0, .int .i64 1]) ∧ Below w.heap.size w w' := by
  unfold maxLen at hm
  have hE : s.toList.isEmpty = false := toList_ne s (by omega)
  have hE2 : (!s.toList.isEmpty) = true := by rw [hE]; rfl
  have HD := Lib.hid hd
  clear hd
  go_enter Tryd.func22, Tryd.ntmps22
  go_wp2_with (first | (go_at_call 29; refine (written_is _ true _ HD.out HL.out HW.out).mono ?_; rintro e w' ⟨rfl, hb⟩))
  go_ret2
  exact ⟨rfl, hb⟩
set_option maxHeartbeats 400000 in
theorem parse_mc (s : ByteArray) (w : World) (hd : Digs w) (hm : s.size ≤ maxLen) (h0 : 0 < s.size) (hz : ((s[0].toNat : Int) == 45) = true) (HW : Hid (wr (s.extract 1 s.size).data.toList = true)) (HL : Hid ((s.extract 1 s.size).size ≤ maxLen)) (ht : ((s.extract 1 s.size).toList == [48]) = false) (n : Nat) (hn : n ≤ 9223372036854775808) (HC : Hid ((s.extract 1 s.size).data.toList.all isDig = true ∧ valU (s.extract 1 s.size).data.toList = n ∧ n ≤ 9223372036854775808)) :
    Calls Tryd.prog 22 #[.string s] w fun e w' => e = .returned (.tuple #[.int .i64 (fitV (-(n : Int))), .int .i64 (fitE (-(n : Int)))]) ∧ Below w.heap.size w w' := by
  unfold maxLen at hm
  have hE : s.toList.isEmpty = false := toList_ne s (by omega)
  have hE2 : (!s.toList.isEmpty) = true := by rw [hE]; rfl
  have HD := Lib.hid hd
  clear hd
  go_enter Tryd.func22, Tryd.ntmps22
  go_wp2_with (first | (go_at_call 29; refine (written_is _ true _ HD.out HL.out HW.out).mono ?_; rintro e w' ⟨rfl, hb⟩) | (go_at_call 30; refine (count_small _ n _ (HD.out.below hb) HL.out HC.out).mono ?_; rintro e w' ⟨rfl, hb2⟩) | (go_at_call 28; refine (signed_neg _ _ (by omega) (by omega)).mono ?_; rintro e w' ⟨rfl, rfl⟩))
  go_ret2
  exact ⟨rfl, hb.trans (hb2.mono hb.size)⟩
set_option maxHeartbeats 400000 in
theorem parse_md (s : ByteArray) (w : World) (hd : Digs w) (hm : s.size ≤ maxLen) (h0 : 0 < s.size) (hz : ((s[0].toNat : Int) == 45) = true) (HW : Hid (wr (s.extract 1 s.size).data.toList = true)) (HL : Hid ((s.extract 1 s.size).size ≤ maxLen)) (ht : ((s.extract 1 s.size).toList == [48]) = false) (HC : Hid ((s.extract 1 s.size).data.toList.all isDig = true ∧ ¬ valU (s.extract 1 s.size).data.toList ≤ 9223372036854775808)) :
    Calls Tryd.prog 22 #[.string s] w fun e w' => e = .returned (.tuple #[.int .i64 0, .int .i64 4]) ∧ Below w.heap.size w w' := by
  unfold maxLen at hm
  have hE : s.toList.isEmpty = false := toList_ne s (by omega)
  have hE2 : (!s.toList.isEmpty) = true := by rw [hE]; rfl
  have HD := Lib.hid hd
  clear hd
  go_enter Tryd.func22, Tryd.ntmps22
  go_wp2_with (first | (go_at_call 29; refine (written_is _ true _ HD.out HL.out HW.out).mono ?_; rintro e w' ⟨rfl, hb⟩) | (go_at_call 30; refine (count_big _ _ (HD.out.below hb) HL.out HC.out).mono ?_; rintro e w' ⟨rfl, hb2⟩))
  go_ret2
  exact ⟨rfl, hb.trans (hb2.mono hb.size)⟩
set_option maxHeartbeats 400000 in
theorem parse_pa (s : ByteArray) (w : World) (hd : Digs w) (hm : s.size ≤ maxLen) (h0 : 0 < s.size) (hz : ((s[0].toNat : Int) == 45) = false) (HW : Hid (wr s.data.toList = false)) (HL : Hid (s.size ≤ maxLen)) :
    Calls Tryd.prog 22 #[.string s] w fun e w' => e = .returned (.tuple #[.int .i64 0, .int .i64 1]) ∧ Below w.heap.size w w' := by
  unfold maxLen at hm
  have hE : s.toList.isEmpty = false := toList_ne s (by omega)
  have hE2 : (!s.toList.isEmpty) = true := by rw [hE]; rfl
  have HD := Lib.hid hd
  clear hd
  go_enter Tryd.func22, Tryd.ntmps22
  go_wp2_with (first | (go_at_call 29; refine (written_is _ false _ HD.out HL.out HW.out).mono ?_; rintro e w' ⟨rfl, hb⟩))
  go_ret2
  exact ⟨rfl, hb⟩
set_option maxHeartbeats 400000 in
theorem parse_pc (s : ByteArray) (w : World) (hd : Digs w) (hm : s.size ≤ maxLen) (h0 : 0 < s.size) (hz : ((s[0].toNat : Int) == 45) = false) (HW : Hid (wr s.data.toList = true)) (HL : Hid (s.size ≤ maxLen)) (n : Nat) (hn : n ≤ 9223372036854775808) (HC : Hid (s.data.toList.all isDig = true ∧ valU s.data.toList = n ∧ n ≤ 9223372036854775808)) :
    Calls Tryd.prog 22 #[.string s] w fun e w' => e = .returned (.tuple #[.int .i64 (fitV (n : Int)), .int .i64 (fitE (n : Int))]) ∧ Below w.heap.size w w' := by
  unfold maxLen at hm
  have hE : s.toList.isEmpty = false := toList_ne s (by omega)
  have hE2 : (!s.toList.isEmpty) = true := by rw [hE]; rfl
  have HD := Lib.hid hd
  clear hd
  go_enter Tryd.func22, Tryd.ntmps22
  go_wp2_with (first | (go_at_call 29; refine (written_is _ true _ HD.out HL.out HW.out).mono ?_; rintro e w' ⟨rfl, hb⟩) | (go_at_call 30; refine (count_small _ n _ (HD.out.below hb) HL.out HC.out).mono ?_; rintro e w' ⟨rfl, hb2⟩) | (go_at_call 28; refine (signed_pos _ _ (by omega) (by omega)).mono ?_; rintro e w' ⟨rfl, rfl⟩))
  go_ret2
  exact ⟨rfl, hb.trans (hb2.mono hb.size)⟩
set_option maxHeartbeats 400000 in
theorem parse_pd (s : ByteArray) (w : World) (hd : Digs w) (hm : s.size ≤ maxLen) (h0 : 0 < s.size) (hz : ((s[0].toNat : Int) == 45) = false) (HW : Hid (wr s.data.toList = true)) (HL : Hid (s.size ≤ maxLen)) (HC : Hid (s.data.toList.all isDig = true ∧ ¬ valU s.data.toList ≤ 9223372036854775808)) :
    Calls Tryd.prog 22 #[.string s] w fun e w' => e = .returned (.tuple #[.int .i64 0, .int .i64 4]) ∧ Below w.heap.size w w' := by
  unfold maxLen at hm
  have hE : s.toList.isEmpty = false := toList_ne s (by omega)
  have hE2 : (!s.toList.isEmpty) = true := by rw [hE]; rfl
  have HD := Lib.hid hd
  clear hd
  go_enter Tryd.func22, Tryd.ntmps22
  go_wp2_with (first | (go_at_call 29; refine (written_is _ true _ HD.out HL.out HW.out).mono ?_; rintro e w' ⟨rfl, hb⟩) | (go_at_call 30; refine (count_big _ _ (HD.out.below hb) HL.out HC.out).mono ?_; rintro e w' ⟨rfl, hb2⟩))
  go_ret2
  exact ⟨rfl, hb.trans (hb2.mono hb.size)⟩
theorem parse_any (s : ByteArray) (w : World) (hd : Digs w) (hm : s.size ≤ maxLen) :
    Calls Tryd.prog 22 #[.string s] w fun e w' => e = .returned (.tuple #[.int .i64 (parseV s.data.toList), .int .i64 (parseE s.data.toList)]) ∧ Below w.heap.size w w' := by
  have go : ∀ {v k : Int}, Calls Tryd.prog 22 #[.string s] w (fun e w' => e = .returned (.tuple #[.int .i64 v, .int .i64 k]) ∧ Below w.heap.size w w') → v = parseV s.data.toList → k = parseE s.data.toList →
      Calls Tryd.prog 22 #[.string s] w fun e w' => e = .returned (.tuple #[.int .i64 (parseV s.data.toList), .int .i64 (parseE s.data.toList)]) ∧ Below w.heap.size w w' := by
    intro v k h h1 h2
    rw [← h1, ← h2]; exact h
  by_cases h : s.size = 0
  · obtain rfl : s = ⟨#[]⟩ := by
      apply ByteArray.ext
      exact Array.eq_empty_of_size_eq_zero h
    exact go (parse_nil w) rfl rfl
  have h0 : 0 < s.size := by omega
  have hh : s.data.toList.head? = some s[0] := by
    have hl : s.data.toList.length = s.size := by simp
    rw [List.head?_eq_getElem?, List.getElem?_eq_getElem (by omega)]; rfl
  by_cases h45 : s[0].toNat = 45
  · have hz : ((s[0].toNat : Int) == 45) = true := by simp; omega
    have hbl : belowU s.data.toList = true := by
      unfold belowU; rw [hh, show s[0] = 45 from UInt8.toNat_inj.1 h45]; rfl
    have hr : restU s.data.toList = (s.extract 1 s.size).data.toList := by
      unfold restU; rw [hbl, if_pos rfl, extract_bytes]; simp [List.take_of_length_le]
    have hlen : (s.extract 1 s.size).size ≤ maxLen := by simp; omega
    have hv : parseI s.data.toList = -(valU (s.extract 1 s.size).data.toList : Int) := by unfold parseI; rw [hbl, if_pos rfl, hr]
    cases hw : wr (s.extract 1 s.size).data.toList with
    | false =>
      have hok : okP s.data.toList = false := by unfold okP; rw [hr, hw]; rfl
      exact go (parse_ma s w hd hm h0 hz hw hlen) (by unfold parseV; rw [hok]; rfl) (by unfold parseE; rw [hok]; rfl)
    | true =>
      cases ht : (s.extract 1 s.size).toList == [48] with
      | true =>
        have hok : okP s.data.toList = false := by unfold okP; rw [hr, hw, hbl, ← toList_data, ht]; rfl
        exact go (parse_mb s w hd hm h0 hz hw hlen ht) (by unfold parseV; rw [hok]; rfl) (by unfold parseE; rw [hok]; rfl)
      | false =>
        have hok : okP s.data.toList = true := by unfold okP; rw [hr, hw, hbl, ← toList_data, ht]; rfl
        have hall := wr_all hw
        by_cases hs : valU (s.extract 1 s.size).data.toList ≤ 9223372036854775808
        · exact go (parse_mc s w hd hm h0 hz hw hlen ht _ hs ⟨hall, rfl, hs⟩) (by unfold parseV; rw [hok, if_pos rfl, hv]) (by unfold parseE; rw [hok, if_pos rfl, hv])
        · exact go (parse_md s w hd hm h0 hz hw hlen ht ⟨hall, hs⟩) (by unfold parseV; rw [hok, if_pos rfl, hv, (fit_out (by omega)).1]) (by unfold parseE; rw [hok, if_pos rfl, hv, (fit_out (by omega)).2])
  · have hz : ((s[0].toNat : Int) == 45) = false := by simp; omega
    have hbl : belowU s.data.toList = false := by
      unfold belowU; rw [hh]
      have : s[0] ≠ 45 := fun h => h45 (by rw [h]; rfl)
      simpa using this
    have hr : restU s.data.toList = s.data.toList := by unfold restU; rw [hbl]; rfl
    have hv : parseI s.data.toList = (valU s.data.toList : Int) := by unfold parseI; rw [hbl, hr]; rfl
    cases hw : wr s.data.toList with
    | false =>
      have hok : okP s.data.toList = false := by unfold okP; rw [hr, hw]; rfl
      exact go (parse_pa s w hd hm h0 hz hw hm) (by unfold parseV; rw [hok]; rfl) (by unfold parseE; rw [hok]; rfl)
    | true =>
      have hok : okP s.data.toList = true := by unfold okP; rw [hr, hw, hbl]; rfl
      have hall := wr_all hw
      by_cases hs : valU s.data.toList ≤ 9223372036854775808
      · exact go (parse_pc s w hd hm h0 hz hw hm _ hs ⟨hall, rfl, hs⟩) (by unfold parseV; rw [hok, if_pos rfl, hv]) (by unfold parseE; rw [hok, if_pos rfl, hv])
      · exact go (parse_pd s w hd hm h0 hz hw hm ⟨hall, hs⟩) (by unfold parseV; rw [hok, if_pos rfl, hv, (fit_out (by omega)).1]) (by unfold parseE; rw [hok, if_pos rfl, hv, (fit_out (by omega)).2])
end Num
end Go.Proofs.YtbefjenenciflaaDoor
