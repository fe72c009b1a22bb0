/- THE WALK over the law NumBack. -/
import Derived.Test.YtbefjenenciflaaDoorNumParse2
import Derived.Test.YtbefjenenciflaaDoorNumLaws
import Derived.WalkKit
import Derived.Lib.Hide
import Derived.WalkSpells
import Derived.WalkLawsBesides
namespace Go.Proofs.YtbefjenenciflaaDoor
open Go.RowKit
set_option linter.unusedVariables false
set_option linter.unusedSimpArgs false
namespace Num
theorem parse_is (s : ByteArray) (v k : Int) (w : World) (hd : Digs w) (hm : s.size ≤ maxLen) (h : parseV s.data.toList = v ∧ parseE s.data.toList = k) :
    Calls Tryd.prog 22 #[.string s] w fun e w' => e = .returned (.tuple #[.int .i64 v, .int .i64 k]) ∧ Below w.heap.size w w' := by
  rw [← h.1, ← h.2]; exact parse_any s w hd hm
theorem text_is (n : Int) (s : ByteArray) (w : World) (hd : Digs w) (h1 : -9223372036854775808 ≤ n) (h2 : n ≤ 9223372036854775807) (h : strOfNums (textN n) = s) :
    Calls Tryd.prog 24 #[.int .i64 n] w fun e w' => e = .returned (.string s) ∧ Below w.heap.size w w' := by
  rw [← h]; exact text_any n w h1 h2 hd
set_option maxHeartbeats 400000 in
theorem back_ok (n : Int) (s t : ByteArray) (y : Int) (w : World) (hn1 : -9223372036854775808 ≤ n) (hn2 : n ≤ 9223372036854775807) (hm : s.size ≤ maxLen) (hd : Digs w)
    (HT : Hid (strOfNums (textN n) = t ∧ t.size ≤ maxLen ∧ parseV t.data.toList = n ∧ parseE t.data.toList = 0)) (HS : Hid (parseV s.data.toList = y ∧ parseE s.data.toList = 0)) (HY : Hid (strOfNums (textN y) = s)) (hy1 : -9223372036854775808 ≤ y) (hy2 : y ≤ 9223372036854775807) :
    Calls Tryd.prog 6 #[.int .i64 n, .string s] w fun e w' => e = .returned (.bool true) ∧ Below w.heap.size w w' := by
  have HD := Lib.hid hd
  have HM := Lib.hid hm
  clear hd hm
  go_enter Tryd.func6, Tryd.ntmps6
  go_wp2_with fail
  refine (text_is _ t _ HD.out (by omega) (by omega) HT.out.1).mono ?_
  rintro e w1 ⟨rfl, hb1⟩
  have HD1 := Lib.hid (HD.out.below hb1)
  go_wp2_with fail
  refine (parse_is _ n 0 _ HD1.out HT.out.2.1 HT.out.2.2).mono ?_
  rintro e w2 ⟨rfl, hb2⟩
  have HD2 := Lib.hid (HD1.out.below hb2)
  have hz1 := hb1.size
  have hz2 := hb2.size
  go_wp2_with fail
  refine (parse_is _ y 0 _ HD2.out HM.out HS.out).mono ?_
  rintro e w3 ⟨rfl, hb3⟩
  have HD3 := Lib.hid (HD2.out.below hb3)
  have hz3 := hb3.size
  go_wp2_with fail
  refine (text_is _ s _ HD3.out (by omega) (by omega) HY.out).mono ?_
  rintro e w4 ⟨rfl, hb4⟩
  have HD4 := Lib.hid (HD3.out.below hb4)
  have hz4 := hb4.size
  go_wp2_with fail
  refine (works_any _ HD4.out).mono ?_
  rintro e w5 ⟨rfl, hb5⟩
  go_wp2_with fail
  go_ret
  exact ⟨rfl, hb1.trans ((hb2.mono hz1).trans ((hb3.mono (by omega)).trans ((hb4.mono (by omega)).trans (hb5.mono (by omega)))))⟩
set_option maxHeartbeats 400000 in
theorem back_no (n : Int) (s t : ByteArray) (k : Int) (w : World) (hn1 : -9223372036854775808 ≤ n) (hn2 : n ≤ 9223372036854775807) (hm : s.size ≤ maxLen) (hd : Digs w)
    (HT : Hid (strOfNums (textN n) = t ∧ t.size ≤ maxLen ∧ parseV t.data.toList = n ∧ parseE t.data.toList = 0)) (HS : Hid (parseV s.data.toList = 0 ∧ parseE s.data.toList = k)) (hk0 : (k == 0) = false) (hk1 : (k != 0) = true) :
    Calls Tryd.prog 6 #[.int .i64 n, .string s] w fun e w' => e = .returned (.bool true) ∧ Below w.heap.size w w' := by
  have HD := Lib.hid hd
  have HM := Lib.hid hm
  clear hd hm
  go_enter Tryd.func6, Tryd.ntmps6
  go_wp2_with fail
  refine (text_is _ t _ HD.out (by omega) (by omega) HT.out.1).mono ?_
  rintro e w1 ⟨rfl, hb1⟩
  have HD1 := Lib.hid (HD.out.below hb1)
  go_wp2_with fail
  refine (parse_is _ n 0 _ HD1.out HT.out.2.1 HT.out.2.2).mono ?_
  rintro e w2 ⟨rfl, hb2⟩
  have HD2 := Lib.hid (HD1.out.below hb2)
  have hz1 := hb1.size
  have hz2 := hb2.size
  go_wp2_with fail
  refine (parse_is _ 0 k _ HD2.out HM.out HS.out).mono ?_
  rintro e w3 ⟨rfl, hb3⟩
  have HD3 := Lib.hid (HD2.out.below hb3)
  have hz3 := hb3.size
  go_wp2_with fail
  refine (works_any _ HD3.out).mono ?_
  rintro e w5 ⟨rfl, hb5⟩
  go_wp2_with fail
  go_ret
  exact ⟨rfl, hb1.trans ((hb2.mono hz1).trans ((hb3.mono (by omega)).trans (hb5.mono (by omega))))⟩
theorem numBack_any (n : Int) (s : ByteArray) (w : World) (hn1 : -9223372036854775808 ≤ n) (hn2 : n ≤ 9223372036854775807) (hm : s.size ≤ maxLen) (hd : Digs w) :
    Calls Tryd.prog 6 #[.int .i64 n, .string s] w fun e w' => e = .returned (.bool true) ∧ Below w.heap.size w w' := by
  have ht := parseVE_textU ⟨hn1, hn2⟩
  rw [← text_bytes] at ht
  have HT : Hid (strOfNums (textN n) = strOfNums (textN n) ∧ (strOfNums (textN n)).size ≤ maxLen ∧ parseV (strOfNums (textN n)).data.toList = n ∧ parseE (strOfNums (textN n)).data.toList = 0) :=
    Lib.hid ⟨rfl, text_size n hn1 hn2, ht.1, ht.2⟩
  by_cases h : parseE s.data.toList = 0
  · obtain ⟨h1, h2⟩ := text_parse h
    have hs : strOfNums (textN (parseV s.data.toList)) = s := by
      apply WideShapes.bytes_inj
      rw [text_bytes, h1]
    exact back_ok n s _ _ w hn1 hn2 hm hd HT ⟨rfl, h⟩ hs h2.1 h2.2
  · exact back_no n s _ _ w hn1 hn2 hm hd HT ⟨parse_fails h, rfl⟩ (by simpa using h) (by simpa using h)
end Num
end Go.Proofs.YtbefjenenciflaaDoor
