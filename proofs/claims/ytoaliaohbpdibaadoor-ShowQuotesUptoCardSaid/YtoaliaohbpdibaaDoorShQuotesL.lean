/- Show: the law ShowQuotes. -/
import Derived.Test.YtoaliaohbpdibaaDoorShRefUnq
import Derived.Test.YtoaliaohbpdibaaDoorShLaws
namespace Go.Proofs.YtoaliaohbpdibaaDoor
open Go.RowKit
set_option linter.unusedVariables false
set_option linter.unusedSimpArgs false
namespace Sh
theorem quoted_any (s : ByteArray) (w : World) (hs : s.size ≤ 35184372088000) : Calls Tryd.prog 25 #[.string s, .int .i64 0] w (QPost w (refQ s.data.toList)) := by
  unfold refQ
  by_cases h : s.data.toList.getD 0 0 ≠ 39
  · rw [if_pos h]; exact quoted_not s w hs h
  · rw [if_neg h]
    have h' : s.data.toList.getD 0 0 = 39 := by simpa using h
    have hlt : 0 < s.size := by
      rcases Nat.eq_zero_or_pos s.size with h0 | h0
      · exfalso
        have : s.data.toList = [] := List.length_eq_zero_iff.1 (by simpa using h0)
        rw [this] at h'
        revert h'; decide
      · exact h0
    have hl : s.data.toList.length = s.size := by simp
    rw [hl]
    exact quoted_yes s w hs hlt (by rw [← getD_at s 0 hlt]; exact h')
set_option maxRecDepth 100000 in
theorem refUnquote_any (s : ByteArray) (w : World) (hs : s.size ≤ 35184372088000) : Calls Tryd.prog 9 #[.string s] w fun e w' => e = .returned (unqT (unqL s.data.toList)) ∧ Below w.heap.size w w' := by
  have hq := quoted_any s w hs
  have hu := refQ_unqL s.data.toList
  have hl : s.data.toList.length = s.size := by simp
  rw [hl] at hu
  obtain ⟨r, hr⟩ : ∃ r, unqL s.data.toList = r := ⟨_, rfl⟩
  rw [hr] at hu ⊢
  clear hl hr
  cases hc : refQ s.data.toList with
  | none =>
    rw [hc] at hq hu
    have HR : Hid (none = r) := Lib.hid hu
    have HQ := Lib.hid hq
    clear hq hu hc hs
    go_enter Tryd.func9, Tryd.ntmps9
    go_wp2_with fail
    refine HQ.out.mono ?_
    rintro e w1 ⟨rfl, hb⟩
    simp only [qdT]
    go_wp2
    go_ret2
    exact ⟨by rw [← HR.out]; rfl, hb⟩
  | some x =>
    obtain ⟨t, e⟩ := x
    rw [hc] at hq hu
    have HQ := Lib.hid hq
    simp only [atEnd] at hu
    by_cases he : e = s.size
    · rw [if_pos he] at hu
      subst he
      have HR := Lib.hid hu
      clear hq hu hc hs
      go_enter Tryd.func9, Tryd.ntmps9
      go_wp2_with fail
      refine HQ.out.mono ?_
      rintro e w1 ⟨rfl, hb⟩
      simp only [qdT]
      go_wp2
      go_ret2
      exact ⟨by rw [← HR.out]; rfl, hb⟩
    · rw [if_neg he] at hu
      have HR : Hid (none = r) := Lib.hid hu
      have h1 : ((e : Int) == (s.size : Int)) = false := by simp; omega
      have h2 : ((e : Int) != (s.size : Int)) = true := by simp only [bne, h1]; rfl
      clear hq hu hc hs he
      go_enter Tryd.func9, Tryd.ntmps9
      go_wp2_with fail
      refine HQ.out.mono ?_
      rintro e w1 ⟨rfl, hb⟩
      simp only [qdT]
      go_wp2
      go_ret2
      exact ⟨by rw [← HR.out]; rfl, hb⟩
theorem refKey_any (s : ByteArray) (w : World) (hs : s.size ≤ 35184372088000) : Calls Tryd.prog 15 #[.string s] w fun e w' => e = .returned (.string ⟨(keyL s.data.toList).toArray⟩) ∧ Below w.heap.size w w' := by
  have N := fun V => Name_any s V hs
  have Q := fun V => refQuote_any s V hs
  have HS : (⟨(s.data.toList).toArray⟩ : ByteArray) = s := by cases s; simp
  unfold keyL
  cases h : nameL s.data.toList with
  | true =>
    rw [h] at N
    simp only [if_true]
    rw [HS]
    have HN := Lib.hid N
    clear N Q HS h hs
    go_enter Tryd.func15, Tryd.ntmps15
    go_wp2_with (go_at_call 13; refine (HN.out _).mono ?_; rintro e w1 ⟨rfl, rfl⟩)
    go_ret
    exact ⟨rfl, Below.refl _ _⟩
  | false =>
    rw [h] at N
    rw [if_neg (by simp)]
    have HN := Lib.hid N
    have HQ := Lib.hid Q
    obtain ⟨q, hq⟩ : ∃ q : ByteArray, (⟨(quoteL s.data.toList).toArray⟩ : ByteArray) = q := ⟨_, rfl⟩
    rw [hq] at HQ ⊢
    clear N Q HS h hs hq
    go_enter Tryd.func15, Tryd.ntmps15
    go_wp2_with fail
    refine (HN.out _).mono ?_
    rintro e w1 ⟨rfl, rfl⟩
    go_wp2_with fail
    refine (HQ.out _).mono ?_
    rintro e w2 ⟨rfl, hb⟩
    go_wp2
    go_ret
    exact ⟨rfl, hb⟩
set_option maxHeartbeats 2000000 in
set_option maxRecDepth 100000 in
theorem showQuotes_any (s : ByteArray) (w : World) (hs : s.size ≤ 1048576) (hE : Err w) : Calls Tryd.prog 3 #[.string s] w (Yes w) := by
  have HE := Lib.hid hE
  have U := Lib.hid (unquote_any s w (by omega) hE)
  have U2 := Lib.hid (fun V => refUnquote_any s V (by omega))
  have Q := Lib.hid (fun V => quote_any s V (by omega))
  have Q2 := Lib.hid (fun V => refQuote_any s V (by omega))
  have N := Lib.hid (fun V => name_any s V (by omega))
  have N2 := Lib.hid (fun V => Name_any s V (by omega))
  have K := Lib.hid (fun V => key_any s V (by omega))
  have K2 := Lib.hid (fun V => refKey_any s V (by omega))
  have W := Lib.hid (fun V hV => works_any V hV)
  clear hE hs
  obtain ⟨q, hq⟩ : ∃ q : ByteArray, (⟨(quoteL s.data.toList).toArray⟩ : ByteArray) = q := ⟨_, rfl⟩
  obtain ⟨k, hk⟩ : ∃ q : ByteArray, (⟨(keyL s.data.toList).toArray⟩ : ByteArray) = q := ⟨_, rfl⟩
  obtain ⟨n, hn⟩ : ∃ q, nameL s.data.toList = q := ⟨_, rfl⟩
  obtain ⟨x, e, hu⟩ : ∃ (x : ByteArray) (e : Int), unqT (unqL s.data.toList) = .tuple #[.string x, .int .i64 e] := by
    cases unqL s.data.toList with
    | none => exact ⟨_, _, rfl⟩
    | some u => exact ⟨_, _, rfl⟩
  rw [hq] at Q Q2
  rw [hk] at K K2
  rw [hn] at N N2
  have U' : Hid (Calls Tryd.prog 8 #[.string s] w fun e' w' => e' = .returned (.tuple #[.string x, .int .i64 e]) ∧ Below w.heap.size w w') := Lib.hid (U.out.mono fun e' w' h => ⟨by rw [h.1, hu], h.2.1⟩)
  rw [hu] at U2
  clear hq hk hn hu U
  go_enter Tryd.func3, Tryd.ntmps3
  go_wp2_with fail
  refine U'.out.mono ?_
  rintro e w1 ⟨rfl, hb⟩
  have HB1 := Lib.hid hb
  clear hb
  go_wp2_with fail
  refine (U2.out _).mono ?_
  rintro e w2 ⟨rfl, hb⟩
  have HB2 := Lib.hid (HB1.out.trans (hb.mono HB1.out.size))
  clear hb
  go_wp2_with fail
  refine (Q.out _).mono ?_
  rintro e w3 ⟨rfl, hb, _⟩
  have HB3 := Lib.hid (HB2.out.trans (hb.mono HB2.out.size))
  clear hb
  go_wp2_with fail
  refine (Q2.out _).mono ?_
  rintro e w4 ⟨rfl, hb⟩
  have HB4 := Lib.hid (HB3.out.trans (hb.mono HB3.out.size))
  clear hb
  go_wp2_with fail
  refine (N.out _).mono ?_
  rintro e w5 ⟨rfl, hb⟩
  have HB5 := Lib.hid (HB4.out.trans (hb.mono HB4.out.size))
  clear hb
  go_wp2_with fail
  refine (N2.out _).mono ?_
  rintro e w6 ⟨rfl, rfl⟩
  go_wp2_with fail
  refine (K.out _).mono ?_
  rintro e w6 ⟨rfl, hb⟩
  have HB6 := Lib.hid (HB5.out.trans (hb.mono HB5.out.size))
  clear hb
  go_wp2_with fail
  refine (K2.out _).mono ?_
  rintro e w7 ⟨rfl, hb⟩
  have HB7 := Lib.hid (HB6.out.trans (hb.mono HB6.out.size))
  have HE7 := Lib.hid (HE.out.below HB7.out HE.out.lt)
  clear hb
  go_wp2_with fail
  refine (W.out _ HE7.out).mono ?_
  rintro e w8 ⟨rfl, hb⟩
  have HB8 := Lib.hid (HB7.out.trans (hb.mono HB7.out.size))
  clear hb
  go_wp2_with fail
  go_ret
  exact ⟨rfl, HB8.out⟩
end Sh
end Go.Proofs.YtoaliaohbpdibaaDoor
