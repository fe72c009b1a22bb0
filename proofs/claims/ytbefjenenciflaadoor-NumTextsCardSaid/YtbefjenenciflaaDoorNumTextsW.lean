/- THE WALK over the law NumTexts. -/
import Derived.Test.YtbefjenenciflaaDoorNumRefParse2
import Derived.Test.YtbefjenenciflaaDoorNumRefText
import Derived.Test.YtbefjenenciflaaDoorNumLaws
import Derived.Test.YtbefjenenciflaaDoorNumBackW
import Derived.WalkKit
import Derived.Lib.Hide
import Derived.WalkSpells
import Derived.WalkLawsBesides
namespace Go.Proofs.YtbefjenenciflaaDoor
open Go.RowKit
set_option linter.unusedVariables false
set_option linter.unusedSimpArgs false
namespace Num
set_option maxHeartbeats 400000 in
theorem rparse_nil (w : World) :
    Calls Tryd.prog 23 #[.string ⟨#[]⟩] w fun e w' => e = .returned (.tuple #[.int .i64 0, .int .i64 1]) ∧ w = w' := by
  have HW := Lib.hid (show digsU (ByteArray.mk #[]).data.toList = false from rfl)
  have HL := Lib.hid (show (ByteArray.mk #[]).size ≤ maxLen by decide)
  go_enter Tryd.func23, Tryd.ntmps23
  go_wp2_with (go_at_call 31; refine (digits_is _ false _ HL.out HW.out).mono ?_; rintro e w' ⟨rfl, rfl⟩)
  go_ret2
  exact ⟨rfl, rfl⟩
theorem head_at {s : ByteArray} (h0 : 0 < s.size) : s.data.toList.head? = some s[0] := by
  have hl : s.data.toList.length = s.size := by simp
  rw [List.head?_eq_getElem?, List.getElem?_eq_getElem (by omega)]; rfl
theorem wr_digs {l : List UInt8} (h : digsU l = false) : wr l = false := by
  cases hw : wr l with
  | false => rfl
  | true =>
    obtain ⟨h1, c, t, h2, _⟩ := wr_facts hw
    unfold digsU at h
    rw [h1, h2] at h
    simp at h
theorem digs_head {s : ByteArray} (h : digsU s.data.toList = true) : 0 < s.size ∧ s.data.toList.all isDig = true := by
  unfold digsU at h
  simp only [Bool.and_eq_true] at h
  refine ⟨?_, h.1⟩
  rcases Nat.eq_zero_or_pos s.size with h0 | h0
  · have := h.2
    rw [show s = ⟨#[]⟩ from ByteArray.ext (Array.eq_empty_of_size_eq_zero h0)] at this
    simp at this
  · exact h0
theorem wr_head {l : List UInt8} {c : UInt8} (h : digsU l = true) (hh : l.head? = some c) (hc : c ≠ 48) : wr l = true := by
  unfold digsU at h
  simp only [Bool.and_eq_true] at h
  unfold wr
  rw [hh, h.1, h.2]
  simp [hc]
theorem wr_nought {l : List UInt8} {c : UInt8} (hh : l.head? = some c) (hc : c = 48) (hs : l ≠ [48]) : wr l = false := by
  cases l with
  | nil => simp at hh
  | cons a t =>
    simp at hh
    subst hh hc
    cases t with
    | nil => exact absurd rfl hs
    | cons b t => simp [wr]
theorem rparse_any (s : ByteArray) (w : World) (hm : s.size ≤ maxLen) :
    Calls Tryd.prog 23 #[.string s] w fun e w' => e = .returned (.tuple #[.int .i64 (parseV s.data.toList), .int .i64 (parseE s.data.toList)]) ∧ w = w' := by
  have go : ∀ {v k : Int}, Calls Tryd.prog 23 #[.string s] w (fun e w' => e = .returned (.tuple #[.int .i64 v, .int .i64 k]) ∧ w = w') → v = parseV s.data.toList → k = parseE s.data.toList →
      Calls Tryd.prog 23 #[.string s] w fun e w' => e = .returned (.tuple #[.int .i64 (parseV s.data.toList), .int .i64 (parseE s.data.toList)]) ∧ w = w' := by
    intro v k h h1 h2
    rw [← h1, ← h2]; exact h
  by_cases h : s.size = 0
  · obtain rfl : s = ⟨#[]⟩ := ByteArray.ext (Array.eq_empty_of_size_eq_zero h)
    exact go (rparse_nil w) rfl rfl
  have h0 : 0 < s.size := by omega
  have hh := head_at h0
  by_cases h45 : s[0].toNat = 45
  · have hz : ((s[0].toNat : Int) == 45) = true := by simp; omega
    have h45' : s[0] = 45 := UInt8.toNat_inj.1 h45
    have hbl : belowU s.data.toList = true := by unfold belowU; rw [hh, h45']; rfl
    have hr : restU s.data.toList = (s.extract 1 s.size).data.toList := by
      unfold restU; rw [hbl, if_pos rfl, extract_bytes]; simp [List.take_of_length_le]
    have hlen : (s.extract 1 s.size).size ≤ maxLen := by simp; omega
    have hv : parseI s.data.toList = -(valU (s.extract 1 s.size).data.toList : Int) := by unfold parseI; rw [hbl, if_pos rfl, hr]
    have hne : s.toList ≠ [48] := fun h => by
      rw [toList_data] at h; rw [h] at hh; simp at hh; rw [← hh] at h45'; exact absurd h45' (by decide)
    cases hw : digsU (s.extract 1 s.size).data.toList with
    | false =>
      have hok : okP s.data.toList = false := by unfold okP; rw [hr, wr_digs hw]; rfl
      exact go (rparse_ma s w hm h0 hz hlen hw) (by unfold parseV; rw [hok]; rfl) (by unfold parseE; rw [hok]; rfl)
    | true =>
      obtain ⟨hp, hall⟩ := digs_head hw
      have h1 : 1 < s.size := by simp at hp; omega
      by_cases hc : (s.extract 1 s.size)[0] = 48
      · have hok : okP s.data.toList = false := by
          unfold okP
          rw [hr, hbl]
          by_cases ht : (s.extract 1 s.size).data.toList = [48]
          · rw [ht]; rfl
          · rw [wr_nought (head_at hp) hc ht]; rfl
        exact go (rparse_mb s w hm h0 hz hlen h1 hw (by rw [hc]; rfl) (by simpa using hne) (by simpa using hne) (by simpa using hne)) (by unfold parseV; rw [hok]; rfl) (by unfold parseE; rw [hok]; rfl)
      · have hc' : (((s.extract 1 s.size)[0].toNat : Int) == 48) = false := by
          have : (s.extract 1 s.size)[0].toNat ≠ 48 := fun h => hc (UInt8.toNat_inj.1 h)
          simp only [beq_eq_false_iff_ne]; omega
        have hok : okP s.data.toList = true := by
          unfold okP
          rw [hr, hbl, wr_head hw (head_at hp) hc]
          have : (s.extract 1 s.size).data.toList ≠ [48] := fun h => by
            have h2 := head_at hp; rw [h] at h2; simp at h2; exact hc h2.symm
          rw [beq_eq_false_iff_ne.2 this]; rfl
        exact go (rparse_mc s w hm h0 hz hlen h1 hw hall hc' _ rfl) (by unfold parseV; rw [hok, if_pos rfl, hv]) (by unfold parseE; rw [hok, if_pos rfl, hv])
  · have hz : ((s[0].toNat : Int) == 45) = false := by simp only [beq_eq_false_iff_ne]; omega
    have hbl : belowU s.data.toList = false := by
      unfold belowU; rw [hh]
      have : s[0] ≠ 45 := fun h => h45 (by rw [h]; rfl)
      simpa using this
    have hr : restU s.data.toList = s.data.toList := by unfold restU; rw [hbl]; rfl
    have hv : parseI s.data.toList = (valU s.data.toList : Int) := by unfold parseI; rw [hbl, hr]; rfl
    cases hw : digsU s.data.toList with
    | false =>
      have hok : okP s.data.toList = false := by unfold okP; rw [hr, wr_digs hw]; rfl
      exact go (rparse_pa s w hm h0 hz hm hw) (by unfold parseV; rw [hok]; rfl) (by unfold parseE; rw [hok]; rfl)
    | true =>
      obtain ⟨hp, hall⟩ := digs_head hw
      by_cases hc : s[0] = 48
      · have hc' : ((s[0].toNat : Int) == 48) = true := by rw [hc]; rfl
        by_cases ht : s.toList = [48]
        · have hw2 : wr s.data.toList = true := by rw [← toList_data, ht]; rfl
          have hok : okP s.data.toList = true := by unfold okP; rw [hr, hw2, hbl]; rfl
          exact go (rparse_pz s w hm h0 hz hm hw hall hc' (by simpa using ht) (by simpa using ht) (by simpa using ht) _ rfl) (by unfold parseV; rw [hok, if_pos rfl, hv]) (by unfold parseE; rw [hok, if_pos rfl, hv])
        · have hok : okP s.data.toList = false := by unfold okP; rw [hr, wr_nought hh hc (by rwa [← toList_data])]; rfl
          exact go (rparse_pb s w hm h0 hz hm hw hc' (by simpa using ht) (by simpa using ht) (by simpa using ht)) (by unfold parseV; rw [hok]; rfl) (by unfold parseE; rw [hok]; rfl)
      · have hc' : ((s[0].toNat : Int) == 48) = false := by
          have : s[0].toNat ≠ 48 := fun h => hc (UInt8.toNat_inj.1 h)
          simp only [beq_eq_false_iff_ne]; omega
        have hok : okP s.data.toList = true := by unfold okP; rw [hr, wr_head hw hh hc, hbl]; rfl
        exact go (rparse_pc s w hm h0 hz hm hw hall hc' _ rfl) (by unfold parseV; rw [hok, if_pos rfl, hv]) (by unfold parseE; rw [hok, if_pos rfl, hv])
set_option maxHeartbeats 400000 in
theorem texts_walk (n : Int) (s t : ByteArray) (v k : Int) (w : World) (hn1 : -9223372036854775808 ≤ n) (hn2 : n ≤ 9223372036854775807) (hm : s.size ≤ maxLen) (hd : Digs w)
    (HT : Hid (strOfNums (textN n) = t)) (HS : Hid (parseV s.data.toList = v ∧ parseE s.data.toList = k)) :
    Calls Tryd.prog 5 #[.int .i64 n, .string s] w fun e w' => e = .returned (.bool true) ∧ Below w.heap.size w w' := by
  have HD := Lib.hid hd
  have HM := Lib.hid hm
  clear hd hm
  go_enter Tryd.func5, Tryd.ntmps5
  go_wp2_with fail
  refine (parse_is _ v k _ HD.out HM.out HS.out).mono ?_
  rintro e w1 ⟨rfl, hb1⟩
  have HD1 := Lib.hid (HD.out.below hb1)
  have hz1 := hb1.size
  go_wp2_with fail
  refine ((rparse_any _ _ HM.out).mono (fun e w' h => (⟨by rw [h.1, HS.out.1, HS.out.2], h.2⟩ : e = .returned (.tuple #[.int .i64 v, .int .i64 k]) ∧ w1 = w'))).mono ?_
  rintro e w' ⟨rfl, rfl⟩
  go_wp2_with fail
  refine (text_is _ t _ HD1.out (by omega) (by omega) HT.out).mono ?_
  rintro e w2 ⟨rfl, hb2⟩
  have HD2 := Lib.hid (HD1.out.below hb2)
  have hz2 := hb2.size
  go_wp2_with fail
  refine ((rtext_any n _ (by omega) (by omega)).mono (fun e w' h => (⟨by rw [h.1, HT.out], h.2⟩ : e = .returned (.string t) ∧ Below w2.heap.size w2 w'))).mono ?_
  rintro e w3 ⟨rfl, hb3⟩
  have HD3 := Lib.hid (HD2.out.below hb3)
  have hz3 := hb3.size
  go_wp2_with fail
  refine (works_any _ HD3.out).mono ?_
  rintro e w4 ⟨rfl, hb4⟩
  go_wp2_with fail
  go_ret
  exact ⟨rfl, hb1.trans ((hb2.mono hz1).trans ((hb3.mono (by omega)).trans (hb4.mono (by omega))))⟩
theorem numTexts_any (n : Int) (s : ByteArray) (w : World) (hn1 : -9223372036854775808 ≤ n) (hn2 : n ≤ 9223372036854775807) (hm : s.size ≤ maxLen) (hd : Digs w) :
    Calls Tryd.prog 5 #[.int .i64 n, .string s] w fun e w' => e = .returned (.bool true) ∧ Below w.heap.size w w' :=
  texts_walk n s _ _ _ w hn1 hn2 hm hd rfl ⟨rfl, rfl⟩
end Num
end Go.Proofs.YtbefjenenciflaaDoor
