/- Show: plain names, the program's and the document's. -/
import Derived.Test.YtoaliaohbpdibaaDoorShQuote
import Derived.Test.YtoaliaohbpdibaaDoorShSign
namespace Go.Proofs.YtoaliaohbpdibaaDoor
open Go.RowKit
set_option linter.unusedVariables false
set_option linter.unusedSimpArgs false
namespace Sh
def letB (r : Nat) : Bool := decide (r = 95 ∨ (97 ≤ r ∧ r ≤ 122) ∨ (65 ≤ r ∧ r ≤ 90))
def digB (r : Nat) : Bool := decide (48 ≤ r ∧ r ≤ 57)
/-- Is a text a plain name? -/
def nameL (l : List UInt8) : Bool := decide (1 ≤ l.length) && decide (l.length ≤ 64) && letB (l.getD 0 0).toNat && l.all fun c => letB c.toNat || digB c.toNat
theorem letter_any (r : Nat) (w : World) (hr : r ≤ 2147483647) : Calls Tryd.prog 28 #[.int .i32 (r : Int)] w fun e w' => e = .returned (.bool (letB r)) ∧ w = w' := by
  obtain ⟨q, hq⟩ : ∃ q, letB r = q := ⟨_, rfl⟩
  rw [hq]
  have HQ := Lib.hid hq
  clear hq
  go_enter Tryd.func28, Tryd.ntmps28
  go_wp2
  all_goals
    go_ret
    refine ⟨ret_bool ?_, rfl⟩
    rw [← HQ.out, Bool.eq_iff_iff]
    simp [letB]
    try omega
theorem digit_any (r : Nat) (w : World) (hr : r ≤ 2147483647) : Calls Tryd.prog 29 #[.int .i32 (r : Int)] w fun e w' => e = .returned (.bool (digB r)) ∧ w = w' := by
  obtain ⟨q, hq⟩ : ∃ q, digB r = q := ⟨_, rfl⟩
  rw [hq]
  have HQ := Lib.hid hq
  clear hq
  go_enter Tryd.func29, Tryd.ntmps29
  go_wp2
  all_goals
    go_ret
    refine ⟨ret_bool ?_, rfl⟩
    rw [← HQ.out, Bool.eq_iff_iff]
    simp [digB]
    try omega
theorem Letter_any (r : Nat) (w : World) (hr : r < 256) : Calls Tryd.prog 30 #[.int .u8 (r : Int)] w fun e w' => e = .returned (.bool (letB r)) ∧ w = w' := by
  obtain ⟨q, hq⟩ : ∃ q, letB r = q := ⟨_, rfl⟩
  rw [hq]
  have HQ := Lib.hid hq
  clear hq
  go_enter Tryd.func30, Tryd.ntmps30
  go_wp2
  all_goals
    go_ret
    refine ⟨ret_bool ?_, rfl⟩
    rw [← HQ.out, Bool.eq_iff_iff]
    simp [letB]
    try omega
theorem Digit_any (r : Nat) (w : World) (hr : r < 256) : Calls Tryd.prog 31 #[.int .u8 (r : Int)] w fun e w' => e = .returned (.bool (digB r)) ∧ w = w' := by
  obtain ⟨q, hq⟩ : ∃ q, digB r = q := ⟨_, rfl⟩
  rw [hq]
  have HQ := Lib.hid hq
  clear hq
  go_enter Tryd.func31, Tryd.ntmps31
  go_wp2
  all_goals
    go_ret
    refine ⟨ret_bool ?_, rfl⟩
    rw [← HQ.out, Bool.eq_iff_iff]
    simp [digB]
    try omega
theorem name_bad (l : List UInt8) (j : Nat) (h : j < l.length) (h1 : letB (l.getD j 0).toNat = false) (h2 : j = 0 ∨ digB (l.getD j 0).toNat = false) : nameL l = false := by
  unfold nameL
  rcases h2 with rfl | h2
  · rw [h1]; simp
  · have : (l.all fun c => letB c.toNat || digB c.toNat) = false := by
      rw [Bool.eq_false_iff]
      intro ha
      rw [List.all_eq_true] at ha
      have hm : l.getD j 0 ∈ l := by
        rw [List.getD_eq_getElem?_getD, List.getElem?_eq_getElem h]
        exact List.getElem_mem h
      have := ha _ hm
      rw [h1, h2] at this
      cases this
    rw [this]; simp
theorem name_good (l : List UInt8) (h1 : 1 ≤ l.length) (h2 : l.length ≤ 64) (h3 : letB (l.getD 0 0).toNat = true) (h4 : ∀ j, j < l.length → (letB (l.getD j 0).toNat || digB (l.getD j 0).toNat) = true) : nameL l = true := by
  unfold nameL
  have : (l.all fun c => letB c.toNat || digB c.toNat) = true := by
    rw [List.all_eq_true]
    intro c hc
    obtain ⟨j, hj, rfl⟩ := List.getElem_of_mem hc
    have := h4 j hj
    rwa [List.getD_eq_getElem?_getD, List.getElem?_eq_getElem hj] at this
  rw [this, h3]
  simp
  omega
/-- A sign that a range tells is a letter, a digit, just if its first byte is. -/
theorem rune_let (s : ByteArray) (pos : Nat) (hp : pos < s.size) : letB (Utf8.decode s pos).1 = letB (s.data.toList.getD pos 0).toNat ∧ digB (Utf8.decode s pos).1 = digB (s.data.toList.getD pos 0).toNat ∧ ((letB (s.data.toList.getD pos 0).toNat || digB (s.data.toList.getD pos 0).toNat) = true → (Utf8.decode s pos).2 = 1) := by
  obtain ⟨hl, hc0, hst, hrr, hsl⟩ := at_place s pos hp
  have e0 : (s.data.toList.drop pos).getD 0 0 = s.data.toList.getD pos 0 := by rw [Lib.getD_dropU, Nat.add_zero]
  rw [hrr]
  by_cases hb : (s.data.toList.getD pos 0).toNat < 128
  · obtain ⟨h1, h2⟩ := decodeL_one _ (by rw [e0]; exact hb) hl
    rw [h1, e0]
    refine ⟨rfl, rfl, fun _ => ?_⟩
    rw [hst]; unfold stL; rw [h2]; rfl
  · have hbig := decodeL_big (s.data.toList.drop pos) (by rw [e0]; omega) hl
    have f1 : ∀ r, 128 ≤ r → letB r = false ∧ digB r = false := fun r hr => by unfold letB digB; simp; omega
    obtain ⟨a1, a2⟩ := f1 _ hbig
    obtain ⟨b1, b2⟩ := f1 (s.data.toList.getD pos 0).toNat (by omega)
    rw [a1, a2, b1, b2]
    exact ⟨rfl, rfl, fun h => by cases h⟩
def NPost (w : World) (q : Bool) (e : Ending) (w' : World) : Prop := e = .returned (.bool q) ∧ Below w.heap.size w w'
set_option maxHeartbeats 2000000 in
set_option maxRecDepth 100000 in
theorem name_any (s : ByteArray) (w : World) (hs : s.size ≤ 35184372088000) : Calls Tryd.prog 12 #[.string s] w (NPost w (nameL s.data.toList)) := by
  have hlen : s.data.toList.length = s.size := by simp
  by_cases he : s.size = 0
  · have hs0 : s = ⟨#[]⟩ := by
      have : s.data.toList = [] := List.length_eq_zero_iff.1 (by omega)
      rw [bytes_eq this]
    subst hs0
    clear he hs hlen
    go_enter Tryd.func12, Tryd.ntmps12
    go_wp2
    go_ret
    exact ⟨rfl, Below.refl _ _⟩
  · have hemp : s.toList.isEmpty = false := by
      rw [← decide_eq_emptyBytes]
      exact decide_eq_false (fun h => by rw [h] at he; exact he rfl)
    have hempty2 : (s.toList == []) = false := by
      rw [← hemp]; cases s.toList <;> rfl
    by_cases h64 : 64 < s.size
    · have e : nameL s.data.toList = false := by unfold nameL; rw [hlen]; simp; omega
      rw [e]
      have h64i : 64 < (s.size : Int) := by omega
      clear e he hlen hs
      go_enter Tryd.func12, Tryd.ntmps12
      go_wp2
      go_ret
      exact ⟨rfl, Below.refl _ _⟩
    · have h64i : (s.size : Int) ≤ 64 := by omega
      obtain ⟨q, hq⟩ : ∃ q, nameL s.data.toList = q := ⟨_, rfl⟩
      rw [hq]
      have HQ := Lib.hid hq
      have HL := Lib.hid hlen
      clear hq hlen
      go_enter Tryd.func12, Tryd.ntmps12
      go_wp2
      go_loopw [] (fun wr => ∃ pos : Nat, wr = w.iter s pos ∧ pos ≤ s.size ∧ Hid (0 < pos → letB (s.data.toList.getD 0 0).toNat = true) ∧ Hid (∀ j, j < pos → (letB (s.data.toList.getD j 0).toNat || digB (s.data.toList.getD j 0).toNat) = true)) (fun wr => s.size - wr.iterPos w.heap.size)
      case atStart => exact ⟨0, rfl, by omega, Lib.hid (fun h => by omega), Lib.hid (fun j h => by omega)⟩
      case round =>
        obtain ⟨pos, rfl, hpt, HF, HG⟩ := hrel
        by_cases hp : pos < s.size
        · have hnx : ∀ ty, (Instr.next (.pointer (some ⟨w.heap.size, 0, none⟩)) true ty).run Tryd.prog (w.iter s pos) = _ := fun ty => run_next_any w s pos ty hp
          obtain ⟨e1, e2, e3⟩ := rune_let s pos hp
          have hr := decode_le s pos
          obtain ⟨r, hre⟩ : ∃ r, (Utf8.decode s pos).1 = r := ⟨_, rfl⟩
          obtain ⟨n, hne⟩ : ∃ n, (Utf8.decode s pos).2 = n := ⟨_, rfl⟩
          rw [hre] at e1 e2 hr
          rw [hne] at e3
          rw [hre, hne] at hnx
          have hlt := fun W => letter_any r W hr
          have hdt := fun W => digit_any r W hr
          have HE1 := Lib.hid e1
          have HE2 := Lib.hid e2
          have HE3 := Lib.hid e3
          clear e1 e2 e3 hre hne
          cases h1 : letB r
          · rw [h1] at hlt
            have H1 := Lib.hid h1
            clear h1
            by_cases h0 : pos = 0
            · subst h0
              go_wp2_with (go_at_call 28; refine (hlt _).mono ?_; rintro e w' ⟨rfl, rfl⟩)
              go_ret
              refine ⟨ret_bool ?_, (Below.refl _ _).alloc (Nat.le_refl _) _⟩
              rw [← HQ.out]
              exact (name_bad _ 0 (by rw [HL.out]; omega) (by rw [← HE1.out]; exact H1.out) (.inl rfl)).symm
            · have h0i : ((pos : Int) == 0) = false := by simp; omega
              cases h2 : digB r
              · rw [h2] at hdt
                have H2 := Lib.hid h2
                clear h2
                go_wp2_with (first | (go_at_call 28; refine (hlt _).mono ?_; rintro e w' ⟨rfl, rfl⟩) | (go_at_call 29; refine (hdt _).mono ?_; rintro e w' ⟨rfl, rfl⟩))
                go_ret
                refine ⟨ret_bool ?_, (Below.refl _ _).alloc (Nat.le_refl _) _⟩
                rw [← HQ.out]
                exact (name_bad _ pos (by rw [HL.out]; omega) (by rw [← HE1.out]; exact H1.out) (.inr (by rw [← HE2.out]; exact H2.out))).symm
              · rw [h2] at hdt
                have HOK : Hid ((letB (s.data.toList.getD pos 0).toNat || digB (s.data.toList.getD pos 0).toNat) = true) := Lib.hid (by rw [← HE2.out, h2]; simp)
                have hn1 : n = 1 := HE3.out HOK.out
                subst hn1
                clear h2
                go_wp2_with (first | (go_at_call 28; refine (hlt _).mono ?_; rintro e w' ⟨rfl, rfl⟩) | (go_at_call 29; refine (hdt _).mono ?_; rintro e w' ⟨rfl, rfl⟩))
                go_roundw
                case rel => exact ⟨pos + 1, rfl, by omega, Lib.hid (fun _ => HF.out (by omega)), Lib.hid (fun j hj => by
                  by_cases hjp : j = pos
                  · rw [hjp]; exact HOK.out
                  · exact HG.out j (by omega))⟩
                case measure => simp; omega
          · rw [h1] at hlt
            have HOK : Hid ((letB (s.data.toList.getD pos 0).toNat || digB (s.data.toList.getD pos 0).toNat) = true) := Lib.hid (by rw [← HE1.out, h1]; rfl)
            have HLT : Hid (letB (s.data.toList.getD pos 0).toNat = true) := Lib.hid (by rw [← HE1.out, h1])
            have hn1 : n = 1 := HE3.out HOK.out
            subst hn1
            clear h1
            go_wp2_with (go_at_call 28; refine (hlt _).mono ?_; rintro e w' ⟨rfl, rfl⟩)
            go_roundw
            case rel => exact ⟨pos + 1, rfl, by omega, Lib.hid (fun _ => by
              by_cases h0 : pos = 0
              · have := HLT.out; rwa [h0] at this
              · exact HF.out (by omega)), Lib.hid (fun j hj => by
              by_cases hjp : j = pos
              · rw [hjp]; exact HOK.out
              · exact HG.out j (by omega))⟩
            case measure => simp; omega
        · have hnx : ∀ ty, (Instr.next (.pointer (some ⟨w.heap.size, 0, none⟩)) true ty).run Tryd.prog (w.iter s pos) = _ := fun ty => run_next_end w s pos ty hp
          go_wp2
          go_ret
          refine ⟨ret_bool ?_, (Below.refl _ _).alloc (Nat.le_refl _) _⟩
          rw [← HQ.out]
          exact (name_good _ (by rw [HL.out]; omega) (by rw [HL.out]; omega) (HF.out (by omega)) (fun j hj => HG.out j (by rw [HL.out] at hj; omega))).symm
end Sh
end Go.Proofs.YtoaliaohbpdibaaDoor
