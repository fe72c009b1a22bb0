/- Show: the document's signs of Unicode. -/
import Derived.Test.YtoaliaohbpdibaaDoorShBase
import Derived.Lib.IndexBytes
namespace Go.Proofs.YtoaliaohbpdibaaDoor
open Go.RowKit
set_option linter.unusedVariables false
set_option linter.unusedSimpArgs false
namespace Sh
/-- Is there a byte at a place that goes on with a sign? -/
def tB (s : ByteArray) (k : Nat) : Bool := decide (k < s.size) && decide (128 ≤ (s.data.toList.getD k 0).toNat) && decide ((s.data.toList.getD k 0).toNat < 192)
theorem getD_at (s : ByteArray) (k : Nat) (h : k < s.size) : s.data.toList.getD k 0 = s[k] := by
  rw [List.getD_eq_getElem?_getD, List.getElem?_eq_getElem (by simpa using h)]
  rfl
theorem ret_bool {a b : Bool} (h : a = b) : Ending.returned (.bool a) = .returned (.bool b) := by rw [h]
theorem ret_int {k : IntKind} {a b : Int} (h : a = b) : Ending.returned (.int k a) = .returned (.int k b) := by rw [h]
theorem tail_any (s : ByteArray) (k : Nat) (w : World) (hs : s.size ≤ 35184372088000) (hk : k ≤ 35184372088100) :
    Calls Tryd.prog 36 #[.string s, .int .i64 (k : Int)] w fun e w' => e = .returned (.bool (tB s k)) ∧ w = w' := by
  by_cases h : k < s.size
  · have e : tB s k = (decide (128 ≤ s[k].toNat) && decide (s[k].toNat < 192)) := by unfold tB; rw [getD_at s k h]; simp [h]
    rw [e]
    clear e
    have hkk : (k : Int) < s.size := by omega
    have hk2 : decide ((k : Int) < s.size) = true := by simpa using h
    clear hs hk
    go_enter Tryd.func36, Tryd.ntmps36
    go_wp2
    all_goals
      go_ret
      refine ⟨ret_bool ?_, rfl⟩
      rw [Bool.eq_iff_iff]
      simp
      try omega
  · have e : tB s k = false := by unfold tB; simp [h]
    rw [e]
    clear e
    have hk2 : decide ((k : Int) < s.size) = false := by simpa using h
    have hk3 : decide (k < s.size) = false := by simpa using h
    clear hs hk
    go_enter Tryd.func36, Tryd.ntmps36
    go_wp2
    go_ret
    exact ⟨rfl, rfl⟩
/-- The sign at a place, by what is asked. -/
theorem sg_of (s : ByteArray) (k : Nat) (h : k < s.size) (c d : Nat) (t1 t2 t3 : Bool) (hc : (s.data.toList.getD k 0).toNat = c) (hd : (s.data.toList.getD (k + 1) 0).toNat = d) (h1 : tB s (k + 1) = t1) (h2 : tB s (k + 2) = t2) (h3 : tB s (k + 3) = t3) :
    sgL (s.data.toList.drop k) = if c < 128 then 1 else if c < 194 ∨ 244 < c ∨ t1 = false then 0 else if c < 224 then 2 else if t2 = false ∨ (c = 224 ∧ d < 160) ∨ (c = 237 ∧ 160 ≤ d) then 0 else if c < 240 then 3 else if t3 = false ∨ (c = 240 ∧ d < 144) ∨ (c = 244 ∧ 144 ≤ d) then 0 else 4 := by
  unfold sgL sgN
  rw [Lib.getD_dropU, Lib.getD_dropU, Lib.getD_dropU, Lib.getD_dropU, Nat.add_zero, List.length_drop, hc, hd]
  have hl : s.data.toList.length = s.size := by simp
  rw [hl, if_neg (by omega)]
  have e1 : (¬ (1 < s.size - k ∧ 128 ≤ d ∧ d < 192)) ↔ t1 = false := by
    rw [← h1, ← hd]; unfold tB
    simp only [Bool.and_eq_false_iff, decide_eq_false_iff_not]; omega
  have e2 : (¬ (2 < s.size - k ∧ 128 ≤ (s.data.toList.getD (k + 2) 0).toNat ∧ (s.data.toList.getD (k + 2) 0).toNat < 192)) ↔ t2 = false := by
    rw [← h2]; unfold tB
    simp only [Bool.and_eq_false_iff, decide_eq_false_iff_not]; omega
  have e3 : (¬ (3 < s.size - k ∧ 128 ≤ (s.data.toList.getD (k + 3) 0).toNat ∧ (s.data.toList.getD (k + 3) 0).toNat < 192)) ↔ t3 = false := by
    rw [← h3]; unfold tB
    simp only [Bool.and_eq_false_iff, decide_eq_false_iff_not]; omega
  simp only [e1, e2, e3]
set_option maxHeartbeats 2000000 in
set_option maxRecDepth 100000 in
theorem sign_any (s : ByteArray) (k : Nat) (w : World) (hs : s.size ≤ 35184372088000) (hk : k ≤ 35184372088000) :
    Calls Tryd.prog 20 #[.string s, .int .i64 (k : Int)] w fun e w' => e = .returned (.int .i64 (sgL (s.data.toList.drop k))) ∧ w = w' := by
  by_cases h : k < s.size
  · have hc := (u8_lt s[k])
    have hd := u8_lt (s.data.toList.getD (k + 1) 0)
    have hS := (sg_of s k h s[k].toNat (s.data.toList.getD (k + 1) 0).toNat (tB s (k + 1)) (tB s (k + 2)) (tB s (k + 3)) (by rw [getD_at s k h]) rfl rfl rfl rfl)
    have T1 : ∀ W, Calls Tryd.prog 36 #[.string s, .int .i64 ((k : Int) + 1)] W fun e w' => e = .returned (.bool (tB s (k + 1))) ∧ W = w' := fun W => tail_any s (k + 1) W hs (by omega)
    have T2 : ∀ W, Calls Tryd.prog 36 #[.string s, .int .i64 ((k : Int) + 2)] W fun e w' => e = .returned (.bool (tB s (k + 2))) ∧ W = w' := fun W => tail_any s (k + 2) W hs (by omega)
    have T3 : ∀ W, Calls Tryd.prog 36 #[.string s, .int .i64 ((k : Int) + 3)] W fun e w' => e = .returned (.bool (tB s (k + 3))) ∧ W = w' := fun W => tail_any s (k + 3) W hs (by omega)
    have hd1 : tB s (k + 1) = true → k + 1 < s.size := fun h => by unfold tB at h; simp at h; omega
    have hdd : ∀ h1 : k + 1 < s.size, s.data.toList.getD (k + 1) 0 = s[k + 1] := fun h1 => getD_at s (k + 1) h1
    obtain ⟨q, hq⟩ : ∃ q, sgL (s.data.toList.drop k) = q := ⟨_, rfl⟩
    rw [hq] at hS ⊢
    clear hq
    have hkk : (k : Int) < s.size := by omega
    generalize tB s (k + 1) = t1 at *
    generalize tB s (k + 2) = t2 at *
    generalize tB s (k + 3) = t3 at *
    cases t1
    · simp only [eq_self, or_true, if_true] at hS
      have HS := Lib.hid hS
      clear hd1 hdd T2 T3 hS
      go_enter Tryd.func20, Tryd.ntmps20
      go_wp2_with (go_at_call 36; refine (T1 _).mono ?_; rintro e w' ⟨rfl, rfl⟩)
      all_goals
        go_ret
        have hq := HS.out
        refine ⟨ret_int ?_, rfl⟩
        repeat' split at hq
        all_goals omega
    · have h1 := hd1 rfl
      have h1i : (k : Int) + 1 < s.size := by omega
      rw [hdd h1] at hS hd
      clear hd1 hdd
      cases t2 <;> cases t3 <;> simp only [eq_self, or_true, true_or, false_or, or_false, if_true, reduceCtorEq] at hS
      all_goals
        have HS := Lib.hid hS
        clear hS
        go_enter Tryd.func20, Tryd.ntmps20
        go_wp2_with (first | (go_at_call 36; ((with_reducible refine (T1 _).mono ?_); rintro e w' ⟨rfl, rfl⟩)) | (go_at_call 36; ((with_reducible refine (T2 _).mono ?_); rintro e w' ⟨rfl, rfl⟩)) | (go_at_call 36; ((with_reducible refine (T3 _).mono ?_); rintro e w' ⟨rfl, rfl⟩)))
        all_goals
          go_ret
          have hq := HS.out
          refine ⟨ret_int ?_, rfl⟩
          repeat' split at hq
          all_goals omega
  · have hkk : ¬ (k : Int) < s.size := by omega
    have e : sgL (s.data.toList.drop k) = 0 := by
      have hl2 : s.data.toList.length ≤ k := by
        have : s.data.toList.length = s.size := by simp
        omega
      have : s.data.toList.drop k = [] := List.drop_eq_nil_of_le hl2
      rw [this]; rfl
    rw [e]
    clear e
    have hk2 : decide (k < s.size) = false := by simpa using h
    go_enter Tryd.func20, Tryd.ntmps20
    go_wp2
    go_ret
    exact ⟨rfl, rfl⟩
end Sh
end Go.Proofs.YtoaliaohbpdibaaDoor
