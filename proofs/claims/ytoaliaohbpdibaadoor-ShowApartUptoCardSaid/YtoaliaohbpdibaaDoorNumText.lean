/- THE WALK over num.Text: a number's digits. -/
import Derived.Test.YtoaliaohbpdibaaDoorRows
import Derived.Test.YtoaliaohbpdibaaDoorNumPlain
import Derived.Test.YtoaliaohbpdibaaDoorNumTextPlain
import Derived.Test.YtoaliaohbpdibaaDoorNumWalks
import Derived.WalkKit
import Derived.Lib.Hide
import Derived.Laws.BytesArg
import Derived.Lib.LaidTab
import Derived.WalkSpells
import Derived.WalkLawsBesides
namespace Go.Proofs.YtoaliaohbpdibaaDoor
open Go.RowKit
set_option linter.unusedVariables false
set_option linter.unusedSimpArgs false
namespace Num
/-- The table of the digits holds what its initialiser lays. -/
def Digs (w : World) : Prop := ∀ i : Nat, i < 10 → w.cell? ⟨0, i, none⟩ = some (.int .u8 (48 + (i : Int)))
theorem Digs.pos {w : World} (h : Digs w) : 0 < w.heap.size := by
  have h0 := h 0 (by omega)
  unfold World.cell? at h0
  by_cases k : 0 < w.heap.size
  · exact k
  · rw [Array.getElem?_eq_none (by simpa using k)] at h0
    simp at h0
theorem Digs.below {w w' : World} (h : Digs w) (hb : Below w.heap.size w w') : Digs w' := fun i hi => by
  rw [hb.cell (p := ⟨0, i, none⟩) h.pos]; exact h i hi
theorem slice_arr (B k : Nat) (W : World) (hk : k ≤ 19) :
    (Instr.sliceAt 69 (.pointer (some ⟨B, 0, none⟩)) (some (.int .i64 (k : Int))) none none).run Tryd.prog W = .ok (.slice (some ⟨B, k, none⟩) (20 - k) (20 - k)) W := by
  have hl : Tryd.prog.arrayLen 69 = 20 := by kernel_rfl
  have he : Tryd.prog.elem 69 = 5 := by kernel_rfl
  have hs : ∀ W : World, (sizeOf 5).run Tryd.prog W = .ok 1 W := fun _ => by kernel_rfl
  rw [run_sliceAt_array_l (P := Tryd.prog) W 69 ⟨B, 0, none⟩ (by kernel_rfl) .i64 (k : Int) (by omega) (by rw [hl]; omega), hl, he, hs]
  simp only [Result.andThen, slicedAt, Int.toNat_natCast]
  rw [if_neg (by omega)]
  simp [Addr.add]
  omega
set_option maxHeartbeats 400000 in
theorem text_any (n : Int) (w : World) (h1 : -9223372036854775808 ≤ n) (h2 : n ≤ 9223372036854775807) (hd : Digs w) :
    Calls Tryd.prog 47 #[.int .i64 n] w fun e w' => e = .returned (.string (strOfNums (textN n))) ∧ Below w.heap.size w w' := by
  have hp := hd.pos
  have HN := Lib.hid (absN_lt h1 h2)
  have HD := Lib.hid hd
  clear hd
  go_enter Tryd.func47, Tryd.ntmps47
  go_wp2_with (go_at_call 54; refine (size_any _ _ (by omega) (by omega)).mono ?_; rintro e w' ⟨rfl, rfl⟩)
  go_loopw [4, 5] (fun at_ far wr => ∃ c : Nat, c ≤ 19 ∧ at_ = .int .i64 ((c : Int) + 1) ∧ far = .int .u64 ((absN n / 10 ^ (19 - c) : Nat) : Int) ∧ (c = 19 ∨ 1 ≤ absN n / 10 ^ (19 - c)) ∧ wr = w.alloc (.cells (cellsAt (absN n) (c + 1)) 69)) (fun at_ _ _ => (intOf at_).toNat)
  case atStart => exact ⟨19, by omega, rfl, by simp, .inl rfl, by rw [cellsAt_start]⟩
  case round =>
    obtain ⟨c, hc, rfl, rfl, hf, rfl⟩ := hrel
    obtain ⟨d, rfl⟩ : ∃ d, c = d + 1 := by
      cases c with
      | zero =>
        have hN := absN_le h1 h2
        have : absN n / 10 ^ 19 = 0 := Nat.div_eq_of_lt (by omega)
        simp only [Nat.sub_zero] at hf
        omega
      | succ d => exact ⟨d, rfl⟩
    have hset := cellsAt_set (absN n) (d + 1) hc
    have hlt : absN n / 10 ^ (19 - (d + 1)) < 18446744073709551616 := Nat.lt_of_le_of_lt (Nat.div_le_self _ _) HN.out
    have hcell := HD.out (absN n / 10 ^ (19 - (d + 1)) % 10) (Nat.mod_lt _ (by omega))
    have hnext : absN n / 10 ^ (19 - d) = absN n / 10 ^ (19 - (d + 1)) / 10 := by rw [show 19 - d = 19 - (d + 1) + 1 by omega, Nat.pow_succ, Nat.div_div_eq_div_mul]
    generalize hff : absN n / 10 ^ (19 - (d + 1)) = f at *
    have HFF := Lib.hid hff
    clear hff
    have HF := Lib.hid hf
    clear hf
    have HNX := Lib.hid hnext
    clear hnext
    have hc0 : (cellsAt (absN n) (d + 1 + 1))[d + 1]? = some (.int .u8 0) := cellsAt_old _ _ hc
    generalize hC : cellsAt (absN n) (d + 1 + 1) = C at *
    have HC := Lib.hid hC
    clear hC
    have e10 : ((f % 10 : Nat) : Int) = (f : Int) % 10 := by omega
    rw [e10] at hset
    clear e10
    have HSET := Lib.hid hset
    clear hset
    have hlt' : (f : Int) ≤ 18446744073709551615 := by omega
    clear hlt
    have hc1 : C[d]? = some (.int .u8 0) := by
      rw [← HC.out]
      exact cellsAt_older _ _ (by omega)
    have hsl1 := fun W => slice_arr w.heap.size (d + 1) W hc
    have hsl0 := fun W => slice_arr w.heap.size d W (by omega)
    simp only [Int.natCast_add, Int.natCast_one, show 20 - (d + 1) = 19 - d by omega] at hsl1
    by_cases hf10 : f < 10
    · have hf10' : (f : Int) < 10 := by omega
      by_cases hn : n < 0
      · have hcv : ∀ W : World, W = w.alloc (.cells ((C.setIfInBounds (d + 1) (.int .u8 (48 + (f : Int) % 10))).setIfInBounds d (.int .u8 45)) 69) →
            (convert 36 9 (.slice (some ⟨w.heap.size, d, none⟩) (20 - d) (20 - d))).run Tryd.prog W = .ok (.string (strOfNums (textN n))) W := by
          intro W hW
          subst hW
          rw [HSET.out]
          refine run_convert_bytes_arg _ _ 5 (by kernel_rfl) (by kernel_rfl) _ _ _ _ (textN n) ?_ ?_ _ (by kernel_rfl)
          · rw [textN_neg hn, digs_at hc HFF.out HF.out hf10, List.length_cons, lows_length]; omega
          · intro i hi
            rw [World.cell?_alloc_new, minus_get _ _ _ (by omega), textN_neg hn, digs_at hc HFF.out HF.out hf10]
        have hcv' := hcv _ rfl
        clear hcv hf10
        go_wp2
        go_ret
        exact ⟨rfl, (Below.refl _ _).alloc (Nat.le_refl _) _⟩
      · have hcv : ∀ W : World, W = w.alloc (.cells (C.setIfInBounds (d + 1) (.int .u8 (48 + (f : Int) % 10))) 69) →
            (convert 36 9 (.slice (some ⟨w.heap.size, d + 1, none⟩) (19 - d) (19 - d))).run Tryd.prog W = .ok (.string (strOfNums (textN n))) W := by
          intro W hW
          subst hW
          rw [HSET.out]
          refine run_convert_bytes_arg _ _ 5 (by kernel_rfl) (by kernel_rfl) _ _ _ _ (textN n) ?_ ?_ _ (by kernel_rfl)
          · rw [textN_pos hn, digs_at hc HFF.out HF.out hf10, lows_length]; omega
          · intro i hi
            rw [World.cell?_alloc_new, cellsAt_get _ _ _ (by omega), textN_pos hn, digs_at hc HFF.out HF.out hf10]
        have hcv' := hcv _ rfl
        clear hcv hf10
        have hn' : decide (n < 0) = false := decide_eq_false hn; clear hn
        go_wp2
        go_ret
        exact ⟨rfl, (Below.refl _ _).alloc (Nat.le_refl _) _⟩
    · have hf10' : decide ((f : Int) < 10) = false := decide_eq_false (by omega)
      go_wp2
      go_roundw
      case rel => exact ⟨d, by omega, rfl, by rw [HNX.out]; rfl, .inr (by rw [HNX.out]; omega), by rw [HSET.out]⟩
      case measure => simp [intOf]; omega
end Num
end Go.Proofs.YtoaliaohbpdibaaDoor
