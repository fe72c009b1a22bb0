/- Values as bytes: the document's numbers in sevens. -/
import Derived.Test.YtmhlipncelgmlaaPkNum
import Derived.Lib.BufferRead
import Derived.Lib.SlBytesRow
namespace Go.Proofs.Ytmhlipncelgmlaa
open Go.RowKit
set_option linter.unusedVariables false
set_option linter.unusedSimpArgs false
namespace Pk
/-- The number in sevens, as a text. -/
def sevS (n : Nat) : ByteArray := ⟨(sevL n).toArray⟩
theorem sevS_ge {n : Nat} (h : ¬ n < 128) : (⟨#[UInt8.ofNat (n % 128 + 128)]⟩ : ByteArray) ++ sevS (n / 128) = sevS n := by
  unfold sevS
  rw [sevL_ge h]
  apply ByteArray.ext
  apply Array.ext'
  simp
theorem sevS_lt {n : Nat} (h : n < 128) : (⟨#[UInt8.ofNat n]⟩ : ByteArray) = sevS n := by
  unfold sevS
  rw [sevL_lt h]
theorem conv_one (g : Nat) (n : Nat) (hn : n < 256) (V : World) (h : V.cell? ⟨g, 0, none⟩ = some (.int .u8 (n : Int))) : (convert 27 9 (.slice (some ⟨g, 0, none⟩) 1 1)).run Try.prog V = .ok (.string ⟨#[UInt8.ofNat n]⟩) V := by
  refine run_convert_bytes_back V 27 9 5 ⟨g, 0, none⟩ 1 [UInt8.ofNat n] Try.underlying27 Try.underlying5 Try.underlying9 fun j hj => ?_
  have : j = 0 := by simpa using hj
  subst this
  have hq : ((UInt8.ofNat n).toNat : Int) = (n : Int) := by simp; omega
  show V.cell? _ = some (.int .u8 ((UInt8.ofNat n).toNat : Int))
  rw [hq]
  exact h
set_option maxRecDepth 100000 in
theorem refNumber_any : ∀ (N n : Nat) (w : World), n ≤ N → (n : Int) ≤ 18446744073709551615 → Calls Try.prog 60 #[.int .u64 (n : Int)] w fun e w' => e = .returned (.string (sevS n)) ∧ Below w.heap.size w w' := fun N => by
  induction N using Nat.strongRecOn with
  | ind N ih =>
    intro n w hN hn
    by_cases hlt : n < 128
    · have hji : (n : Int) < 128 := by omega
      have HL := Lib.hid hlt
      have hcv := conv_one w.heap.size n (by omega) (w.alloc (.cells #[.int .u8 (n : Int)] 5)) (by unfold World.cell?; rw [World.alloc_heap_new]; rfl)
      have hbl : Below w.heap.size w (w.alloc (.cells #[.int .u8 (n : Int)] 5)) := (Below.refl _ w).alloc (Nat.le_refl _) _
      rw [sevS_lt hlt] at hcv
      have HB := Lib.hid hbl
      clear hlt hbl
      go_enter Try.func60, Try.ntmps60
      go_wp2
      go_ret
      exact ⟨rfl, HB.out⟩
    · have hji : ¬ (n : Int) < 128 := by omega
      have HL := Lib.hid hlt
      obtain ⟨d, hd⟩ : ∃ d, n / 128 = d := ⟨_, rfl⟩
      obtain ⟨m, hm⟩ : ∃ m, n % 128 + 128 = m := ⟨_, rfl⟩
      have IH : Hid (∀ V, Calls Try.prog 60 #[.int .u64 (d : Int)] V fun e w' => e = .returned (.string (sevS d)) ∧ Below V.heap.size V w') := Lib.hid fun V => ih d (by omega) d V (Nat.le_refl _) (by omega)
      have hw1 : IntKind.u8.wrap (IntKind.u64.wrap ((n : Int).tmod 128 + 128)) = (m : Int) := by
        rw [Int.tmod_eq_emod_of_nonneg (by omega), IntKind.wrap_u64]
        simp [IntKind.wrap, IntKind.bits, IntKind.signed]
        omega
      have hw2 : IntKind.u64.wrap ((n : Int) / 128) = (d : Int) := by rw [IntKind.wrap_u64]; omega
      have hs := sevS_ge hlt
      rw [hd, hm] at hs
      have HSS := Lib.hid hs
      have hm2 : m < 256 := by omega
      have hcv0 := conv_one w.heap.size m hm2 (w.alloc (.cells #[.int .u8 (m : Int)] 5)).drew (by show World.cell? (w.alloc _) _ = _; unfold World.cell?; rw [World.alloc_heap_new]; rfl)
      have hcv1 := fun V : World => conv_one V.heap.size m hm2 (V.alloc (.cells #[.int .u8 (m : Int)] 5)) (by unfold World.cell?; rw [World.alloc_heap_new]; rfl)
      have HM := Lib.hid hm2
      have HA : Hid (Below w.heap.size w (w.alloc (.cells #[.int .u8 (m : Int)] 5)).drew) := Lib.hid ((Below.refl _ w).alloc (Nat.le_refl _) _).drew
      have HC : Hid ((w.alloc (.cells #[.int .u8 (m : Int)] 5)).drew.cell? ⟨w.heap.size, 0, none⟩ = some (.int .u8 (m : Int))) := Lib.hid (by show World.cell? (w.alloc _) _ = _; unfold World.cell?; rw [World.alloc_heap_new]; rfl)
      have hz : (sevS d).size ≤ 10 := by
        have := sevL_len10 (n := d) (by omega)
        show (sevL d).toArray.size ≤ 10
        simpa using this
      have hz1 : (⟨#[UInt8.ofNat m]⟩ : ByteArray).size + (sevS d).size ≤ 4611686018427387904 := by
        have : (⟨#[UInt8.ofNat m]⟩ : ByteArray).size = 1 := rfl
        omega
      have hz2 : 1 + (sevS d).size ≤ 9223372036854775807 := by omega
      clear hlt ih hd hm hs hm2
      go_enter Try.func60, Try.ntmps60
      go_upto_region 3 with fail
      go_region_with (refine (IH.out _).mono ?_; rintro e w1 ⟨rfl, hb⟩; try (have hq1 := conv_one w.heap.size m HM.out w1 ((hb.cell (p := ⟨w.heap.size, 0, none⟩) (by simp)).trans HC.out)))
      all_goals
        try clear hq1
        have HB := Lib.hid hb
        clear hb
        go_wp2
        go_ret
        refine ⟨by rw [← HSS.out]; rfl, ?_⟩
        have hb := HB.out
        first
          | exact HA.out.trans (hb.mono HA.out.size)
          | exact ((Below.refl w.heap.size w).drew.trans hb).alloc hb.size _
set_option maxRecDepth 100000 in
/-- The document's fold. -/
theorem zigzag_any (n : Int) (hn : -9223372036854775808 ≤ n ∧ n ≤ 9223372036854775807) (w : World) :
    Calls Try.prog 61 #[.int .i64 n] w fun e w' => e = .returned (.int .u64 (foldN n : Int)) ∧ w' = w := by
  have hf : (foldN n : Int) = if n < 0 then -2 * n - 1 else 2 * n := by unfold foldN; split <;> omega
  have HF := Lib.hid hf
  clear hf
  obtain ⟨h0, h1⟩ := hn
  by_cases hb : n < 0
  · go_enter Try.func61, Try.ntmps61
    go_wp2
    go_ret
    refine ⟨?_, rfl⟩
    rw [HF.out, if_pos hb]
    show Ending.returned (.int .u64 _) = Ending.returned (.int .u64 _)
    congr 2
    try simp only [IntKind.wrap_u64]
    omega
  · go_enter Try.func61, Try.ntmps61
    go_wp2
    go_ret
    refine ⟨?_, rfl⟩
    rw [HF.out, if_neg (by omega)]
    rfl
end Pk
end Go.Proofs.Ytmhlipncelgmlaa
