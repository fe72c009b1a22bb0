/- Values as bytes: numbers in sevens and texts are written behind. -/
import Derived.Test.YtmhlipncelgmlaaRkBase
import Derived.Test.YtmhlipncelgmlaaPkPlain
import Derived.Laws.Bits64
namespace Go.Proofs.Ytmhlipncelgmlaa
open Go.RowKit
set_option linter.unusedVariables false
set_option linter.unusedSimpArgs false
namespace Pk
open Val (VT Keeps Box)
open Rk (Buf Sk RkPost infoB info_parts lit_one one_one ba_len)
set_option maxRecDepth 100000 in
theorem or_more : ∀ c : Fin 256, bits .or .u8 (c.val : Int) 128 = ((c.val % 128 + 128 : Nat) : Int) := by decide
theorem low_more (n : Nat) : bits .or .u8 ((n : Int) % 256) 128 = ((n % 128 + 128 : Nat) : Int) := by
  have hw : (n : Int) % 256 = ((n % 256 : Nat) : Int) := by omega
  rw [hw]
  have := or_more ⟨n % 256, Nat.mod_lt _ (by decide)⟩
  rw [this]
  have : n % 256 % 128 = n % 128 := by omega
  rw [this]
theorem more_toNat (n : Nat) : ((UInt8.ofNat (n % 128 + 128)).toNat : Int) = ((n % 128 + 128 : Nat) : Int) := by
  simp; omega
theorem low_toNat {n : Nat} (h : n < 128) : ((UInt8.ofNat n).toNat : Int) = (n : Int) := by
  simp; omega
set_option maxRecDepth 100000 in
theorem putNumber_any (C : Nat) (v : Value) (bs : List UInt8) (n : Nat) (w : World) (h : Buf C w v bs) (hC : C ≤ w.heap.size) (hlen : bs.length + 40 ≤ 140737488355328) (hn : (n : Int) ≤ 18446744073709551615) :
    Calls Try.prog 54 #[v, .int .u64 (n : Int)] w fun e w' => RkPost C w (bs ++ sevL n) e w' := by
  obtain ⟨i0, hi0, hz0, hz1, hz2⟩ := info_parts infoB
  have H := Lib.hid (Sk.start h)
  have HT := Lib.hid (sevL_len10 hn)
  clear h
  go_enter Try.func54, Try.ntmps54
  go_wp2
  go_loopw [0, 1] (fun u i wr => ∃ m : Nat, ∃ acc : List UInt8, i = .int .u64 (m : Int) ∧ (m : Int) ≤ 18446744073709551615 ∧ acc.length ≤ bs.length + 10 ∧ Hid (Sk C w wr u acc ∧ acc ++ sevL m = bs ++ sevL n)) (fun _ i _ => (intOf i).toNat)
  case atStart => exact ⟨n, bs, rfl, hn, by omega, Lib.hid ⟨H.out, rfl⟩⟩
  case round =>
    rename_i u wr
    obtain ⟨m, acc, rfl, hm, hacc, HS⟩ := hrel
    have hmm : (0 : Int) ≤ m := by omega
    by_cases hlt : m < 128
    · have hji : ¬ (128 : Int) ≤ m := by omega
      have HL := Lib.hid hlt
      clear hlt
      go_wp2_with (at_builtin; go_loud (refine wpList_append_lies _ rfl _ _ 27 rfl C 5 i0 (.int .u8 0) 1 1 Try.underlying27 hi0 hz0 hz1 hz2 rfl (by decide) _ acc.length (Lib.byteCells acc) rfl (HS.out.1.alloc hC _).buf ⟨wr.heap.size, 0, none⟩ 1 1 [_] rfl rfl (lit_one wr _) (one_one _) (by omega) (by unfold maxLen; omega) (by omega) (by simp; have := HS.out.1.hC hC; omega) _ rfl (fun g cap w2 ho hg _ _ => ?_)))
      go_ret
      rw [← low_toNat HL.out] at ho hg
      have hq := (HS.out.1.alloc hC _).byte hC ho hg
      rw [← sevL_lt HL.out, HS.out.2] at hq
      exact hq.post
    · have hji : (128 : Int) ≤ m := by omega
      have HL := Lib.hid hlt
      clear hlt
      go_wp2_with (at_builtin; go_loud (refine wpList_append_lies _ rfl _ _ 27 rfl C 5 i0 (.int .u8 0) 1 1 Try.underlying27 hi0 hz0 hz1 hz2 rfl (by decide) _ acc.length (Lib.byteCells acc) rfl (HS.out.1.alloc hC _).buf ⟨wr.heap.size, 0, none⟩ 1 1 [_] rfl rfl (lit_one wr _) (one_one _) (by omega) (by unfold maxLen; omega) (by omega) (by simp; have := HS.out.1.hC hC; omega) _ rfl (fun g cap w2 ho hg _ _ => ?_)))
      rw [low_more, ← more_toNat] at ho hg
      have hq := (HS.out.1.alloc hC _).byte hC ho hg
      have he := HS.out.2
      rw [sevL_ge HL.out] at he
      have hl := congrArg List.length he
      have hp := sevL_pos (m / 128)
      have hT := HT.out
      simp only [List.length_append, List.length_cons] at hl
      refine ⟨⟨m / 128, acc ++ [UInt8.ofNat (m % 128 + 128)], ?_, by omega, by simp only [List.length_append, List.length_cons, List.length_nil]; omega, Lib.hid ⟨hq, by rw [List.append_assoc]; exact he⟩⟩, ?_⟩
      · congr 1
      · show ((m : Int) / 128).toNat < ((m : Int)).toNat
        omega
theorem not_any (n : Int) (hn : -9223372036854775808 ≤ n ∧ n ≤ 9223372036854775807) : bits .xor .i64 (-1) n = -1 - n := by
  show IntKind.i64.wrap ((BitVec.ofInt 64 (-1) ^^^ BitVec.ofInt 64 n).toNat : Int) = _
  have h1 : BitVec.ofInt 64 (-1) = BitVec.allOnes 64 := by decide
  rw [h1, BitVec.allOnes_xor, BitVec.toNat_not, BitVec.toNat_ofInt]
  simp [IntKind.wrap, IntKind.bits, IntKind.signed]
  omega
set_option maxRecDepth 100000 in
/-- What the fold comes to. -/
theorem fold_any (n : Int) (hn : -9223372036854775808 ≤ n ∧ n ≤ 9223372036854775807) (w : World) :
    Calls Try.prog 55 #[.int .i64 n] w fun e w' => e = .returned (.int .u64 (foldN n : Int)) ∧ w' = w := by
  have hf : (foldN n : Int) = if n < 0 then -2 * n - 1 else 2 * n := by unfold foldN; split <;> omega
  have HF := Lib.hid hf
  have HX := Lib.hid (not_any n hn)
  clear hf
  obtain ⟨h0, h1⟩ := hn
  by_cases hb : n < 0
  · go_enter Try.func55, Try.ntmps55
    go_wp2
    go_ret
    refine ⟨?_, rfl⟩
    rw [HF.out, if_pos hb, HX.out]
    show Ending.returned (.int .u64 _) = Ending.returned (.int .u64 _)
    congr 2
    simp only [IntKind.wrap_u64]
    omega
  · go_enter Try.func55, Try.ntmps55
    go_wp2
    go_ret
    refine ⟨?_, rfl⟩
    rw [HF.out, if_neg (by omega)]
    rfl
set_option maxRecDepth 100000 in
theorem putText_any (C : Nat) (v : Value) (bs : List UInt8) (s : ByteArray) (w : World) (h : Buf C w v bs) (hC : C ≤ w.heap.size) (hlen : bs.length + s.size + 60 ≤ 140737488355328) :
    Calls Try.prog 56 #[v, .string s] w fun e w' => RkPost C w (bs ++ textB s) e w' := by
  obtain ⟨i0, hi0, hz0, hz1, hz2⟩ := info_parts infoB
  have CALL : Hid (Calls Try.prog 54 #[v, .int .u64 (s.size : Int)] w fun e w' => RkPost C w (bs ++ sevL s.size) e w') := Lib.hid (putNumber_any C v bs s.size w h hC (by omega) (by omega))
  have HT := Lib.hid (sevL_len10 (n := s.size) (by omega))
  clear h
  go_enter Try.func56, Try.ntmps56
  go_wp2_with fail
  refine CALL.out.mono ?_
  rintro e w1 ⟨u1, rfl, h1⟩
  have H1 := Lib.hid h1
  have hT := HT.out
  have hal : (bs ++ sevL s.size).length + s.size ≤ 140737488355328 := by rw [List.length_append]; omega
  have HAL := Lib.hid hal
  clear h1 hT hal
  go_wp2_with (at_builtin; refine Lib.wpList_append_own_string _ rfl (.tmp 9) (.tmp 10) 27 9 rfl C 5 i0 Try.underlying27 Try.underlying9 hi0 hz0 hz1 hz2 _ (bs ++ sevL s.size).length (Lib.byteCells (bs ++ sevL s.size)) rfl H1.out.buf s rfl (by unfold maxLen; have := HAL.out; omega) (by have := HAL.out; omega) (H1.out.hC hC) (fun v2 w5 ho hg hx => ?_))
  go_ret
  have hq := (H1.out.text hC ho hg).post
  rw [List.append_assoc] at hq
  exact hq
end Pk
end Go.Proofs.Ytmhlipncelgmlaa
