/- Keys: a value's key is written behind: by its kind. -/
import Derived.Test.YtepfihanhdinfaaDoorRkBase
import Derived.Test.YtepfihanhdinfaaDoorSeq
import Derived.Laws.Bits64
namespace Go.Proofs.YtepfihanhdinfaaDoor
open Go.RowKit
set_option linter.unusedVariables false
set_option linter.unusedSimpArgs false
namespace Rk
open Val (VT Keeps Box)
theorem xor_top (a : Nat) (h : a < 2 ^ 63) : a ^^^ 2 ^ 63 = a + 2 ^ 63 := by
  apply Nat.eq_of_testBit_eq
  intro i
  rw [Nat.testBit_xor, Nat.testBit_two_pow, Nat.add_comm]
  rcases Nat.lt_or_ge i 63 with h1 | h1
  · rw [Nat.testBit_two_pow_add_gt h1]
    have : ¬ 63 = i := by omega
    simp [this]
  · rcases Nat.eq_or_lt_of_le h1 with h2 | h2
    · subst h2
      rw [Nat.testBit_two_pow_add_eq]
      simp
    · have e1 : a.testBit i = false := Nat.testBit_lt_two_pow (Nat.lt_of_lt_of_le h (Nat.pow_le_pow_right (by decide) h1))
      have e2 : (2 ^ 63 + a).testBit i = false := Nat.testBit_lt_two_pow (Nat.lt_of_lt_of_le (show 2 ^ 63 + a < 2 ^ 64 by omega) (Nat.pow_le_pow_right (by decide) (by omega)))
      have : ¬ 63 = i := by omega
      simp [e1, e2, this]
theorem flip_top (n : Int) (h : -9223372036854775808 ≤ n ∧ n ≤ 9223372036854775807) : bits .xor .u64 (IntKind.u64.wrap n) 9223372036854775808 = n + 9223372036854775808 := by
  have hw : IntKind.u64.wrap n = if n < 0 then n + 18446744073709551616 else n := by
    rw [IntKind.wrap_u64]
    split <;> omega
  rw [hw]
  by_cases h0 : n < 0
  · rw [if_pos h0]
    obtain ⟨a, ha⟩ : ∃ a : Nat, n + 9223372036854775808 = (a : Int) := ⟨(n + 9223372036854775808).toNat, by omega⟩
    have hx := xor_top a (by omega)
    have e : (a + 2 ^ 63) ^^^ 2 ^ 63 = a := by rw [← hx, Nat.xor_assoc, Nat.xor_self, Nat.xor_zero]
    have := bits_xor_u64_nat (a + 2 ^ 63) (2 ^ 63) (by omega) (by decide)
    rw [e] at this
    rw [show n + 18446744073709551616 = ((a + 2 ^ 63 : Nat) : Int) by omega, ha, ← this]
    rfl
  · rw [if_neg h0]
    obtain ⟨a, rfl⟩ : ∃ a : Nat, n = (a : Int) := ⟨n.toNat, by omega⟩
    have := bits_xor_u64_nat a (2 ^ 63) (by omega) (by decide)
    rw [xor_top a (by omega)] at this
    rw [show (9223372036854775808 : Int) = ((2 ^ 63 : Nat) : Int) from rfl, this]
    rfl
/-- What stays while a region goes on. -/
structure Stay (C : Nat) (w : World) (A : Nat) (cs : Array Value) (V : World) : Prop where
  box : Box V A cs
  low : Below C w V
theorem Stay.of {C A : Nat} {w V V' : World} {cs : Array Value} {u : Value} {acc : List UInt8} (h : Stay C w A cs V) (hs : Sk C V V' u acc) : Stay C w A cs V' := ⟨box_kept h.box hs.kept, h.low.trans hs.low⟩
theorem Sk.startA {C : Nat} {w : World} {u : Value} {acc : List UInt8} (h : Buf C w u acc) (hC : C ≤ w.heap.size) (o : Obj) : Sk C w (w.alloc o) u acc := (Sk.start h).alloc hC o
set_option maxRecDepth 100000 in
set_option maxHeartbeats 2000000 in
theorem put_bool (C : Nat) (v : Value) (bs : List UInt8) (b : Bool) (n : Int) (s : ByteArray) (pl pk : Option Addr) (nl cl nk ck : Nat) (w : World) (h : Buf C w v bs) (hC : C ≤ w.heap.size) (hlen : bs.length + 40 ≤ 35184372088872) :
    Calls Tryd.prog 30 #[v, .agg #[.int .i64 1, .bool b, .int .i64 n, .string s, .slice pl nl cl, .slice pk nk ck]] w fun e w' => RkPost C w (bs ++ (6 :: (truthB b))) e w' := by
  obtain ⟨i0, hi0, hz0, hz1, hz2⟩ := info_parts infoB
  have S0 := Sk.startA h hC (.cells #[.int .i64 1, .bool b, .int .i64 n, .string s, .slice pl nl cl, .slice pk nk ck] 26)
  have HC1 : Hid (C ≤ (((w.alloc (.cells #[.int .i64 1, .bool b, .int .i64 n, .string s, .slice pl nl cl, .slice pk nk ck] 26)).drew).alloc (.cells #[.int .u8 6] 5)).heap.size) := Lib.hid (by show C ≤ ((w.alloc _).alloc _).heap.size; simp; omega)
  have S1 := Lib.hid ((S0.drew hC).alloc hC (.cells #[.int .u8 6] 5))
  have HS0 : Hid (Stay C w w.heap.size #[.int .i64 1, .bool b, .int .i64 n, .string s, .slice pl nl cl, .slice pk nk ck] (w.alloc (.cells #[.int .i64 1, .bool b, .int .i64 n, .string s, .slice pl nl cl, .slice pk nk ck] 26)).drew) := Lib.hid ⟨Box.new w _, (S0.drew hC).low⟩
  have HS1 : Hid (Stay C w w.heap.size #[.int .i64 1, .bool b, .int .i64 n, .string s, .slice pl nl cl, .slice pk nk ck] (((w.alloc (.cells #[.int .i64 1, .bool b, .int .i64 n, .string s, .slice pl nl cl, .slice pk nk ck] 26)).drew).alloc (.cells #[.int .u8 6] 5))) := Lib.hid ⟨(Box.new w _).alloc _, S1.out.low⟩
  have hsz : ((w.alloc (.cells #[.int .i64 1, .bool b, .int .i64 n, .string s, .slice pl nl cl, .slice pk nk ck] 26)).drew).heap.size = w.heap.size + 1 := by show (w.alloc _).heap.size = _; simp
  have HLIT : Hid (∀ j u, ([.int .u8 6] : List Value)[j]? = some u → ((((w.alloc (.cells #[.int .i64 1, .bool b, .int .i64 n, .string s, .slice pl nl cl, .slice pk nk ck] 26)).drew).alloc (.cells #[.int .u8 6] 5))).cell? ((⟨w.heap.size + 1, 0, none⟩ : Addr).add j) = some u) := Lib.hid (by rw [← hsz]; exact lit_one _ _)
  clear h hsz S0
  go_enter Tryd.func30, Tryd.ntmps30
  go_upto_region 13 with fail
  refine wp_region_seq (Stay C w w.heap.size #[.int .i64 1, .bool b, .int .i64 n, .string s, .slice pl nl cl, .slice pk nk ck]) [0, 3, 4, 1, 2, 5, 6] (by kernel_rfl) (by kernel_rfl) (by kernel_rfl) (by kernel_rfl) HS0.out ?_
  refine seqS_take (o := _) v (by conv => lhs; simp only [List.getElem?_toArray, List.getElem?_cons_succ, List.getElem?_cons_zero]) (by rfl) (by rfl) ?_ (fun _ => by rfl) (by conv => lhs; simp only [Act.put, List.setIfInBounds_toArray, List.set_cons_succ, List.set_cons_zero]) ?_
  · intro w _; go_simp
  refine seqS_take (o := _) (.pointer (some ⟨w.heap.size, 1, none⟩)) (by conv => lhs; simp only [List.getElem?_toArray, List.getElem?_cons_succ, List.getElem?_cons_zero]) (by rfl) (by rfl) ?_ (fun _ => by rfl) (by conv => lhs; simp only [Act.put, List.setIfInBounds_toArray, List.set_cons_succ, List.set_cons_zero]) ?_
  · intro w _; go_simp
  refine seqS_take (o := _) (.bool b) (by conv => lhs; simp only [List.getElem?_toArray, List.getElem?_cons_succ, List.getElem?_cons_zero]) (by rfl) (by rfl) ?_ (fun _ => by rfl) (by conv => lhs; simp only [Act.put, List.setIfInBounds_toArray, List.set_cons_succ, List.set_cons_zero]) ?_
  · rintro w' t0; obtain ⟨c0, c1, c2, c3, c4, c5⟩ := t0.box.cell; clear t0; go_simp
  refine seqS_do (o := _) (.slice (some ⟨w.heap.size + 1, 0, none⟩) 1 1) rfl (by conv => lhs; simp only [List.getElem?_toArray, List.getElem?_cons_succ, List.getElem?_cons_zero]) (by rfl) (by rfl) ?_ (by conv => lhs; simp only [Act.put, List.setIfInBounds_toArray, List.set_cons_succ, List.set_cons_zero]) HS1.out ?_
  · go_simp
  refine seqS_append (o := _) rfl (by conv => lhs; simp only [List.getElem?_toArray, List.getElem?_cons_succ, List.getElem?_cons_zero]) rfl (.tmp 50) (.tmp 51) 56 rfl C 5 i0 (.int .u8 0) 1 1 Tryd.underlying56 hi0 hz0 hz1 hz2 rfl (by decide) v bs.length (Lib.byteCells bs) rfl S1.out.buf ⟨w.heap.size + 1, 0, none⟩ 1 1 [.int .u8 6] rfl rfl HLIT.out (one_one _) (by omega) (by unfold maxLen; omega) (by omega) (S1.out.hC hC) (fun g cap w2 ho hg => ?_)
  have S2 := S1.out.byte (c := 6) hC ho hg
  have T2 := HS1.out.of ((Sk.start S1.out.buf).byte (c := 6) HC1.out ho hg)
  clear ho hg
  refine ⟨_, (by conv => lhs; simp only [Act.put, List.setIfInBounds_toArray, List.set_cons_succ, List.set_cons_zero]), T2, ?_⟩
  refine seqS_call (o := _) rfl (by conv => lhs; simp only [List.getElem?_toArray, List.getElem?_cons_succ, List.getElem?_cons_zero]) (by rfl) (by rfl) ?_ (putTruth_any C _ (bs ++ [6]) b _ S2.buf (S2.hC hC) (by simp; omega)) ?_
  · go_simp
  rintro e w3 ⟨u3, rfl, S3⟩
  refine ⟨_, _, rfl, (by conv => lhs; simp only [Act.put, List.setIfInBounds_toArray, List.set_cons_succ, List.set_cons_zero]), T2.of S3, ?_⟩
  refine seqS_take (o := _) u3 (by conv => lhs; simp only [List.getElem?_toArray, List.getElem?_cons_succ, List.getElem?_cons_zero]) (by rfl) (by rfl) ?_ (fun _ => by rfl) (by conv => lhs; simp only [Act.put, List.setIfInBounds_toArray, List.set_cons_succ, List.set_cons_zero]) ?_
  · intro w _; go_simp
  refine NoPanic.normal ?_
  go_wp2
  go_ret
  have hq := (S2.trans S3).post
  rw [List.append_assoc] at hq
  exact hq
set_option maxRecDepth 100000 in
set_option maxHeartbeats 2000000 in
theorem put_node (C : Nat) (v : Value) (bs : List UInt8) (b : Bool) (n : Int) (s : ByteArray) (pl pk : Option Addr) (nl cl nk ck : Nat) (w : World) (h : Buf C w v bs) (hC : C ≤ w.heap.size) (hlen : bs.length + 40 ≤ 35184372088872) (hN : 0 ≤ n ∧ n ≤ 9223372036854775807) :
    Calls Tryd.prog 30 #[v, .agg #[.int .i64 6, .bool b, .int .i64 n, .string s, .slice pl nl cl, .slice pk nk ck]] w fun e w' => RkPost C w (bs ++ (2 :: be8 n.toNat)) e w' := by
  obtain ⟨i0, hi0, hz0, hz1, hz2⟩ := info_parts infoB
  have hNn : ((n.toNat : Nat) : Int) = n := by omega
  have HNN := Lib.hid hNn
  clear hNn
  have S0 := Sk.startA h hC (.cells #[.int .i64 6, .bool b, .int .i64 n, .string s, .slice pl nl cl, .slice pk nk ck] 26)
  have HC1 : Hid (C ≤ (((w.alloc (.cells #[.int .i64 6, .bool b, .int .i64 n, .string s, .slice pl nl cl, .slice pk nk ck] 26)).drew).alloc (.cells #[.int .u8 2] 5)).heap.size) := Lib.hid (by show C ≤ ((w.alloc _).alloc _).heap.size; simp; omega)
  have S1 := Lib.hid ((S0.drew hC).alloc hC (.cells #[.int .u8 2] 5))
  have HS0 : Hid (Stay C w w.heap.size #[.int .i64 6, .bool b, .int .i64 n, .string s, .slice pl nl cl, .slice pk nk ck] (w.alloc (.cells #[.int .i64 6, .bool b, .int .i64 n, .string s, .slice pl nl cl, .slice pk nk ck] 26)).drew) := Lib.hid ⟨Box.new w _, (S0.drew hC).low⟩
  have HS1 : Hid (Stay C w w.heap.size #[.int .i64 6, .bool b, .int .i64 n, .string s, .slice pl nl cl, .slice pk nk ck] (((w.alloc (.cells #[.int .i64 6, .bool b, .int .i64 n, .string s, .slice pl nl cl, .slice pk nk ck] 26)).drew).alloc (.cells #[.int .u8 2] 5))) := Lib.hid ⟨(Box.new w _).alloc _, S1.out.low⟩
  have hsz : ((w.alloc (.cells #[.int .i64 6, .bool b, .int .i64 n, .string s, .slice pl nl cl, .slice pk nk ck] 26)).drew).heap.size = w.heap.size + 1 := by show (w.alloc _).heap.size = _; simp
  have HLIT : Hid (∀ j u, ([.int .u8 2] : List Value)[j]? = some u → ((((w.alloc (.cells #[.int .i64 6, .bool b, .int .i64 n, .string s, .slice pl nl cl, .slice pk nk ck] 26)).drew).alloc (.cells #[.int .u8 2] 5))).cell? ((⟨w.heap.size + 1, 0, none⟩ : Addr).add j) = some u) := Lib.hid (by rw [← hsz]; exact lit_one _ _)
  clear h hsz S0
  go_enter Tryd.func30, Tryd.ntmps30
  go_upto_region 5 with fail
  refine wp_region_seq (Stay C w w.heap.size #[.int .i64 6, .bool b, .int .i64 n, .string s, .slice pl nl cl, .slice pk nk ck]) [0, 3, 4, 5, 1, 2, 6, 7] (by kernel_rfl) (by kernel_rfl) (by kernel_rfl) (by kernel_rfl) HS0.out ?_
  refine seqS_take (o := _) v (by conv => lhs; simp only [List.getElem?_toArray, List.getElem?_cons_succ, List.getElem?_cons_zero]) (by rfl) (by rfl) ?_ (fun _ => by rfl) (by conv => lhs; simp only [Act.put, List.setIfInBounds_toArray, List.set_cons_succ, List.set_cons_zero]) ?_
  · intro w _; go_simp
  refine seqS_take (o := _) (.pointer (some ⟨w.heap.size, 2, none⟩)) (by conv => lhs; simp only [List.getElem?_toArray, List.getElem?_cons_succ, List.getElem?_cons_zero]) (by rfl) (by rfl) ?_ (fun _ => by rfl) (by conv => lhs; simp only [Act.put, List.setIfInBounds_toArray, List.set_cons_succ, List.set_cons_zero]) ?_
  · intro w _; go_simp
  refine seqS_take (o := _) (.int .i64 n) (by conv => lhs; simp only [List.getElem?_toArray, List.getElem?_cons_succ, List.getElem?_cons_zero]) (by rfl) (by rfl) ?_ (fun _ => by rfl) (by conv => lhs; simp only [Act.put, List.setIfInBounds_toArray, List.set_cons_succ, List.set_cons_zero]) ?_
  · rintro w' t0; obtain ⟨c0, c1, c2, c3, c4, c5⟩ := t0.box.cell; clear t0; go_simp
  refine seqS_take (o := _) (.int .u64 n) (by conv => lhs; simp only [List.getElem?_toArray, List.getElem?_cons_succ, List.getElem?_cons_zero]) (by rfl) (by rfl) ?_ (fun _ => by rfl) (by conv => lhs; simp only [Act.put, List.setIfInBounds_toArray, List.set_cons_succ, List.set_cons_zero]) ?_
  · intro w _; go_simp; rw [IntKind.wrap_u64]; omega
  refine seqS_do (o := _) (.slice (some ⟨w.heap.size + 1, 0, none⟩) 1 1) rfl (by conv => lhs; simp only [List.getElem?_toArray, List.getElem?_cons_succ, List.getElem?_cons_zero]) (by rfl) (by rfl) ?_ (by conv => lhs; simp only [Act.put, List.setIfInBounds_toArray, List.set_cons_succ, List.set_cons_zero]) HS1.out ?_
  · go_simp
  refine seqS_append (o := _) rfl (by conv => lhs; simp only [List.getElem?_toArray, List.getElem?_cons_succ, List.getElem?_cons_zero]) rfl (.tmp 16) (.tmp 17) 56 rfl C 5 i0 (.int .u8 0) 1 1 Tryd.underlying56 hi0 hz0 hz1 hz2 rfl (by decide) v bs.length (Lib.byteCells bs) rfl S1.out.buf ⟨w.heap.size + 1, 0, none⟩ 1 1 [.int .u8 2] rfl rfl HLIT.out (one_one _) (by omega) (by unfold maxLen; omega) (by omega) (S1.out.hC hC) (fun g cap w2 ho hg => ?_)
  have S2 := S1.out.byte (c := 2) hC ho hg
  have T2 := HS1.out.of ((Sk.start S1.out.buf).byte (c := 2) HC1.out ho hg)
  clear ho hg
  refine ⟨_, (by conv => lhs; simp only [Act.put, List.setIfInBounds_toArray, List.set_cons_succ, List.set_cons_zero]), T2, ?_⟩
  refine seqS_call (o := _) rfl (by conv => lhs; simp only [List.getElem?_toArray, List.getElem?_cons_succ, List.getElem?_cons_zero]) (by rfl) (by rfl) ?_ ((show Calls _ _ #[_, .int .u64 n] _ _ from by rw [← HNN.out]; exact putNumber_any C _ (bs ++ [2]) n.toNat _ S2.buf (S2.hC hC) (by simp; omega) (by omega))) ?_
  · go_simp
  rintro e w3 ⟨u3, rfl, S3⟩
  refine ⟨_, _, rfl, (by conv => lhs; simp only [Act.put, List.setIfInBounds_toArray, List.set_cons_succ, List.set_cons_zero]), T2.of S3, ?_⟩
  refine seqS_take (o := _) u3 (by conv => lhs; simp only [List.getElem?_toArray, List.getElem?_cons_succ, List.getElem?_cons_zero]) (by rfl) (by rfl) ?_ (fun _ => by rfl) (by conv => lhs; simp only [Act.put, List.setIfInBounds_toArray, List.set_cons_succ, List.set_cons_zero]) ?_
  · intro w _; go_simp
  refine NoPanic.normal ?_
  go_wp2
  go_ret
  have hq := (S2.trans S3).post
  rw [List.append_assoc] at hq
  exact hq
set_option maxRecDepth 100000 in
set_option maxHeartbeats 2000000 in
theorem put_edge (C : Nat) (v : Value) (bs : List UInt8) (b : Bool) (n : Int) (s : ByteArray) (pl pk : Option Addr) (nl cl nk ck : Nat) (w : World) (h : Buf C w v bs) (hC : C ≤ w.heap.size) (hlen : bs.length + 40 ≤ 35184372088872) (hN : 0 ≤ n ∧ n ≤ 9223372036854775807) :
    Calls Tryd.prog 30 #[v, .agg #[.int .i64 7, .bool b, .int .i64 n, .string s, .slice pl nl cl, .slice pk nk ck]] w fun e w' => RkPost C w (bs ++ (3 :: be8 n.toNat)) e w' := by
  obtain ⟨i0, hi0, hz0, hz1, hz2⟩ := info_parts infoB
  have hNn : ((n.toNat : Nat) : Int) = n := by omega
  have HNN := Lib.hid hNn
  clear hNn
  have S0 := Sk.startA h hC (.cells #[.int .i64 7, .bool b, .int .i64 n, .string s, .slice pl nl cl, .slice pk nk ck] 26)
  have HC1 : Hid (C ≤ (((w.alloc (.cells #[.int .i64 7, .bool b, .int .i64 n, .string s, .slice pl nl cl, .slice pk nk ck] 26)).drew).alloc (.cells #[.int .u8 3] 5)).heap.size) := Lib.hid (by show C ≤ ((w.alloc _).alloc _).heap.size; simp; omega)
  have S1 := Lib.hid ((S0.drew hC).alloc hC (.cells #[.int .u8 3] 5))
  have HS0 : Hid (Stay C w w.heap.size #[.int .i64 7, .bool b, .int .i64 n, .string s, .slice pl nl cl, .slice pk nk ck] (w.alloc (.cells #[.int .i64 7, .bool b, .int .i64 n, .string s, .slice pl nl cl, .slice pk nk ck] 26)).drew) := Lib.hid ⟨Box.new w _, (S0.drew hC).low⟩
  have HS1 : Hid (Stay C w w.heap.size #[.int .i64 7, .bool b, .int .i64 n, .string s, .slice pl nl cl, .slice pk nk ck] (((w.alloc (.cells #[.int .i64 7, .bool b, .int .i64 n, .string s, .slice pl nl cl, .slice pk nk ck] 26)).drew).alloc (.cells #[.int .u8 3] 5))) := Lib.hid ⟨(Box.new w _).alloc _, S1.out.low⟩
  have hsz : ((w.alloc (.cells #[.int .i64 7, .bool b, .int .i64 n, .string s, .slice pl nl cl, .slice pk nk ck] 26)).drew).heap.size = w.heap.size + 1 := by show (w.alloc _).heap.size = _; simp
  have HLIT : Hid (∀ j u, ([.int .u8 3] : List Value)[j]? = some u → ((((w.alloc (.cells #[.int .i64 7, .bool b, .int .i64 n, .string s, .slice pl nl cl, .slice pk nk ck] 26)).drew).alloc (.cells #[.int .u8 3] 5))).cell? ((⟨w.heap.size + 1, 0, none⟩ : Addr).add j) = some u) := Lib.hid (by rw [← hsz]; exact lit_one _ _)
  clear h hsz S0
  go_enter Tryd.func30, Tryd.ntmps30
  go_upto_region 7 with fail
  refine wp_region_seq (Stay C w w.heap.size #[.int .i64 7, .bool b, .int .i64 n, .string s, .slice pl nl cl, .slice pk nk ck]) [0, 3, 4, 5, 1, 2, 6, 7] (by kernel_rfl) (by kernel_rfl) (by kernel_rfl) (by kernel_rfl) HS0.out ?_
  refine seqS_take (o := _) v (by conv => lhs; simp only [List.getElem?_toArray, List.getElem?_cons_succ, List.getElem?_cons_zero]) (by rfl) (by rfl) ?_ (fun _ => by rfl) (by conv => lhs; simp only [Act.put, List.setIfInBounds_toArray, List.set_cons_succ, List.set_cons_zero]) ?_
  · intro w _; go_simp
  refine seqS_take (o := _) (.pointer (some ⟨w.heap.size, 2, none⟩)) (by conv => lhs; simp only [List.getElem?_toArray, List.getElem?_cons_succ, List.getElem?_cons_zero]) (by rfl) (by rfl) ?_ (fun _ => by rfl) (by conv => lhs; simp only [Act.put, List.setIfInBounds_toArray, List.set_cons_succ, List.set_cons_zero]) ?_
  · intro w _; go_simp
  refine seqS_take (o := _) (.int .i64 n) (by conv => lhs; simp only [List.getElem?_toArray, List.getElem?_cons_succ, List.getElem?_cons_zero]) (by rfl) (by rfl) ?_ (fun _ => by rfl) (by conv => lhs; simp only [Act.put, List.setIfInBounds_toArray, List.set_cons_succ, List.set_cons_zero]) ?_
  · rintro w' t0; obtain ⟨c0, c1, c2, c3, c4, c5⟩ := t0.box.cell; clear t0; go_simp
  refine seqS_take (o := _) (.int .u64 n) (by conv => lhs; simp only [List.getElem?_toArray, List.getElem?_cons_succ, List.getElem?_cons_zero]) (by rfl) (by rfl) ?_ (fun _ => by rfl) (by conv => lhs; simp only [Act.put, List.setIfInBounds_toArray, List.set_cons_succ, List.set_cons_zero]) ?_
  · intro w _; go_simp; rw [IntKind.wrap_u64]; omega
  refine seqS_do (o := _) (.slice (some ⟨w.heap.size + 1, 0, none⟩) 1 1) rfl (by conv => lhs; simp only [List.getElem?_toArray, List.getElem?_cons_succ, List.getElem?_cons_zero]) (by rfl) (by rfl) ?_ (by conv => lhs; simp only [Act.put, List.setIfInBounds_toArray, List.set_cons_succ, List.set_cons_zero]) HS1.out ?_
  · go_simp
  refine seqS_append (o := _) rfl (by conv => lhs; simp only [List.getElem?_toArray, List.getElem?_cons_succ, List.getElem?_cons_zero]) rfl (.tmp 25) (.tmp 26) 56 rfl C 5 i0 (.int .u8 0) 1 1 Tryd.underlying56 hi0 hz0 hz1 hz2 rfl (by decide) v bs.length (Lib.byteCells bs) rfl S1.out.buf ⟨w.heap.size + 1, 0, none⟩ 1 1 [.int .u8 3] rfl rfl HLIT.out (one_one _) (by omega) (by unfold maxLen; omega) (by omega) (S1.out.hC hC) (fun g cap w2 ho hg => ?_)
  have S2 := S1.out.byte (c := 3) hC ho hg
  have T2 := HS1.out.of ((Sk.start S1.out.buf).byte (c := 3) HC1.out ho hg)
  clear ho hg
  refine ⟨_, (by conv => lhs; simp only [Act.put, List.setIfInBounds_toArray, List.set_cons_succ, List.set_cons_zero]), T2, ?_⟩
  refine seqS_call (o := _) rfl (by conv => lhs; simp only [List.getElem?_toArray, List.getElem?_cons_succ, List.getElem?_cons_zero]) (by rfl) (by rfl) ?_ ((show Calls _ _ #[_, .int .u64 n] _ _ from by rw [← HNN.out]; exact putNumber_any C _ (bs ++ [3]) n.toNat _ S2.buf (S2.hC hC) (by simp; omega) (by omega))) ?_
  · go_simp
  rintro e w3 ⟨u3, rfl, S3⟩
  refine ⟨_, _, rfl, (by conv => lhs; simp only [Act.put, List.setIfInBounds_toArray, List.set_cons_succ, List.set_cons_zero]), T2.of S3, ?_⟩
  refine seqS_take (o := _) u3 (by conv => lhs; simp only [List.getElem?_toArray, List.getElem?_cons_succ, List.getElem?_cons_zero]) (by rfl) (by rfl) ?_ (fun _ => by rfl) (by conv => lhs; simp only [Act.put, List.setIfInBounds_toArray, List.set_cons_succ, List.set_cons_zero]) ?_
  · intro w _; go_simp
  refine NoPanic.normal ?_
  go_wp2
  go_ret
  have hq := (S2.trans S3).post
  rw [List.append_assoc] at hq
  exact hq
set_option maxRecDepth 100000 in
set_option maxHeartbeats 2000000 in
theorem put_int (C : Nat) (v : Value) (bs : List UInt8) (b : Bool) (n : Int) (s : ByteArray) (pl pk : Option Addr) (nl cl nk ck : Nat) (w : World) (h : Buf C w v bs) (hC : C ≤ w.heap.size) (hlen : bs.length + 40 ≤ 35184372088872) (hN : -9223372036854775808 ≤ n ∧ n ≤ 9223372036854775807) :
    Calls Tryd.prog 30 #[v, .agg #[.int .i64 2, .bool b, .int .i64 n, .string s, .slice pl nl cl, .slice pk nk ck]] w fun e w' => RkPost C w (bs ++ (7 :: be8 (n + 9223372036854775808).toNat)) e w' := by
  obtain ⟨i0, hi0, hz0, hz1, hz2⟩ := info_parts infoB
  have hNn : (((n + 9223372036854775808).toNat : Nat) : Int) = n + 9223372036854775808 := by omega
  have HNN := Lib.hid hNn
  clear hNn
  have hfl := flip_top n hN
  have S0 := Sk.startA h hC (.cells #[.int .i64 2, .bool b, .int .i64 n, .string s, .slice pl nl cl, .slice pk nk ck] 26)
  have HC1 : Hid (C ≤ (((w.alloc (.cells #[.int .i64 2, .bool b, .int .i64 n, .string s, .slice pl nl cl, .slice pk nk ck] 26)).drew).alloc (.cells #[.int .u8 7] 5)).heap.size) := Lib.hid (by show C ≤ ((w.alloc _).alloc _).heap.size; simp; omega)
  have S1 := Lib.hid ((S0.drew hC).alloc hC (.cells #[.int .u8 7] 5))
  have HS0 : Hid (Stay C w w.heap.size #[.int .i64 2, .bool b, .int .i64 n, .string s, .slice pl nl cl, .slice pk nk ck] (w.alloc (.cells #[.int .i64 2, .bool b, .int .i64 n, .string s, .slice pl nl cl, .slice pk nk ck] 26)).drew) := Lib.hid ⟨Box.new w _, (S0.drew hC).low⟩
  have HS1 : Hid (Stay C w w.heap.size #[.int .i64 2, .bool b, .int .i64 n, .string s, .slice pl nl cl, .slice pk nk ck] (((w.alloc (.cells #[.int .i64 2, .bool b, .int .i64 n, .string s, .slice pl nl cl, .slice pk nk ck] 26)).drew).alloc (.cells #[.int .u8 7] 5))) := Lib.hid ⟨(Box.new w _).alloc _, S1.out.low⟩
  have hsz : ((w.alloc (.cells #[.int .i64 2, .bool b, .int .i64 n, .string s, .slice pl nl cl, .slice pk nk ck] 26)).drew).heap.size = w.heap.size + 1 := by show (w.alloc _).heap.size = _; simp
  have HLIT : Hid (∀ j u, ([.int .u8 7] : List Value)[j]? = some u → ((((w.alloc (.cells #[.int .i64 2, .bool b, .int .i64 n, .string s, .slice pl nl cl, .slice pk nk ck] 26)).drew).alloc (.cells #[.int .u8 7] 5))).cell? ((⟨w.heap.size + 1, 0, none⟩ : Addr).add j) = some u) := Lib.hid (by rw [← hsz]; exact lit_one _ _)
  clear h hsz S0
  go_enter Tryd.func30, Tryd.ntmps30
  go_upto_region 15 with fail
  refine wp_region_seq (Stay C w w.heap.size #[.int .i64 2, .bool b, .int .i64 n, .string s, .slice pl nl cl, .slice pk nk ck]) [0, 3, 4, 5, 6, 1, 2, 7, 8] (by kernel_rfl) (by kernel_rfl) (by kernel_rfl) (by kernel_rfl) HS0.out ?_
  refine seqS_take (o := _) v (by conv => lhs; simp only [List.getElem?_toArray, List.getElem?_cons_succ, List.getElem?_cons_zero]) (by rfl) (by rfl) ?_ (fun _ => by rfl) (by conv => lhs; simp only [Act.put, List.setIfInBounds_toArray, List.set_cons_succ, List.set_cons_zero]) ?_
  · intro w _; go_simp
  refine seqS_take (o := _) (.pointer (some ⟨w.heap.size, 2, none⟩)) (by conv => lhs; simp only [List.getElem?_toArray, List.getElem?_cons_succ, List.getElem?_cons_zero]) (by rfl) (by rfl) ?_ (fun _ => by rfl) (by conv => lhs; simp only [Act.put, List.setIfInBounds_toArray, List.set_cons_succ, List.set_cons_zero]) ?_
  · intro w _; go_simp
  refine seqS_take (o := _) (.int .i64 n) (by conv => lhs; simp only [List.getElem?_toArray, List.getElem?_cons_succ, List.getElem?_cons_zero]) (by rfl) (by rfl) ?_ (fun _ => by rfl) (by conv => lhs; simp only [Act.put, List.setIfInBounds_toArray, List.set_cons_succ, List.set_cons_zero]) ?_
  · rintro w' t0; obtain ⟨c0, c1, c2, c3, c4, c5⟩ := t0.box.cell; clear t0; go_simp
  refine seqS_take (o := _) (.int .u64 (IntKind.u64.wrap n)) (by conv => lhs; simp only [List.getElem?_toArray, List.getElem?_cons_succ, List.getElem?_cons_zero]) (by rfl) (by rfl) ?_ (fun _ => by rfl) (by conv => lhs; simp only [Act.put, List.setIfInBounds_toArray, List.set_cons_succ, List.set_cons_zero]) ?_
  · intro w _; go_simp
  refine seqS_take (o := _) (.int .u64 (n + 9223372036854775808)) (by conv => lhs; simp only [List.getElem?_toArray, List.getElem?_cons_succ, List.getElem?_cons_zero]) (by rfl) (by rfl) ?_ (fun _ => by rfl) (by conv => lhs; simp only [Act.put, List.setIfInBounds_toArray, List.set_cons_succ, List.set_cons_zero]) ?_
  · intro w _; go_simp
  refine seqS_do (o := _) (.slice (some ⟨w.heap.size + 1, 0, none⟩) 1 1) rfl (by conv => lhs; simp only [List.getElem?_toArray, List.getElem?_cons_succ, List.getElem?_cons_zero]) (by rfl) (by rfl) ?_ (by conv => lhs; simp only [Act.put, List.setIfInBounds_toArray, List.set_cons_succ, List.set_cons_zero]) HS1.out ?_
  · go_simp
  refine seqS_append (o := _) rfl (by conv => lhs; simp only [List.getElem?_toArray, List.getElem?_cons_succ, List.getElem?_cons_zero]) rfl (.tmp 58) (.tmp 59) 56 rfl C 5 i0 (.int .u8 0) 1 1 Tryd.underlying56 hi0 hz0 hz1 hz2 rfl (by decide) v bs.length (Lib.byteCells bs) rfl S1.out.buf ⟨w.heap.size + 1, 0, none⟩ 1 1 [.int .u8 7] rfl rfl HLIT.out (one_one _) (by omega) (by unfold maxLen; omega) (by omega) (S1.out.hC hC) (fun g cap w2 ho hg => ?_)
  have S2 := S1.out.byte (c := 7) hC ho hg
  have T2 := HS1.out.of ((Sk.start S1.out.buf).byte (c := 7) HC1.out ho hg)
  clear ho hg
  refine ⟨_, (by conv => lhs; simp only [Act.put, List.setIfInBounds_toArray, List.set_cons_succ, List.set_cons_zero]), T2, ?_⟩
  refine seqS_call (o := _) rfl (by conv => lhs; simp only [List.getElem?_toArray, List.getElem?_cons_succ, List.getElem?_cons_zero]) (by rfl) (by rfl) ?_ ((show Calls _ _ #[_, .int .u64 (n + 9223372036854775808)] _ _ from by rw [← HNN.out]; exact putNumber_any C _ (bs ++ [7]) (n + 9223372036854775808).toNat _ S2.buf (S2.hC hC) (by simp; omega) (by omega))) ?_
  · go_simp
  rintro e w3 ⟨u3, rfl, S3⟩
  refine ⟨_, _, rfl, (by conv => lhs; simp only [Act.put, List.setIfInBounds_toArray, List.set_cons_succ, List.set_cons_zero]), T2.of S3, ?_⟩
  refine seqS_take (o := _) u3 (by conv => lhs; simp only [List.getElem?_toArray, List.getElem?_cons_succ, List.getElem?_cons_zero]) (by rfl) (by rfl) ?_ (fun _ => by rfl) (by conv => lhs; simp only [Act.put, List.setIfInBounds_toArray, List.set_cons_succ, List.set_cons_zero]) ?_
  · intro w _; go_simp
  refine NoPanic.normal ?_
  go_wp2
  go_ret
  have hq := (S2.trans S3).post
  rw [List.append_assoc] at hq
  exact hq
set_option maxRecDepth 100000 in
set_option maxHeartbeats 2000000 in
theorem put_str (C : Nat) (v : Value) (bs : List UInt8) (b : Bool) (n : Int) (s : ByteArray) (pl pk : Option Addr) (nl cl nk ck : Nat) (w : World) (h : Buf C w v bs) (hC : C ≤ w.heap.size) (hlen : bs.length + 40 ≤ 35184372088872) (hs : s.size ≤ 4294967000) (hM : MaxAt w) (hMC : 0 < C) :
    Calls Tryd.prog 30 #[v, .agg #[.int .i64 3, .bool b, .int .i64 n, .string s, .slice pl nl cl, .slice pk nk ck]] w fun e w' => RkPost C w (bs ++ (5 :: endB s.data.toList)) e w' := by
  obtain ⟨i0, hi0, hz0, hz1, hz2⟩ := info_parts infoB
  have HM := Lib.hid hM
  have HSZ := Lib.hid hs
  clear hM
  have S0 := Sk.startA h hC (.cells #[.int .i64 3, .bool b, .int .i64 n, .string s, .slice pl nl cl, .slice pk nk ck] 26)
  have HC1 : Hid (C ≤ (((w.alloc (.cells #[.int .i64 3, .bool b, .int .i64 n, .string s, .slice pl nl cl, .slice pk nk ck] 26)).drew).alloc (.cells #[.int .u8 5] 5)).heap.size) := Lib.hid (by show C ≤ ((w.alloc _).alloc _).heap.size; simp; omega)
  have S1 := Lib.hid ((S0.drew hC).alloc hC (.cells #[.int .u8 5] 5))
  have HS0 : Hid (Stay C w w.heap.size #[.int .i64 3, .bool b, .int .i64 n, .string s, .slice pl nl cl, .slice pk nk ck] (w.alloc (.cells #[.int .i64 3, .bool b, .int .i64 n, .string s, .slice pl nl cl, .slice pk nk ck] 26)).drew) := Lib.hid ⟨Box.new w _, (S0.drew hC).low⟩
  have HS1 : Hid (Stay C w w.heap.size #[.int .i64 3, .bool b, .int .i64 n, .string s, .slice pl nl cl, .slice pk nk ck] (((w.alloc (.cells #[.int .i64 3, .bool b, .int .i64 n, .string s, .slice pl nl cl, .slice pk nk ck] 26)).drew).alloc (.cells #[.int .u8 5] 5))) := Lib.hid ⟨(Box.new w _).alloc _, S1.out.low⟩
  have hsz : ((w.alloc (.cells #[.int .i64 3, .bool b, .int .i64 n, .string s, .slice pl nl cl, .slice pk nk ck] 26)).drew).heap.size = w.heap.size + 1 := by show (w.alloc _).heap.size = _; simp
  have HLIT : Hid (∀ j u, ([.int .u8 5] : List Value)[j]? = some u → ((((w.alloc (.cells #[.int .i64 3, .bool b, .int .i64 n, .string s, .slice pl nl cl, .slice pk nk ck] 26)).drew).alloc (.cells #[.int .u8 5] 5))).cell? ((⟨w.heap.size + 1, 0, none⟩ : Addr).add j) = some u) := Lib.hid (by rw [← hsz]; exact lit_one _ _)
  clear h hsz S0
  go_enter Tryd.func30, Tryd.ntmps30
  go_upto_region 11 with fail
  refine wp_region_seq (Stay C w w.heap.size #[.int .i64 3, .bool b, .int .i64 n, .string s, .slice pl nl cl, .slice pk nk ck]) [0, 3, 4, 1, 2, 5, 6] (by kernel_rfl) (by kernel_rfl) (by kernel_rfl) (by kernel_rfl) HS0.out ?_
  refine seqS_take (o := _) v (by conv => lhs; simp only [List.getElem?_toArray, List.getElem?_cons_succ, List.getElem?_cons_zero]) (by rfl) (by rfl) ?_ (fun _ => by rfl) (by conv => lhs; simp only [Act.put, List.setIfInBounds_toArray, List.set_cons_succ, List.set_cons_zero]) ?_
  · intro w _; go_simp
  refine seqS_take (o := _) (.pointer (some ⟨w.heap.size, 3, none⟩)) (by conv => lhs; simp only [List.getElem?_toArray, List.getElem?_cons_succ, List.getElem?_cons_zero]) (by rfl) (by rfl) ?_ (fun _ => by rfl) (by conv => lhs; simp only [Act.put, List.setIfInBounds_toArray, List.set_cons_succ, List.set_cons_zero]) ?_
  · intro w _; go_simp
  refine seqS_take (o := _) (.string s) (by conv => lhs; simp only [List.getElem?_toArray, List.getElem?_cons_succ, List.getElem?_cons_zero]) (by rfl) (by rfl) ?_ (fun _ => by rfl) (by conv => lhs; simp only [Act.put, List.setIfInBounds_toArray, List.set_cons_succ, List.set_cons_zero]) ?_
  · rintro w' t0; obtain ⟨c0, c1, c2, c3, c4, c5⟩ := t0.box.cell; clear t0; go_simp
  refine seqS_do (o := _) (.slice (some ⟨w.heap.size + 1, 0, none⟩) 1 1) rfl (by conv => lhs; simp only [List.getElem?_toArray, List.getElem?_cons_succ, List.getElem?_cons_zero]) (by rfl) (by rfl) ?_ (by conv => lhs; simp only [Act.put, List.setIfInBounds_toArray, List.set_cons_succ, List.set_cons_zero]) HS1.out ?_
  · go_simp
  refine seqS_append (o := _) rfl (by conv => lhs; simp only [List.getElem?_toArray, List.getElem?_cons_succ, List.getElem?_cons_zero]) rfl (.tmp 42) (.tmp 43) 56 rfl C 5 i0 (.int .u8 0) 1 1 Tryd.underlying56 hi0 hz0 hz1 hz2 rfl (by decide) v bs.length (Lib.byteCells bs) rfl S1.out.buf ⟨w.heap.size + 1, 0, none⟩ 1 1 [.int .u8 5] rfl rfl HLIT.out (one_one _) (by omega) (by unfold maxLen; omega) (by omega) (S1.out.hC hC) (fun g cap w2 ho hg => ?_)
  have S2 := S1.out.byte (c := 5) hC ho hg
  have T2 := HS1.out.of ((Sk.start S1.out.buf).byte (c := 5) HC1.out ho hg)
  clear ho hg
  refine ⟨_, (by conv => lhs; simp only [Act.put, List.setIfInBounds_toArray, List.set_cons_succ, List.set_cons_zero]), T2, ?_⟩
  refine seqS_call (o := _) rfl (by conv => lhs; simp only [List.getElem?_toArray, List.getElem?_cons_succ, List.getElem?_cons_zero]) (by rfl) (by rfl) ?_ (putText_any C _ (bs ++ [5]) s _ S2.buf (S2.hC hC) (by simp; have := HSZ.out; omega) HSZ.out (MaxAt.low HM.out S2.low hMC)) ?_
  · go_simp
  rintro e w3 ⟨u3, rfl, S3⟩
  refine ⟨_, _, rfl, (by conv => lhs; simp only [Act.put, List.setIfInBounds_toArray, List.set_cons_succ, List.set_cons_zero]), T2.of S3, ?_⟩
  refine seqS_take (o := _) u3 (by conv => lhs; simp only [List.getElem?_toArray, List.getElem?_cons_succ, List.getElem?_cons_zero]) (by rfl) (by rfl) ?_ (fun _ => by rfl) (by conv => lhs; simp only [Act.put, List.setIfInBounds_toArray, List.set_cons_succ, List.set_cons_zero]) ?_
  · intro w _; go_simp
  refine NoPanic.normal ?_
  go_wp2
  go_ret
  have hq := (S2.trans S3).post
  rw [List.append_assoc] at hq
  exact hq
set_option maxRecDepth 100000 in
set_option maxHeartbeats 2000000 in
theorem put_list (C : Nat) (v : Value) (bs : List UInt8) (b : Bool) (n : Int) (s : ByteArray) (pl pk : Option Addr) (nl cl nk ck : Nat) (w : World) (h : Buf C w v bs) (hC : C ≤ w.heap.size) (hlen : bs.length + 40 ≤ 35184372088872) (P : List UInt8) (HP : Hid (∀ (V : World) (u : Value), Stay C w w.heap.size #[.int .i64 4, .bool b, .int .i64 n, .string s, .slice pl nl cl, .slice pk nk ck] V → Sk C w V u (bs ++ [4]) → Calls Tryd.prog 55 #[u, .slice pl nl cl] V fun e w' => RkPost C V (bs ++ [4] ++ P) e w')) :
    Calls Tryd.prog 30 #[v, .agg #[.int .i64 4, .bool b, .int .i64 n, .string s, .slice pl nl cl, .slice pk nk ck]] w fun e w' => RkPost C w (bs ++ (4 :: P)) e w' := by
  obtain ⟨i0, hi0, hz0, hz1, hz2⟩ := info_parts infoB
  have S0 := Sk.startA h hC (.cells #[.int .i64 4, .bool b, .int .i64 n, .string s, .slice pl nl cl, .slice pk nk ck] 26)
  have HC1 : Hid (C ≤ (((w.alloc (.cells #[.int .i64 4, .bool b, .int .i64 n, .string s, .slice pl nl cl, .slice pk nk ck] 26)).drew).alloc (.cells #[.int .u8 4] 5)).heap.size) := Lib.hid (by show C ≤ ((w.alloc _).alloc _).heap.size; simp; omega)
  have S1 := Lib.hid ((S0.drew hC).alloc hC (.cells #[.int .u8 4] 5))
  have HS0 : Hid (Stay C w w.heap.size #[.int .i64 4, .bool b, .int .i64 n, .string s, .slice pl nl cl, .slice pk nk ck] (w.alloc (.cells #[.int .i64 4, .bool b, .int .i64 n, .string s, .slice pl nl cl, .slice pk nk ck] 26)).drew) := Lib.hid ⟨Box.new w _, (S0.drew hC).low⟩
  have HS1 : Hid (Stay C w w.heap.size #[.int .i64 4, .bool b, .int .i64 n, .string s, .slice pl nl cl, .slice pk nk ck] (((w.alloc (.cells #[.int .i64 4, .bool b, .int .i64 n, .string s, .slice pl nl cl, .slice pk nk ck] 26)).drew).alloc (.cells #[.int .u8 4] 5))) := Lib.hid ⟨(Box.new w _).alloc _, S1.out.low⟩
  have hsz : ((w.alloc (.cells #[.int .i64 4, .bool b, .int .i64 n, .string s, .slice pl nl cl, .slice pk nk ck] 26)).drew).heap.size = w.heap.size + 1 := by show (w.alloc _).heap.size = _; simp
  have HLIT : Hid (∀ j u, ([.int .u8 4] : List Value)[j]? = some u → ((((w.alloc (.cells #[.int .i64 4, .bool b, .int .i64 n, .string s, .slice pl nl cl, .slice pk nk ck] 26)).drew).alloc (.cells #[.int .u8 4] 5))).cell? ((⟨w.heap.size + 1, 0, none⟩ : Addr).add j) = some u) := Lib.hid (by rw [← hsz]; exact lit_one _ _)
  clear h hsz S0
  go_enter Tryd.func30, Tryd.ntmps30
  go_upto_region 9 with fail
  refine wp_region_seq (Stay C w w.heap.size #[.int .i64 4, .bool b, .int .i64 n, .string s, .slice pl nl cl, .slice pk nk ck]) [0, 3, 4, 1, 2, 5, 6] (by kernel_rfl) (by kernel_rfl) (by kernel_rfl) (by kernel_rfl) HS0.out ?_
  refine seqS_take (o := _) v (by conv => lhs; simp only [List.getElem?_toArray, List.getElem?_cons_succ, List.getElem?_cons_zero]) (by rfl) (by rfl) ?_ (fun _ => by rfl) (by conv => lhs; simp only [Act.put, List.setIfInBounds_toArray, List.set_cons_succ, List.set_cons_zero]) ?_
  · intro w _; go_simp
  refine seqS_take (o := _) (.pointer (some ⟨w.heap.size, 4, none⟩)) (by conv => lhs; simp only [List.getElem?_toArray, List.getElem?_cons_succ, List.getElem?_cons_zero]) (by rfl) (by rfl) ?_ (fun _ => by rfl) (by conv => lhs; simp only [Act.put, List.setIfInBounds_toArray, List.set_cons_succ, List.set_cons_zero]) ?_
  · intro w _; go_simp
  refine seqS_take (o := _) (.slice pl nl cl) (by conv => lhs; simp only [List.getElem?_toArray, List.getElem?_cons_succ, List.getElem?_cons_zero]) (by rfl) (by rfl) ?_ (fun _ => by rfl) (by conv => lhs; simp only [Act.put, List.setIfInBounds_toArray, List.set_cons_succ, List.set_cons_zero]) ?_
  · rintro w' t0; obtain ⟨c0, c1, c2, c3, c4, c5⟩ := t0.box.cell; clear t0; go_simp
  refine seqS_do (o := _) (.slice (some ⟨w.heap.size + 1, 0, none⟩) 1 1) rfl (by conv => lhs; simp only [List.getElem?_toArray, List.getElem?_cons_succ, List.getElem?_cons_zero]) (by rfl) (by rfl) ?_ (by conv => lhs; simp only [Act.put, List.setIfInBounds_toArray, List.set_cons_succ, List.set_cons_zero]) HS1.out ?_
  · go_simp
  refine seqS_append (o := _) rfl (by conv => lhs; simp only [List.getElem?_toArray, List.getElem?_cons_succ, List.getElem?_cons_zero]) rfl (.tmp 34) (.tmp 35) 56 rfl C 5 i0 (.int .u8 0) 1 1 Tryd.underlying56 hi0 hz0 hz1 hz2 rfl (by decide) v bs.length (Lib.byteCells bs) rfl S1.out.buf ⟨w.heap.size + 1, 0, none⟩ 1 1 [.int .u8 4] rfl rfl HLIT.out (one_one _) (by omega) (by unfold maxLen; omega) (by omega) (S1.out.hC hC) (fun g cap w2 ho hg => ?_)
  have S2 := S1.out.byte (c := 4) hC ho hg
  have T2 := HS1.out.of ((Sk.start S1.out.buf).byte (c := 4) HC1.out ho hg)
  clear ho hg
  refine ⟨_, (by conv => lhs; simp only [Act.put, List.setIfInBounds_toArray, List.set_cons_succ, List.set_cons_zero]), T2, ?_⟩
  refine seqS_call (o := _) rfl (by conv => lhs; simp only [List.getElem?_toArray, List.getElem?_cons_succ, List.getElem?_cons_zero]) (by rfl) (by rfl) ?_ (HP.out _ _ T2 S2) ?_
  · go_simp
  rintro e w3 ⟨u3, rfl, S3⟩
  refine ⟨_, _, rfl, (by conv => lhs; simp only [Act.put, List.setIfInBounds_toArray, List.set_cons_succ, List.set_cons_zero]), T2.of S3, ?_⟩
  refine seqS_take (o := _) u3 (by conv => lhs; simp only [List.getElem?_toArray, List.getElem?_cons_succ, List.getElem?_cons_zero]) (by rfl) (by rfl) ?_ (fun _ => by rfl) (by conv => lhs; simp only [Act.put, List.setIfInBounds_toArray, List.set_cons_succ, List.set_cons_zero]) ?_
  · intro w _; go_simp
  refine NoPanic.normal ?_
  go_wp2
  go_ret
  have hq := (S2.trans S3).post
  rw [List.append_assoc] at hq
  exact hq
set_option maxRecDepth 100000 in
set_option maxHeartbeats 2000000 in
theorem put_map (C : Nat) (v : Value) (bs : List UInt8) (b : Bool) (n : Int) (s : ByteArray) (pl pk : Option Addr) (nl cl nk ck : Nat) (w : World) (h : Buf C w v bs) (hC : C ≤ w.heap.size) (hlen : bs.length + 40 ≤ 35184372088872) (P : List UInt8) (HP : Hid (∀ (V : World) (u : Value), Stay C w w.heap.size #[.int .i64 5, .bool b, .int .i64 n, .string s, .slice pl nl cl, .slice pk nk ck] V → Sk C w V u (bs ++ [1]) → Calls Tryd.prog 53 #[u, .agg #[.int .i64 5, .bool b, .int .i64 n, .string s, .slice pl nl cl, .slice pk nk ck]] V fun e w' => RkPost C V (bs ++ [1] ++ P) e w')) :
    Calls Tryd.prog 30 #[v, .agg #[.int .i64 5, .bool b, .int .i64 n, .string s, .slice pl nl cl, .slice pk nk ck]] w fun e w' => RkPost C w (bs ++ (1 :: P)) e w' := by
  obtain ⟨i0, hi0, hz0, hz1, hz2⟩ := info_parts infoB
  have S0 := Sk.startA h hC (.cells #[.int .i64 5, .bool b, .int .i64 n, .string s, .slice pl nl cl, .slice pk nk ck] 26)
  have HC1 : Hid (C ≤ (((w.alloc (.cells #[.int .i64 5, .bool b, .int .i64 n, .string s, .slice pl nl cl, .slice pk nk ck] 26)).drew).alloc (.cells #[.int .u8 1] 5)).heap.size) := Lib.hid (by show C ≤ ((w.alloc _).alloc _).heap.size; simp; omega)
  have S1 := Lib.hid ((S0.drew hC).alloc hC (.cells #[.int .u8 1] 5))
  have HS0 : Hid (Stay C w w.heap.size #[.int .i64 5, .bool b, .int .i64 n, .string s, .slice pl nl cl, .slice pk nk ck] (w.alloc (.cells #[.int .i64 5, .bool b, .int .i64 n, .string s, .slice pl nl cl, .slice pk nk ck] 26)).drew) := Lib.hid ⟨Box.new w _, (S0.drew hC).low⟩
  have HS1 : Hid (Stay C w w.heap.size #[.int .i64 5, .bool b, .int .i64 n, .string s, .slice pl nl cl, .slice pk nk ck] (((w.alloc (.cells #[.int .i64 5, .bool b, .int .i64 n, .string s, .slice pl nl cl, .slice pk nk ck] 26)).drew).alloc (.cells #[.int .u8 1] 5))) := Lib.hid ⟨(Box.new w _).alloc _, S1.out.low⟩
  have hsz : ((w.alloc (.cells #[.int .i64 5, .bool b, .int .i64 n, .string s, .slice pl nl cl, .slice pk nk ck] 26)).drew).heap.size = w.heap.size + 1 := by show (w.alloc _).heap.size = _; simp
  have HLIT : Hid (∀ j u, ([.int .u8 1] : List Value)[j]? = some u → ((((w.alloc (.cells #[.int .i64 5, .bool b, .int .i64 n, .string s, .slice pl nl cl, .slice pk nk ck] 26)).drew).alloc (.cells #[.int .u8 1] 5))).cell? ((⟨w.heap.size + 1, 0, none⟩ : Addr).add j) = some u) := Lib.hid (by rw [← hsz]; exact lit_one _ _)
  clear h hsz S0
  go_enter Tryd.func30, Tryd.ntmps30
  go_upto_region 3 with fail
  refine wp_region_seq (Stay C w w.heap.size #[.int .i64 5, .bool b, .int .i64 n, .string s, .slice pl nl cl, .slice pk nk ck]) [0, 3, 1, 2, 4, 5] (by kernel_rfl) (by kernel_rfl) (by kernel_rfl) (by kernel_rfl) HS0.out ?_
  refine seqS_take (o := _) v (by conv => lhs; simp only [List.getElem?_toArray, List.getElem?_cons_succ, List.getElem?_cons_zero]) (by rfl) (by rfl) ?_ (fun _ => by rfl) (by conv => lhs; simp only [Act.put, List.setIfInBounds_toArray, List.set_cons_succ, List.set_cons_zero]) ?_
  · intro w _; go_simp
  refine seqS_take (o := _) (.agg #[.int .i64 5, .bool b, .int .i64 n, .string s, .slice pl nl cl, .slice pk nk ck]) (by conv => lhs; simp only [List.getElem?_toArray, List.getElem?_cons_succ, List.getElem?_cons_zero]) (by rfl) (by rfl) ?_ (fun _ => by rfl) (by conv => lhs; simp only [Act.put, List.setIfInBounds_toArray, List.set_cons_succ, List.set_cons_zero]) ?_
  · rintro w' t0; obtain ⟨c0, c1, c2, c3, c4, c5⟩ := t0.box.cell; clear t0; go_simp
  refine seqS_do (o := _) (.slice (some ⟨w.heap.size + 1, 0, none⟩) 1 1) rfl (by conv => lhs; simp only [List.getElem?_toArray, List.getElem?_cons_succ, List.getElem?_cons_zero]) (by rfl) (by rfl) ?_ (by conv => lhs; simp only [Act.put, List.setIfInBounds_toArray, List.set_cons_succ, List.set_cons_zero]) HS1.out ?_
  · go_simp
  refine seqS_append (o := _) rfl (by conv => lhs; simp only [List.getElem?_toArray, List.getElem?_cons_succ, List.getElem?_cons_zero]) rfl (.tmp 9) (.tmp 10) 56 rfl C 5 i0 (.int .u8 0) 1 1 Tryd.underlying56 hi0 hz0 hz1 hz2 rfl (by decide) v bs.length (Lib.byteCells bs) rfl S1.out.buf ⟨w.heap.size + 1, 0, none⟩ 1 1 [.int .u8 1] rfl rfl HLIT.out (one_one _) (by omega) (by unfold maxLen; omega) (by omega) (S1.out.hC hC) (fun g cap w2 ho hg => ?_)
  have S2 := S1.out.byte (c := 1) hC ho hg
  have T2 := HS1.out.of ((Sk.start S1.out.buf).byte (c := 1) HC1.out ho hg)
  clear ho hg
  refine ⟨_, (by conv => lhs; simp only [Act.put, List.setIfInBounds_toArray, List.set_cons_succ, List.set_cons_zero]), T2, ?_⟩
  refine seqS_call (o := _) rfl (by conv => lhs; simp only [List.getElem?_toArray, List.getElem?_cons_succ, List.getElem?_cons_zero]) (by rfl) (by rfl) ?_ (HP.out _ _ T2 S2) ?_
  · go_simp
  rintro e w3 ⟨u3, rfl, S3⟩
  refine ⟨_, _, rfl, (by conv => lhs; simp only [Act.put, List.setIfInBounds_toArray, List.set_cons_succ, List.set_cons_zero]), T2.of S3, ?_⟩
  refine seqS_take (o := _) u3 (by conv => lhs; simp only [List.getElem?_toArray, List.getElem?_cons_succ, List.getElem?_cons_zero]) (by rfl) (by rfl) ?_ (fun _ => by rfl) (by conv => lhs; simp only [Act.put, List.setIfInBounds_toArray, List.set_cons_succ, List.set_cons_zero]) ?_
  · intro w _; go_simp
  refine NoPanic.normal ?_
  go_wp2
  go_ret
  have hq := (S2.trans S3).post
  rw [List.append_assoc] at hq
  exact hq
set_option maxRecDepth 100000 in
theorem put_null (C : Nat) (v : Value) (bs : List UInt8) (b : Bool) (n : Int) (s : ByteArray) (pl pk : Option Addr) (nl cl nk ck : Nat) (w : World) (h : Buf C w v bs) (hC : C ≤ w.heap.size) (hlen : bs.length + 40 ≤ 35184372088872) :
    Calls Tryd.prog 30 #[v, .agg #[.int .i64 0, .bool b, .int .i64 n, .string s, .slice pl nl cl, .slice pk nk ck]] w fun e w' => RkPost C w (bs ++ [8]) e w' := by
  obtain ⟨i0, hi0, hz0, hz1, hz2⟩ := info_parts infoB
  have S0 := Lib.hid (Sk.startA h hC (.cells #[.int .i64 0, .bool b, .int .i64 n, .string s, .slice pl nl cl, .slice pk nk ck] 26))
  have HC1 : Hid (C ≤ ((w.alloc (.cells #[.int .i64 0, .bool b, .int .i64 n, .string s, .slice pl nl cl, .slice pk nk ck] 26)).alloc (.cells #[.int .u8 8] 5)).heap.size) := Lib.hid (by simp; omega)
  have hsz : (w.alloc (.cells #[.int .i64 0, .bool b, .int .i64 n, .string s, .slice pl nl cl, .slice pk nk ck] 26)).heap.size = w.heap.size + 1 := by simp
  have HLIT : Hid (∀ j u, ([.int .u8 8] : List Value)[j]? = some u → (((w.alloc (.cells #[.int .i64 0, .bool b, .int .i64 n, .string s, .slice pl nl cl, .slice pk nk ck] 26)).alloc (.cells #[.int .u8 8] 5))).cell? ((⟨w.heap.size + 1, 0, none⟩ : Addr).add j) = some u) := Lib.hid (by rw [← hsz]; exact lit_one _ _)
  clear h hsz
  go_enter Tryd.func30, Tryd.ntmps30
  go_wp2_with (at_builtin; go_loud (refine wpList_append_lies _ rfl _ _ 56 rfl C 5 i0 (.int .u8 0) 1 1 Tryd.underlying56 hi0 hz0 hz1 hz2 rfl (by decide) _ bs.length (Lib.byteCells bs) rfl (S0.out.alloc hC _).buf ⟨w.heap.size + 1, 0, none⟩ 1 1 [.int .u8 8] rfl rfl HLIT.out (one_one _) (by omega) (by unfold maxLen; omega) (by omega) HC1.out _ rfl (fun g cap w2 ho hg _ _ => ?_)))
  go_ret
  exact ((S0.out.alloc hC _).byte (c := 8) hC ho hg).post
end Rk
end Go.Proofs.YtepfihanhdinfaaDoor
