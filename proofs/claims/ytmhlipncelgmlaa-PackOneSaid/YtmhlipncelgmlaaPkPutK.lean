/- Values as bytes: a value's bytes are written behind: by its kind. -/
import Derived.Test.YtmhlipncelgmlaaPkNum
import Derived.Test.YtmhlipncelgmlaaSeq
namespace Go.Proofs.Ytmhlipncelgmlaa
open Go.RowKit
set_option linter.unusedVariables false
set_option linter.unusedSimpArgs false
namespace Pk
open Val (VT Keeps Box)
open Rk (Buf Sk RkPost infoB info_parts lit_one one_one ba_len box_kept)
/-- What stays while a region goes on. -/
structure Stay (C : Nat) (w : World) (A : Nat) (cs : Array Value) (V : World) : Prop where
  box : Box V A cs
  low : Below C w V
theorem Stay.of {C A : Nat} {w V V' : World} {cs : Array Value} {u : Value} {acc : List UInt8} (h : Stay C w A cs V) (hs : Sk C V V' u acc) : Stay C w A cs V' := ⟨box_kept h.box hs.kept, h.low.trans hs.low⟩
theorem startA {C : Nat} {w : World} {u : Value} {acc : List UInt8} (h : Buf C w u acc) (hC : C ≤ w.heap.size) (o : Obj) : Sk C w (w.alloc o) u acc := (Sk.start h).alloc hC o
set_option maxRecDepth 100000 in
set_option maxHeartbeats 2000000 in
theorem put_node (C : Nat) (v : Value) (bs : List UInt8) (b : Bool) (n : Int) (s : ByteArray) (pl pk : Option Addr) (nl cl nk ck : Nat) (w : World) (h : Buf C w v bs) (hC : C ≤ w.heap.size) (hlen : bs.length + 40 ≤ 35184372088872) (hN : 0 ≤ n ∧ n ≤ 9223372036854775807) :
    Calls Try.prog 34 #[v, .agg #[.int .i64 6, .bool b, .int .i64 n, .string s, .slice pl nl cl, .slice pk nk ck]] w fun e w' => RkPost C w (bs ++ (7 :: sevL n.toNat)) e w' := by
  obtain ⟨i0, hi0, hz0, hz1, hz2⟩ := info_parts infoB
  have hNn : ((n.toNat : Nat) : Int) = n := by omega
  have HNN := Lib.hid hNn
  clear hNn
  have S0 := startA h hC (.cells #[.int .i64 6, .bool b, .int .i64 n, .string s, .slice pl nl cl, .slice pk nk ck] 25)
  have HC1 : Hid (C ≤ (((w.alloc (.cells #[.int .i64 6, .bool b, .int .i64 n, .string s, .slice pl nl cl, .slice pk nk ck] 25)).drew).alloc (.cells #[.int .u8 7] 5)).heap.size) := Lib.hid (by show C ≤ ((w.alloc _).alloc _).heap.size; simp; omega)
  have S1 := Lib.hid ((S0.drew hC).alloc hC (.cells #[.int .u8 7] 5))
  have HS0 : Hid (Stay C w w.heap.size #[.int .i64 6, .bool b, .int .i64 n, .string s, .slice pl nl cl, .slice pk nk ck] (w.alloc (.cells #[.int .i64 6, .bool b, .int .i64 n, .string s, .slice pl nl cl, .slice pk nk ck] 25)).drew) := Lib.hid ⟨Box.new w _, (S0.drew hC).low⟩
  have HS1 : Hid (Stay C w w.heap.size #[.int .i64 6, .bool b, .int .i64 n, .string s, .slice pl nl cl, .slice pk nk ck] (((w.alloc (.cells #[.int .i64 6, .bool b, .int .i64 n, .string s, .slice pl nl cl, .slice pk nk ck] 25)).drew).alloc (.cells #[.int .u8 7] 5))) := Lib.hid ⟨(Box.new w _).alloc _, S1.out.low⟩
  have hsz : ((w.alloc (.cells #[.int .i64 6, .bool b, .int .i64 n, .string s, .slice pl nl cl, .slice pk nk ck] 25)).drew).heap.size = w.heap.size + 1 := by show (w.alloc _).heap.size = _; simp
  have HLIT : Hid (∀ j u, ([.int .u8 7] : List Value)[j]? = some u → ((((w.alloc (.cells #[.int .i64 6, .bool b, .int .i64 n, .string s, .slice pl nl cl, .slice pk nk ck] 25)).drew).alloc (.cells #[.int .u8 7] 5))).cell? ((⟨w.heap.size + 1, 0, none⟩ : Addr).add j) = some u) := Lib.hid (by rw [← hsz]; exact lit_one _ _)
  clear h hsz S0
  go_enter Try.func34, Try.ntmps34
  go_upto_region 15 with fail
  refine wp_region_seq (Stay C w w.heap.size #[.int .i64 6, .bool b, .int .i64 n, .string s, .slice pl nl cl, .slice pk nk ck]) [0, 3, 4, 5, 1, 2, 6, 7] (by kernel_rfl) (by kernel_rfl) (by kernel_rfl) (by kernel_rfl) HS0.out ?_
  refine seqS_take (o := _) v (by conv => lhs; simp only [List.getElem?_toArray, List.getElem?_cons_succ, List.getElem?_cons_zero]) (by rfl) (by rfl) ?_ (fun _ => by rfl) (by conv => lhs; simp only [Act.put, List.setIfInBounds_toArray, List.set_cons_succ, List.set_cons_zero]) ?_
  · intro w _; go_simp
  refine seqS_take (o := _) (.pointer (some ⟨w.heap.size, 2, none⟩)) (by conv => lhs; simp only [List.getElem?_toArray, List.getElem?_cons_succ, List.getElem?_cons_zero]) (by rfl) (by rfl) ?_ (fun _ => by rfl) (by conv => lhs; simp only [Act.put, List.setIfInBounds_toArray, List.set_cons_succ, List.set_cons_zero]) ?_
  · intro w _; go_simp
  refine seqS_take (o := _) (.int .i64 n) (by conv => lhs; simp only [List.getElem?_toArray, List.getElem?_cons_succ, List.getElem?_cons_zero]) (by rfl) (by rfl) ?_ (fun _ => by rfl) (by conv => lhs; simp only [Act.put, List.setIfInBounds_toArray, List.set_cons_succ, List.set_cons_zero]) ?_
  · rintro w' t0; obtain ⟨c0, c1, c2, c3, c4, c5⟩ := t0.box.cell; clear t0; go_simp
  refine seqS_take (o := _) (.int .u64 n) (by conv => lhs; simp only [List.getElem?_toArray, List.getElem?_cons_succ, List.getElem?_cons_zero]) (by rfl) (by rfl) ?_ (fun _ => by rfl) (by conv => lhs; simp only [Act.put, List.setIfInBounds_toArray, List.set_cons_succ, List.set_cons_zero]) ?_
  · intro w _; go_simp; rw [IntKind.wrap_u64]; omega
  refine seqS_do (o := _) (.slice (some ⟨w.heap.size + 1, 0, none⟩) 1 1) rfl (by conv => lhs; simp only [List.getElem?_toArray, List.getElem?_cons_succ, List.getElem?_cons_zero]) (by rfl) (by rfl) ?_ (by conv => lhs; simp only [Act.put, List.setIfInBounds_toArray, List.set_cons_succ, List.set_cons_zero]) HS1.out ?_
  · go_simp
  refine seqS_append (o := _) rfl (by conv => lhs; simp only [List.getElem?_toArray, List.getElem?_cons_succ, List.getElem?_cons_zero]) rfl (.tmp 51) (.tmp 52) 27 rfl C 5 i0 (.int .u8 0) 1 1 Try.underlying27 hi0 hz0 hz1 hz2 rfl (by decide) v bs.length (Lib.byteCells bs) rfl S1.out.buf ⟨w.heap.size + 1, 0, none⟩ 1 1 [.int .u8 7] rfl rfl HLIT.out (one_one _) (by omega) (by unfold maxLen; omega) (by omega) (S1.out.hC hC) (fun g cap w2 ho hg => ?_)
  have S2 := S1.out.byte (c := 7) hC ho hg
  have T2 := HS1.out.of ((Sk.start S1.out.buf).byte (c := 7) HC1.out ho hg)
  clear ho hg
  refine ⟨_, (by conv => lhs; simp only [Act.put, List.setIfInBounds_toArray, List.set_cons_succ, List.set_cons_zero]), T2, ?_⟩
  refine seqS_call (o := _) rfl (by conv => lhs; simp only [List.getElem?_toArray, List.getElem?_cons_succ, List.getElem?_cons_zero]) (by rfl) (by rfl) ?_ ((show Calls _ _ #[_, .int .u64 n] _ _ from by rw [← HNN.out]; exact putNumber_any C _ (bs ++ [7]) n.toNat _ S2.buf (S2.hC hC) (by simp; omega) (by omega))) ?_
  · go_simp
  rintro e w3 ⟨u3, rfl, S3⟩
  refine ⟨_, _, rfl, (by conv => lhs; simp only [Act.put, List.setIfInBounds_toArray, List.set_cons_succ, List.set_cons_zero]), T2.of S3, ?_⟩
  refine seqS_take (o := _) u3 (by conv => lhs; simp only [List.getElem?_toArray, List.getElem?_cons_succ, List.getElem?_cons_zero]) (by rfl) (by rfl) ?_ (fun _ => by rfl) (by conv => lhs; simp only [Act.put, List.setIfInBounds_toArray, List.set_cons_succ, List.set_cons_zero]) ?_
  · intro w _; go_simp
  refine NoPanic.normal ?_
  go_wp2
  go_ret
  have hq := (S2.trans S3).post
  rw [List.append_assoc] at hq
  exact hq
set_option maxRecDepth 100000 in
set_option maxHeartbeats 2000000 in
theorem put_edge (C : Nat) (v : Value) (bs : List UInt8) (b : Bool) (n : Int) (s : ByteArray) (pl pk : Option Addr) (nl cl nk ck : Nat) (w : World) (h : Buf C w v bs) (hC : C ≤ w.heap.size) (hlen : bs.length + 40 ≤ 35184372088872) (hN : 0 ≤ n ∧ n ≤ 9223372036854775807) :
    Calls Try.prog 34 #[v, .agg #[.int .i64 7, .bool b, .int .i64 n, .string s, .slice pl nl cl, .slice pk nk ck]] w fun e w' => RkPost C w (bs ++ (8 :: sevL n.toNat)) e w' := by
  obtain ⟨i0, hi0, hz0, hz1, hz2⟩ := info_parts infoB
  have hNn : ((n.toNat : Nat) : Int) = n := by omega
  have HNN := Lib.hid hNn
  clear hNn
  have S0 := startA h hC (.cells #[.int .i64 7, .bool b, .int .i64 n, .string s, .slice pl nl cl, .slice pk nk ck] 25)
  have HC1 : Hid (C ≤ (((w.alloc (.cells #[.int .i64 7, .bool b, .int .i64 n, .string s, .slice pl nl cl, .slice pk nk ck] 25)).drew).alloc (.cells #[.int .u8 8] 5)).heap.size) := Lib.hid (by show C ≤ ((w.alloc _).alloc _).heap.size; simp; omega)
  have S1 := Lib.hid ((S0.drew hC).alloc hC (.cells #[.int .u8 8] 5))
  have HS0 : Hid (Stay C w w.heap.size #[.int .i64 7, .bool b, .int .i64 n, .string s, .slice pl nl cl, .slice pk nk ck] (w.alloc (.cells #[.int .i64 7, .bool b, .int .i64 n, .string s, .slice pl nl cl, .slice pk nk ck] 25)).drew) := Lib.hid ⟨Box.new w _, (S0.drew hC).low⟩
  have HS1 : Hid (Stay C w w.heap.size #[.int .i64 7, .bool b, .int .i64 n, .string s, .slice pl nl cl, .slice pk nk ck] (((w.alloc (.cells #[.int .i64 7, .bool b, .int .i64 n, .string s, .slice pl nl cl, .slice pk nk ck] 25)).drew).alloc (.cells #[.int .u8 8] 5))) := Lib.hid ⟨(Box.new w _).alloc _, S1.out.low⟩
  have hsz : ((w.alloc (.cells #[.int .i64 7, .bool b, .int .i64 n, .string s, .slice pl nl cl, .slice pk nk ck] 25)).drew).heap.size = w.heap.size + 1 := by show (w.alloc _).heap.size = _; simp
  have HLIT : Hid (∀ j u, ([.int .u8 8] : List Value)[j]? = some u → ((((w.alloc (.cells #[.int .i64 7, .bool b, .int .i64 n, .string s, .slice pl nl cl, .slice pk nk ck] 25)).drew).alloc (.cells #[.int .u8 8] 5))).cell? ((⟨w.heap.size + 1, 0, none⟩ : Addr).add j) = some u) := Lib.hid (by rw [← hsz]; exact lit_one _ _)
  clear h hsz S0
  go_enter Try.func34, Try.ntmps34
  go_upto_region 17 with fail
  refine wp_region_seq (Stay C w w.heap.size #[.int .i64 7, .bool b, .int .i64 n, .string s, .slice pl nl cl, .slice pk nk ck]) [0, 3, 4, 5, 1, 2, 6, 7] (by kernel_rfl) (by kernel_rfl) (by kernel_rfl) (by kernel_rfl) HS0.out ?_
  refine seqS_take (o := _) v (by conv => lhs; simp only [List.getElem?_toArray, List.getElem?_cons_succ, List.getElem?_cons_zero]) (by rfl) (by rfl) ?_ (fun _ => by rfl) (by conv => lhs; simp only [Act.put, List.setIfInBounds_toArray, List.set_cons_succ, List.set_cons_zero]) ?_
  · intro w _; go_simp
  refine seqS_take (o := _) (.pointer (some ⟨w.heap.size, 2, none⟩)) (by conv => lhs; simp only [List.getElem?_toArray, List.getElem?_cons_succ, List.getElem?_cons_zero]) (by rfl) (by rfl) ?_ (fun _ => by rfl) (by conv => lhs; simp only [Act.put, List.setIfInBounds_toArray, List.set_cons_succ, List.set_cons_zero]) ?_
  · intro w _; go_simp
  refine seqS_take (o := _) (.int .i64 n) (by conv => lhs; simp only [List.getElem?_toArray, List.getElem?_cons_succ, List.getElem?_cons_zero]) (by rfl) (by rfl) ?_ (fun _ => by rfl) (by conv => lhs; simp only [Act.put, List.setIfInBounds_toArray, List.set_cons_succ, List.set_cons_zero]) ?_
  · rintro w' t0; obtain ⟨c0, c1, c2, c3, c4, c5⟩ := t0.box.cell; clear t0; go_simp
  refine seqS_take (o := _) (.int .u64 n) (by conv => lhs; simp only [List.getElem?_toArray, List.getElem?_cons_succ, List.getElem?_cons_zero]) (by rfl) (by rfl) ?_ (fun _ => by rfl) (by conv => lhs; simp only [Act.put, List.setIfInBounds_toArray, List.set_cons_succ, List.set_cons_zero]) ?_
  · intro w _; go_simp; rw [IntKind.wrap_u64]; omega
  refine seqS_do (o := _) (.slice (some ⟨w.heap.size + 1, 0, none⟩) 1 1) rfl (by conv => lhs; simp only [List.getElem?_toArray, List.getElem?_cons_succ, List.getElem?_cons_zero]) (by rfl) (by rfl) ?_ (by conv => lhs; simp only [Act.put, List.setIfInBounds_toArray, List.set_cons_succ, List.set_cons_zero]) HS1.out ?_
  · go_simp
  refine seqS_append (o := _) rfl (by conv => lhs; simp only [List.getElem?_toArray, List.getElem?_cons_succ, List.getElem?_cons_zero]) rfl (.tmp 60) (.tmp 61) 27 rfl C 5 i0 (.int .u8 0) 1 1 Try.underlying27 hi0 hz0 hz1 hz2 rfl (by decide) v bs.length (Lib.byteCells bs) rfl S1.out.buf ⟨w.heap.size + 1, 0, none⟩ 1 1 [.int .u8 8] rfl rfl HLIT.out (one_one _) (by omega) (by unfold maxLen; omega) (by omega) (S1.out.hC hC) (fun g cap w2 ho hg => ?_)
  have S2 := S1.out.byte (c := 8) hC ho hg
  have T2 := HS1.out.of ((Sk.start S1.out.buf).byte (c := 8) HC1.out ho hg)
  clear ho hg
  refine ⟨_, (by conv => lhs; simp only [Act.put, List.setIfInBounds_toArray, List.set_cons_succ, List.set_cons_zero]), T2, ?_⟩
  refine seqS_call (o := _) rfl (by conv => lhs; simp only [List.getElem?_toArray, List.getElem?_cons_succ, List.getElem?_cons_zero]) (by rfl) (by rfl) ?_ ((show Calls _ _ #[_, .int .u64 n] _ _ from by rw [← HNN.out]; exact putNumber_any C _ (bs ++ [8]) n.toNat _ S2.buf (S2.hC hC) (by simp; omega) (by omega))) ?_
  · go_simp
  rintro e w3 ⟨u3, rfl, S3⟩
  refine ⟨_, _, rfl, (by conv => lhs; simp only [Act.put, List.setIfInBounds_toArray, List.set_cons_succ, List.set_cons_zero]), T2.of S3, ?_⟩
  refine seqS_take (o := _) u3 (by conv => lhs; simp only [List.getElem?_toArray, List.getElem?_cons_succ, List.getElem?_cons_zero]) (by rfl) (by rfl) ?_ (fun _ => by rfl) (by conv => lhs; simp only [Act.put, List.setIfInBounds_toArray, List.set_cons_succ, List.set_cons_zero]) ?_
  · intro w _; go_simp
  refine NoPanic.normal ?_
  go_wp2
  go_ret
  have hq := (S2.trans S3).post
  rw [List.append_assoc] at hq
  exact hq
set_option maxRecDepth 100000 in
set_option maxHeartbeats 2000000 in
theorem put_int (C : Nat) (v : Value) (bs : List UInt8) (b : Bool) (n : Int) (s : ByteArray) (pl pk : Option Addr) (nl cl nk ck : Nat) (w : World) (h : Buf C w v bs) (hC : C ≤ w.heap.size) (hlen : bs.length + 40 ≤ 35184372088872) (hN : -9223372036854775808 ≤ n ∧ n ≤ 9223372036854775807) :
    Calls Try.prog 34 #[v, .agg #[.int .i64 2, .bool b, .int .i64 n, .string s, .slice pl nl cl, .slice pk nk ck]] w fun e w' => RkPost C w (bs ++ (3 :: sevL (foldN n))) e w' := by
  obtain ⟨i0, hi0, hz0, hz1, hz2⟩ := info_parts infoB
  have S0 := startA h hC (.cells #[.int .i64 2, .bool b, .int .i64 n, .string s, .slice pl nl cl, .slice pk nk ck] 25)
  have HC1 : Hid (C ≤ (((w.alloc (.cells #[.int .i64 2, .bool b, .int .i64 n, .string s, .slice pl nl cl, .slice pk nk ck] 25)).drew).alloc (.cells #[.int .u8 3] 5)).heap.size) := Lib.hid (by show C ≤ ((w.alloc _).alloc _).heap.size; simp; omega)
  have S1 := Lib.hid ((S0.drew hC).alloc hC (.cells #[.int .u8 3] 5))
  have HS0 : Hid (Stay C w w.heap.size #[.int .i64 2, .bool b, .int .i64 n, .string s, .slice pl nl cl, .slice pk nk ck] (w.alloc (.cells #[.int .i64 2, .bool b, .int .i64 n, .string s, .slice pl nl cl, .slice pk nk ck] 25)).drew) := Lib.hid ⟨Box.new w _, (S0.drew hC).low⟩
  have HS1 : Hid (Stay C w w.heap.size #[.int .i64 2, .bool b, .int .i64 n, .string s, .slice pl nl cl, .slice pk nk ck] (((w.alloc (.cells #[.int .i64 2, .bool b, .int .i64 n, .string s, .slice pl nl cl, .slice pk nk ck] 25)).drew).alloc (.cells #[.int .u8 3] 5))) := Lib.hid ⟨(Box.new w _).alloc _, S1.out.low⟩
  have hsz : ((w.alloc (.cells #[.int .i64 2, .bool b, .int .i64 n, .string s, .slice pl nl cl, .slice pk nk ck] 25)).drew).heap.size = w.heap.size + 1 := by show (w.alloc _).heap.size = _; simp
  have HLIT : Hid (∀ j u, ([.int .u8 3] : List Value)[j]? = some u → ((((w.alloc (.cells #[.int .i64 2, .bool b, .int .i64 n, .string s, .slice pl nl cl, .slice pk nk ck] 25)).drew).alloc (.cells #[.int .u8 3] 5))).cell? ((⟨w.heap.size + 1, 0, none⟩ : Addr).add j) = some u) := Lib.hid (by rw [← hsz]; exact lit_one _ _)
  clear h hsz S0
  go_enter Try.func34, Try.ntmps34
  go_upto_region 7 with fail
  refine wp_region_seq (Stay C w w.heap.size #[.int .i64 2, .bool b, .int .i64 n, .string s, .slice pl nl cl, .slice pk nk ck]) [0, 3, 4, 1, 2, 5, 6, 7] (by kernel_rfl) (by kernel_rfl) (by kernel_rfl) (by kernel_rfl) HS0.out ?_
  refine seqS_take (o := _) v (by conv => lhs; simp only [List.getElem?_toArray, List.getElem?_cons_succ, List.getElem?_cons_zero]) (by rfl) (by rfl) ?_ (fun _ => by rfl) (by conv => lhs; simp only [Act.put, List.setIfInBounds_toArray, List.set_cons_succ, List.set_cons_zero]) ?_
  · intro w _; go_simp
  refine seqS_take (o := _) (.pointer (some ⟨w.heap.size, 2, none⟩)) (by conv => lhs; simp only [List.getElem?_toArray, List.getElem?_cons_succ, List.getElem?_cons_zero]) (by rfl) (by rfl) ?_ (fun _ => by rfl) (by conv => lhs; simp only [Act.put, List.setIfInBounds_toArray, List.set_cons_succ, List.set_cons_zero]) ?_
  · intro w _; go_simp
  refine seqS_take (o := _) (.int .i64 n) (by conv => lhs; simp only [List.getElem?_toArray, List.getElem?_cons_succ, List.getElem?_cons_zero]) (by rfl) (by rfl) ?_ (fun _ => by rfl) (by conv => lhs; simp only [Act.put, List.setIfInBounds_toArray, List.set_cons_succ, List.set_cons_zero]) ?_
  · rintro w' t0; obtain ⟨c0, c1, c2, c3, c4, c5⟩ := t0.box.cell; clear t0; go_simp
  refine seqS_do (o := _) (.slice (some ⟨w.heap.size + 1, 0, none⟩) 1 1) rfl (by conv => lhs; simp only [List.getElem?_toArray, List.getElem?_cons_succ, List.getElem?_cons_zero]) (by rfl) (by rfl) ?_ (by conv => lhs; simp only [Act.put, List.setIfInBounds_toArray, List.set_cons_succ, List.set_cons_zero]) HS1.out ?_
  · go_simp
  refine seqS_append (o := _) rfl (by conv => lhs; simp only [List.getElem?_toArray, List.getElem?_cons_succ, List.getElem?_cons_zero]) rfl (.tmp 19) (.tmp 20) 27 rfl C 5 i0 (.int .u8 0) 1 1 Try.underlying27 hi0 hz0 hz1 hz2 rfl (by decide) v bs.length (Lib.byteCells bs) rfl S1.out.buf ⟨w.heap.size + 1, 0, none⟩ 1 1 [.int .u8 3] rfl rfl HLIT.out (one_one _) (by omega) (by unfold maxLen; omega) (by omega) (S1.out.hC hC) (fun g cap w2 ho hg => ?_)
  have S2 := S1.out.byte (c := 3) hC ho hg
  have T2 := HS1.out.of ((Sk.start S1.out.buf).byte (c := 3) HC1.out ho hg)
  clear ho hg
  refine ⟨_, (by conv => lhs; simp only [Act.put, List.setIfInBounds_toArray, List.set_cons_succ, List.set_cons_zero]), T2, ?_⟩
  refine seqS_call (o := _) rfl (by conv => lhs; simp only [List.getElem?_toArray, List.getElem?_cons_succ, List.getElem?_cons_zero]) (by rfl) (by rfl) ?_ (fold_any n hN w2) ?_
  · go_simp
  rintro e w3 ⟨rfl, rfl⟩
  refine ⟨_, _, rfl, (by conv => lhs; simp only [Act.put, List.setIfInBounds_toArray, List.set_cons_succ, List.set_cons_zero]), T2, ?_⟩
  refine seqS_call (o := _) rfl (by conv => lhs; simp only [List.getElem?_toArray, List.getElem?_cons_succ, List.getElem?_cons_zero]) (by rfl) (by rfl) ?_ (putNumber_any C _ (bs ++ [3]) (foldN n) _ S2.buf (S2.hC hC) (by simp; omega) (foldN_le hN)) ?_
  · go_simp
  rintro e w3 ⟨u3, rfl, S3⟩
  refine ⟨_, _, rfl, (by conv => lhs; simp only [Act.put, List.setIfInBounds_toArray, List.set_cons_succ, List.set_cons_zero]), T2.of S3, ?_⟩
  refine seqS_take (o := _) u3 (by conv => lhs; simp only [List.getElem?_toArray, List.getElem?_cons_succ, List.getElem?_cons_zero]) (by rfl) (by rfl) ?_ (fun _ => by rfl) (by conv => lhs; simp only [Act.put, List.setIfInBounds_toArray, List.set_cons_succ, List.set_cons_zero]) ?_
  · intro w _; go_simp
  refine NoPanic.normal ?_
  go_wp2
  go_ret
  have hq := (S2.trans S3).post
  rw [List.append_assoc] at hq
  exact hq
set_option maxRecDepth 100000 in
set_option maxHeartbeats 2000000 in
theorem put_str (C : Nat) (v : Value) (bs : List UInt8) (b : Bool) (n : Int) (s : ByteArray) (pl pk : Option Addr) (nl cl nk ck : Nat) (w : World) (h : Buf C w v bs) (hC : C ≤ w.heap.size) (hlen : bs.length + s.size + 40 ≤ 35184372088872) :
    Calls Try.prog 34 #[v, .agg #[.int .i64 3, .bool b, .int .i64 n, .string s, .slice pl nl cl, .slice pk nk ck]] w fun e w' => RkPost C w (bs ++ (4 :: textB s)) e w' := by
  obtain ⟨i0, hi0, hz0, hz1, hz2⟩ := info_parts infoB
  have S0 := startA h hC (.cells #[.int .i64 3, .bool b, .int .i64 n, .string s, .slice pl nl cl, .slice pk nk ck] 25)
  have HC1 : Hid (C ≤ (((w.alloc (.cells #[.int .i64 3, .bool b, .int .i64 n, .string s, .slice pl nl cl, .slice pk nk ck] 25)).drew).alloc (.cells #[.int .u8 4] 5)).heap.size) := Lib.hid (by show C ≤ ((w.alloc _).alloc _).heap.size; simp; omega)
  have S1 := Lib.hid ((S0.drew hC).alloc hC (.cells #[.int .u8 4] 5))
  have HS0 : Hid (Stay C w w.heap.size #[.int .i64 3, .bool b, .int .i64 n, .string s, .slice pl nl cl, .slice pk nk ck] (w.alloc (.cells #[.int .i64 3, .bool b, .int .i64 n, .string s, .slice pl nl cl, .slice pk nk ck] 25)).drew) := Lib.hid ⟨Box.new w _, (S0.drew hC).low⟩
  have HS1 : Hid (Stay C w w.heap.size #[.int .i64 3, .bool b, .int .i64 n, .string s, .slice pl nl cl, .slice pk nk ck] (((w.alloc (.cells #[.int .i64 3, .bool b, .int .i64 n, .string s, .slice pl nl cl, .slice pk nk ck] 25)).drew).alloc (.cells #[.int .u8 4] 5))) := Lib.hid ⟨(Box.new w _).alloc _, S1.out.low⟩
  have hsz : ((w.alloc (.cells #[.int .i64 3, .bool b, .int .i64 n, .string s, .slice pl nl cl, .slice pk nk ck] 25)).drew).heap.size = w.heap.size + 1 := by show (w.alloc _).heap.size = _; simp
  have HLIT : Hid (∀ j u, ([.int .u8 4] : List Value)[j]? = some u → ((((w.alloc (.cells #[.int .i64 3, .bool b, .int .i64 n, .string s, .slice pl nl cl, .slice pk nk ck] 25)).drew).alloc (.cells #[.int .u8 4] 5))).cell? ((⟨w.heap.size + 1, 0, none⟩ : Addr).add j) = some u) := Lib.hid (by rw [← hsz]; exact lit_one _ _)
  clear h hsz S0
  go_enter Try.func34, Try.ntmps34
  go_upto_region 9 with fail
  refine wp_region_seq (Stay C w w.heap.size #[.int .i64 3, .bool b, .int .i64 n, .string s, .slice pl nl cl, .slice pk nk ck]) [0, 3, 4, 1, 2, 5, 6] (by kernel_rfl) (by kernel_rfl) (by kernel_rfl) (by kernel_rfl) HS0.out ?_
  refine seqS_take (o := _) v (by conv => lhs; simp only [List.getElem?_toArray, List.getElem?_cons_succ, List.getElem?_cons_zero]) (by rfl) (by rfl) ?_ (fun _ => by rfl) (by conv => lhs; simp only [Act.put, List.setIfInBounds_toArray, List.set_cons_succ, List.set_cons_zero]) ?_
  · intro w _; go_simp
  refine seqS_take (o := _) (.pointer (some ⟨w.heap.size, 3, none⟩)) (by conv => lhs; simp only [List.getElem?_toArray, List.getElem?_cons_succ, List.getElem?_cons_zero]) (by rfl) (by rfl) ?_ (fun _ => by rfl) (by conv => lhs; simp only [Act.put, List.setIfInBounds_toArray, List.set_cons_succ, List.set_cons_zero]) ?_
  · intro w _; go_simp
  refine seqS_take (o := _) (.string s) (by conv => lhs; simp only [List.getElem?_toArray, List.getElem?_cons_succ, List.getElem?_cons_zero]) (by rfl) (by rfl) ?_ (fun _ => by rfl) (by conv => lhs; simp only [Act.put, List.setIfInBounds_toArray, List.set_cons_succ, List.set_cons_zero]) ?_
  · rintro w' t0; obtain ⟨c0, c1, c2, c3, c4, c5⟩ := t0.box.cell; clear t0; go_simp
  refine seqS_do (o := _) (.slice (some ⟨w.heap.size + 1, 0, none⟩) 1 1) rfl (by conv => lhs; simp only [List.getElem?_toArray, List.getElem?_cons_succ, List.getElem?_cons_zero]) (by rfl) (by rfl) ?_ (by conv => lhs; simp only [Act.put, List.setIfInBounds_toArray, List.set_cons_succ, List.set_cons_zero]) HS1.out ?_
  · go_simp
  refine seqS_append (o := _) rfl (by conv => lhs; simp only [List.getElem?_toArray, List.getElem?_cons_succ, List.getElem?_cons_zero]) rfl (.tmp 28) (.tmp 29) 27 rfl C 5 i0 (.int .u8 0) 1 1 Try.underlying27 hi0 hz0 hz1 hz2 rfl (by decide) v bs.length (Lib.byteCells bs) rfl S1.out.buf ⟨w.heap.size + 1, 0, none⟩ 1 1 [.int .u8 4] rfl rfl HLIT.out (one_one _) (by omega) (by unfold maxLen; omega) (by omega) (S1.out.hC hC) (fun g cap w2 ho hg => ?_)
  have S2 := S1.out.byte (c := 4) hC ho hg
  have T2 := HS1.out.of ((Sk.start S1.out.buf).byte (c := 4) HC1.out ho hg)
  clear ho hg
  refine ⟨_, (by conv => lhs; simp only [Act.put, List.setIfInBounds_toArray, List.set_cons_succ, List.set_cons_zero]), T2, ?_⟩
  refine seqS_call (o := _) rfl (by conv => lhs; simp only [List.getElem?_toArray, List.getElem?_cons_succ, List.getElem?_cons_zero]) (by rfl) (by rfl) ?_ (putText_any C _ (bs ++ [4]) s _ S2.buf (S2.hC hC) (by simp; omega)) ?_
  · go_simp
  rintro e w3 ⟨u3, rfl, S3⟩
  refine ⟨_, _, rfl, (by conv => lhs; simp only [Act.put, List.setIfInBounds_toArray, List.set_cons_succ, List.set_cons_zero]), T2.of S3, ?_⟩
  refine seqS_take (o := _) u3 (by conv => lhs; simp only [List.getElem?_toArray, List.getElem?_cons_succ, List.getElem?_cons_zero]) (by rfl) (by rfl) ?_ (fun _ => by rfl) (by conv => lhs; simp only [Act.put, List.setIfInBounds_toArray, List.set_cons_succ, List.set_cons_zero]) ?_
  · intro w _; go_simp
  refine NoPanic.normal ?_
  go_wp2
  go_ret
  have hq := (S2.trans S3).post
  rw [List.append_assoc] at hq
  exact hq
set_option maxRecDepth 100000 in
set_option maxHeartbeats 2000000 in
theorem put_list (C : Nat) (v : Value) (bs : List UInt8) (b : Bool) (n : Int) (s : ByteArray) (pl pk : Option Addr) (nl cl nk ck : Nat) (w : World) (h : Buf C w v bs) (hC : C ≤ w.heap.size) (hlen : bs.length + 40 ≤ 35184372088872) (P : List UInt8) (HP : Hid (∀ (V : World) (u : Value), Stay C w w.heap.size #[.int .i64 4, .bool b, .int .i64 n, .string s, .slice pl nl cl, .slice pk nk ck] V → Sk C w V u (bs ++ [5]) → Calls Try.prog 57 #[u, .slice pl nl cl] V fun e w' => RkPost C V (bs ++ [5] ++ P) e w')) :
    Calls Try.prog 34 #[v, .agg #[.int .i64 4, .bool b, .int .i64 n, .string s, .slice pl nl cl, .slice pk nk ck]] w fun e w' => RkPost C w (bs ++ (5 :: P)) e w' := by
  obtain ⟨i0, hi0, hz0, hz1, hz2⟩ := info_parts infoB
  have S0 := startA h hC (.cells #[.int .i64 4, .bool b, .int .i64 n, .string s, .slice pl nl cl, .slice pk nk ck] 25)
  have HC1 : Hid (C ≤ (((w.alloc (.cells #[.int .i64 4, .bool b, .int .i64 n, .string s, .slice pl nl cl, .slice pk nk ck] 25)).drew).alloc (.cells #[.int .u8 5] 5)).heap.size) := Lib.hid (by show C ≤ ((w.alloc _).alloc _).heap.size; simp; omega)
  have S1 := Lib.hid ((S0.drew hC).alloc hC (.cells #[.int .u8 5] 5))
  have HS0 : Hid (Stay C w w.heap.size #[.int .i64 4, .bool b, .int .i64 n, .string s, .slice pl nl cl, .slice pk nk ck] (w.alloc (.cells #[.int .i64 4, .bool b, .int .i64 n, .string s, .slice pl nl cl, .slice pk nk ck] 25)).drew) := Lib.hid ⟨Box.new w _, (S0.drew hC).low⟩
  have HS1 : Hid (Stay C w w.heap.size #[.int .i64 4, .bool b, .int .i64 n, .string s, .slice pl nl cl, .slice pk nk ck] (((w.alloc (.cells #[.int .i64 4, .bool b, .int .i64 n, .string s, .slice pl nl cl, .slice pk nk ck] 25)).drew).alloc (.cells #[.int .u8 5] 5))) := Lib.hid ⟨(Box.new w _).alloc _, S1.out.low⟩
  have hsz : ((w.alloc (.cells #[.int .i64 4, .bool b, .int .i64 n, .string s, .slice pl nl cl, .slice pk nk ck] 25)).drew).heap.size = w.heap.size + 1 := by show (w.alloc _).heap.size = _; simp
  have HLIT : Hid (∀ j u, ([.int .u8 5] : List Value)[j]? = some u → ((((w.alloc (.cells #[.int .i64 4, .bool b, .int .i64 n, .string s, .slice pl nl cl, .slice pk nk ck] 25)).drew).alloc (.cells #[.int .u8 5] 5))).cell? ((⟨w.heap.size + 1, 0, none⟩ : Addr).add j) = some u) := Lib.hid (by rw [← hsz]; exact lit_one _ _)
  clear h hsz S0
  go_enter Try.func34, Try.ntmps34
  go_upto_region 11 with fail
  refine wp_region_seq (Stay C w w.heap.size #[.int .i64 4, .bool b, .int .i64 n, .string s, .slice pl nl cl, .slice pk nk ck]) [0, 3, 4, 1, 2, 5, 6] (by kernel_rfl) (by kernel_rfl) (by kernel_rfl) (by kernel_rfl) HS0.out ?_
  refine seqS_take (o := _) v (by conv => lhs; simp only [List.getElem?_toArray, List.getElem?_cons_succ, List.getElem?_cons_zero]) (by rfl) (by rfl) ?_ (fun _ => by rfl) (by conv => lhs; simp only [Act.put, List.setIfInBounds_toArray, List.set_cons_succ, List.set_cons_zero]) ?_
  · intro w _; go_simp
  refine seqS_take (o := _) (.pointer (some ⟨w.heap.size, 4, none⟩)) (by conv => lhs; simp only [List.getElem?_toArray, List.getElem?_cons_succ, List.getElem?_cons_zero]) (by rfl) (by rfl) ?_ (fun _ => by rfl) (by conv => lhs; simp only [Act.put, List.setIfInBounds_toArray, List.set_cons_succ, List.set_cons_zero]) ?_
  · intro w _; go_simp
  refine seqS_take (o := _) (.slice pl nl cl) (by conv => lhs; simp only [List.getElem?_toArray, List.getElem?_cons_succ, List.getElem?_cons_zero]) (by rfl) (by rfl) ?_ (fun _ => by rfl) (by conv => lhs; simp only [Act.put, List.setIfInBounds_toArray, List.set_cons_succ, List.set_cons_zero]) ?_
  · rintro w' t0; obtain ⟨c0, c1, c2, c3, c4, c5⟩ := t0.box.cell; clear t0; go_simp
  refine seqS_do (o := _) (.slice (some ⟨w.heap.size + 1, 0, none⟩) 1 1) rfl (by conv => lhs; simp only [List.getElem?_toArray, List.getElem?_cons_succ, List.getElem?_cons_zero]) (by rfl) (by rfl) ?_ (by conv => lhs; simp only [Act.put, List.setIfInBounds_toArray, List.set_cons_succ, List.set_cons_zero]) HS1.out ?_
  · go_simp
  refine seqS_append (o := _) rfl (by conv => lhs; simp only [List.getElem?_toArray, List.getElem?_cons_succ, List.getElem?_cons_zero]) rfl (.tmp 36) (.tmp 37) 27 rfl C 5 i0 (.int .u8 0) 1 1 Try.underlying27 hi0 hz0 hz1 hz2 rfl (by decide) v bs.length (Lib.byteCells bs) rfl S1.out.buf ⟨w.heap.size + 1, 0, none⟩ 1 1 [.int .u8 5] rfl rfl HLIT.out (one_one _) (by omega) (by unfold maxLen; omega) (by omega) (S1.out.hC hC) (fun g cap w2 ho hg => ?_)
  have S2 := S1.out.byte (c := 5) hC ho hg
  have T2 := HS1.out.of ((Sk.start S1.out.buf).byte (c := 5) HC1.out ho hg)
  clear ho hg
  refine ⟨_, (by conv => lhs; simp only [Act.put, List.setIfInBounds_toArray, List.set_cons_succ, List.set_cons_zero]), T2, ?_⟩
  refine seqS_call (o := _) rfl (by conv => lhs; simp only [List.getElem?_toArray, List.getElem?_cons_succ, List.getElem?_cons_zero]) (by rfl) (by rfl) ?_ (HP.out _ _ T2 S2) ?_
  · go_simp
  rintro e w3 ⟨u3, rfl, S3⟩
  refine ⟨_, _, rfl, (by conv => lhs; simp only [Act.put, List.setIfInBounds_toArray, List.set_cons_succ, List.set_cons_zero]), T2.of S3, ?_⟩
  refine seqS_take (o := _) u3 (by conv => lhs; simp only [List.getElem?_toArray, List.getElem?_cons_succ, List.getElem?_cons_zero]) (by rfl) (by rfl) ?_ (fun _ => by rfl) (by conv => lhs; simp only [Act.put, List.setIfInBounds_toArray, List.set_cons_succ, List.set_cons_zero]) ?_
  · intro w _; go_simp
  refine NoPanic.normal ?_
  go_wp2
  go_ret
  have hq := (S2.trans S3).post
  rw [List.append_assoc] at hq
  exact hq
set_option maxRecDepth 100000 in
set_option maxHeartbeats 2000000 in
theorem put_map (C : Nat) (v : Value) (bs : List UInt8) (b : Bool) (n : Int) (s : ByteArray) (pl pk : Option Addr) (nl cl nk ck : Nat) (w : World) (h : Buf C w v bs) (hC : C ≤ w.heap.size) (hlen : bs.length + 40 ≤ 35184372088872) (P : List UInt8) (HP : Hid (∀ (V : World) (u : Value), Stay C w w.heap.size #[.int .i64 5, .bool b, .int .i64 n, .string s, .slice pl nl cl, .slice pk nk ck] V → Sk C w V u (bs ++ [6]) → Calls Try.prog 58 #[u, .agg #[.int .i64 5, .bool b, .int .i64 n, .string s, .slice pl nl cl, .slice pk nk ck]] V fun e w' => RkPost C V (bs ++ [6] ++ P) e w')) :
    Calls Try.prog 34 #[v, .agg #[.int .i64 5, .bool b, .int .i64 n, .string s, .slice pl nl cl, .slice pk nk ck]] w fun e w' => RkPost C w (bs ++ (6 :: P)) e w' := by
  obtain ⟨i0, hi0, hz0, hz1, hz2⟩ := info_parts infoB
  have S0 := startA h hC (.cells #[.int .i64 5, .bool b, .int .i64 n, .string s, .slice pl nl cl, .slice pk nk ck] 25)
  have HC1 : Hid (C ≤ (((w.alloc (.cells #[.int .i64 5, .bool b, .int .i64 n, .string s, .slice pl nl cl, .slice pk nk ck] 25)).drew).alloc (.cells #[.int .u8 6] 5)).heap.size) := Lib.hid (by show C ≤ ((w.alloc _).alloc _).heap.size; simp; omega)
  have S1 := Lib.hid ((S0.drew hC).alloc hC (.cells #[.int .u8 6] 5))
  have HS0 : Hid (Stay C w w.heap.size #[.int .i64 5, .bool b, .int .i64 n, .string s, .slice pl nl cl, .slice pk nk ck] (w.alloc (.cells #[.int .i64 5, .bool b, .int .i64 n, .string s, .slice pl nl cl, .slice pk nk ck] 25)).drew) := Lib.hid ⟨Box.new w _, (S0.drew hC).low⟩
  have HS1 : Hid (Stay C w w.heap.size #[.int .i64 5, .bool b, .int .i64 n, .string s, .slice pl nl cl, .slice pk nk ck] (((w.alloc (.cells #[.int .i64 5, .bool b, .int .i64 n, .string s, .slice pl nl cl, .slice pk nk ck] 25)).drew).alloc (.cells #[.int .u8 6] 5))) := Lib.hid ⟨(Box.new w _).alloc _, S1.out.low⟩
  have hsz : ((w.alloc (.cells #[.int .i64 5, .bool b, .int .i64 n, .string s, .slice pl nl cl, .slice pk nk ck] 25)).drew).heap.size = w.heap.size + 1 := by show (w.alloc _).heap.size = _; simp
  have HLIT : Hid (∀ j u, ([.int .u8 6] : List Value)[j]? = some u → ((((w.alloc (.cells #[.int .i64 5, .bool b, .int .i64 n, .string s, .slice pl nl cl, .slice pk nk ck] 25)).drew).alloc (.cells #[.int .u8 6] 5))).cell? ((⟨w.heap.size + 1, 0, none⟩ : Addr).add j) = some u) := Lib.hid (by rw [← hsz]; exact lit_one _ _)
  clear h hsz S0
  go_enter Try.func34, Try.ntmps34
  go_upto_region 13 with fail
  refine wp_region_seq (Stay C w w.heap.size #[.int .i64 5, .bool b, .int .i64 n, .string s, .slice pl nl cl, .slice pk nk ck]) [0, 3, 1, 2, 4, 5] (by kernel_rfl) (by kernel_rfl) (by kernel_rfl) (by kernel_rfl) HS0.out ?_
  refine seqS_take (o := _) v (by conv => lhs; simp only [List.getElem?_toArray, List.getElem?_cons_succ, List.getElem?_cons_zero]) (by rfl) (by rfl) ?_ (fun _ => by rfl) (by conv => lhs; simp only [Act.put, List.setIfInBounds_toArray, List.set_cons_succ, List.set_cons_zero]) ?_
  · intro w _; go_simp
  refine seqS_take (o := _) (.agg #[.int .i64 5, .bool b, .int .i64 n, .string s, .slice pl nl cl, .slice pk nk ck]) (by conv => lhs; simp only [List.getElem?_toArray, List.getElem?_cons_succ, List.getElem?_cons_zero]) (by rfl) (by rfl) ?_ (fun _ => by rfl) (by conv => lhs; simp only [Act.put, List.setIfInBounds_toArray, List.set_cons_succ, List.set_cons_zero]) ?_
  · rintro w' t0; obtain ⟨c0, c1, c2, c3, c4, c5⟩ := t0.box.cell; clear t0; go_simp
  refine seqS_do (o := _) (.slice (some ⟨w.heap.size + 1, 0, none⟩) 1 1) rfl (by conv => lhs; simp only [List.getElem?_toArray, List.getElem?_cons_succ, List.getElem?_cons_zero]) (by rfl) (by rfl) ?_ (by conv => lhs; simp only [Act.put, List.setIfInBounds_toArray, List.set_cons_succ, List.set_cons_zero]) HS1.out ?_
  · go_simp
  refine seqS_append (o := _) rfl (by conv => lhs; simp only [List.getElem?_toArray, List.getElem?_cons_succ, List.getElem?_cons_zero]) rfl (.tmp 44) (.tmp 45) 27 rfl C 5 i0 (.int .u8 0) 1 1 Try.underlying27 hi0 hz0 hz1 hz2 rfl (by decide) v bs.length (Lib.byteCells bs) rfl S1.out.buf ⟨w.heap.size + 1, 0, none⟩ 1 1 [.int .u8 6] rfl rfl HLIT.out (one_one _) (by omega) (by unfold maxLen; omega) (by omega) (S1.out.hC hC) (fun g cap w2 ho hg => ?_)
  have S2 := S1.out.byte (c := 6) hC ho hg
  have T2 := HS1.out.of ((Sk.start S1.out.buf).byte (c := 6) HC1.out ho hg)
  clear ho hg
  refine ⟨_, (by conv => lhs; simp only [Act.put, List.setIfInBounds_toArray, List.set_cons_succ, List.set_cons_zero]), T2, ?_⟩
  refine seqS_call (o := _) rfl (by conv => lhs; simp only [List.getElem?_toArray, List.getElem?_cons_succ, List.getElem?_cons_zero]) (by rfl) (by rfl) ?_ (HP.out _ _ T2 S2) ?_
  · go_simp
  rintro e w3 ⟨u3, rfl, S3⟩
  refine ⟨_, _, rfl, (by conv => lhs; simp only [Act.put, List.setIfInBounds_toArray, List.set_cons_succ, List.set_cons_zero]), T2.of S3, ?_⟩
  refine seqS_take (o := _) u3 (by conv => lhs; simp only [List.getElem?_toArray, List.getElem?_cons_succ, List.getElem?_cons_zero]) (by rfl) (by rfl) ?_ (fun _ => by rfl) (by conv => lhs; simp only [Act.put, List.setIfInBounds_toArray, List.set_cons_succ, List.set_cons_zero]) ?_
  · intro w _; go_simp
  refine NoPanic.normal ?_
  go_wp2
  go_ret
  have hq := (S2.trans S3).post
  rw [List.append_assoc] at hq
  exact hq
set_option maxRecDepth 100000 in
theorem put_null (C : Nat) (v : Value) (bs : List UInt8) (b : Bool) (n : Int) (s : ByteArray) (pl pk : Option Addr) (nl cl nk ck : Nat) (w : World) (h : Buf C w v bs) (hC : C ≤ w.heap.size) (hlen : bs.length + 40 ≤ 35184372088872) :
    Calls Try.prog 34 #[v, .agg #[.int .i64 0, .bool b, .int .i64 n, .string s, .slice pl nl cl, .slice pk nk ck]] w fun e w' => RkPost C w (bs ++ [0]) e w' := by
  obtain ⟨i0, hi0, hz0, hz1, hz2⟩ := info_parts infoB
  have S0 := Lib.hid (startA h hC (.cells #[.int .i64 0, .bool b, .int .i64 n, .string s, .slice pl nl cl, .slice pk nk ck] 25))
  have HC1 : Hid (C ≤ ((w.alloc (.cells #[.int .i64 0, .bool b, .int .i64 n, .string s, .slice pl nl cl, .slice pk nk ck] 25)).alloc (.cells #[.int .u8 0] 5)).heap.size) := Lib.hid (by simp; omega)
  have hsz : (w.alloc (.cells #[.int .i64 0, .bool b, .int .i64 n, .string s, .slice pl nl cl, .slice pk nk ck] 25)).heap.size = w.heap.size + 1 := by simp
  have HLIT : Hid (∀ j u, ([.int .u8 0] : List Value)[j]? = some u → (((w.alloc (.cells #[.int .i64 0, .bool b, .int .i64 n, .string s, .slice pl nl cl, .slice pk nk ck] 25)).alloc (.cells #[.int .u8 0] 5))).cell? ((⟨w.heap.size + 1, 0, none⟩ : Addr).add j) = some u) := Lib.hid (by rw [← hsz]; exact lit_one _ _)
  clear h hsz
  go_enter Try.func34, Try.ntmps34
  go_wp2_with (at_builtin; go_loud (refine wpList_append_lies _ rfl _ _ 27 rfl C 5 i0 (.int .u8 0) 1 1 Try.underlying27 hi0 hz0 hz1 hz2 rfl (by decide) _ bs.length (Lib.byteCells bs) rfl (S0.out.alloc hC _).buf ⟨w.heap.size + 1, 0, none⟩ 1 1 [.int .u8 0] rfl rfl HLIT.out (one_one _) (by omega) (by unfold maxLen; omega) (by omega) HC1.out _ rfl (fun g cap w2 ho hg _ _ => ?_)))
  go_ret
  exact ((S0.out.alloc hC _).byte (c := 0) hC ho hg).post
set_option maxRecDepth 100000 in
theorem put_true (C : Nat) (v : Value) (bs : List UInt8) (n : Int) (s : ByteArray) (pl pk : Option Addr) (nl cl nk ck : Nat) (w : World) (h : Buf C w v bs) (hC : C ≤ w.heap.size) (hlen : bs.length + 40 ≤ 35184372088872) :
    Calls Try.prog 34 #[v, .agg #[.int .i64 1, .bool true, .int .i64 n, .string s, .slice pl nl cl, .slice pk nk ck]] w fun e w' => RkPost C w (bs ++ [2]) e w' := by
  obtain ⟨i0, hi0, hz0, hz1, hz2⟩ := info_parts infoB
  have S0 := Lib.hid (startA h hC (.cells #[.int .i64 1, .bool true, .int .i64 n, .string s, .slice pl nl cl, .slice pk nk ck] 25))
  have HC1 : Hid (C ≤ ((w.alloc (.cells #[.int .i64 1, .bool true, .int .i64 n, .string s, .slice pl nl cl, .slice pk nk ck] 25)).alloc (.cells #[.int .u8 2] 5)).heap.size) := Lib.hid (by simp; omega)
  have hsz : (w.alloc (.cells #[.int .i64 1, .bool true, .int .i64 n, .string s, .slice pl nl cl, .slice pk nk ck] 25)).heap.size = w.heap.size + 1 := by simp
  have HLIT : Hid (∀ j u, ([.int .u8 2] : List Value)[j]? = some u → (((w.alloc (.cells #[.int .i64 1, .bool true, .int .i64 n, .string s, .slice pl nl cl, .slice pk nk ck] 25)).alloc (.cells #[.int .u8 2] 5))).cell? ((⟨w.heap.size + 1, 0, none⟩ : Addr).add j) = some u) := Lib.hid (by rw [← hsz]; exact lit_one _ _)
  clear h hsz
  go_enter Try.func34, Try.ntmps34
  go_wp2_with (at_builtin; go_loud (refine wpList_append_lies _ rfl _ _ 27 rfl C 5 i0 (.int .u8 0) 1 1 Try.underlying27 hi0 hz0 hz1 hz2 rfl (by decide) _ bs.length (Lib.byteCells bs) rfl (S0.out.alloc hC _).buf ⟨w.heap.size + 1, 0, none⟩ 1 1 [.int .u8 2] rfl rfl HLIT.out (one_one _) (by omega) (by unfold maxLen; omega) (by omega) HC1.out _ rfl (fun g cap w2 ho hg _ _ => ?_)))
  go_ret
  exact ((S0.out.alloc hC _).byte (c := 2) hC ho hg).post
set_option maxRecDepth 100000 in
theorem put_false (C : Nat) (v : Value) (bs : List UInt8) (n : Int) (s : ByteArray) (pl pk : Option Addr) (nl cl nk ck : Nat) (w : World) (h : Buf C w v bs) (hC : C ≤ w.heap.size) (hlen : bs.length + 40 ≤ 35184372088872) :
    Calls Try.prog 34 #[v, .agg #[.int .i64 1, .bool false, .int .i64 n, .string s, .slice pl nl cl, .slice pk nk ck]] w fun e w' => RkPost C w (bs ++ [1]) e w' := by
  obtain ⟨i0, hi0, hz0, hz1, hz2⟩ := info_parts infoB
  have S0 := Lib.hid (startA h hC (.cells #[.int .i64 1, .bool false, .int .i64 n, .string s, .slice pl nl cl, .slice pk nk ck] 25))
  have HC1 : Hid (C ≤ ((w.alloc (.cells #[.int .i64 1, .bool false, .int .i64 n, .string s, .slice pl nl cl, .slice pk nk ck] 25)).alloc (.cells #[.int .u8 1] 5)).heap.size) := Lib.hid (by simp; omega)
  have hsz : (w.alloc (.cells #[.int .i64 1, .bool false, .int .i64 n, .string s, .slice pl nl cl, .slice pk nk ck] 25)).heap.size = w.heap.size + 1 := by simp
  have HLIT : Hid (∀ j u, ([.int .u8 1] : List Value)[j]? = some u → (((w.alloc (.cells #[.int .i64 1, .bool false, .int .i64 n, .string s, .slice pl nl cl, .slice pk nk ck] 25)).alloc (.cells #[.int .u8 1] 5))).cell? ((⟨w.heap.size + 1, 0, none⟩ : Addr).add j) = some u) := Lib.hid (by rw [← hsz]; exact lit_one _ _)
  clear h hsz
  go_enter Try.func34, Try.ntmps34
  go_wp2_with (at_builtin; go_loud (refine wpList_append_lies _ rfl _ _ 27 rfl C 5 i0 (.int .u8 0) 1 1 Try.underlying27 hi0 hz0 hz1 hz2 rfl (by decide) _ bs.length (Lib.byteCells bs) rfl (S0.out.alloc hC _).buf ⟨w.heap.size + 1, 0, none⟩ 1 1 [.int .u8 1] rfl rfl HLIT.out (one_one _) (by omega) (by unfold maxLen; omega) (by omega) HC1.out _ rfl (fun g cap w2 ho hg _ _ => ?_)))
  go_ret
  exact ((S0.out.alloc hC _).byte (c := 1) hC ho hg).post
end Pk
end Go.Proofs.Ytmhlipncelgmlaa
