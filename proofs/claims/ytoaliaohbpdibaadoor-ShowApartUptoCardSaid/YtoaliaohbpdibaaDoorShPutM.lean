/- Show: a map's text is written behind. -/
import Derived.Test.YtoaliaohbpdibaaDoorShPutK
namespace Go.Proofs.YtoaliaohbpdibaaDoor
open Go.RowKit
set_option linter.unusedVariables false
set_option linter.unusedSimpArgs false
namespace Sh
open Val (VT Keeps Box okN okNL szV szL szK)
theorem guard_op2 {P : Program} {ops : Array Oper} {o : Oper} {a : Act} {w : World} {K : Act → World → Prop} {Q : Exit → Act → World → Prop} {E : Prop} (s x : Operand) (t : TypeId) (ho : o.op = .call { callee := .builtin .append, args := #[s, x], argTypes := #[t, t] }) (h : if Region.wanted o (yielded ops a.tmps) = true then Oper.wp P o a w K Q else E) : if Region.wanted o (yielded ops a.tmps) = true then Oper.wp P o a w K Q else E := h
set_option maxRecDepth 100000 in
set_option maxHeartbeats 8000000 in
theorem put_map (C : Nat) (v : Value) (bs P : List UInt8) (b : Bool) (n : Int) (s : ByteArray) (pl pk : Option Addr) (nl cl nk ck : Nat) (w : World) (h : Buf C w v bs) (hC : C ≤ w.heap.size) (hlen : bs.length + (P.length + 2) ≤ 70368744177664)
    (HP : Hid (∀ (V : World) (u : Value), St C w #[.int .i64 5, .bool b, .int .i64 n, .string s, .slice pl nl cl, .slice pk nk ck] v bs.length V u (bs ++ [123]) → Calls Tryd.prog 48 #[u, .agg #[.int .i64 5, .bool b, .int .i64 n, .string s, .slice pl nl cl, .slice pk nk ck]] V fun e w' => RowPost C V u (bs ++ [123]).length (bs ++ [123] ++ P) e w')) :
    Calls Tryd.prog 34 #[v, .agg #[.int .i64 5, .bool b, .int .i64 n, .string s, .slice pl nl cl, .slice pk nk ck]] w fun e w' => RowPost C w v bs.length (bs ++ (123 :: (P ++ [125]))) e w' := by
  obtain ⟨i0, hi0, hz0, hz1, hz2⟩ := info_parts infoB
  rw [show bs ++ (123 :: (P ++ [125])) = bs ++ [123] ++ P ++ [125] by simp]
  have S0 := Lib.hid (St.start (cs := #[.int .i64 5, .bool b, .int .i64 n, .string s, .slice pl nl cl, .slice pk nk ck]) h hC rfl)
  have HM : Hid (bs.length + 1 ≤ maxLen) := Lib.hid (by unfold maxLen; omega)
  have HL : Hid ((bs.length + 1) * 1 ≤ 140737488355328) := Lib.hid (by omega)
  have hl2 : (bs ++ [123] ++ P).length = bs.length + 1 + P.length := by simp; omega
  have HM2 : Hid ((bs ++ [123] ++ P).length + 1 ≤ maxLen) := Lib.hid (by unfold maxLen; omega)
  have HL2 : Hid (((bs ++ [123] ++ P).length + 1) * 1 ≤ 140737488355328) := Lib.hid (by omega)
  have HE2 : Hid ((bs ++ [123] ++ P).length + 1 = bs.length + (P.length + 1) + 1) := Lib.hid (by omega)
  clear h hlen hl2
  go_enter Tryd.func34, Tryd.ntmps34
  go_upto_region 13 with fail
  have hb0 := S0.out.box.cell
  obtain ⟨c0, c1, c2, c3, c4, c5⟩ := hb0
  have hbl : w.heap.size < (w.alloc (.cells #[.int .i64 5, .bool b, .int .i64 n, .string s, .slice pl nl cl, .slice pk nk ck] 31)).heap.size := S0.out.box.lt
  generalize w.alloc (.cells #[.int .i64 5, .bool b, .int .i64 n, .string s, .slice pl nl cl, .slice pk nk ck] 31) = V0 at *
  have S := S0
  have HCV : Hid (C ≤ V0.heap.size) := Lib.hid (S.out.hC hC)
  clear S0
  have hbn : ¬ w.heap.size = V0.heap.size := Nat.ne_of_lt hbl
  go_region_law (first | (refine guard_op2 (.tmp 41) (.tmp 42) 36 rfl ?_; refine step_append_lies _ rfl (.tmp 41) (.tmp 42) 36 rfl C 5 i0 (.int .u8 0) 1 1 Tryd.underlying36 hi0 hz0 hz1 hz2 rfl (by decide) v bs.length (Lib.byteCells bs) rfl (St.buf (w := w) (cs := #[.int .i64 5, .bool b, .int .i64 n, .string s, .slice pl nl cl, .slice pk nk ck]) (b0 := v) (n := bs.length) (by repeat (first | exact S.out | refine St.drew ?_ hC | refine St.alloc ?_ hC _))) ⟨_, 0, none⟩ 1 1 [.int .u8 123] rfl rfl (lit_of (by repeat (first | exact one_new _ (by simp; done) | refine one_drew ?_ | refine one_alloc ?_ _))) one_one Nat.one_pos HM.out HL.out (by first | exact HCV.out | (have := HCV.out; simp; omega)) _ rfl (fun g cap w4 ho hg hx3 hx4 => ?_); have S4 := Lib.hid (St.byte (c := 123) (w := w) (cs := #[.int .i64 5, .bool b, .int .i64 n, .string s, .slice pl nl cl, .slice pk nk ck]) (b0 := v) (n := bs.length) (by repeat (first | exact S.out | refine St.drew ?_ hC | refine St.alloc ?_ hC _)) hC ho hg); have KD4 := Lib.hid (byte_keeps (m := bs.length + 1) (cap := cap) hg hx3); obtain ⟨d0, d1, d2, d3, d4, d5⟩ := S4.out.box.cell; have hb4 := S4.out.box.lt; have hb5 : ¬ w.heap.size = w4.heap.size := Nat.ne_of_lt hb4; clear ho hg hx3 hx4) | (refine guard_op2 (.tmp 45) (.tmp 46) 36 rfl ?_; refine step_append_lies _ rfl (.tmp 45) (.tmp 46) 36 rfl C 5 i0 (.int .u8 0) 1 1 Tryd.underlying36 hi0 hz0 hz1 hz2 rfl (by decide) u5 (List.length (α := UInt8) (bs ++ [123] ++ P)) (Lib.byteCells (bs ++ [123] ++ P)) rfl (St.buf (w := w) (cs := #[.int .i64 5, .bool b, .int .i64 n, .string s, .slice pl nl cl, .slice pk nk ck]) (b0 := v) (n := bs.length) (by first | exact S5.out | exact S5.out.alloc hC _)) ⟨_, 0, none⟩ 1 1 [.int .u8 125] rfl rfl (lit_of (by first | exact one_new _ (by simp; done) | exact KD5.out _ (.int .u8 125) (one_new _ (by simp; done)) (S4.out.buf.fresh (by simp; done)) | exact KD5.out _ (.int .u8 125) (KD4.out _ (.int .u8 125) (by repeat (first | exact one_new _ (by simp; done) | refine one_drew ?_ | refine one_alloc ?_ _)) (S.out.buf.fresh (by simp; done))).1 (KD4.out _ (.int .u8 125) (by repeat (first | exact one_new _ (by simp; done) | refine one_drew ?_ | refine one_alloc ?_ _)) (S.out.buf.fresh (by simp; done))).2)) one_one Nat.one_pos HM2.out HL2.out (St.hC (cs := #[.int .i64 5, .bool b, .int .i64 n, .string s, .slice pl nl cl, .slice pk nk ck]) (b0 := v) (n := bs.length) (u := u5) (acc := bs ++ [123] ++ P) (by first | exact S5.out | exact S5.out.alloc hC _) hC) _ rfl (fun g cap w6 ho hg hx3 hx4 => ?_); have S6 := Lib.hid (St.byte (c := 125) (w := w) (cs := #[.int .i64 5, .bool b, .int .i64 n, .string s, .slice pl nl cl, .slice pk nk ck]) (b0 := v) (n := bs.length) (by first | exact S5.out | exact S5.out.alloc hC _) hC ho hg); clear ho hg hx3 hx4) | (go_simp; (go_at_call 48; refine (HP.out _ _ (by first | exact S4.out | exact S4.out.alloc hC _)).mono ?_; rintro e w5 ⟨u5, rfl, h1, h2, h3, h4⟩; have S5 := Lib.hid (St.row2 (by first | exact S4.out | exact S4.out.alloc hC _) (by intro h0; simp only [List.length_append, List.length_cons, List.length_nil]; omega) h1 h2 h3 h4); have KD5 := Lib.hid (fun D x (hD : One _ D x) hne => h4 (by simp) D x hD hne); clear h1 h2 h3 h4)))
  all_goals
    go_wp2
    go_ret
    have hq := S6.out.post
    rw [HE2.out] at hq
    exact hq
end Sh
end Go.Proofs.YtoaliaohbpdibaaDoor
