/- Show: a value's text is written behind: by its kind. -/
import Derived.Test.YtoaliaohbpdibaaDoorShPut
namespace Go.Proofs.YtoaliaohbpdibaaDoor
open Go.RowKit
set_option linter.unusedVariables false
set_option linter.unusedSimpArgs false
namespace Sh
open Val (VT Keeps Box okN okNL szV szL szK)
section
variable {C : Nat} {w : World} {cs : Array Value} {b0 : Value} {n : Nat} {V V' : World} {u u' : Value} {acc : List UInt8}
theorem St.start (hb : Buf C w b0 acc) (hC : C ≤ w.heap.size) (hn : acc.length = n) : St C w cs b0 n (w.alloc (.cells cs 31)) b0 acc :=
  ⟨(World.ownsRow.alloc hb _), (Below.refl _ _).alloc hC _, Box.new w _, (Lib.OthersKept.refl _ _ w).alloc _, fun _ D x hD _ => one_alloc hD _, fun h => ⟨by omega, .inl rfl⟩⟩
theorem St.post (h : St C w cs b0 n V u acc) : RowPost C w b0 n acc (.returned u) V := ⟨u, rfl, h.buf, h.low, h.kept, h.one⟩
theorem St.drew (h : St C w cs b0 n V u acc) (hC : C ≤ w.heap.size) : St C w cs b0 n V.drew u acc := h.far hC (Below.refl _ _).drew
theorem St.row2 (h : St C w cs b0 n V u acc) {new : List UInt8} (hnew : 1 ≤ n → 2 ≤ (acc ++ new).length) (h1 : Buf C V' u' (acc ++ new)) (h2 : Below C V V') (h3 : Lib.OthersKept 5 none V V') (h4 : OneK u acc.length V V') : St C w cs b0 n V' u' (acc ++ new) :=
  ⟨h1, h.low.trans h2, box_kept h.box h3, h.kept.trans h3, fun hn D x hD h0 => h4 (h.big hn).1 D x (h.one hn D x hD h0) (h.ne hn hD h0), fun hn => ⟨by have := hnew hn; omega, .inr (hnew hn)⟩⟩
theorem St.byte (h : St C w cs b0 n V u acc) (hC : C ≤ w.heap.size) {c : UInt8} (ho : V'.ownsRow C 5 1 u' (acc.length + 1) (Lib.byteCells acc ++ [.int .u8 (c.toNat : Int)])) (hg : V.grownBy V' u.ownBlock) : St C w cs b0 n V' u' (acc ++ [c]) :=
  h.text hC (s := ⟨#[c]⟩) (Nat.le_refl _) ho hg
theorem Buf.fresh {w : World} {v : Value} {bs : List UInt8} (h : Buf C w v bs) {D : Nat} (hD : w.heap.size ≤ D) : v.ownBlock ≠ some D := by
  intro e
  obtain ⟨c, fz, hc⟩ := h.kind D e
  have := (Array.getElem?_eq_some_iff.1 hc).1
  omega
theorem byte_keeps {g m cap : Nat} (hg : V.grownBy V' u.ownBlock) (hx : u.ownBlock = some g ∨ g = V.heap.size) : ∀ D x, One V D x → u.ownBlock ≠ some D → One V' D x ∧ (Value.slice (some ⟨g, 0, none⟩) m cap).ownBlock ≠ some D := fun D x hD hne => by
  have hlt : D < V.heap.size := (Array.getElem?_eq_some_iff.1 hD).1
  refine ⟨?_, ?_⟩
  · have h1 := hg.block D hlt (fun e => hne e.symm)
    unfold One at hD ⊢
    rw [h1]; exact hD
  · simp only [Value.ownBlock, ne_eq, Option.some.injEq]
    intro e
    rcases hx with hx | hx
    · exact hne (by rw [hx, e])
    · omega
theorem one_new {D : Nat} (x : Value) (hD : D = V.heap.size) : One (V.alloc (.cells #[x] 5)) D x := by
  subst hD; unfold One; show (V.heap.push _)[V.heap.size]? = _; simp
theorem one_drew {D : Nat} {x : Value} (h : One V D x) : One V.drew D x := h
theorem lit_of {D : Nat} {x : Value} (h : One V D x) : ∀ j u, ([x] : List Value)[j]? = some u → V.cell? ((⟨D, 0, none⟩ : Addr).add j) = some u := by
  intro j u hj
  match j, hj with
  | 0, hj => simp at hj; subst hj; unfold One at h; simp [Addr.add, World.cell?, h]
  | (j + 1), hj => simp at hj
end
set_option maxRecDepth 100000 in
theorem put_null (C : Nat) (v : Value) (bs : List UInt8) (b : Bool) (n : Int) (s : ByteArray) (pl pk : Option Addr) (nl cl nk ck : Nat) (w : World) (h : Buf C w v bs) (hC : C ≤ w.heap.size) (hlen : bs.length + 40 ≤ 140737488355328) :
    Calls Tryd.prog 34 #[v, .agg #[.int .i64 0, .bool b, .int .i64 n, .string s, .slice pl nl cl, .slice pk nk ck]] w fun e w' => RowPost C w v bs.length (bs ++ [110, 117, 108, 108]) e w' := by
  obtain ⟨i0, hi0, hz0, hz1, hz2⟩ := info_parts infoB
  have S := Lib.hid (St.start (cs := #[.int .i64 0, .bool b, .int .i64 n, .string s, .slice pl nl cl, .slice pk nk ck]) h hC rfl)
  clear h
  go_enter Tryd.func34, Tryd.ntmps34
  go_wp2_with (at_builtin; refine Lib.wpList_append_own_string _ rfl (.tmp 9) _ 36 9 rfl C 5 i0 Tryd.underlying36 Tryd.underlying9 hi0 hz0 hz1 hz2 v bs.length (Lib.byteCells bs) rfl S.out.buf ⟨#[110, 117, 108, 108]⟩ rfl (by unfold maxLen; show bs.length + 4 ≤ _; omega) (by show bs.length + 4 ≤ _; omega) (S.out.hC hC) (fun v' w4 ho hg hx => ?_); have T := Lib.hid (S.out.text hC (by decide) ho hg); clear ho hg hx)
  go_ret
  exact T.out.post
set_option maxRecDepth 100000 in
theorem put_bool (C : Nat) (v : Value) (bs : List UInt8) (b : Bool) (n : Int) (s : ByteArray) (pl pk : Option Addr) (nl cl nk ck : Nat) (w : World) (h : Buf C w v bs) (hC : C ≤ w.heap.size) (hlen : bs.length + 40 ≤ 140737488355328) :
    Calls Tryd.prog 34 #[v, .agg #[.int .i64 1, .bool b, .int .i64 n, .string s, .slice pl nl cl, .slice pk nk ck]] w fun e w' => RowPost C w v bs.length (bs ++ boolB b) e w' := by
  obtain ⟨i0, hi0, hz0, hz1, hz2⟩ := info_parts infoB
  have S := Lib.hid (St.start (cs := #[.int .i64 1, .bool b, .int .i64 n, .string s, .slice pl nl cl, .slice pk nk ck]) h hC rfl)
  clear h
  go_enter Tryd.func34, Tryd.ntmps34
  go_wp2_with (go_at_call 46; refine (appendBool_any C v bs b _ S.out.buf (by omega) (S.out.hC hC)).mono ?_; rintro e w1 ⟨v', rfl, h1, h2, h3, h4⟩)
  go_ret
  exact (S.out.row (by cases b <;> decide) h1 h2 h3 h4).post
set_option maxRecDepth 100000 in
theorem put_str (C : Nat) (v : Value) (bs : List UInt8) (b : Bool) (n : Int) (s : ByteArray) (pl pk : Option Addr) (nl cl nk ck : Nat) (w : World) (h : Buf C w v bs) (hC : C ≤ w.heap.size) (hlen : bs.length + (4 * s.size + 8) ≤ 140737488355328) :
    Calls Tryd.prog 34 #[v, .agg #[.int .i64 3, .bool b, .int .i64 n, .string s, .slice pl nl cl, .slice pk nk ck]] w fun e w' => RowPost C w v bs.length (bs ++ quoteL s.data.toList) e w' := by
  obtain ⟨i0, hi0, hz0, hz1, hz2⟩ := info_parts infoB
  have S := Lib.hid (St.start (cs := #[.int .i64 3, .bool b, .int .i64 n, .string s, .slice pl nl cl, .slice pk nk ck]) h hC rfl)
  clear h
  go_enter Tryd.func34, Tryd.ntmps34
  go_wp2_with (go_at_call 26; refine (putQuoted_any C v bs s _ S.out.buf (by omega) (S.out.hC hC)).mono ?_; rintro e w1 ⟨v', rfl, h1, h2, h3, h4⟩)
  go_ret
  exact (S.out.row (by unfold quoteL; simp) h1 h2 h3 h4).post
set_option maxRecDepth 100000 in
theorem put_int (C : Nat) (v : Value) (bs : List UInt8) (b : Bool) (n : Int) (s : ByteArray) (pl pk : Option Addr) (nl cl nk ck : Nat) (w : World) (h : Buf C w v bs) (hC : C ≤ w.heap.size) (hlen : bs.length + 40 ≤ 140737488355328) (hN : -9223372036854775808 ≤ n ∧ n ≤ 9223372036854775807) (hD : Num.Digs w) (hDC : 0 < C) :
    Calls Tryd.prog 34 #[v, .agg #[.int .i64 2, .bool b, .int .i64 n, .string s, .slice pl nl cl, .slice pk nk ck]] w fun e w' => RowPost C w v bs.length (bs ++ Num.textU n) e w' := by
  obtain ⟨i0, hi0, hz0, hz1, hz2⟩ := info_parts infoB
  have S := Lib.hid (St.start (cs := #[.int .i64 2, .bool b, .int .i64 n, .string s, .slice pl nl cl, .slice pk nk ck]) h hC rfl)
  clear h
  obtain ⟨q, hq⟩ : ∃ q, strOfNums (Num.textN n) = q := ⟨_, rfl⟩
  have hqd : q.data.toList = Num.textU n := by rw [← hq]; exact Num.text_bytes n
  have hqs : q.size ≤ 20 := by rw [← ba_len, hqd]; exact textU_len n hN
  have hq1 : 1 ≤ q.size := by rw [← ba_len, hqd]; exact textU_pos n
  have HT := Lib.hid (fun V (hV : Below C w V) => Num.text_any n V hN.1 hN.2 (Digs.low hD hV hDC))
  rw [hq] at HT
  rw [← hqd]
  have HQ1 := Lib.hid hq1
  clear hD hq hqd hN hq1
  go_enter Tryd.func34, Tryd.ntmps34
  go_wp2_with (first | (go_at_call 47; refine (HT.out _ S.out.low).mono ?_; rintro e w1 ⟨rfl, hb⟩; have S2 := Lib.hid (S.out.far hC hb); clear hb) | (at_builtin; refine Lib.wpList_append_own_string _ rfl (.tmp 19) (.tmp 22) 36 9 rfl C 5 i0 Tryd.underlying36 Tryd.underlying9 hi0 hz0 hz1 hz2 v bs.length (Lib.byteCells bs) rfl S2.out.buf q rfl (by unfold maxLen; omega) (by omega) (S2.out.hC hC) (fun v' w4 ho hg hx => ?_); have T := Lib.hid (S2.out.text hC HQ1.out ho hg); clear ho hg hx))
  go_ret
  exact T.out.post
set_option maxRecDepth 100000 in
theorem put_node (C : Nat) (v : Value) (bs : List UInt8) (b : Bool) (n : Int) (s : ByteArray) (pl pk : Option Addr) (nl cl nk ck : Nat) (w : World) (h : Buf C w v bs) (hC : C ≤ w.heap.size) (hlen : bs.length + 40 ≤ 140737488355328) (hN : -9223372036854775808 ≤ n ∧ n ≤ 9223372036854775807) (hD : Num.Digs w) (hDC : 0 < C) :
    Calls Tryd.prog 34 #[v, .agg #[.int .i64 6, .bool b, .int .i64 n, .string s, .slice pl nl cl, .slice pk nk ck]] w fun e w' => RowPost C w v bs.length (bs ++ (35 :: 110 :: Num.textU n)) e w' := by
  obtain ⟨i0, hi0, hz0, hz1, hz2⟩ := info_parts infoB
  have S := Lib.hid (St.start (cs := #[.int .i64 6, .bool b, .int .i64 n, .string s, .slice pl nl cl, .slice pk nk ck]) h hC rfl)
  clear h
  obtain ⟨q, hq⟩ : ∃ q, strOfNums (Num.textN n) = q := ⟨_, rfl⟩
  have hqd : q.data.toList = Num.textU n := by rw [← hq]; exact Num.text_bytes n
  have hqs : q.size ≤ 20 := by rw [← ba_len, hqd]; exact textU_len n hN
  have hq1 : 1 ≤ q.size := by rw [← ba_len, hqd]; exact textU_pos n
  have HT := Lib.hid (fun V (hV : Below C w V) => Num.text_any n V hN.1 hN.2 (Digs.low hD hV hDC))
  rw [hq] at HT
  rw [← hqd]
  have HQ1 := Lib.hid hq1
  have hs3 : (ByteArray.mk #[35, 110] ++ q).size = q.size + 2 := by rw [← ba_len, ba_append, List.length_append, ba_len q]; show 2 + q.size = q.size + 2; omega
  have HS3 := Lib.hid hs3
  have HS2 : Hid (1 ≤ (ByteArray.mk #[35, 110] ++ q).size) := Lib.hid (by omega)
  clear hs3
  clear hD hq hqd hN hq1
  go_enter Tryd.func34, Tryd.ntmps34
  go_wp2_with (first | (go_at_call 47; refine (HT.out _ S.out.low).mono ?_; rintro e w1 ⟨rfl, hb⟩; have S2 := Lib.hid (S.out.far hC hb); clear hb) | (at_builtin; refine Lib.wpList_append_own_string _ rfl (.tmp 50) (.tmp 54) 36 9 rfl C 5 i0 Tryd.underlying36 Tryd.underlying9 hi0 hz0 hz1 hz2 v bs.length (Lib.byteCells bs) rfl S2.out.buf (ByteArray.mk #[35, 110] ++ q) rfl (by unfold maxLen; rw [HS3.out]; omega) (by rw [HS3.out]; omega) (S2.out.hC hC) (fun v' w4 ho hg hx => ?_); have T := Lib.hid (S2.out.text hC HS2.out ho hg); clear ho hg hx))
  go_ret
  have hT := T.out.post
  rw [ba_append] at hT
  exact hT
set_option maxRecDepth 100000 in
theorem put_edge (C : Nat) (v : Value) (bs : List UInt8) (b : Bool) (n : Int) (s : ByteArray) (pl pk : Option Addr) (nl cl nk ck : Nat) (w : World) (h : Buf C w v bs) (hC : C ≤ w.heap.size) (hlen : bs.length + 40 ≤ 140737488355328) (hN : -9223372036854775808 ≤ n ∧ n ≤ 9223372036854775807) (hD : Num.Digs w) (hDC : 0 < C) :
    Calls Tryd.prog 34 #[v, .agg #[.int .i64 7, .bool b, .int .i64 n, .string s, .slice pl nl cl, .slice pk nk ck]] w fun e w' => RowPost C w v bs.length (bs ++ (35 :: 101 :: Num.textU n)) e w' := by
  obtain ⟨i0, hi0, hz0, hz1, hz2⟩ := info_parts infoB
  have S := Lib.hid (St.start (cs := #[.int .i64 7, .bool b, .int .i64 n, .string s, .slice pl nl cl, .slice pk nk ck]) h hC rfl)
  clear h
  obtain ⟨q, hq⟩ : ∃ q, strOfNums (Num.textN n) = q := ⟨_, rfl⟩
  have hqd : q.data.toList = Num.textU n := by rw [← hq]; exact Num.text_bytes n
  have hqs : q.size ≤ 20 := by rw [← ba_len, hqd]; exact textU_len n hN
  have hq1 : 1 ≤ q.size := by rw [← ba_len, hqd]; exact textU_pos n
  have HT := Lib.hid (fun V (hV : Below C w V) => Num.text_any n V hN.1 hN.2 (Digs.low hD hV hDC))
  rw [hq] at HT
  rw [← hqd]
  have HQ1 := Lib.hid hq1
  have hs3 : (ByteArray.mk #[35, 101] ++ q).size = q.size + 2 := by rw [← ba_len, ba_append, List.length_append, ba_len q]; show 2 + q.size = q.size + 2; omega
  have HS3 := Lib.hid hs3
  have HS2 : Hid (1 ≤ (ByteArray.mk #[35, 101] ++ q).size) := Lib.hid (by omega)
  clear hs3
  clear hD hq hqd hN hq1
  go_enter Tryd.func34, Tryd.ntmps34
  go_wp2_with (first | (go_at_call 47; refine (HT.out _ S.out.low).mono ?_; rintro e w1 ⟨rfl, hb⟩; have S2 := Lib.hid (S.out.far hC hb); clear hb) | (at_builtin; refine Lib.wpList_append_own_string _ rfl (.tmp 58) (.tmp 62) 36 9 rfl C 5 i0 Tryd.underlying36 Tryd.underlying9 hi0 hz0 hz1 hz2 v bs.length (Lib.byteCells bs) rfl S2.out.buf (ByteArray.mk #[35, 101] ++ q) rfl (by unfold maxLen; rw [HS3.out]; omega) (by rw [HS3.out]; omega) (S2.out.hC hC) (fun v' w4 ho hg hx => ?_); have T := Lib.hid (S2.out.text hC HS2.out ho hg); clear ho hg hx))
  go_ret
  have hT := T.out.post
  rw [ba_append] at hT
  exact hT
end Sh
end Go.Proofs.YtoaliaohbpdibaaDoor
