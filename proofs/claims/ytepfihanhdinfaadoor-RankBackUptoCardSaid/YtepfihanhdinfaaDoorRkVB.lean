/- The reader of keys: a value by its first byte: numbers. -/
import Derived.Test.YtepfihanhdinfaaDoorRkReadW
namespace Go.Proofs.YtepfihanhdinfaaDoor
open Go.RowKit
set_option linter.unusedVariables false
set_option linter.unusedSimpArgs false
namespace Rk
open Val (VT Keeps Box StrBlock)
set_option maxRecDepth 100000 in
set_option maxHeartbeats 8000000 in
theorem value_arm_node (N R : Nat) (s : ByteArray) (p : Nat) (w : World) (IH : Hid (ValIH N)) (h : RdAt w R s (p : Int)) (hN : 4096 - (p + 1) ≤ N) (hp : p < 4096) (hs : s.size ≤ 1073741824) (hX : MaxAt w) (hMR : 0 ≠ R) (h0 : 0 < s.size) (hc : s[0]'h0 = 2) :
    Calls Tryd.prog 28 #[.pointer (some ⟨R, 0, none⟩)] w (ValPost R s p w) := by
  obtain ⟨c0, c1, f0, f1⟩ := h.cell
  have hRw := h.lt
  have hA0 : w.heap.size ≠ R := by omega
  have hA1 : ¬ R = w.heap.size := by omega
  have hpi : (p : Int) < 4096 := by omega
  have hpf : ((p : Int) == 4096) = false := by simp; omega
  have W1r : Hid (RdAt ((w.setCell ⟨R, 1, none⟩ (.int .i64 ((p : Int) + 1))).alloc (.cells #[.int .i64 0, .bool false, .int .i64 0, .string ⟨#[]⟩, .slice none 0 0, .slice none 0 0] 26)) R s (((p + 1 : Nat)) : Int)) := Lib.hid ((h.set1 _).alloc _)
  have W1b : Hid (Box ((w.setCell ⟨R, 1, none⟩ (.int .i64 ((p : Int) + 1))).alloc (.cells #[.int .i64 0, .bool false, .int .i64 0, .string ⟨#[]⟩, .slice none 0 0, .slice none 0 0] 26)) w.heap.size #[.int .i64 0, .bool false, .int .i64 0, .string ⟨#[]⟩, .slice none 0 0, .slice none 0 0]) := Lib.hid (by
    have := Box.new (w.setCell ⟨R, 1, none⟩ (.int .i64 ((p : Int) + 1))) #[.int .i64 0, .bool false, .int .i64 0, .string ⟨#[]⟩, .slice none 0 0, .slice none 0 0]
    simpa [World.setCell] using this)
  have W1k : Hid (Keeps (· = R) w ((w.setCell ⟨R, 1, none⟩ (.int .i64 ((p : Int) + 1))).alloc (.cells #[.int .i64 0, .bool false, .int .i64 0, .string ⟨#[]⟩, .slice none 0 0, .slice none 0 0] 26))) := Lib.hid (((Keeps.refl (· = R) w).setCell (.inl rfl) _).alloc _)
  have OC := Lib.hid (octet_some R s _ _ W1r.out h0 (by omega))
  have HH0 := head_tail s h0
  rw [hc] at OC HH0
  obtain ⟨s1, hs1⟩ : ∃ q, s.extract 1 s.size = q := ⟨_, rfl⟩
  rw [hs1] at OC HH0
  have HH := Lib.hid HH0
  have hz1 : s1.size ≤ 1073741824 := by
    have := congrArg List.length HH0
    rw [List.length_cons, ba_len, ba_len] at this
    omega
  have HX := Lib.hid hX
  clear h hX h0 HH0 hs1 hc
  go_enter Tryd.func28, Tryd.ntmps28
  go_wp2_with fail
  refine OC.out.mono ?_
  rintro e w2 ⟨rfl, r2, k2⟩
  have K2 := Lib.hid (W1k.out.trans k2)
  have B2 := Lib.hid (box_keeps W1b.out k2 hA0)
  have R2 := Lib.hid r2
  clear r2 k2
  by_cases h8 : s1.size < 8
  · have NC := Lib.hid (number_none R s1 _ w2 R2.out h8)
    have HN : Hid (∀ t r, rawV t → p + t.parts ≤ 4096 → s.data.toList ≠ keyR t ++ r) := Lib.hid fun t r ht hp2 he => by
      rw [HH.out] at he
      rcases raw_cases t r _ _ ht he with h | h | h | h | h | h
      · exact absurd h.1 (by decide)
      · have := h.2; rw [ba_len] at this; omega
      · exact absurd h.1 (by decide)
      · exact absurd h.1 (by decide)
      · exact absurd h.1 (by decide)
      · exact absurd h (by decide)
    clear h8
    go_wp2_with fail
    refine NC.out.mono ?_
    rintro e w3 ⟨rfl, hw3⟩
    subst w3
    have hf := fun i => box_free B2.out i
    obtain ⟨z0, z1, z2, z3, z4, z5⟩ := B2.out.cell
    have HS : Hid (Box (six w2 w.heap.size (.int .i64 6) (.bool false) (.int .i64 (0)) (.string ⟨#[]⟩) (.slice none 0 0) (.slice none 0 0)) w.heap.size #[.int .i64 6, .bool false, .int .i64 (0), .string ⟨#[]⟩, .slice none 0 0, .slice none 0 0]) := Lib.hid (Box.six B2.out _ _ _ _ _ _)
    go_wp2
    obtain ⟨q0, q1, q2, q3, q4, q5⟩ := HS.out.cell
    unfold six at q0 q1 q2 q3 q4 q5
    refine bodyPost_ret (v := .tuple #[.agg #[.int .i64 6, .bool false, .int .i64 (0), .string ⟨#[]⟩, .slice none 0 0, .slice none 0 0], .bool false]) (by simp [results, Tryd.results28, go_sem, q0, q1, q2, q3, q4, q5]) rfl ?_
    exact val_no K2.out HN.out
  · have NC := Lib.hid (number_some R s1 _ w2 R2.out (by omega) (by omega))
    obtain ⟨q, hq⟩ : ∃ q, numL (s1.data.toList.take 8) = q := ⟨_, rfl⟩
    have hb8 := be8_num (s1.data.toList.take 8) (by rw [List.length_take, ba_len]; omega)
    rw [hq] at NC hb8
    obtain ⟨hb81, hb82⟩ := hb8
    have hw0 := wrap_back q hb82
    rw [show IntKind.i64.wrap (q : Int) = wrap64 (q : Int) from by rw [IntKind.wrap_i64]; unfold wrap64; omega] at hw0
    obtain ⟨hw1, hw2, hw3⟩ := hw0
    have HR : Hid (rawV (.mk 6 false (wrap64 (q : Int)) ⟨#[]⟩ [] [])) := Lib.hid (by unfold rawV; exact ⟨⟨⟨by omega, by omega⟩, ⟨hw2, hw3⟩, fun _ => rfl, fun _ h6 => absurd rfl h6, fun _ => rfl, fun _ _ => rfl, fun _ => rfl, fun h5 => absurd h5 (by decide)⟩, by unfold rawL; trivial⟩)
    have HT : Hid (s.data.toList = keyR (.mk 6 false (wrap64 (q : Int)) ⟨#[]⟩ [] []) ++ (s1.extract 8 s1.size).data.toList) := Lib.hid (by
      rw [HH.out, extract_tail]
      show _ = 2 :: (be8 (wrap64 (q : Int) % 18446744073709551616).toNat ++ _)
      rw [hw1, hb81, List.take_append_drop])
    have hqi : (q : Int) < 18446744073709551616 := by omega
    clear hq hb81 h8 hw1 hw2 hw3
    go_wp2_with fail
    refine NC.out.mono ?_
    rintro e w3 ⟨rfl, r3, k3⟩
    have B3 := Lib.hid (box_keeps B2.out k3 hA0)
    have K3 := Lib.hid (K2.out.trans k3)
    have R3 := Lib.hid r3
    clear r3 k3
    have hf := fun i => box_free B3.out i
    obtain ⟨z0, z1, z2, z3, z4, z5⟩ := B3.out.cell
    have HS : Hid (Box (six w3 w.heap.size (.int .i64 6) (.bool false) (.int .i64 (wrap64 (q : Int))) (.string ⟨#[]⟩) (.slice none 0 0) (.slice none 0 0)) w.heap.size #[.int .i64 6, .bool false, .int .i64 (wrap64 (q : Int)), .string ⟨#[]⟩, .slice none 0 0, .slice none 0 0]) := Lib.hid (Box.six B3.out _ _ _ _ _ _)
    go_wp2
    obtain ⟨q0, q1, q2, q3, q4, q5⟩ := HS.out.cell
    unfold six at q0 q1 q2 q3 q4 q5
    refine bodyPost_ret (v := .tuple #[.agg #[.int .i64 6, .bool false, .int .i64 (wrap64 (q : Int)), .string ⟨#[]⟩, .slice none 0 0, .slice none 0 0], .bool true]) (by simp [results, Tryd.results28, go_sem, q0, q1, q2, q3, q4, q5]) rfl ?_
    have hpt : p + VT.parts (.mk 6 false (wrap64 (q : Int)) ⟨#[]⟩ [] []) = p + 1 := by rw [VT.parts, VT.partsL]
    exact val_ok K3.out B3.out.lt (own_leaf _ _ _ _ _) (fun k hk => hk.elim) HR.out HT.out (by rw [hpt]; exact R3.out) (by omega) hRw
set_option maxRecDepth 100000 in
set_option maxHeartbeats 8000000 in
theorem value_arm_edge (N R : Nat) (s : ByteArray) (p : Nat) (w : World) (IH : Hid (ValIH N)) (h : RdAt w R s (p : Int)) (hN : 4096 - (p + 1) ≤ N) (hp : p < 4096) (hs : s.size ≤ 1073741824) (hX : MaxAt w) (hMR : 0 ≠ R) (h0 : 0 < s.size) (hc : s[0]'h0 = 3) :
    Calls Tryd.prog 28 #[.pointer (some ⟨R, 0, none⟩)] w (ValPost R s p w) := by
  obtain ⟨c0, c1, f0, f1⟩ := h.cell
  have hRw := h.lt
  have hA0 : w.heap.size ≠ R := by omega
  have hA1 : ¬ R = w.heap.size := by omega
  have hpi : (p : Int) < 4096 := by omega
  have hpf : ((p : Int) == 4096) = false := by simp; omega
  have W1r : Hid (RdAt ((w.setCell ⟨R, 1, none⟩ (.int .i64 ((p : Int) + 1))).alloc (.cells #[.int .i64 0, .bool false, .int .i64 0, .string ⟨#[]⟩, .slice none 0 0, .slice none 0 0] 26)) R s (((p + 1 : Nat)) : Int)) := Lib.hid ((h.set1 _).alloc _)
  have W1b : Hid (Box ((w.setCell ⟨R, 1, none⟩ (.int .i64 ((p : Int) + 1))).alloc (.cells #[.int .i64 0, .bool false, .int .i64 0, .string ⟨#[]⟩, .slice none 0 0, .slice none 0 0] 26)) w.heap.size #[.int .i64 0, .bool false, .int .i64 0, .string ⟨#[]⟩, .slice none 0 0, .slice none 0 0]) := Lib.hid (by
    have := Box.new (w.setCell ⟨R, 1, none⟩ (.int .i64 ((p : Int) + 1))) #[.int .i64 0, .bool false, .int .i64 0, .string ⟨#[]⟩, .slice none 0 0, .slice none 0 0]
    simpa [World.setCell] using this)
  have W1k : Hid (Keeps (· = R) w ((w.setCell ⟨R, 1, none⟩ (.int .i64 ((p : Int) + 1))).alloc (.cells #[.int .i64 0, .bool false, .int .i64 0, .string ⟨#[]⟩, .slice none 0 0, .slice none 0 0] 26))) := Lib.hid (((Keeps.refl (· = R) w).setCell (.inl rfl) _).alloc _)
  have OC := Lib.hid (octet_some R s _ _ W1r.out h0 (by omega))
  have HH0 := head_tail s h0
  rw [hc] at OC HH0
  obtain ⟨s1, hs1⟩ : ∃ q, s.extract 1 s.size = q := ⟨_, rfl⟩
  rw [hs1] at OC HH0
  have HH := Lib.hid HH0
  have hz1 : s1.size ≤ 1073741824 := by
    have := congrArg List.length HH0
    rw [List.length_cons, ba_len, ba_len] at this
    omega
  have HX := Lib.hid hX
  clear h hX h0 HH0 hs1 hc
  go_enter Tryd.func28, Tryd.ntmps28
  go_wp2_with fail
  refine OC.out.mono ?_
  rintro e w2 ⟨rfl, r2, k2⟩
  have K2 := Lib.hid (W1k.out.trans k2)
  have B2 := Lib.hid (box_keeps W1b.out k2 hA0)
  have R2 := Lib.hid r2
  clear r2 k2
  by_cases h8 : s1.size < 8
  · have NC := Lib.hid (number_none R s1 _ w2 R2.out h8)
    have HN : Hid (∀ t r, rawV t → p + t.parts ≤ 4096 → s.data.toList ≠ keyR t ++ r) := Lib.hid fun t r ht hp2 he => by
      rw [HH.out] at he
      rcases raw_cases t r _ _ ht he with h | h | h | h | h | h
      · exact absurd h.1 (by decide)
      · have := h.2; rw [ba_len] at this; omega
      · exact absurd h.1 (by decide)
      · exact absurd h.1 (by decide)
      · exact absurd h.1 (by decide)
      · exact absurd h (by decide)
    clear h8
    go_wp2_with fail
    refine NC.out.mono ?_
    rintro e w3 ⟨rfl, hw3⟩
    subst w3
    have hf := fun i => box_free B2.out i
    obtain ⟨z0, z1, z2, z3, z4, z5⟩ := B2.out.cell
    have HS : Hid (Box (six w2 w.heap.size (.int .i64 7) (.bool false) (.int .i64 (0)) (.string ⟨#[]⟩) (.slice none 0 0) (.slice none 0 0)) w.heap.size #[.int .i64 7, .bool false, .int .i64 (0), .string ⟨#[]⟩, .slice none 0 0, .slice none 0 0]) := Lib.hid (Box.six B2.out _ _ _ _ _ _)
    go_wp2
    obtain ⟨q0, q1, q2, q3, q4, q5⟩ := HS.out.cell
    unfold six at q0 q1 q2 q3 q4 q5
    refine bodyPost_ret (v := .tuple #[.agg #[.int .i64 7, .bool false, .int .i64 (0), .string ⟨#[]⟩, .slice none 0 0, .slice none 0 0], .bool false]) (by simp [results, Tryd.results28, go_sem, q0, q1, q2, q3, q4, q5]) rfl ?_
    exact val_no K2.out HN.out
  · have NC := Lib.hid (number_some R s1 _ w2 R2.out (by omega) (by omega))
    obtain ⟨q, hq⟩ : ∃ q, numL (s1.data.toList.take 8) = q := ⟨_, rfl⟩
    have hb8 := be8_num (s1.data.toList.take 8) (by rw [List.length_take, ba_len]; omega)
    rw [hq] at NC hb8
    obtain ⟨hb81, hb82⟩ := hb8
    have hw0 := wrap_back q hb82
    rw [show IntKind.i64.wrap (q : Int) = wrap64 (q : Int) from by rw [IntKind.wrap_i64]; unfold wrap64; omega] at hw0
    obtain ⟨hw1, hw2, hw3⟩ := hw0
    have HR : Hid (rawV (.mk 7 false (wrap64 (q : Int)) ⟨#[]⟩ [] [])) := Lib.hid (by unfold rawV; exact ⟨⟨⟨by omega, by omega⟩, ⟨hw2, hw3⟩, fun _ => rfl, fun _ _ h7 => absurd rfl h7, fun _ => rfl, fun _ _ => rfl, fun _ => rfl, fun h5 => absurd h5 (by decide)⟩, by unfold rawL; trivial⟩)
    have HT : Hid (s.data.toList = keyR (.mk 7 false (wrap64 (q : Int)) ⟨#[]⟩ [] []) ++ (s1.extract 8 s1.size).data.toList) := Lib.hid (by
      rw [HH.out, extract_tail]
      show _ = 3 :: (be8 (wrap64 (q : Int) % 18446744073709551616).toNat ++ _)
      rw [hw1, hb81, List.take_append_drop])
    have hqi : (q : Int) < 18446744073709551616 := by omega
    clear hq hb81 h8 hw1 hw2 hw3
    go_wp2_with fail
    refine NC.out.mono ?_
    rintro e w3 ⟨rfl, r3, k3⟩
    have B3 := Lib.hid (box_keeps B2.out k3 hA0)
    have K3 := Lib.hid (K2.out.trans k3)
    have R3 := Lib.hid r3
    clear r3 k3
    have hf := fun i => box_free B3.out i
    obtain ⟨z0, z1, z2, z3, z4, z5⟩ := B3.out.cell
    have HS : Hid (Box (six w3 w.heap.size (.int .i64 7) (.bool false) (.int .i64 (wrap64 (q : Int))) (.string ⟨#[]⟩) (.slice none 0 0) (.slice none 0 0)) w.heap.size #[.int .i64 7, .bool false, .int .i64 (wrap64 (q : Int)), .string ⟨#[]⟩, .slice none 0 0, .slice none 0 0]) := Lib.hid (Box.six B3.out _ _ _ _ _ _)
    go_wp2
    obtain ⟨q0, q1, q2, q3, q4, q5⟩ := HS.out.cell
    unfold six at q0 q1 q2 q3 q4 q5
    refine bodyPost_ret (v := .tuple #[.agg #[.int .i64 7, .bool false, .int .i64 (wrap64 (q : Int)), .string ⟨#[]⟩, .slice none 0 0, .slice none 0 0], .bool true]) (by simp [results, Tryd.results28, go_sem, q0, q1, q2, q3, q4, q5]) rfl ?_
    have hpt : p + VT.parts (.mk 7 false (wrap64 (q : Int)) ⟨#[]⟩ [] []) = p + 1 := by rw [VT.parts, VT.partsL]
    exact val_ok K3.out B3.out.lt (own_leaf _ _ _ _ _) (fun k hk => hk.elim) HR.out HT.out (by rw [hpt]; exact R3.out) (by omega) hRw
set_option maxRecDepth 100000 in
set_option maxHeartbeats 8000000 in
theorem value_arm_int (N R : Nat) (s : ByteArray) (p : Nat) (w : World) (IH : Hid (ValIH N)) (h : RdAt w R s (p : Int)) (hN : 4096 - (p + 1) ≤ N) (hp : p < 4096) (hs : s.size ≤ 1073741824) (hX : MaxAt w) (hMR : 0 ≠ R) (h0 : 0 < s.size) (hc : s[0]'h0 = 7) :
    Calls Tryd.prog 28 #[.pointer (some ⟨R, 0, none⟩)] w (ValPost R s p w) := by
  obtain ⟨c0, c1, f0, f1⟩ := h.cell
  have hRw := h.lt
  have hA0 : w.heap.size ≠ R := by omega
  have hA1 : ¬ R = w.heap.size := by omega
  have hpi : (p : Int) < 4096 := by omega
  have hpf : ((p : Int) == 4096) = false := by simp; omega
  have W1r : Hid (RdAt ((w.setCell ⟨R, 1, none⟩ (.int .i64 ((p : Int) + 1))).alloc (.cells #[.int .i64 0, .bool false, .int .i64 0, .string ⟨#[]⟩, .slice none 0 0, .slice none 0 0] 26)) R s (((p + 1 : Nat)) : Int)) := Lib.hid ((h.set1 _).alloc _)
  have W1b : Hid (Box ((w.setCell ⟨R, 1, none⟩ (.int .i64 ((p : Int) + 1))).alloc (.cells #[.int .i64 0, .bool false, .int .i64 0, .string ⟨#[]⟩, .slice none 0 0, .slice none 0 0] 26)) w.heap.size #[.int .i64 0, .bool false, .int .i64 0, .string ⟨#[]⟩, .slice none 0 0, .slice none 0 0]) := Lib.hid (by
    have := Box.new (w.setCell ⟨R, 1, none⟩ (.int .i64 ((p : Int) + 1))) #[.int .i64 0, .bool false, .int .i64 0, .string ⟨#[]⟩, .slice none 0 0, .slice none 0 0]
    simpa [World.setCell] using this)
  have W1k : Hid (Keeps (· = R) w ((w.setCell ⟨R, 1, none⟩ (.int .i64 ((p : Int) + 1))).alloc (.cells #[.int .i64 0, .bool false, .int .i64 0, .string ⟨#[]⟩, .slice none 0 0, .slice none 0 0] 26))) := Lib.hid (((Keeps.refl (· = R) w).setCell (.inl rfl) _).alloc _)
  have OC := Lib.hid (octet_some R s _ _ W1r.out h0 (by omega))
  have HH0 := head_tail s h0
  rw [hc] at OC HH0
  obtain ⟨s1, hs1⟩ : ∃ q, s.extract 1 s.size = q := ⟨_, rfl⟩
  rw [hs1] at OC HH0
  have HH := Lib.hid HH0
  have hz1 : s1.size ≤ 1073741824 := by
    have := congrArg List.length HH0
    rw [List.length_cons, ba_len, ba_len] at this
    omega
  have HX := Lib.hid hX
  clear h hX h0 HH0 hs1 hc
  go_enter Tryd.func28, Tryd.ntmps28
  go_wp2_with fail
  refine OC.out.mono ?_
  rintro e w2 ⟨rfl, r2, k2⟩
  have K2 := Lib.hid (W1k.out.trans k2)
  have B2 := Lib.hid (box_keeps W1b.out k2 hA0)
  have R2 := Lib.hid r2
  clear r2 k2
  by_cases h8 : s1.size < 8
  · have NC := Lib.hid (number_none R s1 _ w2 R2.out h8)
    have HN : Hid (∀ t r, rawV t → p + t.parts ≤ 4096 → s.data.toList ≠ keyR t ++ r) := Lib.hid fun t r ht hp2 he => by
      rw [HH.out] at he
      rcases raw_cases t r _ _ ht he with h | h | h | h | h | h
      · exact absurd h.1 (by decide)
      · have := h.2; rw [ba_len] at this; omega
      · exact absurd h.1 (by decide)
      · exact absurd h.1 (by decide)
      · exact absurd h.1 (by decide)
      · exact absurd h (by decide)
    clear h8
    go_wp2_with fail
    refine NC.out.mono ?_
    rintro e w3 ⟨rfl, hw3⟩
    subst w3
    have hf := fun i => box_free B2.out i
    obtain ⟨z0, z1, z2, z3, z4, z5⟩ := B2.out.cell
    have HS : Hid (Box (six w2 w.heap.size (.int .i64 2) (.bool false) (.int .i64 (-9223372036854775808)) (.string ⟨#[]⟩) (.slice none 0 0) (.slice none 0 0)) w.heap.size #[.int .i64 2, .bool false, .int .i64 (-9223372036854775808), .string ⟨#[]⟩, .slice none 0 0, .slice none 0 0]) := Lib.hid (Box.six B2.out _ _ _ _ _ _)
    have hx0 : wrap64 (bits .xor .u64 (0 : Int) 9223372036854775808) = -9223372036854775808 := by
      have h : IntKind.i64.wrap (bits .xor .u64 (0 : Int) 9223372036854775808) = (0 : Int) - 9223372036854775808 := flip_back 0 (by decide)
      rw [IntKind.wrap_i64] at h
      unfold wrap64
      omega
    go_wp2
    obtain ⟨q0, q1, q2, q3, q4, q5⟩ := HS.out.cell
    unfold six at q0 q1 q2 q3 q4 q5
    refine bodyPost_ret (v := .tuple #[.agg #[.int .i64 2, .bool false, .int .i64 (-9223372036854775808), .string ⟨#[]⟩, .slice none 0 0, .slice none 0 0], .bool false]) (by simp [results, Tryd.results28, go_sem, q0, q1, q2, q3, q4, q5]) rfl ?_
    exact val_no K2.out HN.out
  · have NC := Lib.hid (number_some R s1 _ w2 R2.out (by omega) (by omega))
    obtain ⟨q, hq⟩ : ∃ q, numL (s1.data.toList.take 8) = q := ⟨_, rfl⟩
    have hb8 := be8_num (s1.data.toList.take 8) (by rw [List.length_take, ba_len]; omega)
    rw [hq] at NC hb8
    obtain ⟨hb81, hb82⟩ := hb8
    have hfl := flip_back q hb82
    rw [show IntKind.i64.wrap (bits .xor .u64 (q : Int) 9223372036854775808) = wrap64 (bits .xor .u64 (q : Int) 9223372036854775808) from by rw [IntKind.wrap_i64]; unfold wrap64; omega] at hfl
    have HR : Hid (rawV (.mk 2 false ((q : Int) - 9223372036854775808) ⟨#[]⟩ [] [])) := Lib.hid (by unfold rawV; exact ⟨⟨⟨by omega, by omega⟩, ⟨by omega, by omega⟩, fun _ => rfl, fun h2 => absurd rfl h2, fun _ => rfl, fun _ _ => rfl, fun _ => rfl, fun h5 => absurd h5 (by decide)⟩, by unfold rawL; trivial⟩)
    have HT : Hid (s.data.toList = keyR (.mk 2 false ((q : Int) - 9223372036854775808) ⟨#[]⟩ [] []) ++ (s1.extract 8 s1.size).data.toList) := Lib.hid (by
      rw [HH.out, extract_tail]
      show _ = 7 :: (be8 ((q : Int) - 9223372036854775808 + 9223372036854775808).toNat ++ _)
      rw [show ((q : Int) - 9223372036854775808 + 9223372036854775808).toNat = q by omega, hb81, List.take_append_drop])
    have hqi : (q : Int) < 18446744073709551616 := by omega
    clear hq hb81 h8
    go_wp2_with fail
    refine NC.out.mono ?_
    rintro e w3 ⟨rfl, r3, k3⟩
    have B3 := Lib.hid (box_keeps B2.out k3 hA0)
    have K3 := Lib.hid (K2.out.trans k3)
    have R3 := Lib.hid r3
    clear r3 k3
    have hf := fun i => box_free B3.out i
    obtain ⟨z0, z1, z2, z3, z4, z5⟩ := B3.out.cell
    have HS : Hid (Box (six w3 w.heap.size (.int .i64 2) (.bool false) (.int .i64 ((q : Int) - 9223372036854775808)) (.string ⟨#[]⟩) (.slice none 0 0) (.slice none 0 0)) w.heap.size #[.int .i64 2, .bool false, .int .i64 ((q : Int) - 9223372036854775808), .string ⟨#[]⟩, .slice none 0 0, .slice none 0 0]) := Lib.hid (Box.six B3.out _ _ _ _ _ _)
    go_wp2
    obtain ⟨q0, q1, q2, q3, q4, q5⟩ := HS.out.cell
    unfold six at q0 q1 q2 q3 q4 q5
    refine bodyPost_ret (v := .tuple #[.agg #[.int .i64 2, .bool false, .int .i64 ((q : Int) - 9223372036854775808), .string ⟨#[]⟩, .slice none 0 0, .slice none 0 0], .bool true]) (by simp [results, Tryd.results28, go_sem, q0, q1, q2, q3, q4, q5]) rfl ?_
    have hpt : p + VT.parts (.mk 2 false ((q : Int) - 9223372036854775808) ⟨#[]⟩ [] []) = p + 1 := by rw [VT.parts, VT.partsL]
    exact val_ok K3.out B3.out.lt (own_leaf _ _ _ _ _) (fun k hk => hk.elim) HR.out HT.out (by rw [hpt]; exact R3.out) (by omega) hRw
end Rk
end Go.Proofs.YtepfihanhdinfaaDoor
