/- The reader of keys: a value by its first byte: maps, lists, texts. -/
import Derived.Test.YtepfihanhdinfaaDoorRkReadW
namespace Go.Proofs.YtepfihanhdinfaaDoor
open Go.RowKit
set_option linter.unusedVariables false
set_option linter.unusedSimpArgs false
namespace Rk
open Val (VT Keeps Box StrBlock)
set_option maxRecDepth 100000 in
set_option maxHeartbeats 8000000 in
theorem value_arm_map (N R : Nat) (s : ByteArray) (p : Nat) (w : World) (IH : Hid (ValIH N)) (h : RdAt w R s (p : Int)) (hN : 4096 - (p + 1) ≤ N) (hp : p < 4096) (hs : s.size ≤ 1073741824) (hX : MaxAt w) (hMR : 0 ≠ R) (h0 : 0 < s.size) (hc : s[0]'h0 = 1) :
    Calls Tryd.prog 28 #[.pointer (some ⟨R, 0, none⟩)] w (ValPost R s p w) := by
  obtain ⟨c0, c1, f0, f1⟩ := h.cell
  have hRw := h.lt
  have hA0 : w.heap.size ≠ R := by omega
  have hA1 : ¬ R = w.heap.size := by omega
  have hpi : (p : Int) < 4096 := by omega
  have hpf : ((p : Int) == 4096) = false := by simp; omega
  have W1r : Hid (RdAt ((w.setCell ⟨R, 1, none⟩ (.int .i64 ((p : Int) + 1))).alloc (.cells #[.int .i64 0, .bool false, .int .i64 0, .string ⟨#[]⟩, .slice none 0 0, .slice none 0 0] 26)) R s (((p + 1 : Nat)) : Int)) := Lib.hid ((h.set1 _).alloc _)
  have W1b : Hid (Box ((w.setCell ⟨R, 1, none⟩ (.int .i64 ((p : Int) + 1))).alloc (.cells #[.int .i64 0, .bool false, .int .i64 0, .string ⟨#[]⟩, .slice none 0 0, .slice none 0 0] 26)) w.heap.size #[.int .i64 0, .bool false, .int .i64 0, .string ⟨#[]⟩, .slice none 0 0, .slice none 0 0]) := Lib.hid (by
    have := Box.new (w.setCell ⟨R, 1, none⟩ (.int .i64 ((p : Int) + 1))) #[.int .i64 0, .bool false, .int .i64 0, .string ⟨#[]⟩, .slice none 0 0, .slice none 0 0]
    simpa [World.setCell] using this)
  have W1k : Hid (Keeps (· = R) w ((w.setCell ⟨R, 1, none⟩ (.int .i64 ((p : Int) + 1))).alloc (.cells #[.int .i64 0, .bool false, .int .i64 0, .string ⟨#[]⟩, .slice none 0 0, .slice none 0 0] 26))) := Lib.hid (((Keeps.refl (· = R) w).setCell (.inl rfl) _).alloc _)
  have OC := Lib.hid (octet_some R s _ _ W1r.out h0 (by omega))
  have HH0 := head_tail s h0
  rw [hc] at OC HH0
  obtain ⟨s1, hs1⟩ : ∃ q, s.extract 1 s.size = q := ⟨_, rfl⟩
  rw [hs1] at OC HH0
  have HH := Lib.hid HH0
  have hz1 : s1.size ≤ 1073741824 := by
    have := congrArg List.length HH0
    rw [List.length_cons, ba_len, ba_len] at this
    omega
  have HX := Lib.hid hX
  clear h hX h0 HH0 hs1 hc
  go_enter Tryd.func28, Tryd.ntmps28
  go_wp2_with fail
  refine OC.out.mono ?_
  rintro e w2 ⟨rfl, r2, k2⟩
  have K2 := Lib.hid (W1k.out.trans k2)
  have B2 := Lib.hid (box_keeps W1b.out k2 hA0)
  have R2 := Lib.hid r2
  clear r2 k2
  have DC := Lib.hid (dict_any N R s1 (p + 1) w2 IH R2.out hN (by omega) hz1 (HX.out.keeps K2.out hMR) hMR)
  go_wp2_with fail
  refine DC.out.mono ?_
  rintro e w3 ⟨k3, ⟨ts, ks, v, s', rfl, hraw, hkl, hown, htx, hrd, hle⟩ | ⟨rfl, hnone⟩⟩
  · obtain ⟨yk, yb, yn, ys, ypl, ynl, ycl, ypk, ynk, yck, rfl⟩ := hown.shape
    have B3 := Lib.hid (box_keeps B2.out k3 hA0)
    have K3 := Lib.hid (K2.out.trans k3)
    have hB2 := B2.out.lt
    have hB3 := B3.out.lt
    have hpt : p + VT.parts (.mk 5 false 0 ⟨#[]⟩ ts ks) = p + 1 + VT.partsL ts := by rw [VT.parts]; omega
    have HR : Hid (rawV (.mk 5 false 0 ⟨#[]⟩ ts ks)) := Lib.hid (by unfold rawV; exact ⟨⟨⟨by omega, by omega⟩, ⟨by omega, by omega⟩, fun _ => rfl, fun _ _ _ => rfl, fun _ => rfl, fun h4 h5 => absurd rfl h5, fun h5 => absurd rfl h5, fun h5 => hkl⟩, hraw⟩)
    have HT : Hid (s.data.toList = keyR (.mk 5 false 0 ⟨#[]⟩ ts ks) ++ s'.data.toList) := Lib.hid (by
      rw [HH.out, htx]
      show _ = 1 :: (partsR ts true ks ++ [0] ++ s'.data.toList)
      rw [List.append_assoc])
    have HD := Lib.hid hrd
    have HO := Lib.hid hown
    have HLE := Lib.hid hle
    clear hrd hown hle htx hraw k3 hpt hkl
    have hf := fun i => box_free B3.out i
    obtain ⟨z0, z1, z2, z3, z4, z5⟩ := B3.out.cell
    have HS : Hid (Box (six w3 w.heap.size (.int .i64 yk) (.bool yb) (.int .i64 yn) (.string ys) (.slice ypl ynl ycl) (.slice ypk ynk yck)) w.heap.size #[.int .i64 yk, .bool yb, .int .i64 yn, .string ys, .slice ypl ynl ycl, .slice ypk ynk yck]) := Lib.hid (Box.six B3.out _ _ _ _ _ _)
    go_wp2
    obtain ⟨q0, q1, q2, q3, q4, q5⟩ := HS.out.cell
    unfold six at q0 q1 q2 q3 q4 q5
    refine bodyPost_ret (v := .tuple #[.agg #[.int .i64 yk, .bool yb, .int .i64 yn, .string ys, .slice ypl ynl ycl, .slice ypk ynk yck], .bool true]) (by simp [results, Tryd.results28, go_sem, q0, q1, q2, q3, q4, q5]) rfl ?_
    have hpt : p + VT.parts (.mk 5 false 0 ⟨#[]⟩ ts ks) = p + 1 + VT.partsL ts := by rw [VT.parts]; omega
    exact val_ok K3.out hB3 HO.out (fun k hk => ⟨Nat.lt_of_lt_of_le hB2 hk.1, hk.2⟩) HR.out HT.out (by rw [hpt]; exact HD.out) (by rw [hpt]; exact HLE.out) hRw
  · have B3 := Lib.hid (box_keeps B2.out k3 hA0)
    have K3 := Lib.hid (K2.out.trans k3)
    have HN : Hid (∀ t r, rawV t → p + t.parts ≤ 4096 → s.data.toList ≠ keyR t ++ r) := Lib.hid fun t r ht hp2 he => by
      rw [HH.out] at he
      rcases raw_cases t r _ _ ht he with h | h | h | h | h | h
      · obtain ⟨-, l, ks, a1, a2, a3, a4⟩ := h; exact hnone l ks r a1 a2 (by omega) a4
      · rcases h.1 with h | h | h <;> exact absurd h (by decide)
      · exact absurd h.1 (by decide)
      · exact absurd h.1 (by decide)
      · exact absurd h.1 (by decide)
      · exact absurd h (by decide)
    clear k3 hnone
    unfold ZV
    have hf := fun i => box_free B3.out i
    obtain ⟨z0, z1, z2, z3, z4, z5⟩ := B3.out.cell
    have HS : Hid (Box (six w3 w.heap.size (.int .i64 0) (.bool false) (.int .i64 0) (.string ⟨#[]⟩) (.slice none 0 0) (.slice none 0 0)) w.heap.size #[.int .i64 0, .bool false, .int .i64 0, .string ⟨#[]⟩, .slice none 0 0, .slice none 0 0]) := Lib.hid (Box.six B3.out _ _ _ _ _ _)
    go_wp2
    obtain ⟨q0, q1, q2, q3, q4, q5⟩ := HS.out.cell
    unfold six at q0 q1 q2 q3 q4 q5
    refine bodyPost_ret (v := .tuple #[.agg #[.int .i64 0, .bool false, .int .i64 0, .string ⟨#[]⟩, .slice none 0 0, .slice none 0 0], .bool false]) (by simp [results, Tryd.results28, go_sem, q0, q1, q2, q3, q4, q5]) rfl ?_
    exact val_no K3.out HN.out
set_option maxRecDepth 100000 in
set_option maxHeartbeats 8000000 in
theorem value_arm_list (N R : Nat) (s : ByteArray) (p : Nat) (w : World) (IH : Hid (ValIH N)) (h : RdAt w R s (p : Int)) (hN : 4096 - (p + 1) ≤ N) (hp : p < 4096) (hs : s.size ≤ 1073741824) (hX : MaxAt w) (hMR : 0 ≠ R) (h0 : 0 < s.size) (hc : s[0]'h0 = 4) :
    Calls Tryd.prog 28 #[.pointer (some ⟨R, 0, none⟩)] w (ValPost R s p w) := by
  obtain ⟨c0, c1, f0, f1⟩ := h.cell
  have hRw := h.lt
  have hA0 : w.heap.size ≠ R := by omega
  have hA1 : ¬ R = w.heap.size := by omega
  have hpi : (p : Int) < 4096 := by omega
  have hpf : ((p : Int) == 4096) = false := by simp; omega
  have W1r : Hid (RdAt ((w.setCell ⟨R, 1, none⟩ (.int .i64 ((p : Int) + 1))).alloc (.cells #[.int .i64 0, .bool false, .int .i64 0, .string ⟨#[]⟩, .slice none 0 0, .slice none 0 0] 26)) R s (((p + 1 : Nat)) : Int)) := Lib.hid ((h.set1 _).alloc _)
  have W1b : Hid (Box ((w.setCell ⟨R, 1, none⟩ (.int .i64 ((p : Int) + 1))).alloc (.cells #[.int .i64 0, .bool false, .int .i64 0, .string ⟨#[]⟩, .slice none 0 0, .slice none 0 0] 26)) w.heap.size #[.int .i64 0, .bool false, .int .i64 0, .string ⟨#[]⟩, .slice none 0 0, .slice none 0 0]) := Lib.hid (by
    have := Box.new (w.setCell ⟨R, 1, none⟩ (.int .i64 ((p : Int) + 1))) #[.int .i64 0, .bool false, .int .i64 0, .string ⟨#[]⟩, .slice none 0 0, .slice none 0 0]
    simpa [World.setCell] using this)
  have W1k : Hid (Keeps (· = R) w ((w.setCell ⟨R, 1, none⟩ (.int .i64 ((p : Int) + 1))).alloc (.cells #[.int .i64 0, .bool false, .int .i64 0, .string ⟨#[]⟩, .slice none 0 0, .slice none 0 0] 26))) := Lib.hid (((Keeps.refl (· = R) w).setCell (.inl rfl) _).alloc _)
  have OC := Lib.hid (octet_some R s _ _ W1r.out h0 (by omega))
  have HH0 := head_tail s h0
  rw [hc] at OC HH0
  obtain ⟨s1, hs1⟩ : ∃ q, s.extract 1 s.size = q := ⟨_, rfl⟩
  rw [hs1] at OC HH0
  have HH := Lib.hid HH0
  have hz1 : s1.size ≤ 1073741824 := by
    have := congrArg List.length HH0
    rw [List.length_cons, ba_len, ba_len] at this
    omega
  have HX := Lib.hid hX
  clear h hX h0 HH0 hs1 hc
  go_enter Tryd.func28, Tryd.ntmps28
  go_wp2_with fail
  refine OC.out.mono ?_
  rintro e w2 ⟨rfl, r2, k2⟩
  have K2 := Lib.hid (W1k.out.trans k2)
  have B2 := Lib.hid (box_keeps W1b.out k2 hA0)
  have R2 := Lib.hid r2
  clear r2 k2
  have DC := Lib.hid (list_any N R s1 (p + 1) w2 IH R2.out hN (by omega) hz1 (HX.out.keeps K2.out hMR) hMR)
  go_wp2_with fail
  refine DC.out.mono ?_
  rintro e w3 ⟨k3, ⟨ts, v, s', rfl, hraw, hown, htx, hrd, hle⟩ | ⟨rfl, hnone⟩⟩
  · obtain ⟨yk, yb, yn, ys, ypl, ynl, ycl, ypk, ynk, yck, rfl⟩ := hown.shape
    have B3 := Lib.hid (box_keeps B2.out k3 hA0)
    have K3 := Lib.hid (K2.out.trans k3)
    have hB2 := B2.out.lt
    have hB3 := B3.out.lt
    have hpt : p + VT.parts (.mk 4 false 0 ⟨#[]⟩ ts []) = p + 1 + VT.partsL ts := by rw [VT.parts]; omega
    have HR : Hid (rawV (.mk 4 false 0 ⟨#[]⟩ ts [])) := Lib.hid (by unfold rawV; exact ⟨⟨⟨by omega, by omega⟩, ⟨by omega, by omega⟩, fun _ => rfl, fun _ _ _ => rfl, fun _ => rfl, fun h4 h5 => absurd rfl h4, fun h5 => rfl, fun h5 => absurd h5 (by decide)⟩, hraw⟩)
    have HT : Hid (s.data.toList = keyR (.mk 4 false 0 ⟨#[]⟩ ts []) ++ s'.data.toList) := Lib.hid (by
      rw [HH.out, htx]
      show _ = 4 :: (partsR ts false [] ++ [0] ++ s'.data.toList)
      rw [List.append_assoc])
    have HD := Lib.hid hrd
    have HO := Lib.hid hown
    have HLE := Lib.hid hle
    clear hrd hown hle htx hraw k3 hpt
    have hf := fun i => box_free B3.out i
    obtain ⟨z0, z1, z2, z3, z4, z5⟩ := B3.out.cell
    have HS : Hid (Box (six w3 w.heap.size (.int .i64 yk) (.bool yb) (.int .i64 yn) (.string ys) (.slice ypl ynl ycl) (.slice ypk ynk yck)) w.heap.size #[.int .i64 yk, .bool yb, .int .i64 yn, .string ys, .slice ypl ynl ycl, .slice ypk ynk yck]) := Lib.hid (Box.six B3.out _ _ _ _ _ _)
    go_wp2
    obtain ⟨q0, q1, q2, q3, q4, q5⟩ := HS.out.cell
    unfold six at q0 q1 q2 q3 q4 q5
    refine bodyPost_ret (v := .tuple #[.agg #[.int .i64 yk, .bool yb, .int .i64 yn, .string ys, .slice ypl ynl ycl, .slice ypk ynk yck], .bool true]) (by simp [results, Tryd.results28, go_sem, q0, q1, q2, q3, q4, q5]) rfl ?_
    have hpt : p + VT.parts (.mk 4 false 0 ⟨#[]⟩ ts []) = p + 1 + VT.partsL ts := by rw [VT.parts]; omega
    exact val_ok K3.out hB3 HO.out (fun k hk => ⟨Nat.lt_of_lt_of_le hB2 hk.1, hk.2⟩) HR.out HT.out (by rw [hpt]; exact HD.out) (by rw [hpt]; exact HLE.out) hRw
  · have B3 := Lib.hid (box_keeps B2.out k3 hA0)
    have K3 := Lib.hid (K2.out.trans k3)
    have HN : Hid (∀ t r, rawV t → p + t.parts ≤ 4096 → s.data.toList ≠ keyR t ++ r) := Lib.hid fun t r ht hp2 he => by
      rw [HH.out] at he
      rcases raw_cases t r _ _ ht he with h | h | h | h | h | h
      · exact absurd h.1 (by decide)
      · rcases h.1 with h | h | h <;> exact absurd h (by decide)
      · obtain ⟨-, l, a1, a3, a4⟩ := h; exact hnone l r a1 (by omega) a4
      · exact absurd h.1 (by decide)
      · exact absurd h.1 (by decide)
      · exact absurd h (by decide)
    clear k3 hnone
    unfold ZV
    have hf := fun i => box_free B3.out i
    obtain ⟨z0, z1, z2, z3, z4, z5⟩ := B3.out.cell
    have HS : Hid (Box (six w3 w.heap.size (.int .i64 0) (.bool false) (.int .i64 0) (.string ⟨#[]⟩) (.slice none 0 0) (.slice none 0 0)) w.heap.size #[.int .i64 0, .bool false, .int .i64 0, .string ⟨#[]⟩, .slice none 0 0, .slice none 0 0]) := Lib.hid (Box.six B3.out _ _ _ _ _ _)
    go_wp2
    obtain ⟨q0, q1, q2, q3, q4, q5⟩ := HS.out.cell
    unfold six at q0 q1 q2 q3 q4 q5
    refine bodyPost_ret (v := .tuple #[.agg #[.int .i64 0, .bool false, .int .i64 0, .string ⟨#[]⟩, .slice none 0 0, .slice none 0 0], .bool false]) (by simp [results, Tryd.results28, go_sem, q0, q1, q2, q3, q4, q5]) rfl ?_
    exact val_no K3.out HN.out
set_option maxRecDepth 100000 in
set_option maxHeartbeats 8000000 in
theorem value_arm_text (N R : Nat) (s : ByteArray) (p : Nat) (w : World) (IH : Hid (ValIH N)) (h : RdAt w R s (p : Int)) (hN : 4096 - (p + 1) ≤ N) (hp : p < 4096) (hs : s.size ≤ 1073741824) (hX : MaxAt w) (hMR : 0 ≠ R) (h0 : 0 < s.size) (hc : s[0]'h0 = 5) :
    Calls Tryd.prog 28 #[.pointer (some ⟨R, 0, none⟩)] w (ValPost R s p w) := by
  obtain ⟨c0, c1, f0, f1⟩ := h.cell
  have hRw := h.lt
  have hA0 : w.heap.size ≠ R := by omega
  have hA1 : ¬ R = w.heap.size := by omega
  have hpi : (p : Int) < 4096 := by omega
  have hpf : ((p : Int) == 4096) = false := by simp; omega
  have W1r : Hid (RdAt ((w.setCell ⟨R, 1, none⟩ (.int .i64 ((p : Int) + 1))).alloc (.cells #[.int .i64 0, .bool false, .int .i64 0, .string ⟨#[]⟩, .slice none 0 0, .slice none 0 0] 26)) R s (((p + 1 : Nat)) : Int)) := Lib.hid ((h.set1 _).alloc _)
  have W1b : Hid (Box ((w.setCell ⟨R, 1, none⟩ (.int .i64 ((p : Int) + 1))).alloc (.cells #[.int .i64 0, .bool false, .int .i64 0, .string ⟨#[]⟩, .slice none 0 0, .slice none 0 0] 26)) w.heap.size #[.int .i64 0, .bool false, .int .i64 0, .string ⟨#[]⟩, .slice none 0 0, .slice none 0 0]) := Lib.hid (by
    have := Box.new (w.setCell ⟨R, 1, none⟩ (.int .i64 ((p : Int) + 1))) #[.int .i64 0, .bool false, .int .i64 0, .string ⟨#[]⟩, .slice none 0 0, .slice none 0 0]
    simpa [World.setCell] using this)
  have W1k : Hid (Keeps (· = R) w ((w.setCell ⟨R, 1, none⟩ (.int .i64 ((p : Int) + 1))).alloc (.cells #[.int .i64 0, .bool false, .int .i64 0, .string ⟨#[]⟩, .slice none 0 0, .slice none 0 0] 26))) := Lib.hid (((Keeps.refl (· = R) w).setCell (.inl rfl) _).alloc _)
  have OC := Lib.hid (octet_some R s _ _ W1r.out h0 (by omega))
  have HH0 := head_tail s h0
  rw [hc] at OC HH0
  obtain ⟨s1, hs1⟩ : ∃ q, s.extract 1 s.size = q := ⟨_, rfl⟩
  rw [hs1] at OC HH0
  have HH := Lib.hid HH0
  have hz1 : s1.size ≤ 1073741824 := by
    have := congrArg List.length HH0
    rw [List.length_cons, ba_len, ba_len] at this
    omega
  have HX := Lib.hid hX
  clear h hX h0 HH0 hs1 hc
  go_enter Tryd.func28, Tryd.ntmps28
  go_wp2_with fail
  refine OC.out.mono ?_
  rintro e w2 ⟨rfl, r2, k2⟩
  have K2 := Lib.hid (W1k.out.trans k2)
  have B2 := Lib.hid (box_keeps W1b.out k2 hA0)
  have R2 := Lib.hid r2
  clear r2 k2
  have TC := Lib.hid (text_any R s1 _ w2 R2.out (by omega) (HX.out.keeps K2.out hMR) hMR)
  go_wp2_with fail
  refine TC.out.mono ?_
  rintro e w3 ⟨k3, ⟨hnone, rfl, sx, r3⟩ | ⟨x, s', hsome, rfl, r3⟩⟩
  · have B3 := Lib.hid (box_keeps B2.out k3 hA0)
    have K3 := Lib.hid (K2.out.trans k3)
    have HN : Hid (∀ t r, rawV t → p + t.parts ≤ 4096 → s.data.toList ≠ keyR t ++ r) := Lib.hid fun t r ht hp2 he => by
      rw [HH.out] at he
      rcases raw_cases t r _ _ ht he with h | h | h | h | h | h
      · exact absurd h.1 (by decide)
      · rcases h.1 with h | h | h <;> exact absurd h (by decide)
      · exact absurd h.1 (by decide)
      · obtain ⟨-, x, hx⟩ := h; rw [hx, txt_end] at hnone; cases hnone
      · exact absurd h.1 (by decide)
      · exact absurd h (by decide)
    clear k3 hnone r3
    have hf := fun i => box_free B3.out i
    obtain ⟨z0, z1, z2, z3, z4, z5⟩ := B3.out.cell
    have HS : Hid (Box (six w3 w.heap.size (.int .i64 3) (.bool false) (.int .i64 0) (.string ⟨#[]⟩) (.slice none 0 0) (.slice none 0 0)) w.heap.size #[.int .i64 3, .bool false, .int .i64 0, .string ⟨#[]⟩, .slice none 0 0, .slice none 0 0]) := Lib.hid (Box.six B3.out _ _ _ _ _ _)
    go_wp2
    obtain ⟨q0, q1, q2, q3, q4, q5⟩ := HS.out.cell
    unfold six at q0 q1 q2 q3 q4 q5
    refine bodyPost_ret (v := .tuple #[.agg #[.int .i64 3, .bool false, .int .i64 0, .string ⟨#[]⟩, .slice none 0 0, .slice none 0 0], .bool false]) (by simp [results, Tryd.results28, go_sem, q0, q1, q2, q3, q4, q5]) rfl ?_
    exact val_no K3.out HN.out
  · obtain ⟨xb, hxb⟩ : ∃ xb : ByteArray, (⟨x.toArray⟩ : ByteArray) = xb := ⟨_, rfl⟩
    have hxd : xb.data.toList = x := by rw [← hxb]
    have htx := txt_sound _ _ _ hsome
    rw [hxb]
    have HR : Hid (rawV (.mk 3 false 0 xb [] [])) := Lib.hid (by unfold rawV; exact ⟨⟨⟨by omega, by omega⟩, ⟨by omega, by omega⟩, fun _ => rfl, fun _ _ _ => rfl, fun h3 => absurd rfl h3, fun _ _ => rfl, fun _ => rfl, fun h5 => absurd h5 (by decide)⟩, by unfold rawL; trivial⟩)
    have HT : Hid (s.data.toList = keyR (.mk 3 false 0 xb [] []) ++ s'.data.toList) := Lib.hid (by
      rw [HH.out, htx]
      show _ = 5 :: (endB xb.data.toList ++ _)
      rw [hxd])
    have B3 := Lib.hid (box_keeps B2.out k3 hA0)
    have K3 := Lib.hid (K2.out.trans k3)
    have R3 := Lib.hid r3
    clear r3 k3 hsome htx hxb hxd
    have hf := fun i => box_free B3.out i
    obtain ⟨z0, z1, z2, z3, z4, z5⟩ := B3.out.cell
    have HS : Hid (Box (six w3 w.heap.size (.int .i64 3) (.bool false) (.int .i64 0) (.string xb) (.slice none 0 0) (.slice none 0 0)) w.heap.size #[.int .i64 3, .bool false, .int .i64 0, .string xb, .slice none 0 0, .slice none 0 0]) := Lib.hid (Box.six B3.out _ _ _ _ _ _)
    go_wp2
    obtain ⟨q0, q1, q2, q3, q4, q5⟩ := HS.out.cell
    unfold six at q0 q1 q2 q3 q4 q5
    refine bodyPost_ret (v := .tuple #[.agg #[.int .i64 3, .bool false, .int .i64 0, .string xb, .slice none 0 0, .slice none 0 0], .bool true]) (by simp [results, Tryd.results28, go_sem, q0, q1, q2, q3, q4, q5]) rfl ?_
    have hpt : p + VT.parts (.mk 3 false 0 xb [] []) = p + 1 := by rw [VT.parts, VT.partsL]
    exact val_ok K3.out B3.out.lt (own_leaf _ _ _ _ _) (fun k hk => hk.elim) HR.out HT.out (by rw [hpt]; exact R3.out) (by omega) hRw
end Rk
end Go.Proofs.YtepfihanhdinfaaDoor
