/- The reader of keys: a value by its first byte: the others; any value. -/
import Derived.Test.YtepfihanhdinfaaDoorRkVA
import Derived.Test.YtepfihanhdinfaaDoorRkVB
namespace Go.Proofs.YtepfihanhdinfaaDoor
open Go.RowKit
set_option linter.unusedVariables false
set_option linter.unusedSimpArgs false
namespace Rk
open Val (VT Keeps Box StrBlock)
set_option maxRecDepth 100000 in
set_option maxHeartbeats 8000000 in
theorem value_arm_truth (N R : Nat) (s : ByteArray) (p : Nat) (w : World) (IH : Hid (ValIH N)) (h : RdAt w R s (p : Int)) (hN : 4096 - (p + 1) ≤ N) (hp : p < 4096) (hs : s.size ≤ 1073741824) (hX : MaxAt w) (hMR : 0 ≠ R) (h0 : 0 < s.size) (hc : s[0]'h0 = 6) :
    Calls Tryd.prog 28 #[.pointer (some ⟨R, 0, none⟩)] w (ValPost R s p w) := by
  obtain ⟨c0, c1, f0, f1⟩ := h.cell
  have hRw := h.lt
  have hA0 : w.heap.size ≠ R := by omega
  have hA1 : ¬ R = w.heap.size := by omega
  have hpi : (p : Int) < 4096 := by omega
  have hpf : ((p : Int) == 4096) = false := by simp; omega
  have W1r : Hid (RdAt ((w.setCell ⟨R, 1, none⟩ (.int .i64 ((p : Int) + 1))).alloc (.cells #[.int .i64 0, .bool false, .int .i64 0, .string ⟨#[]⟩, .slice none 0 0, .slice none 0 0] 26)) R s (((p + 1 : Nat)) : Int)) := Lib.hid ((h.set1 _).alloc _)
  have W1b : Hid (Box ((w.setCell ⟨R, 1, none⟩ (.int .i64 ((p : Int) + 1))).alloc (.cells #[.int .i64 0, .bool false, .int .i64 0, .string ⟨#[]⟩, .slice none 0 0, .slice none 0 0] 26)) w.heap.size #[.int .i64 0, .bool false, .int .i64 0, .string ⟨#[]⟩, .slice none 0 0, .slice none 0 0]) := Lib.hid (by
    have := Box.new (w.setCell ⟨R, 1, none⟩ (.int .i64 ((p : Int) + 1))) #[.int .i64 0, .bool false, .int .i64 0, .string ⟨#[]⟩, .slice none 0 0, .slice none 0 0]
    simpa [World.setCell] using this)
  have W1k : Hid (Keeps (· = R) w ((w.setCell ⟨R, 1, none⟩ (.int .i64 ((p : Int) + 1))).alloc (.cells #[.int .i64 0, .bool false, .int .i64 0, .string ⟨#[]⟩, .slice none 0 0, .slice none 0 0] 26))) := Lib.hid (((Keeps.refl (· = R) w).setCell (.inl rfl) _).alloc _)
  have OC := Lib.hid (octet_some R s _ _ W1r.out h0 (by omega))
  have HH0 := head_tail s h0
  rw [hc] at OC HH0
  obtain ⟨s1, hs1⟩ : ∃ q, s.extract 1 s.size = q := ⟨_, rfl⟩
  rw [hs1] at OC HH0
  have HH := Lib.hid HH0
  have hz1 : s1.size ≤ 1073741824 := by
    have := congrArg List.length HH0
    rw [List.length_cons, ba_len, ba_len] at this
    omega
  have HX := Lib.hid hX
  clear h hX h0 HH0 hs1 hc
  go_enter Tryd.func28, Tryd.ntmps28
  go_wp2_with fail
  refine OC.out.mono ?_
  rintro e w2 ⟨rfl, r2, k2⟩
  have K2 := Lib.hid (W1k.out.trans k2)
  have B2 := Lib.hid (box_keeps W1b.out k2 hA0)
  have R2 := Lib.hid r2
  clear r2 k2
  by_cases h1 : s1.size = 0
  · have hE := empty_of h1
    have hnil : s1.data.toList = [] := by rw [hE]; rfl
    have R2' := R2.out
    rw [hE] at R2'
    have NC := Lib.hid (octet_none R _ w2 R2')
    have HN : Hid (∀ t r, rawV t → p + t.parts ≤ 4096 → s.data.toList ≠ keyR t ++ r) := Lib.hid fun t r ht hp2 he => by
      rw [HH.out] at he
      rcases raw_cases t r _ _ ht he with h | h | h | h | h | h
      · exact absurd h.1 (by decide)
      · rcases h.1 with h | h | h <;> exact absurd h (by decide)
      · exact absurd h.1 (by decide)
      · exact absurd h.1 (by decide)
      · obtain ⟨-, b, hb⟩ := h; rw [hnil] at hb; cases hb
      · exact absurd h (by decide)
    clear h1 R2' hnil
    go_wp2_with fail
    refine NC.out.mono ?_
    rintro e w3 ⟨rfl, hw3⟩
    subst w3
    have hf := fun i => box_free B2.out i
    obtain ⟨z0, z1, z2, z3, z4, z5⟩ := B2.out.cell
    have HS : Hid (Box (six w2 w.heap.size (.int .i64 1) (.bool false) (.int .i64 0) (.string ⟨#[]⟩) (.slice none 0 0) (.slice none 0 0)) w.heap.size #[.int .i64 1, .bool false, .int .i64 0, .string ⟨#[]⟩, .slice none 0 0, .slice none 0 0]) := Lib.hid (Box.six B2.out _ _ _ _ _ _)
    go_wp2
    obtain ⟨q0, q1, q2, q3, q4, q5⟩ := HS.out.cell
    unfold six at q0 q1 q2 q3 q4 q5
    refine bodyPost_ret (v := .tuple #[.agg #[.int .i64 1, .bool false, .int .i64 0, .string ⟨#[]⟩, .slice none 0 0, .slice none 0 0], .bool false]) (by simp [results, Tryd.results28, go_sem, q0, q1, q2, q3, q4, q5]) rfl ?_
    exact val_no K2.out HN.out
  · have h1p : 0 < s1.size := by omega
    have O2 := Lib.hid (octet_some R s1 _ w2 R2.out h1p (by omega))
    have HH1 := Lib.hid (head_tail s1 h1p)
    obtain ⟨s2, hs2⟩ : ∃ q, s1.extract 1 s1.size = q := ⟨_, rfl⟩
    rw [hs2] at O2 HH1
    obtain ⟨d, hd⟩ : ∃ d, s1[0]'h1p = d := ⟨_, rfl⟩
    rw [hd] at O2 HH1
    clear h1 hs2 hd
    by_cases hd1 : d = 1
    · subst hd1
      have HR : Hid (rawV (.mk 1 true 0 ⟨#[]⟩ [] [])) := Lib.hid (by unfold rawV; exact ⟨⟨⟨by omega, by omega⟩, ⟨by omega, by omega⟩, fun h1 => absurd rfl h1, fun _ _ _ => rfl, fun _ => rfl, fun _ _ => rfl, fun _ => rfl, fun h5 => absurd h5 (by decide)⟩, by unfold rawL; trivial⟩)
      have HT : Hid (s.data.toList = keyR (.mk 1 true 0 ⟨#[]⟩ [] []) ++ s2.data.toList) := Lib.hid (by rw [HH.out, HH1.out]; rfl)
      go_wp2_with fail
      refine O2.out.mono ?_
      rintro e w3 ⟨rfl, r3, k3⟩
      have B3 := Lib.hid (box_keeps B2.out k3 hA0)
      have K3 := Lib.hid (K2.out.trans k3)
      have R3 := Lib.hid r3
      clear r3 k3
      have hf := fun i => box_free B3.out i
      obtain ⟨z0, z1, z2, z3, z4, z5⟩ := B3.out.cell
      have HS : Hid (Box (six w3 w.heap.size (.int .i64 1) (.bool true) (.int .i64 0) (.string ⟨#[]⟩) (.slice none 0 0) (.slice none 0 0)) w.heap.size #[.int .i64 1, .bool true, .int .i64 0, .string ⟨#[]⟩, .slice none 0 0, .slice none 0 0]) := Lib.hid (Box.six B3.out _ _ _ _ _ _)
      go_wp2
      obtain ⟨q0, q1, q2, q3, q4, q5⟩ := HS.out.cell
      unfold six at q0 q1 q2 q3 q4 q5
      refine bodyPost_ret (v := .tuple #[.agg #[.int .i64 1, .bool true, .int .i64 0, .string ⟨#[]⟩, .slice none 0 0, .slice none 0 0], .bool true]) (by simp [results, Tryd.results28, go_sem, q0, q1, q2, q3, q4, q5]) rfl ?_
      have hpt : p + VT.parts (.mk 1 true 0 ⟨#[]⟩ [] []) = p + 1 := by rw [VT.parts, VT.partsL]
      exact val_ok K3.out B3.out.lt (own_leaf _ _ _ _ _) (fun k hk => hk.elim) HR.out HT.out (by rw [hpt]; exact R3.out) (by omega) hRw
    · by_cases hd0 : d = 0
      · subst hd0
        have HR : Hid (rawV (.mk 1 false 0 ⟨#[]⟩ [] [])) := Lib.hid (by unfold rawV; exact ⟨⟨⟨by omega, by omega⟩, ⟨by omega, by omega⟩, fun _ => rfl, fun _ _ _ => rfl, fun _ => rfl, fun _ _ => rfl, fun _ => rfl, fun h5 => absurd h5 (by decide)⟩, by unfold rawL; trivial⟩)
        have HT : Hid (s.data.toList = keyR (.mk 1 false 0 ⟨#[]⟩ [] []) ++ s2.data.toList) := Lib.hid (by rw [HH.out, HH1.out]; rfl)
        clear hd1
        go_wp2_with fail
        refine O2.out.mono ?_
        rintro e w3 ⟨rfl, r3, k3⟩
        have B3 := Lib.hid (box_keeps B2.out k3 hA0)
        have K3 := Lib.hid (K2.out.trans k3)
        have R3 := Lib.hid r3
        clear r3 k3
        have hf := fun i => box_free B3.out i
        obtain ⟨z0, z1, z2, z3, z4, z5⟩ := B3.out.cell
        have HS : Hid (Box (six w3 w.heap.size (.int .i64 1) (.bool false) (.int .i64 0) (.string ⟨#[]⟩) (.slice none 0 0) (.slice none 0 0)) w.heap.size #[.int .i64 1, .bool false, .int .i64 0, .string ⟨#[]⟩, .slice none 0 0, .slice none 0 0]) := Lib.hid (Box.six B3.out _ _ _ _ _ _)
        go_wp2
        obtain ⟨q0, q1, q2, q3, q4, q5⟩ := HS.out.cell
        unfold six at q0 q1 q2 q3 q4 q5
        refine bodyPost_ret (v := .tuple #[.agg #[.int .i64 1, .bool false, .int .i64 0, .string ⟨#[]⟩, .slice none 0 0, .slice none 0 0], .bool true]) (by simp [results, Tryd.results28, go_sem, q0, q1, q2, q3, q4, q5]) rfl ?_
        have hpt : p + VT.parts (.mk 1 false 0 ⟨#[]⟩ [] []) = p + 1 := by rw [VT.parts, VT.partsL]
        exact val_ok K3.out B3.out.lt (own_leaf _ _ _ _ _) (fun k hk => hk.elim) HR.out HT.out (by rw [hpt]; exact R3.out) (by omega) hRw
      · have HN : Hid (∀ t r, rawV t → p + t.parts ≤ 4096 → s.data.toList ≠ keyR t ++ r) := Lib.hid fun t r ht hp2 he => by
          rw [HH.out] at he
          rcases raw_cases t r _ _ ht he with h | h | h | h | h | h
          · exact absurd h.1 (by decide)
          · rcases h.1 with h | h | h <;> exact absurd h (by decide)
          · exact absurd h.1 (by decide)
          · exact absurd h.1 (by decide)
          · obtain ⟨-, b, hb⟩ := h; rw [HH1.out] at hb; injection hb with hb _; cases b <;> first | exact hd0 hb | exact hd1 hb
          · exact absurd h (by decide)
        obtain ⟨x, hx⟩ : ∃ x : Int, (d.toNat : Int) = x := ⟨_, rfl⟩
        have hx2 : 2 ≤ x := by
          rcases Nat.lt_or_ge d.toNat 2 with h2 | h2
          · exfalso
            have h3 : d.toNat = 0 ∨ d.toNat = 1 := by omega
            rcases h3 with h3 | h3
            · exact hd0 (UInt8.toNat_inj.1 (by simpa using h3))
            · exact hd1 (UInt8.toNat_inj.1 (by simpa using h3))
          · omega
        rw [hx] at O2
        have hx1 : (x == 1) = false := by simp; omega
        have hxl : decide (x ≤ 1) = false := decide_eq_false (by omega)
        clear hd0 hd1 hx
        go_wp2_with fail
        refine O2.out.mono ?_
        rintro e w3 ⟨rfl, r3, k3⟩
        have B3 := Lib.hid (box_keeps B2.out k3 hA0)
        have K3 := Lib.hid (K2.out.trans k3)
        clear r3 k3
        have hf := fun i => box_free B3.out i
        obtain ⟨z0, z1, z2, z3, z4, z5⟩ := B3.out.cell
        have HS : Hid (Box (six w3 w.heap.size (.int .i64 1) (.bool false) (.int .i64 0) (.string ⟨#[]⟩) (.slice none 0 0) (.slice none 0 0)) w.heap.size #[.int .i64 1, .bool false, .int .i64 0, .string ⟨#[]⟩, .slice none 0 0, .slice none 0 0]) := Lib.hid (Box.six B3.out _ _ _ _ _ _)
        go_wp2
        obtain ⟨q0, q1, q2, q3, q4, q5⟩ := HS.out.cell
        unfold six at q0 q1 q2 q3 q4 q5
        refine bodyPost_ret (v := .tuple #[.agg #[.int .i64 1, .bool false, .int .i64 0, .string ⟨#[]⟩, .slice none 0 0, .slice none 0 0], .bool false]) (by simp [results, Tryd.results28, go_sem, q0, q1, q2, q3, q4, q5]) rfl ?_
        exact val_no K3.out HN.out
set_option maxRecDepth 100000 in
set_option maxHeartbeats 8000000 in
theorem value_arm_null (N R : Nat) (s : ByteArray) (p : Nat) (w : World) (IH : Hid (ValIH N)) (h : RdAt w R s (p : Int)) (hN : 4096 - (p + 1) ≤ N) (hp : p < 4096) (hs : s.size ≤ 1073741824) (hX : MaxAt w) (hMR : 0 ≠ R) (h0 : 0 < s.size) (hc : s[0]'h0 = 8) :
    Calls Tryd.prog 28 #[.pointer (some ⟨R, 0, none⟩)] w (ValPost R s p w) := by
  obtain ⟨c0, c1, f0, f1⟩ := h.cell
  have hRw := h.lt
  have hA0 : w.heap.size ≠ R := by omega
  have hA1 : ¬ R = w.heap.size := by omega
  have hpi : (p : Int) < 4096 := by omega
  have hpf : ((p : Int) == 4096) = false := by simp; omega
  have W1r : Hid (RdAt ((w.setCell ⟨R, 1, none⟩ (.int .i64 ((p : Int) + 1))).alloc (.cells #[.int .i64 0, .bool false, .int .i64 0, .string ⟨#[]⟩, .slice none 0 0, .slice none 0 0] 26)) R s (((p + 1 : Nat)) : Int)) := Lib.hid ((h.set1 _).alloc _)
  have W1b : Hid (Box ((w.setCell ⟨R, 1, none⟩ (.int .i64 ((p : Int) + 1))).alloc (.cells #[.int .i64 0, .bool false, .int .i64 0, .string ⟨#[]⟩, .slice none 0 0, .slice none 0 0] 26)) w.heap.size #[.int .i64 0, .bool false, .int .i64 0, .string ⟨#[]⟩, .slice none 0 0, .slice none 0 0]) := Lib.hid (by
    have := Box.new (w.setCell ⟨R, 1, none⟩ (.int .i64 ((p : Int) + 1))) #[.int .i64 0, .bool false, .int .i64 0, .string ⟨#[]⟩, .slice none 0 0, .slice none 0 0]
    simpa [World.setCell] using this)
  have W1k : Hid (Keeps (· = R) w ((w.setCell ⟨R, 1, none⟩ (.int .i64 ((p : Int) + 1))).alloc (.cells #[.int .i64 0, .bool false, .int .i64 0, .string ⟨#[]⟩, .slice none 0 0, .slice none 0 0] 26))) := Lib.hid (((Keeps.refl (· = R) w).setCell (.inl rfl) _).alloc _)
  have OC := Lib.hid (octet_some R s _ _ W1r.out h0 (by omega))
  have HH0 := head_tail s h0
  rw [hc] at OC HH0
  obtain ⟨s1, hs1⟩ : ∃ q, s.extract 1 s.size = q := ⟨_, rfl⟩
  rw [hs1] at OC HH0
  have HH := Lib.hid HH0
  have hz1 : s1.size ≤ 1073741824 := by
    have := congrArg List.length HH0
    rw [List.length_cons, ba_len, ba_len] at this
    omega
  have HX := Lib.hid hX
  clear h hX h0 HH0 hs1 hc
  go_enter Tryd.func28, Tryd.ntmps28
  go_wp2_with fail
  refine OC.out.mono ?_
  rintro e w2 ⟨rfl, r2, k2⟩
  have K2 := Lib.hid (W1k.out.trans k2)
  have B2 := Lib.hid (box_keeps W1b.out k2 hA0)
  have R2 := Lib.hid r2
  clear r2 k2
  have HR : Hid (rawV (.mk 0 false 0 ⟨#[]⟩ [] [])) := Lib.hid (by unfold rawV; exact ⟨⟨⟨by omega, by omega⟩, ⟨by omega, by omega⟩, fun _ => rfl, fun _ _ _ => rfl, fun _ => rfl, fun _ _ => rfl, fun _ => rfl, fun h5 => absurd h5 (by decide)⟩, by unfold rawL; trivial⟩)
  have HT : Hid (s.data.toList = keyR (.mk 0 false 0 ⟨#[]⟩ [] []) ++ s1.data.toList) := Lib.hid (by rw [HH.out]; rfl)
  have hf := fun i => box_free B2.out i
  obtain ⟨z0, z1, z2, z3, z4, z5⟩ := B2.out.cell
  have HS : Hid (Box (six w2 w.heap.size (.int .i64 0) (.bool false) (.int .i64 0) (.string ⟨#[]⟩) (.slice none 0 0) (.slice none 0 0)) w.heap.size #[.int .i64 0, .bool false, .int .i64 0, .string ⟨#[]⟩, .slice none 0 0, .slice none 0 0]) := Lib.hid (Box.six B2.out _ _ _ _ _ _)
  go_wp2
  obtain ⟨q0, q1, q2, q3, q4, q5⟩ := HS.out.cell
  unfold six at q0 q1 q2 q3 q4 q5
  refine bodyPost_ret (v := .tuple #[.agg #[.int .i64 0, .bool false, .int .i64 0, .string ⟨#[]⟩, .slice none 0 0, .slice none 0 0], .bool true]) (by simp [results, Tryd.results28, go_sem, q0, q1, q2, q3, q4, q5]) rfl ?_
  have hpt : p + VT.parts (.mk 0 false 0 ⟨#[]⟩ [] []) = p + 1 := by rw [VT.parts, VT.partsL]
  exact val_ok K2.out B2.out.lt (own_leaf _ _ _ _ _) (fun k hk => hk.elim) HR.out HT.out (by rw [hpt]; exact R2.out) (by omega) hRw
set_option maxRecDepth 100000 in
set_option maxHeartbeats 8000000 in
theorem value_arm_other (N R : Nat) (s : ByteArray) (p : Nat) (w : World) (IH : Hid (ValIH N)) (h : RdAt w R s (p : Int)) (hN : 4096 - (p + 1) ≤ N) (hp : p < 4096) (hs : s.size ≤ 1073741824) (hX : MaxAt w) (hMR : 0 ≠ R) (h0 : 0 < s.size) (hnc : s[0]'h0 ≠ 1 ∧ s[0]'h0 ≠ 2 ∧ s[0]'h0 ≠ 3 ∧ s[0]'h0 ≠ 4 ∧ s[0]'h0 ≠ 5 ∧ s[0]'h0 ≠ 6 ∧ s[0]'h0 ≠ 7 ∧ s[0]'h0 ≠ 8) :
    Calls Tryd.prog 28 #[.pointer (some ⟨R, 0, none⟩)] w (ValPost R s p w) := by
  obtain ⟨c0, c1, f0, f1⟩ := h.cell
  have hRw := h.lt
  have hA0 : w.heap.size ≠ R := by omega
  have hA1 : ¬ R = w.heap.size := by omega
  have hpi : (p : Int) < 4096 := by omega
  have hpf : ((p : Int) == 4096) = false := by simp; omega
  have W1r : Hid (RdAt ((w.setCell ⟨R, 1, none⟩ (.int .i64 ((p : Int) + 1))).alloc (.cells #[.int .i64 0, .bool false, .int .i64 0, .string ⟨#[]⟩, .slice none 0 0, .slice none 0 0] 26)) R s (((p + 1 : Nat)) : Int)) := Lib.hid ((h.set1 _).alloc _)
  have W1b : Hid (Box ((w.setCell ⟨R, 1, none⟩ (.int .i64 ((p : Int) + 1))).alloc (.cells #[.int .i64 0, .bool false, .int .i64 0, .string ⟨#[]⟩, .slice none 0 0, .slice none 0 0] 26)) w.heap.size #[.int .i64 0, .bool false, .int .i64 0, .string ⟨#[]⟩, .slice none 0 0, .slice none 0 0]) := Lib.hid (by
    have := Box.new (w.setCell ⟨R, 1, none⟩ (.int .i64 ((p : Int) + 1))) #[.int .i64 0, .bool false, .int .i64 0, .string ⟨#[]⟩, .slice none 0 0, .slice none 0 0]
    simpa [World.setCell] using this)
  have W1k : Hid (Keeps (· = R) w ((w.setCell ⟨R, 1, none⟩ (.int .i64 ((p : Int) + 1))).alloc (.cells #[.int .i64 0, .bool false, .int .i64 0, .string ⟨#[]⟩, .slice none 0 0, .slice none 0 0] 26))) := Lib.hid (((Keeps.refl (· = R) w).setCell (.inl rfl) _).alloc _)
  have OC := Lib.hid (octet_some R s _ _ W1r.out h0 (by omega))
  have HH0 := head_tail s h0
  obtain ⟨d, hd⟩ : ∃ d, s[0]'h0 = d := ⟨_, rfl⟩
  rw [hd] at OC HH0 hnc
  obtain ⟨x, hx⟩ : ∃ x : Int, (d.toNat : Int) = x := ⟨_, rfl⟩
  have hne : ((x == 1) = false) ∧ ((x == 2) = false) ∧ ((x == 3) = false) ∧ ((x == 4) = false) ∧ ((x == 5) = false) ∧ ((x == 6) = false) ∧ ((x == 7) = false) ∧ ((x == 8) = false) := by
    have key : ∀ (k : UInt8) (z : Int), (k.toNat : Int) = z → d ≠ k → (x == z) = false := fun k z hz hk => by
      rw [← hx, ← hz]
      simp only [beq_eq_false_iff_ne, ne_eq]
      intro e
      exact hk (UInt8.toNat_inj.1 (by omega))
    obtain ⟨a1, a2, a3, a4, a5, a6, a7, a8⟩ := hnc
    exact ⟨key 1 1 rfl a1, key 2 2 rfl a2, key 3 3 rfl a3, key 4 4 rfl a4, key 5 5 rfl a5, key 6 6 rfl a6, key 7 7 rfl a7, key 8 8 rfl a8⟩
  rw [hx] at OC
  obtain ⟨s1, hs1⟩ : ∃ q, s.extract 1 s.size = q := ⟨_, rfl⟩
  rw [hs1] at OC HH0
  have HH := Lib.hid HH0
  have hz1 : s1.size ≤ 1073741824 := by
    have := congrArg List.length HH0
    rw [List.length_cons, ba_len, ba_len] at this
    omega
  have HX := Lib.hid hX
  clear h hX h0 HH0 hs1 hd hx
  go_enter Tryd.func28, Tryd.ntmps28
  go_wp2_with fail
  refine OC.out.mono ?_
  rintro e w2 ⟨rfl, r2, k2⟩
  have K2 := Lib.hid (W1k.out.trans k2)
  have B2 := Lib.hid (box_keeps W1b.out k2 hA0)
  have R2 := Lib.hid r2
  clear r2 k2
  have HN : Hid (∀ t r, rawV t → p + t.parts ≤ 4096 → s.data.toList ≠ keyR t ++ r) := Lib.hid fun t r ht hp2 he => by
    rw [HH.out] at he
    rcases raw_cases t r _ _ ht he with h | h | h | h | h | h
    · exact hnc.1 h.1
    · rcases h.1 with h | h | h <;> first | exact hnc.2.1 h | exact hnc.2.2.1 h | exact hnc.2.2.2.2.2.2.1 h
    · exact hnc.2.2.2.1 h.1
    · exact hnc.2.2.2.2.1 h.1
    · exact hnc.2.2.2.2.2.1 h.1
    · exact hnc.2.2.2.2.2.2.2 h
  obtain ⟨n1, n2, n3, n4, n5, n6, n7, n8⟩ := hne
  clear hnc
  have hf := fun i => box_free B2.out i
  obtain ⟨z0, z1, z2, z3, z4, z5⟩ := B2.out.cell
  have HS : Hid (Box (six w2 w.heap.size (.int .i64 0) (.bool false) (.int .i64 0) (.string ⟨#[]⟩) (.slice none 0 0) (.slice none 0 0)) w.heap.size #[.int .i64 0, .bool false, .int .i64 0, .string ⟨#[]⟩, .slice none 0 0, .slice none 0 0]) := Lib.hid (Box.six B2.out _ _ _ _ _ _)
  go_wp2
  obtain ⟨q0, q1, q2, q3, q4, q5⟩ := HS.out.cell
  unfold six at q0 q1 q2 q3 q4 q5
  refine bodyPost_ret (v := .tuple #[.agg #[.int .i64 0, .bool false, .int .i64 0, .string ⟨#[]⟩, .slice none 0 0, .slice none 0 0], .bool false]) (by simp [results, Tryd.results28, go_sem, q0, q1, q2, q3, q4, q5]) rfl ?_
  exact val_no K2.out HN.out
set_option maxRecDepth 100000 in
set_option maxHeartbeats 4000000 in
/-- No part may be any more. -/
theorem value_full (R : Nat) (s : ByteArray) (w : World) (h : RdAt w R s ((4096 : Nat) : Int)) : Calls Tryd.prog 28 #[.pointer (some ⟨R, 0, none⟩)] w (ValPost R s 4096 w) := by
  obtain ⟨c0, c1, f0, f1⟩ := h.cell
  have hRw := h.lt
  have hA0 : ¬ R = w.heap.size := by omega
  have B2 := Lib.hid (Box.new w #[.int .i64 0, .bool false, .int .i64 0, .string ⟨#[]⟩, .slice none 0 0, .slice none 0 0])
  have K2 : Hid (Keeps (· = R) w (w.alloc (.cells #[.int .i64 0, .bool false, .int .i64 0, .string ⟨#[]⟩, .slice none 0 0, .slice none 0 0] 26))) := Lib.hid ((Keeps.refl _ w).alloc _)
  have HN : Hid (∀ t r, rawV t → 4096 + t.parts ≤ 4096 → s.data.toList ≠ keyR t ++ r) := Lib.hid fun t r _ h => by have := t.parts_pos; omega
  have HS : Hid (Box (six (w.alloc (.cells #[.int .i64 0, .bool false, .int .i64 0, .string ⟨#[]⟩, .slice none 0 0, .slice none 0 0] 26)) w.heap.size (.int .i64 0) (.bool false) (.int .i64 0) (.string ⟨#[]⟩) (.slice none 0 0) (.slice none 0 0)) w.heap.size #[.int .i64 0, .bool false, .int .i64 0, .string ⟨#[]⟩, .slice none 0 0, .slice none 0 0]) := Lib.hid (Box.six B2.out _ _ _ _ _ _)
  have R2 : Hid (RdAt (w.alloc (.cells #[.int .i64 0, .bool false, .int .i64 0, .string ⟨#[]⟩, .slice none 0 0, .slice none 0 0] 26)) R s ((4096 : Nat) : Int)) := Lib.hid (h.alloc _)
  clear h c0 c1 f0 f1
  go_enter Tryd.func28, Tryd.ntmps28
  go_upto_region 1 with fail
  generalize (w.alloc (.cells #[.int .i64 0, .bool false, .int .i64 0, .string ⟨#[]⟩, .slice none 0 0, .slice none 0 0] 26)) = w2 at *
  obtain ⟨c0, c1, f0, f1⟩ := R2.out.cell
  have hf := fun i => box_free B2.out i
  obtain ⟨z0, z1, z2, z3, z4, z5⟩ := B2.out.cell
  go_wp2
  obtain ⟨q0, q1, q2, q3, q4, q5⟩ := HS.out.cell
  unfold six at q0 q1 q2 q3 q4 q5
  refine bodyPost_ret (v := .tuple #[.agg #[.int .i64 0, .bool false, .int .i64 0, .string ⟨#[]⟩, .slice none 0 0, .slice none 0 0], .bool false]) (by simp [results, Tryd.results28, go_sem, q0, q1, q2, q3, q4, q5]) rfl ?_
  exact val_no K2.out HN.out
set_option maxRecDepth 100000 in
set_option maxHeartbeats 4000000 in
/-- The text is at its end. -/
theorem value_end (R : Nat) (p : Nat) (w : World) (h : RdAt w R ByteArray.empty (p : Int)) (hp : p < 4096) : Calls Tryd.prog 28 #[.pointer (some ⟨R, 0, none⟩)] w (ValPost R ByteArray.empty p w) := by
  obtain ⟨c0, c1, f0, f1⟩ := h.cell
  have hRw := h.lt
  have hA1 : ¬ R = w.heap.size := by omega
  have hpi : (p : Int) < 4096 := by omega
  have hpf : ((p : Int) == 4096) = false := by simp; omega
  have W1r : Hid (RdAt ((w.setCell ⟨R, 1, none⟩ (.int .i64 ((p : Int) + 1))).alloc (.cells #[.int .i64 0, .bool false, .int .i64 0, .string ⟨#[]⟩, .slice none 0 0, .slice none 0 0] 26)) R ByteArray.empty (((p + 1 : Nat)) : Int)) := Lib.hid ((h.set1 _).alloc _)
  have B2 : Hid (Box ((w.setCell ⟨R, 1, none⟩ (.int .i64 ((p : Int) + 1))).alloc (.cells #[.int .i64 0, .bool false, .int .i64 0, .string ⟨#[]⟩, .slice none 0 0, .slice none 0 0] 26)) w.heap.size #[.int .i64 0, .bool false, .int .i64 0, .string ⟨#[]⟩, .slice none 0 0, .slice none 0 0]) := Lib.hid (by
    have := Box.new (w.setCell ⟨R, 1, none⟩ (.int .i64 ((p : Int) + 1))) #[.int .i64 0, .bool false, .int .i64 0, .string ⟨#[]⟩, .slice none 0 0, .slice none 0 0]
    simpa [World.setCell] using this)
  have K2 : Hid (Keeps (· = R) w ((w.setCell ⟨R, 1, none⟩ (.int .i64 ((p : Int) + 1))).alloc (.cells #[.int .i64 0, .bool false, .int .i64 0, .string ⟨#[]⟩, .slice none 0 0, .slice none 0 0] 26))) := Lib.hid (((Keeps.refl (· = R) w).setCell (.inl rfl) _).alloc _)
  have OC := Lib.hid (octet_none R _ _ W1r.out)
  have HN : Hid (∀ t r, rawV t → p + t.parts ≤ 4096 → ByteArray.empty.data.toList ≠ keyR t ++ r) := Lib.hid fun t r ht _ he => by
    obtain ⟨c, x, e, _⟩ := tagR t ht
    rw [e] at he
    cases he
  clear h
  go_enter Tryd.func28, Tryd.ntmps28
  go_wp2_with fail
  refine OC.out.mono ?_
  rintro e w2 ⟨rfl, hw2⟩
  generalize ((w.setCell ⟨R, 1, none⟩ (.int .i64 ((p : Int) + 1))).alloc (.cells #[.int .i64 0, .bool false, .int .i64 0, .string ⟨#[]⟩, .slice none 0 0, .slice none 0 0] 26)) = w3 at *
  subst hw2
  have HS : Hid (Box (six w2 w.heap.size (.int .i64 0) (.bool false) (.int .i64 0) (.string ⟨#[]⟩) (.slice none 0 0) (.slice none 0 0)) w.heap.size #[.int .i64 0, .bool false, .int .i64 0, .string ⟨#[]⟩, .slice none 0 0, .slice none 0 0]) := Lib.hid (Box.six B2.out _ _ _ _ _ _)
  have hf := fun i => box_free B2.out i
  obtain ⟨z0, z1, z2, z3, z4, z5⟩ := B2.out.cell
  go_wp2
  obtain ⟨q0, q1, q2, q3, q4, q5⟩ := HS.out.cell
  unfold six at q0 q1 q2 q3 q4 q5
  refine bodyPost_ret (v := .tuple #[.agg #[.int .i64 0, .bool false, .int .i64 0, .string ⟨#[]⟩, .slice none 0 0, .slice none 0 0], .bool false]) (by simp [results, Tryd.results28, go_sem, q0, q1, q2, q3, q4, q5]) rfl ?_
  exact val_no K2.out HN.out
theorem value_all : ∀ N, ValIH N
  | 0 => fun R s p w h hN hp hs hX hMR => by
    obtain rfl : p = 4096 := by omega
    exact value_full R s w h
  | N + 1 => fun R s p w h hN hp hs hX hMR => by
    have IH := Lib.hid (value_all N)
    by_cases hp2 : p = 4096
    · subst hp2; exact value_full R s w h
    have hp3 : p < 4096 := by omega
    by_cases h0 : 0 < s.size
    · by_cases h1 : s[0]'h0 = 1
      · exact value_arm_map N R s p w IH h (by omega) hp3 hs hX hMR h0 h1
      by_cases h2 : s[0]'h0 = 2
      · exact value_arm_node N R s p w IH h (by omega) hp3 hs hX hMR h0 h2
      by_cases h3 : s[0]'h0 = 3
      · exact value_arm_edge N R s p w IH h (by omega) hp3 hs hX hMR h0 h3
      by_cases h4 : s[0]'h0 = 4
      · exact value_arm_list N R s p w IH h (by omega) hp3 hs hX hMR h0 h4
      by_cases h5 : s[0]'h0 = 5
      · exact value_arm_text N R s p w IH h (by omega) hp3 hs hX hMR h0 h5
      by_cases h6 : s[0]'h0 = 6
      · exact value_arm_truth N R s p w IH h (by omega) hp3 hs hX hMR h0 h6
      by_cases h7 : s[0]'h0 = 7
      · exact value_arm_int N R s p w IH h (by omega) hp3 hs hX hMR h0 h7
      by_cases h8 : s[0]'h0 = 8
      · exact value_arm_null N R s p w IH h (by omega) hp3 hs hX hMR h0 h8
      exact value_arm_other N R s p w IH h (by omega) hp3 hs hX hMR h0 ⟨h1, h2, h3, h4, h5, h6, h7, h8⟩
    · obtain rfl := empty_of (show s.size = 0 by omega)
      exact value_end R p w h hp3
end Rk
end Go.Proofs.YtepfihanhdinfaaDoor
