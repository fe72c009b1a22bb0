/- Keys: the small example. -/
import Derived.Test.YtepfihanhdinfaaDoorRkRead
import Derived.Test.YtepfihanhdinfaaDoorRkKey
namespace Go.Proofs.YtepfihanhdinfaaDoor
open Go.RowKit
set_option linter.unusedVariables false
set_option linter.unusedSimpArgs false
namespace Rk
open Val (VT Keeps Box okN okNL szV szL szK mayB)
def aT : VT := .mk 3 false 0 ⟨#[97]⟩ [] []
def tT : VT := .mk 1 true 0 ⟨#[]⟩ [] []
theorem aT_may : mayB aT = true := by rfl
theorem tT_may : mayB tT = true := by
  simp [tT, Val.mayB, Val.mayV, Val.mayL, Val.mayHere, Val.unusedF, ByteArray.toList_eq]
theorem leaf_in (k : Int) (b : Bool) (n : Int) (s : ByteArray) (B : Nat) (w : World) : VT.In w B (.mk k b n s [] []) (.agg #[.int .i64 k, .bool b, .int .i64 n, .string s, .slice none 0 0, .slice none 0 0]) := by
  unfold VT.In
  exact ⟨none, 0, none, 0, rfl, Nat.le_refl _, by unfold maxLen; omega, Nat.le_refl _, by unfold maxLen; omega, fun h => absurd h (by simp), fun h => absurd h (by simp)⟩
theorem keyA : keyOf aT = ⟨#[5, 97, 0, 0]⟩ := by
  unfold keyOf
  rw [aT_may]
  rfl
theorem errA : errOf aT = 0 := by unfold errOf; rw [aT_may]; rfl
set_option maxRecDepth 100000 in
set_option maxHeartbeats 4000000 in
theorem back_truth (w : World) : Calls Tryd.prog 15 #[.string ⟨#[6, 1]⟩] w fun e w' => e = .returned (.tuple #[.agg #[.int .i64 1, .bool true, .int .i64 0, .string ⟨#[]⟩, .slice none 0 0, .slice none 0 0], .int .i64 0]) ∧ Below w.heap.size w w' := by
  have VC := Lib.hid (fun (R : Nat) (V : World) (hV : RdAt V R ⟨#[6, 1]⟩ 0) => value_truth R V hV)
  have CC : Hid (∀ V : World, Calls Tryd.prog 22 #[.agg #[.int .i64 1, .bool true, .int .i64 0, .string ⟨#[]⟩, .slice none 0 0, .slice none 0 0]] V fun e w' => e = .returned (.int .i64 0) ∧ Below V.heap.size V w') := Lib.hid fun V => by
    have := Val.check_any tT _ V.heap.size V (leaf_in 1 true 0 ⟨#[]⟩ V.heap.size V) (Nat.le_refl _)
    rw [Val.may_walk, tT_may] at this
    exact this
  go_enter Tryd.func15, Tryd.ntmps15
  have hR0 : RdAt ((w.alloc (.cells #[.int .i64 0, .bool false, .int .i64 0, .string ⟨#[]⟩, .slice none 0 0, .slice none 0 0] 26)).alloc (.cells #[.string ⟨#[6, 1]⟩, .int .i64 0] 52)) (w.heap.size + 1) ⟨#[6, 1]⟩ 0 := by
    have := RdAt.new (w.alloc (.cells #[.int .i64 0, .bool false, .int .i64 0, .string ⟨#[]⟩, .slice none 0 0, .slice none 0 0] 26)) ⟨#[6, 1]⟩ 0
    rwa [show (w.alloc (.cells #[.int .i64 0, .bool false, .int .i64 0, .string ⟨#[]⟩, .slice none 0 0, .slice none 0 0] 26)).heap.size = w.heap.size + 1 by simp] at this
  have hK0 : Below w.heap.size w ((w.alloc (.cells #[.int .i64 0, .bool false, .int .i64 0, .string ⟨#[]⟩, .slice none 0 0, .slice none 0 0] 26)).alloc (.cells #[.string ⟨#[6, 1]⟩, .int .i64 0] 52)) := ((Below.refl _ w).alloc (Nat.le_refl _) _).alloc (by simp) _
  have hB0 : Box ((w.alloc (.cells #[.int .i64 0, .bool false, .int .i64 0, .string ⟨#[]⟩, .slice none 0 0, .slice none 0 0] 26)).alloc (.cells #[.string ⟨#[6, 1]⟩, .int .i64 0] 52)) w.heap.size #[.int .i64 0, .bool false, .int .i64 0, .string ⟨#[]⟩, .slice none 0 0, .slice none 0 0] := (Box.new w _).alloc _
  have HR0 := Lib.hid hR0
  have HK0 := Lib.hid hK0
  have HB0 := Lib.hid hB0
  clear hR0 hK0 hB0
  go_wp2_with fail
  refine (VC.out _ _ HR0.out).mono ?_
  rintro e w1 ⟨rfl, h1, k1⟩
  have hb1 : Box w1 w.heap.size #[.int .i64 0, .bool false, .int .i64 0, .string ⟨#[]⟩, .slice none 0 0, .slice none 0 0] := (k1.block _ HB0.out.lt (by omega)).trans HB0.out
  have hlt1 := h1.lt
  have hbl1 : Below w.heap.size w w1 := HK0.out.trans (k1.below (fun k (hk : k = w.heap.size + 1) => by omega) HK0.out.size)
  have hne : ¬ w.heap.size + 1 = w1.heap.size := by omega
  have hne2 : ¬ w.heap.size = w1.heap.size := by omega
  have h2 := h1.alloc (.cells #[.int .i64 1, .bool true, .int .i64 0, .string ⟨#[]⟩, .slice none 0 0, .slice none 0 0] 26)
  have HE := Lib.hid hb1
  obtain ⟨c0, c1, f0, f1⟩ := h1.cell
  have he := toList_e
  have HB2 : Hid (Below w.heap.size w (w1.alloc (.cells #[.int .i64 1, .bool true, .int .i64 0, .string ⟨#[]⟩, .slice none 0 0, .slice none 0 0] 26)) ∧ Box (w1.alloc (.cells #[.int .i64 1, .bool true, .int .i64 0, .string ⟨#[]⟩, .slice none 0 0, .slice none 0 0] 26)) w.heap.size #[.int .i64 0, .bool false, .int .i64 0, .string ⟨#[]⟩, .slice none 0 0, .slice none 0 0] ∧ Box (w1.alloc (.cells #[.int .i64 1, .bool true, .int .i64 0, .string ⟨#[]⟩, .slice none 0 0, .slice none 0 0] 26)) w1.heap.size #[.int .i64 1, .bool true, .int .i64 0, .string ⟨#[]⟩, .slice none 0 0, .slice none 0 0]) := Lib.hid ⟨hbl1.alloc hbl1.size _, hb1.alloc _, Box.new w1 _⟩
  clear h1 k1 hb1 hbl1 h2
  go_wp2_with fail
  refine (CC.out _).mono ?_
  rintro e w3 ⟨rfl, hb3⟩
  have hlt3 : w1.heap.size + 1 ≤ w3.heap.size := by have := hb3.size; simpa using this
  have hz3 : Box w3 w.heap.size #[.int .i64 0, .bool false, .int .i64 0, .string ⟨#[]⟩, .slice none 0 0, .slice none 0 0] := (hb3.block _ HB2.out.2.1.lt).trans HB2.out.2.1
  have ht3 : Box w3 w1.heap.size #[.int .i64 1, .bool true, .int .i64 0, .string ⟨#[]⟩, .slice none 0 0, .slice none 0 0] := (hb3.block _ HB2.out.2.2.lt).trans HB2.out.2.2
  have HB3 := Lib.hid (HB2.out.1.trans (hb3.mono HB2.out.1.size))
  have hf := fun i => box_free hz3 i
  obtain ⟨z0, z1, z2, z3, z4, z5⟩ := hz3.cell
  obtain ⟨t0, t1, t2, t3, t4, t5⟩ := ht3.cell
  have HE2 : Hid (Box (six w3 w.heap.size (.int .i64 1) (.bool true) (.int .i64 0) (.string ⟨#[]⟩) (.slice none 0 0) (.slice none 0 0)) w.heap.size #[.int .i64 1, .bool true, .int .i64 0, .string ⟨#[]⟩, .slice none 0 0, .slice none 0 0]) := Lib.hid (Box.six hz3 _ _ _ _ _ _)
  have HF : Hid (Below w.heap.size w (six w3 w.heap.size (.int .i64 1) (.bool true) (.int .i64 0) (.string ⟨#[]⟩) (.slice none 0 0) (.slice none 0 0))) := Lib.hid (HB3.out.trans ((Keeps.six (Keeps.refl (· = w.heap.size) w3) (.inl rfl) _ _ _ _ _ _).below (fun k (hk : k = w.heap.size) => by omega) (by omega)))
  clear hb3 hz3 ht3 c0 c1 f0 f1
  go_wp2
  obtain ⟨q0, q1, q2, q3, q4, q5⟩ := HE2.out.cell
  unfold six at q0 q1 q2 q3 q4 q5
  exact bodyPost_ret (v := .tuple #[.agg #[.int .i64 1, .bool true, .int .i64 0, .string ⟨#[]⟩, .slice none 0 0, .slice none 0 0], .int .i64 0]) (by simp [results, Tryd.results15, go_sem, q0, q1, q2, q3, q4, q5]) rfl ⟨rfl, HF.out⟩
set_option maxRecDepth 100000 in
set_option maxHeartbeats 4000000 in
theorem works_any (w : World) (hX : MaxAt w) : Calls Tryd.prog 17 #[] w fun e w' => e = .returned (.bool true) ∧ Below w.heap.size w w' := by
  have KC := Lib.hid (key_any aT _ w.heap.size w (leaf_in 3 false 0 ⟨#[97]⟩ w.heap.size w) (Nat.le_refl _) (by unfold aT okN okNL; exact ⟨by omega, trivial⟩) (by unfold aT szV szL szK; decide) hX)
  rw [keyA, errA] at KC
  have BC := Lib.hid (fun V => back_truth V)
  go_enter Tryd.func17, Tryd.ntmps17
  go_wp2_with fail
  refine KC.out.mono ?_
  rintro e w1 ⟨rfl, hb1⟩
  have HB1 := Lib.hid hb1
  clear hb1
  go_wp2_with fail
  refine (BC.out _).mono ?_
  rintro e w2 ⟨rfl, hb2⟩
  have HB2 := Lib.hid ((HB1.out.trans (hb2.mono HB1.out.size)).alloc (Nat.le_trans HB1.out.size hb2.size) (.cells #[.int .i64 1, .bool true, .int .i64 0, .string ⟨#[]⟩, .slice none 0 0, .slice none 0 0] 26))
  obtain ⟨t0, t1, t2, t3, t4, t5⟩ := (Box.new w2 #[.int .i64 1, .bool true, .int .i64 0, .string ⟨#[]⟩, .slice none 0 0, .slice none 0 0]).cell
  clear hb2
  go_wp2
  go_ret
  exact ⟨rfl, HB2.out⟩
end Rk
end Go.Proofs.YtepfihanhdinfaaDoor
