/- Bytes as values: the small example of layer 4: the reader's value, the door, Decode. -/
import Derived.Test.YtpkhekjhnafbfaaPkRead
import Derived.Test.YtpkhekjhnafbfaaValCmp
import Derived.Recover
import Derived.Test.YtpkhekjhnafbfaaSeq
namespace Go.Proofs.Ytpkhekjhnafbfaa
open Go.RowKit
set_option linter.unusedVariables false
set_option linter.unusedSimpArgs false
namespace Pk
open Val (Keeps Box)
theorem box_free {w : World} {b : Nat} {cs : Array Value} (h : Box w b cs) (i : Nat) : w.frozen? ⟨b, i, none⟩ = false := by
  unfold Box at h
  simp [World.frozen?, h]
/-- A whole value is stored. -/
def six (w : World) (A : Nat) (d0 d1 d2 d3 d4 d5 : Value) : World := ((((((w.setCell ⟨A, 0, none⟩ d0).setCell ⟨A, 1, none⟩ d1).setCell ⟨A, 2, none⟩ d2).setCell ⟨A, 3, none⟩ d3).setCell ⟨A, 4, none⟩ d4).setCell ⟨A, 5, none⟩ d5)
theorem box_six {w : World} {A : Nat} {c0 c1 c2 c3 c4 c5 : Value} (h : Box w A #[c0, c1, c2, c3, c4, c5]) (d0 d1 d2 d3 d4 d5 : Value) : Box (six w A d0 d1 d2 d3 d4 d5) A #[d0, d1, d2, d3, d4, d5] := by
  unfold Box at h ⊢
  unfold six
  simp [World.setCell, Array.getElem?_modify, h]
theorem keeps_six {X : Nat → Prop} {a w : World} {A : Nat} (h : Keeps X a w) (hA : X A ∨ a.heap.size ≤ A) (d0 d1 d2 d3 d4 d5 : Value) : Keeps X a (six w A d0 d1 d2 d3 d4 d5) :=
  (((((h.setCell (p := ⟨A, 0, none⟩) hA d0).setCell (p := ⟨A, 1, none⟩) hA d1).setCell (p := ⟨A, 2, none⟩) hA d2).setCell (p := ⟨A, 3, none⟩) hA d3).setCell (p := ⟨A, 4, none⟩) hA d4).setCell (p := ⟨A, 5, none⟩) hA d5
section
variable {w : World} {R b o n cap : Nat} {p : Int}
theorem Rd.lt (h : Rd w R b o n cap p) : R < w.heap.size := by
  rcases Nat.lt_or_ge R w.heap.size with hlt | hge
  · exact hlt
  · unfold Rd at h; rw [Array.getElem?_eq_none hge] at h; cases h
theorem Rd.alloc (h : Rd w R b o n cap p) (o' : Obj) : Rd (w.alloc o') R b o n cap p := (Below.heap_alloc w o' R h.lt).trans h
theorem Rd.far (h : Rd w R b o n cap p) {q : Addr} (hq : R ≠ q.block) (u : Value) : Rd (w.setCell q u) R b o n cap p := (Below.heap_setCell w q u R hq).trans h
theorem Rd.six (h : Rd w R b o n cap p) {A : Nat} (hA : R ≠ A) (d0 d1 d2 d3 d4 d5 : Value) : Rd (six w A d0 d1 d2 d3 d4 d5) R b o n cap p :=
  (((((h.far (q := ⟨A, 0, none⟩) hA d0).far (q := ⟨A, 1, none⟩) hA d1).far (q := ⟨A, 2, none⟩) hA d2).far (q := ⟨A, 3, none⟩) hA d3).far (q := ⟨A, 4, none⟩) hA d4).far (q := ⟨A, 5, none⟩) hA d5
end
set_option maxRecDepth 100000 in
set_option maxHeartbeats 4000000 in
/-- The reader reads the number of the small example. -/
theorem value_three (R b o n cap : Nat) (w : World) (h : Rd w R b o (n + 3) (cap + 3) 0) (hn : n ≤ cap) (hc : cap + 3 ≤ 140737488355328) (hbR : b ≠ R) (hbl : b < w.heap.size) (hb : w.cell? ⟨b, o, none⟩ = some (.int .u8 3)) (hb1 : w.cell? ⟨b, o + 1, none⟩ = some (.int .u8 5)) :
    Calls Try.prog 23 #[.pointer (some ⟨R, 0, none⟩), .int .i64 1] w fun e w' => e = .returned (.agg #[.int .i64 2, .bool false, .int .i64 (-3), .string ⟨#[]⟩, .slice none 0 0, .slice none 0 0]) ∧ Step R b (o + 2) (n + 1) (cap + 1) 1 w w' := by
  have hlt := h.lt
  have hne : ¬ R = w.heap.size := by omega
  have hb0' := hb
  have O1 : Hid (∀ ob, Calls Try.prog 36 #[.pointer (some ⟨R, 0, none⟩), .int .i64 1] (w.alloc ob) fun e w' => e = .returned (.int .u8 3) ∧ Step R b (o + 1) (n + 2) (cap + 2) 1 (w.alloc ob) w') := Lib.hid fun ob =>
    tag_three R b o (n + 3) (cap + 3) (w.alloc ob) (h.alloc ob) (by omega) (by omega) hc (by omega) hbR ((World.cell?_of_block (Below.heap_alloc w ob b hbl)).trans hb)
  have O2 : Hid (∀ ob w1, Step R b (o + 1) (n + 2) (cap + 2) 1 (w.alloc ob) w1 → Calls Try.prog 38 #[.pointer (some ⟨R, 0, none⟩)] w1 fun e w' => e = .returned (.int .u64 5) ∧ Step R b (o + 2) (n + 1) (cap + 1) 1 w1 w') := Lib.hid fun ob w1 h1 =>
    number_five R b (o + 1) (n + 2) (cap + 2) 1 w1 h1.rd (by omega) (by omega) (by omega) (by omega) hbR ((h1.keeps.cell (p := ⟨b, o + 1, none⟩) (by show b < _; simp; omega) hbR).trans ((World.cell?_of_block (Below.heap_alloc w ob b hbl)).trans hb1))
  clear h hb hb1 hb0'
  go_enter Try.func23, Try.ntmps23
  go_wp2_with fail
  refine (O1.out _).mono ?_
  rintro e w1 ⟨rfl, h1⟩
  have HN := Lib.hid (O2.out _ _ h1)
  have hbx1 : Box w1 w.heap.size #[.int .i64 0, .bool false, .int .i64 0, .string ⟨#[]⟩, .slice none 0 0, .slice none 0 0] := (h1.keeps.block _ (by simp) (by omega)).trans (Box.new w _)
  have HB1 := Lib.hid hbx1
  have HK1 := Lib.hid (((Keeps.refl (· = R) w).alloc _).trans h1.keeps)
  clear h1 hbx1 O1 O2
  go_wp2_with fail
  refine HN.out.mono ?_
  rintro e w2 ⟨rfl, h2⟩
  have hbx2 : Box w2 w.heap.size #[.int .i64 0, .bool false, .int .i64 0, .string ⟨#[]⟩, .slice none 0 0, .slice none 0 0] := (h2.keeps.block _ HB1.out.lt (by omega)).trans HB1.out
  have HK2 := Lib.hid (HK1.out.trans h2.keeps)
  have HB2 := Lib.hid hbx2
  have H2 := Lib.hid h2
  have hf2 := fun i => box_free hbx2 i
  obtain ⟨b0, b1, b2, b3, b4, b5⟩ := hbx2.cell
  clear h2 hbx2 HN
  go_wp2_with fail
  refine (unfold_five _).mono ?_
  rintro e w3 ⟨rfl, rfl⟩
  have HE : Hid (Box (six w3 w.heap.size (.int .i64 2) (.bool false) (.int .i64 (-3)) (.string ⟨#[]⟩) (.slice none 0 0) (.slice none 0 0)) w.heap.size #[.int .i64 2, .bool false, .int .i64 (-3), .string ⟨#[]⟩, .slice none 0 0, .slice none 0 0]) := Lib.hid (box_six HB2.out _ _ _ _ _ _)
  go_wp2
  obtain ⟨q0, q1, q2, q3, q4, q5⟩ := HE.out.cell
  unfold six at q0 q1 q2 q3 q4 q5
  exact bodyPost_ret (v := .agg #[.int .i64 2, .bool false, .int .i64 (-3), .string ⟨#[]⟩, .slice none 0 0, .slice none 0 0]) (by simp [results, Try.results23, go_sem, q0, q1, q2, q3, q4, q5]) rfl ⟨rfl, H2.out.rd.six hne _ _ _ _ _ _, keeps_six HK2.out (.inr (Nat.le_refl _)) _ _ _ _ _ _⟩
theorem assert_nil (t : TypeId) (w : World) : (Instr.typeAssert .nilIface t 28 true).run Try.prog w = .ok (.tuple #[.int .i64 0, .bool false]) w := by
  rfl
/-- The door, of a call that returns. -/
theorem door_idle (p q r : Addr) (w : World) :
    CallsD Try.prog 22 #[.pointer (some p), .pointer (some q), .pointer (some r)] .returning w fun e u' w' => e = .returned (.tuple #[]) ∧ u' = .returning ∧ w' = w := by
  have hta := assert_nil
  refine callsD_of_wpS Try.func22 rfl fun c₀ cs hu => ?_
  apply wpS_seq
  apply wpS_region
  simp [wpOpsS, go_sem, recoverD, hu, Try.ntmps22, Exit.thenS, hta]
  apply wpS_seq
  apply wpS_region
  simp [wpOpsS, go_sem, Exit.thenS]
  refine wpS_cond (t := false) (by simp [Act.eval, Array.replicate]) ?_
  simp only [Bool.false_eq_true, if_false]
  refine wpS_of_wp (wp_skip ?_)
  cases c₀
  simp_all [bodyPostS, results, Try.results22]
theorem seqS_lay {n : Nat} {P : Program} {ops : Array Oper} {Q : Exit → Act → World → Prop} {S : World → Prop} {i : Nat} {rest : List Nat} {a : Act} {w w1 : World} {o : Oper} (ho : ops[i]? = some o) (hc : isSeqOp o = true) (hw : Region.wanted o (yielded ops a.tmps) = true)
    (hd : o.dst = none) (hrun : (execOp a.eval o).run P w = .ok .skip w1) (hS : S w1) (h : seqS Fence.wide n P ops Q S rest a w1) : seqS Fence.wide n P ops Q S (i :: rest) a w := by
  unfold seqS
  simp only [ho]
  rw [if_pos hc]
  unfold wpOpIn
  simp only [ho]
  rw [if_pos hw]
  refine ⟨fun _ _ => trivial, ?_⟩
  show Oper.uponIn Fence.wide n P o a _ Q ((execOp a.eval o).run P w)
  rw [hrun]
  have hp : a.put o.dst undef = a := by rw [hd]; rfl
  show S w1 ∧ seqS Fence.wide n P ops Q S rest (a.put o.dst undef) w1
  rw [hp]
  exact ⟨hS, h⟩
/-- What stands while Decode lays its results. -/
structure Dst (w : World) (b : Nat) (V : World) : Prop where
  box : Box V w.heap.size #[.int .i64 2, .bool false, .int .i64 (-3), .string ⟨#[]⟩, .slice none 0 0, .slice none 0 0]
  rd : Rd V (w.heap.size + 1 + 1 + 1) b 2 1 1 1
  low : Below w.heap.size w V
  num : ∃ x, V.heap[w.heap.size + 1]? = some (.cells #[.int .i64 x] 3 (0, 0))
  err : V.heap[w.heap.size + 1 + 1]? = some (.cells #[.int .i64 0] 28 (0, 0))
theorem six_heap {w : World} {A k : Nat} (h : k ≠ A) (d0 d1 d2 d3 d4 d5 : Value) : (six w A d0 d1 d2 d3 d4 d5).heap[k]? = w.heap[k]? := by
  unfold six
  rw [Below.heap_setCell _ _ _ k h, Below.heap_setCell _ _ _ k h, Below.heap_setCell _ _ _ k h, Below.heap_setCell _ _ _ k h, Below.heap_setCell _ _ _ k h, Below.heap_setCell _ _ _ k h]
theorem below_six {B : Nat} {a w : World} {A : Nat} (h : Below B a w) (hA : B ≤ A) (d0 d1 d2 d3 d4 d5 : Value) : Below B a (six w A d0 d1 d2 d3 d4 d5) :=
  (((((h.setCell (p := ⟨A, 0, none⟩) hA d0).setCell (p := ⟨A, 1, none⟩) hA d1).setCell (p := ⟨A, 2, none⟩) hA d2).setCell (p := ⟨A, 3, none⟩) hA d3).setCell (p := ⟨A, 4, none⟩) hA d4).setCell (p := ⟨A, 5, none⟩) hA d5
set_option maxRecDepth 100000 in
set_option maxHeartbeats 4000000 in
/-- Decode of the small example. -/
theorem decode_works (b : Nat) (w : World) (hbl : b < w.heap.size) (hb : w.cell? ⟨b, 0, none⟩ = some (.int .u8 3)) (hb1 : w.cell? ⟨b, 1, none⟩ = some (.int .u8 5)) :
    Calls Try.prog 14 #[.slice (some ⟨b, 0, none⟩) 3 3] w fun e w' => e = .returned (.tuple #[.agg #[.int .i64 2, .bool false, .int .i64 (-3), .string ⟨#[]⟩, .slice none 0 0, .slice none 0 0], .int .i64 2, .int .i64 0]) ∧ Below w.heap.size w w' := by
  obtain ⟨W3, hW3⟩ : ∃ W3, ((w.alloc (.cells #[.int .i64 0, .bool false, .int .i64 0, .string ⟨#[]⟩, .slice none 0 0, .slice none 0 0] 25)).alloc (.cells #[.int .i64 0] 3)).alloc (.cells #[.int .i64 0] 28) = W3 := ⟨_, rfl⟩
  have hs3 : W3.heap.size = w.heap.size + 1 + 1 + 1 := by rw [← hW3]; simp
  have hl3 : Below w.heap.size w W3 := by rw [← hW3]; exact (((Below.refl _ w).alloc (Nat.le_refl _) _).alloc (by simp) _).alloc (by simp; omega) _
  have hx3 : Box W3 w.heap.size #[.int .i64 0, .bool false, .int .i64 0, .string ⟨#[]⟩, .slice none 0 0, .slice none 0 0] := by rw [← hW3]; exact ((Box.new w _).alloc _).alloc _
  have hn3 : W3.heap[w.heap.size + 1]? = some (.cells #[.int .i64 0] 3 (0, 0)) := by
    rw [← hW3, Below.heap_alloc _ _ _ (by simp)]
    have := World.alloc_heap_new (w.alloc (.cells #[.int .i64 0, .bool false, .int .i64 0, .string ⟨#[]⟩, .slice none 0 0, .slice none 0 0] 25)) (.cells #[.int .i64 0] 3)
    simpa using this
  have he3 : W3.heap[w.heap.size + 1 + 1]? = some (.cells #[.int .i64 0] 28 (0, 0)) := by
    rw [← hW3]
    have := World.alloc_heap_new ((w.alloc (.cells #[.int .i64 0, .bool false, .int .i64 0, .string ⟨#[]⟩, .slice none 0 0, .slice none 0 0] 25)).alloc (.cells #[.int .i64 0] 3)) (.cells #[.int .i64 0] 28)
    simpa using this
  obtain ⟨W4, hW4⟩ : ∃ W4, W3.alloc (.cells #[.slice (some ⟨b, 0, none⟩) 3 3, .int .i64 0] 47) = W4 := ⟨_, rfl⟩
  have hr4 : Rd W4 (w.heap.size + 1 + 1 + 1) b 0 3 3 0 := by rw [← hW4, ← hs3]; exact World.alloc_heap_new W3 _
  have hl4 : Below w.heap.size w W4 := by rw [← hW4]; exact hl3.alloc (by omega) _
  have hs4 : W4.heap.size = w.heap.size + 1 + 1 + 1 + 1 := by rw [← hW4]; simp [hs3]
  have hg : ∀ k, k < W3.heap.size → W4.heap[k]? = W3.heap[k]? := fun k hk => by rw [← hW4]; exact Below.heap_alloc W3 _ k hk
  have HX4 : Hid (Box W4 w.heap.size #[.int .i64 0, .bool false, .int .i64 0, .string ⟨#[]⟩, .slice none 0 0, .slice none 0 0]) := Lib.hid ((hg _ (by omega)).trans hx3)
  have HN4 : Hid (W4.heap[w.heap.size + 1]? = some (.cells #[.int .i64 0] 3 (0, 0))) := Lib.hid ((hg _ (by omega)).trans hn3)
  have HE4 : Hid (W4.heap[w.heap.size + 1 + 1]? = some (.cells #[.int .i64 0] 28 (0, 0))) := Lib.hid ((hg _ (by omega)).trans he3)
  have CALL := Lib.hid (value_three (w.heap.size + 1 + 1 + 1) b 0 0 0 W4 hr4 (Nat.le_refl _) (by omega) (by omega) (by omega) ((hl4.cell (p := ⟨b, 0, none⟩) hbl).trans hb) ((hl4.cell (p := ⟨b, 0 + 1, none⟩) hbl).trans hb1))
  have HL4 := Lib.hid hl4
  have HS4 := Lib.hid hs4
  have HW3 := Lib.hid hW3
  have HW4 := Lib.hid hW4
  clear hW3 hW4 hs3 hl3 hx3 hn3 he3 hr4 hl4 hg hb hb1 hbl hs4
  have hmf : ∀ (fn : Fn) (first cap : Array Value) (w : World), (Instr.makeFunc fn first cap).run Try.prog w = .ok (.func fn first cap) w := fun _ _ _ _ => rfl
  go_enter_defers Try.func14, Try.ntmps14
  go_wp2_with fail
  rw [HW3.out, HW4.out]
  refine CALL.out.mono ?_
  rintro e w1 ⟨rfl, h1⟩
  have HX1 : Hid (Box w1 w.heap.size #[.int .i64 0, .bool false, .int .i64 0, .string ⟨#[]⟩, .slice none 0 0, .slice none 0 0]) := Lib.hid ((h1.keeps.block _ HX4.out.lt (by omega)).trans HX4.out)
  have HN1 : Hid (w1.heap[w.heap.size + 1]? = some (.cells #[.int .i64 0] 3 (0, 0))) := Lib.hid ((h1.keeps.block _ (by have := HS4.out; omega) (by omega)).trans HN4.out)
  have HE1 : Hid (w1.heap[w.heap.size + 1 + 1]? = some (.cells #[.int .i64 0] 28 (0, 0))) := Lib.hid ((h1.keeps.block _ (by have := HS4.out; omega) (by omega)).trans HE4.out)
  have HL1 : Hid (Below w.heap.size w w1) := Lib.hid (HL4.out.trans (h1.keeps.below (fun k hk => by omega) (by have := HS4.out; omega)))
  have HR1 := Lib.hid h1.rd
  have hf1 := fun i => box_free HX1.out i
  obtain ⟨b0, b1, b2, b3, b4, b5⟩ := HX1.out.cell
  clear h1 CALL
  have HD : Hid (Dst w b (six w1 w.heap.size (.int .i64 2) (.bool false) (.int .i64 (-3)) (.string ⟨#[]⟩) (.slice none 0 0) (.slice none 0 0))) := Lib.hid
    ⟨box_six HX1.out _ _ _ _ _ _, HR1.out.six (by omega) _ _ _ _ _ _, below_six HL1.out (Nat.le_refl _) _ _ _ _ _ _, ⟨0, (six_heap (by omega) _ _ _ _ _ _).trans HN1.out⟩, (six_heap (by omega) _ _ _ _ _ _).trans HE1.out⟩
  go_upto_region 4 with fail
  obtain ⟨W5, hW5⟩ : ∃ W5, six w1 w.heap.size (.int .i64 2) (.bool false) (.int .i64 (-3)) (.string ⟨#[]⟩) (.slice none 0 0) (.slice none 0 0) = W5 := ⟨_, rfl⟩
  rw [hW5] at HD
  unfold six at hW5
  rw [hW5]
  clear hW5
  have HD5 : Hid (Dst w b W5.drew) := Lib.hid ⟨HD.out.box, HD.out.rd, HD.out.low.drew, HD.out.num, HD.out.err⟩
  refine wp_region_seq (Dst w b) [0, 1, 2, 3, 4, 5, 6, 7, 8, 9] (by kernel_rfl) (by kernel_rfl) (by kernel_rfl) (by kernel_rfl) HD5.out ?_
  refine seqS_take (o := _) (.agg #[.int .i64 2, .bool false, .int .i64 (-3), .string ⟨#[]⟩, .slice none 0 0, .slice none 0 0]) (by conv => lhs; simp only [List.getElem?_toArray, List.getElem?_cons_succ, List.getElem?_cons_zero]) (by rfl) (by rfl) ?_ (fun _ => by rfl) (by conv => lhs; simp only [Act.put, List.setIfInBounds_toArray, List.set_cons_succ, List.set_cons_zero]) ?_
  · rintro w' t0; obtain ⟨c0, c1, c2, c3, c4, c5⟩ := t0.box.cell; clear t0; go_simp
  refine seqS_take (o := _) (.slice (some ⟨b, 0, none⟩) 3 3) (by conv => lhs; simp only [List.getElem?_toArray, List.getElem?_cons_succ, List.getElem?_cons_zero]) (by rfl) (by rfl) ?_ (fun _ => by rfl) (by conv => lhs; simp only [Act.put, List.setIfInBounds_toArray, List.set_cons_succ, List.set_cons_zero]) ?_
  · intro w _; go_simp
  refine seqS_take (o := _) (.int .i64 3) (by conv => lhs; simp only [List.getElem?_toArray, List.getElem?_cons_succ, List.getElem?_cons_zero]) (by rfl) (by rfl) ?_ (fun _ => by rfl) (by conv => lhs; simp only [Act.put, List.setIfInBounds_toArray, List.set_cons_succ, List.set_cons_zero]) ?_
  · intro w _; go_simp
  refine seqS_take (o := _) (.pointer (some ⟨w.heap.size + 1 + 1 + 1, 0, none⟩)) (by conv => lhs; simp only [List.getElem?_toArray, List.getElem?_cons_succ, List.getElem?_cons_zero]) (by rfl) (by rfl) ?_ (fun _ => by rfl) (by conv => lhs; simp only [Act.put, List.setIfInBounds_toArray, List.set_cons_succ, List.set_cons_zero]) ?_
  · intro w _; go_simp
  refine seqS_take (o := _) (.slice (some ⟨b, 2, none⟩) 1 1) (by conv => lhs; simp only [List.getElem?_toArray, List.getElem?_cons_succ, List.getElem?_cons_zero]) (by rfl) (by rfl) ?_ (fun _ => by rfl) (by conv => lhs; simp only [Act.put, List.setIfInBounds_toArray, List.set_cons_succ, List.set_cons_zero]) ?_
  · rintro w' t0; obtain ⟨c0, c1, c2, c3⟩ := t0.rd.cell; clear t0; go_simp
  refine seqS_take (o := _) (.int .i64 1) (by conv => lhs; simp only [List.getElem?_toArray, List.getElem?_cons_succ, List.getElem?_cons_zero]) (by rfl) (by rfl) ?_ (fun _ => by rfl) (by conv => lhs; simp only [Act.put, List.setIfInBounds_toArray, List.set_cons_succ, List.set_cons_zero]) ?_
  · intro w _; go_simp
  refine seqS_take (o := _) (.int .i64 2) (by conv => lhs; simp only [List.getElem?_toArray, List.getElem?_cons_succ, List.getElem?_cons_zero]) (by rfl) (by rfl) ?_ (fun _ => by rfl) (by conv => lhs; simp only [Act.put, List.setIfInBounds_toArray, List.set_cons_succ, List.set_cons_zero]) ?_
  · intro w _; go_simp; try rfl
  obtain ⟨W6, hW6⟩ : ∃ W6, six W5.drew w.heap.size (.int .i64 2) (.bool false) (.int .i64 (-3)) (.string ⟨#[]⟩) (.slice none 0 0) (.slice none 0 0) = W6 := ⟨_, rfl⟩
  have HD6 : Hid (Dst w b W6) := Lib.hid (by
    rw [← hW6]
    obtain ⟨x, hx⟩ := HD5.out.num
    exact ⟨box_six HD5.out.box _ _ _ _ _ _, HD5.out.rd.six (by omega) _ _ _ _ _ _, below_six HD5.out.low (Nat.le_refl _) _ _ _ _ _ _, ⟨x, (six_heap (by omega) _ _ _ _ _ _).trans hx⟩, (six_heap (by omega) _ _ _ _ _ _).trans HD5.out.err⟩)
  have HW6 := Lib.hid hW6
  clear hW6
  refine seqS_lay (o := _) (w1 := W6) (by conv => lhs; simp only [List.getElem?_toArray, List.getElem?_cons_succ, List.getElem?_cons_zero]) (by rfl) (by rfl) (by rfl) ?_ HD6.out ?_
  · rw [← HW6.out]
    unfold six
    obtain ⟨c0, c1, c2, c3, c4, c5⟩ := HD.out.box.cell
    have hf := fun i => box_free HD.out.box i
    go_simp
  obtain ⟨x6, hx6⟩ := HD6.out.num
  have HX6 := Lib.hid hx6
  obtain ⟨W7, hW7⟩ : ∃ W7, W6.setCell ⟨w.heap.size + 1, 0, none⟩ (.int .i64 2) = W7 := ⟨_, rfl⟩
  have HD7 : Hid (Dst w b W7) := Lib.hid (by
    rw [← hW7]
    exact ⟨HD6.out.box.far (by simp <;> omega) _, HD6.out.rd.far (by simp <;> omega) _, HD6.out.low.setCell (p := ⟨w.heap.size + 1, 0, none⟩) (by simp <;> omega) _, ⟨2, by simp [World.setCell, Array.getElem?_modify, hx6]⟩, (Below.heap_setCell _ _ _ _ (by simp <;> omega)).trans HD6.out.err⟩)
  have HW7 := Lib.hid hW7
  clear hW7 hx6
  refine seqS_lay (o := _) (w1 := W7) (by conv => lhs; simp only [List.getElem?_toArray, List.getElem?_cons_succ, List.getElem?_cons_zero]) (by rfl) (by rfl) (by rfl) ?_ HD7.out ?_
  · rw [← HW7.out]
    have hx6 := HX6.out
    have q0 : W6.cell? ⟨w.heap.size + 1, 0, none⟩ = some (.int .i64 x6) := by simp [World.cell?, hx6]
    have q1 : W6.frozen? ⟨w.heap.size + 1, 0, none⟩ = false := by simp [World.frozen?, hx6]
    go_simp
  obtain ⟨W8, hW8⟩ : ∃ W8, W7.setCell ⟨w.heap.size + 1 + 1, 0, none⟩ (.int .i64 0) = W8 := ⟨_, rfl⟩
  have HD8 : Hid (Dst w b W8) := Lib.hid (by
    rw [← hW8]
    obtain ⟨x, hx⟩ := HD7.out.num
    have he := HD7.out.err
    exact ⟨HD7.out.box.far (by simp <;> omega) _, HD7.out.rd.far (by simp <;> omega) _, HD7.out.low.setCell (p := ⟨w.heap.size + 1 + 1, 0, none⟩) (by simp <;> omega) _, ⟨x, (Below.heap_setCell _ _ _ _ (by simp <;> omega)).trans hx⟩, by simp [World.setCell, Array.getElem?_modify, he]⟩)
  have HW8 := Lib.hid hW8
  clear hW8
  refine seqS_lay (o := _) (w1 := W8) (by conv => lhs; simp only [List.getElem?_toArray, List.getElem?_cons_succ, List.getElem?_cons_zero]) (by rfl) (by rfl) (by rfl) ?_ HD8.out ?_
  · rw [← HW8.out]
    have he := HD7.out.err
    have q0 : W7.cell? ⟨w.heap.size + 1 + 1, 0, none⟩ = some (.int .i64 0) := by simp [World.cell?, he]
    have q1 : W7.frozen? ⟨w.heap.size + 1 + 1, 0, none⟩ = false := by simp [World.frozen?, he]
    go_simp
  refine NoPanic.normal ?_
  have hn8 : W8.cell? ⟨w.heap.size + 1, 0, none⟩ = some (.int .i64 2) := by
    rw [← HW8.out, cell_far _ (by simp <;> omega), ← HW7.out]
    simp [World.cell?, World.setCell, Array.getElem?_modify, HX6.out]
  have he8 : W8.cell? ⟨w.heap.size + 1 + 1, 0, none⟩ = some (.int .i64 0) := by simp [World.cell?, HD8.out.err]
  obtain ⟨q0, q1, q2, q3, q4, q5⟩ := HD8.out.box.cell
  have HL8 := Lib.hid HD8.out.low
  clear HX4 HN4 HE4 HL4 HS4 HW3 HW4 HX1 HN1 HE1 HL1 HR1 HD HD5 HD6 HD7 HD8 HW6 HW7 HW8 HX6
  go_wp2
  refine leaves_cons (f := 22) (args := #[.pointer (some ⟨w.heap.size, 0, none⟩), .pointer (some ⟨w.heap.size + 1, 0, none⟩), .pointer (some ⟨w.heap.size + 1 + 1, 0, none⟩)]) (by simp) (by simp [go_sem]) ?_
  refine (door_idle _ _ _ _).mono ?_
  rintro e u' w'' ⟨rfl, rfl, rfl⟩
  have hl := HL8.out
  simp [Leaves, settle, results, Try.results14, go_sem, q0, q1, q2, q3, q4, q5, hn8, he8, hl]
end Pk
end Go.Proofs.Ytpkhekjhnafbfaa
