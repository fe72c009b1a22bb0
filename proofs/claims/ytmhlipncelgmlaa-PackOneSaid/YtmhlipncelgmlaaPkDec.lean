/- Bytes as values: the door; Decode of any bytes. -/
import Derived.Test.YtmhlipncelgmlaaPkRdV
import Derived.Defers
import Derived.Recover
import Derived.Test.YtmhlipncelgmlaaSeq
namespace Go.Proofs.Ytmhlipncelgmlaa
open Go.RowKit
set_option linter.unusedVariables false
set_option linter.unusedSimpArgs false
namespace Pk
open Val (VT Keeps Box)
theorem cell_far {w : World} {p q : Addr} (u : Value) (h : q.block ≠ p.block) : (w.setCell p u).cell? q = w.cell? q := by
  unfold World.cell?
  rw [Below.heap_setCell w p u q.block h]
set_option maxRecDepth 100000 in
theorem assert_nil (t : TypeId) (w : World) : (Instr.typeAssert .nilIface t 28 true).run Try.prog w = .ok (.tuple #[.int .i64 0, .bool false]) w := by
  rfl
/-- The door, of a call that returns. -/
theorem door_idle (p q r : Addr) (w : World) :
    CallsD Try.prog 39 #[.pointer (some p), .pointer (some q), .pointer (some r)] .returning w fun e u' w' => e = .returned (.tuple #[]) ∧ u' = .returning ∧ w' = w := by
  have hta := assert_nil
  refine callsD_of_wpS Try.func39 rfl fun c₀ cs hu => ?_
  apply wpS_seq
  apply wpS_region
  simp [wpOpsS, go_sem, recoverD, hu, Try.ntmps39, Exit.thenS, hta]
  apply wpS_seq
  apply wpS_region
  simp [wpOpsS, go_sem, Exit.thenS]
  refine wpS_cond (t := false) (by simp [Act.eval, Array.replicate]) ?_
  simp only [Bool.false_eq_true, if_false]
  refine wpS_of_wp (wp_skip ?_)
  cases c₀
  simp_all [bodyPostS, results, Try.results39]
theorem seqS_lay {n : Nat} {P : Program} {ops : Array Oper} {Q : Exit → Act → World → Prop} {S : World → Prop} {i : Nat} {rest : List Nat} {a : Act} {w w1 : World} {o : Oper} (ho : ops[i]? = some o) (hc : isSeqOp o = true) (hw : Region.wanted o (yielded ops a.tmps) = true)
    (hd : o.dst = none) (hrun : (execOp a.eval o).run P w = .ok .skip w1) (hS : S w1) (h : seqS Fence.wide n P ops Q S rest a w1) : seqS Fence.wide n P ops Q S (i :: rest) a w := by
  unfold seqS
  simp only [ho]
  rw [if_pos hc]
  unfold wpOpIn
  simp only [ho]
  rw [if_pos hw]
  refine ⟨fun _ _ => trivial, ?_⟩
  show Oper.uponIn Fence.wide n P o a _ Q ((execOp a.eval o).run P w)
  rw [hrun]
  have hp : a.put o.dst undef = a := by rw [hd]; rfl
  show S w1 ∧ seqS Fence.wide n P ops Q S rest (a.put o.dst undef) w1
  rw [hp]
  exact ⟨hS, h⟩
set_option maxRecDepth 100000 in
theorem assert_errno (t : TypeId) (c : Int) (w : World) : (Instr.typeAssert (.iface 28 (.int .i64 c)) t 28 true).run Try.prog w = .ok (.tuple #[.int .i64 c, .bool true]) w := by
  rfl
set_option maxHeartbeats 1000000 in
/-- The door, of a call that throws: the fault is told, no value, no bytes read. -/
theorem door_caught (A N E : Nat) (c x y : Int) (older : List PanicEntry) (w : World) (hA : Box w A #[.int .i64 0, .bool false, .int .i64 0, .string ⟨#[]⟩, .slice none 0 0, .slice none 0 0])
    (hn : w.heap[N]? = some (.cells #[.int .i64 x] 3 (0, 0))) (he : w.heap[E]? = some (.cells #[.int .i64 y] 28 (0, 0))) (hAN : A ≠ N) (hAE : A ≠ E) (hNE : N ≠ E) :
    CallsD Try.prog 39 #[.pointer (some ⟨A, 0, none⟩), .pointer (some ⟨N, 0, none⟩), .pointer (some ⟨E, 0, none⟩)] (.panicking ({ v := .iface 28 (.int .i64 c), recovered := false } :: older)) w fun e u' w' =>
      e = .returned (.tuple #[]) ∧ u' = .panicking ({ v := .iface 28 (.int .i64 c), recovered := true } :: older) ∧ w' = ((six w A (.int .i64 0) (.bool false) (.int .i64 0) (.string ⟨#[]⟩) (.slice none 0 0) (.slice none 0 0)).setCell ⟨N, 0, none⟩ (.int .i64 0)).setCell ⟨E, 0, none⟩ (.int .i64 c) := by
  have hta := assert_errno
  obtain ⟨a0, a1, a2, a3, a4, a5⟩ := hA.cell
  have hf := fun i => box_free hA i
  have n0 : w.cell? ⟨N, 0, none⟩ = some (.int .i64 x) := by simp [World.cell?, hn]
  have n1 : w.frozen? ⟨N, 0, none⟩ = false := by simp [World.frozen?, hn]
  have e0 : w.cell? ⟨E, 0, none⟩ = some (.int .i64 y) := by simp [World.cell?, he]
  have e1 : w.frozen? ⟨E, 0, none⟩ = false := by simp [World.frozen?, he]
  clear hA hn he
  refine callsD_of_wpS Try.func39 rfl fun c₀ cs hu => ?_
  apply wpS_seq
  apply wpS_region
  simp [wpOpsS, go_sem, recoverD, hu, Try.ntmps39, Exit.thenS, hta]
  apply wpS_seq
  apply wpS_region
  simp [wpOpsS, go_sem, Exit.thenS]
  refine wpS_cond (t := true) (by simp [Act.eval, Array.replicate]) ?_
  simp only [if_true]
  apply wpS_region
  have hNA := hAN.symm
  have hEA := hAE.symm
  have hEN := hNE.symm
  simp [wpOpsS, go_sem, a0, a1, a2, a3, a4, a5, hf, n0, n1, e0, e1, hAN, hAE, hNE, hNA, hEA, hEN, bodyPostS, results, Try.results39, six]
/-- What Decode comes to. -/
def DecPost (l : List UInt8) (w : World) (e : Ending) (w' : World) : Prop :=
  Below w.heap.size w w' ∧ match parseV 32 0 l with
  | .error c => e = .returned (.tuple #[.agg #[.int .i64 0, .bool false, .int .i64 0, .string ⟨#[]⟩, .slice none 0 0, .slice none 0 0], .int .i64 0, .int .i64 c])
  | .ok a => ∃ v, e = .returned (.tuple #[v, .int .i64 ((l.length : Int) - (a.2.2.length : Int)), .int .i64 0]) ∧ VT.Own w' a.1 (Made w w') v
/-- What stands while Decode lays its results. -/
structure Dst (w w1 : World) (SV : Array Value) (rv : Value) (V : World) : Prop where
  box : Box V w.heap.size SV
  rd : V.cell? ⟨w.heap.size + 1 + 1 + 1, 0, none⟩ = some rv
  low : Below w.heap.size w V
  num : ∃ x, V.heap[w.heap.size + 1]? = some (.cells #[.int .i64 x] 3 (0, 0))
  err : V.heap[w.heap.size + 1 + 1]? = some (.cells #[.int .i64 0] 28 (0, 0))
  kept : Keeps (fun k => w.heap.size ≤ k ∧ k < w.heap.size + 3) w1 V
set_option maxRecDepth 100000 in
set_option maxHeartbeats 4000000 in
theorem decode_no (a : Option Addr) (cap : Nat) (l : List UInt8) (c : Int) (w : World) (hs : Fr.Src w (fun _ => False) a l) (hle0 : l.length ≤ cap) (hcap : cap ≤ 9223372036854775807) (hp : parseV 32 0 l = .error c) :
    Calls Try.prog 18 #[.slice a l.length cap] w fun e w' => e = .returned (.tuple #[.agg #[.int .i64 0, .bool false, .int .i64 0, .string ⟨#[]⟩, .slice none 0 0, .slice none 0 0], .int .i64 0, .int .i64 c]) ∧ Below w.heap.size w w' := by
  obtain ⟨L, hL⟩ : ∃ L, l.length = L := ⟨_, rfl⟩
  have hle : L ≤ cap := by omega
  rw [hL]
  obtain ⟨W3, hW3⟩ : ∃ W3, ((w.alloc (.cells #[.int .i64 0, .bool false, .int .i64 0, .string ⟨#[]⟩, .slice none 0 0, .slice none 0 0] 25)).alloc (.cells #[.int .i64 0] 3)).alloc (.cells #[.int .i64 0] 28) = W3 := ⟨_, rfl⟩
  have hs3 : W3.heap.size = w.heap.size + 1 + 1 + 1 := by rw [← hW3]; simp
  have hl3 : Below w.heap.size w W3 := by rw [← hW3]; exact (((Below.refl _ w).alloc (Nat.le_refl _) _).alloc (by simp) _).alloc (by simp; omega) _
  have hx3 : Box W3 w.heap.size #[.int .i64 0, .bool false, .int .i64 0, .string ⟨#[]⟩, .slice none 0 0, .slice none 0 0] := by rw [← hW3]; exact ((Box.new w _).alloc _).alloc _
  have hn3 : W3.heap[w.heap.size + 1]? = some (.cells #[.int .i64 0] 3 (0, 0)) := by
    rw [← hW3, Below.heap_alloc _ _ _ (by simp)]
    have := World.alloc_heap_new (w.alloc (.cells #[.int .i64 0, .bool false, .int .i64 0, .string ⟨#[]⟩, .slice none 0 0, .slice none 0 0] 25)) (.cells #[.int .i64 0] 3)
    simpa using this
  have he3 : W3.heap[w.heap.size + 1 + 1]? = some (.cells #[.int .i64 0] 28 (0, 0)) := by
    rw [← hW3]
    have := World.alloc_heap_new ((w.alloc (.cells #[.int .i64 0, .bool false, .int .i64 0, .string ⟨#[]⟩, .slice none 0 0, .slice none 0 0] 25)).alloc (.cells #[.int .i64 0] 3)) (.cells #[.int .i64 0] 28)
    simpa using this
  obtain ⟨W4, hW4⟩ : ∃ W4, W3.alloc (.cells #[.slice a L cap, .int .i64 0] 66) = W4 := ⟨_, rfl⟩
  have hl4 : Below w.heap.size w W4 := by rw [← hW4]; exact hl3.alloc (by omega) _
  have hs4 : W4.heap.size = w.heap.size + 1 + 1 + 1 + 1 := by rw [← hW4]; simp [hs3]
  have hr4 : Rb W4 (w.heap.size + 1 + 1 + 1) w.heap.size l (0 : Nat) := by
    refine ⟨a, cap, ?_, by rw [hL]; exact hle, hcap, fun h0 => ?_⟩
    · rw [← hW4, ← hs3, hL]; exact World.alloc_heap_new W3 _
    · obtain ⟨x, e, h1, h2, h3⟩ := hs h0
      have hbl : ∀ j, (x.add j).block = x.block := fun j => by unfold Addr.add; split <;> rfl
      exact ⟨x, e, Nat.lt_of_lt_of_le h1 hl4.size, by rintro (e | e) <;> omega, fun j u hu => (hl4.cell (p := x.add j) (by rw [hbl]; exact h1)).trans (h3 j u hu)⟩
  have hg : ∀ k, k < W3.heap.size → W4.heap[k]? = W3.heap[k]? := fun k hk => by rw [← hW4]; exact Below.heap_alloc W3 _ k hk
  have HX4 : Hid (Box W4 w.heap.size #[.int .i64 0, .bool false, .int .i64 0, .string ⟨#[]⟩, .slice none 0 0, .slice none 0 0]) := Lib.hid ((hg _ (by omega)).trans hx3)
  have HN4 : Hid (W4.heap[w.heap.size + 1]? = some (.cells #[.int .i64 0] 3 (0, 0))) := Lib.hid ((hg _ (by omega)).trans hn3)
  have HE4 : Hid (W4.heap[w.heap.size + 1 + 1]? = some (.cells #[.int .i64 0] 28 (0, 0))) := Lib.hid ((hg _ (by omega)).trans he3)
  have CALL := Lib.hid (value_any 32 (by omega) (w.heap.size + 1 + 1 + 1) w.heap.size l 0 W4 hr4 (by omega) (by omega))
  have HL4 := Lib.hid hl4
  have HS4 := Lib.hid hs4
  have HW3 := Lib.hid hW3
  have HW4 := Lib.hid hW4
  clear hW3 hW4 hs3 hl3 hx3 hn3 he3 hr4 hl4 hg hs4 hs hle hcap
  have hmf : ∀ (fn : Fn) (first cap : Array Value) (w : World), (Instr.makeFunc fn first cap).run Try.prog w = .ok (.func fn first cap) w := fun _ _ _ _ => rfl
  have h331 : (33 : Int) - ((32 : Nat) : Int) = 1 := by decide
  rw [h331] at CALL
  rw [hp] at CALL
  clear hL hp hle0
  go_enter_defers Try.func18, Try.ntmps18
  go_wp2_with fail
  rw [HW3.out, HW4.out]
  refine CALL.out.mono ?_
  rintro e w1 ⟨rfl, k1⟩
  have HX1 : Hid (Box w1 w.heap.size #[.int .i64 0, .bool false, .int .i64 0, .string ⟨#[]⟩, .slice none 0 0, .slice none 0 0]) := Lib.hid ((k1.block _ HX4.out.lt (by omega)).trans HX4.out)
  have HN1 : Hid (w1.heap[w.heap.size + 1]? = some (.cells #[.int .i64 0] 3 (0, 0))) := Lib.hid ((k1.block _ (by have := HS4.out; omega) (by omega)).trans HN4.out)
  have HE1 : Hid (w1.heap[w.heap.size + 1 + 1]? = some (.cells #[.int .i64 0] 28 (0, 0))) := Lib.hid ((k1.block _ (by have := HS4.out; omega) (by omega)).trans HE4.out)
  have HL1 : Hid (Below w.heap.size w w1) := Lib.hid (HL4.out.trans (k1.below (fun k hk => by omega) (by have := HS4.out; omega)))
  clear k1 CALL HX4 HN4 HE4 HL4 HS4 HW3 HW4
  refine leaves_cons (f := 39) (args := #[.pointer (some ⟨w.heap.size, 0, none⟩), .pointer (some ⟨w.heap.size + 1, 0, none⟩), .pointer (some ⟨w.heap.size + 1 + 1, 0, none⟩)]) (by simp) (by simp [go_sem]) ?_
  refine (door_caught _ _ _ c 0 0 [] w1 HX1.out HN1.out HE1.out (by omega) (by omega) (by omega)).mono ?_
  rintro e u' w'' ⟨rfl, rfl, hw⟩
  have hb6 := box_six HX1.out (.int .i64 0) (.bool false) (.int .i64 0) (.string ⟨#[]⟩) (.slice none 0 0) (.slice none 0 0)
  have hn6 : (six w1 w.heap.size (.int .i64 0) (.bool false) (.int .i64 0) (.string ⟨#[]⟩) (.slice none 0 0) (.slice none 0 0)).heap[w.heap.size + 1]? = some (.cells #[.int .i64 0] 3 (0, 0)) := (six_heap (by omega) _ _ _ _ _ _).trans HN1.out
  have he6 : (six w1 w.heap.size (.int .i64 0) (.bool false) (.int .i64 0) (.string ⟨#[]⟩) (.slice none 0 0) (.slice none 0 0)).heap[w.heap.size + 1 + 1]? = some (.cells #[.int .i64 0] 28 (0, 0)) := (six_heap (by omega) _ _ _ _ _ _).trans HE1.out
  have hl6 := below_six HL1.out (Nat.le_refl _) (.int .i64 0) (.bool false) (.int .i64 0) (.string ⟨#[]⟩) (.slice none 0 0) (.slice none 0 0)
  obtain ⟨W6, hW6⟩ : ∃ W6, six w1 w.heap.size (.int .i64 0) (.bool false) (.int .i64 0) (.string ⟨#[]⟩) (.slice none 0 0) (.slice none 0 0) = W6 := ⟨_, rfl⟩
  rw [hW6] at hb6 hn6 he6 hl6 hw
  clear hW6
  have hb7 : Box w'' w.heap.size #[.int .i64 0, .bool false, .int .i64 0, .string ⟨#[]⟩, .slice none 0 0, .slice none 0 0] := by rw [hw]; exact (hb6.far (p := ⟨w.heap.size + 1, 0, none⟩) (by simp) _).far (p := ⟨w.heap.size + 1 + 1, 0, none⟩) (by simp <;> omega) _
  have hn7 : w''.cell? ⟨w.heap.size + 1, 0, none⟩ = some (.int .i64 0) := by
    rw [hw, cell_far _ (by simp <;> omega)]
    simp [World.cell?, World.setCell, Array.getElem?_modify, hn6]
  have he7 : w''.cell? ⟨w.heap.size + 1 + 1, 0, none⟩ = some (.int .i64 c) := by
    have h1 : (W6.setCell ⟨w.heap.size + 1, 0, none⟩ (.int .i64 0)).heap[w.heap.size + 1 + 1]? = some (.cells #[.int .i64 0] 28 (0, 0)) := (Below.heap_setCell _ _ _ _ (by simp <;> omega)).trans he6
    rw [hw]
    generalize W6.setCell ⟨w.heap.size + 1, 0, none⟩ (.int .i64 0) = W7 at h1
    simp [World.cell?, World.setCell, Array.getElem?_modify, h1]
  have hl7 : Below w.heap.size w w'' := by rw [hw]; exact (hl6.setCell (p := ⟨w.heap.size + 1, 0, none⟩) (by simp) _).setCell (p := ⟨w.heap.size + 1 + 1, 0, none⟩) (by simp <;> omega) _
  obtain ⟨q0, q1, q2, q3, q4, q5⟩ := hb7.cell
  clear hw hb6 hn6 he6 hl6 hb7 HX1 HN1 HE1 HL1
  simp [Leaves, settle, results, Try.results18, go_sem, q0, q1, q2, q3, q4, q5, hn7, he7, hl7]
set_option maxRecDepth 100000 in
set_option maxHeartbeats 4000000 in
theorem decode_ok (a : Option Addr) (cap : Nat) (l r : List UInt8) (t : VT) (p2 : Nat) (w : World) (hs : Fr.Src w (fun _ => False) a l) (hle0 : l.length ≤ cap) (hcap : cap ≤ 9223372036854775807) (hp : parseV 32 0 l = .ok (t, p2, r)) :
    Calls Try.prog 18 #[.slice a l.length cap] w fun e w' => ∃ v, e = .returned (.tuple #[v, .int .i64 ((l.length : Int) - (r.length : Int)), .int .i64 0]) ∧ VT.Own w' t (Made w w') v ∧ Below w.heap.size w w' := by
  obtain ⟨L, hL⟩ : ∃ L, l.length = L := ⟨_, rfl⟩
  have hle : L ≤ cap := by omega
  have hrl : r.length ≤ L := by
    have h1 := (parse_may hp).2.2
    have h2 := congrArg List.length h1
    rw [List.length_append] at h2
    omega
  have hLc : L ≤ 9223372036854775807 := by omega
  obtain ⟨m2, hm2⟩ : ∃ m, r.length = m := ⟨_, rfl⟩
  rw [hm2] at hrl
  rw [hL, hm2]
  obtain ⟨W3, hW3⟩ : ∃ W3, ((w.alloc (.cells #[.int .i64 0, .bool false, .int .i64 0, .string ⟨#[]⟩, .slice none 0 0, .slice none 0 0] 25)).alloc (.cells #[.int .i64 0] 3)).alloc (.cells #[.int .i64 0] 28) = W3 := ⟨_, rfl⟩
  have hs3 : W3.heap.size = w.heap.size + 1 + 1 + 1 := by rw [← hW3]; simp
  have hl3 : Below w.heap.size w W3 := by rw [← hW3]; exact (((Below.refl _ w).alloc (Nat.le_refl _) _).alloc (by simp) _).alloc (by simp; omega) _
  have hx3 : Box W3 w.heap.size #[.int .i64 0, .bool false, .int .i64 0, .string ⟨#[]⟩, .slice none 0 0, .slice none 0 0] := by rw [← hW3]; exact ((Box.new w _).alloc _).alloc _
  have hn3 : W3.heap[w.heap.size + 1]? = some (.cells #[.int .i64 0] 3 (0, 0)) := by
    rw [← hW3, Below.heap_alloc _ _ _ (by simp)]
    have := World.alloc_heap_new (w.alloc (.cells #[.int .i64 0, .bool false, .int .i64 0, .string ⟨#[]⟩, .slice none 0 0, .slice none 0 0] 25)) (.cells #[.int .i64 0] 3)
    simpa using this
  have he3 : W3.heap[w.heap.size + 1 + 1]? = some (.cells #[.int .i64 0] 28 (0, 0)) := by
    rw [← hW3]
    have := World.alloc_heap_new ((w.alloc (.cells #[.int .i64 0, .bool false, .int .i64 0, .string ⟨#[]⟩, .slice none 0 0, .slice none 0 0] 25)).alloc (.cells #[.int .i64 0] 3)) (.cells #[.int .i64 0] 28)
    simpa using this
  obtain ⟨W4, hW4⟩ : ∃ W4, W3.alloc (.cells #[.slice a L cap, .int .i64 0] 66) = W4 := ⟨_, rfl⟩
  have hl4 : Below w.heap.size w W4 := by rw [← hW4]; exact hl3.alloc (by omega) _
  have hs4 : W4.heap.size = w.heap.size + 1 + 1 + 1 + 1 := by rw [← hW4]; simp [hs3]
  have hr4 : Rb W4 (w.heap.size + 1 + 1 + 1) w.heap.size l (0 : Nat) := by
    refine ⟨a, cap, ?_, by rw [hL]; exact hle, hcap, fun h0 => ?_⟩
    · rw [← hW4, ← hs3, hL]; exact World.alloc_heap_new W3 _
    · obtain ⟨x, e, h1, h2, h3⟩ := hs h0
      have hbl : ∀ j, (x.add j).block = x.block := fun j => by unfold Addr.add; split <;> rfl
      exact ⟨x, e, Nat.lt_of_lt_of_le h1 hl4.size, by rintro (e | e) <;> omega, fun j u hu => (hl4.cell (p := x.add j) (by rw [hbl]; exact h1)).trans (h3 j u hu)⟩
  have hg : ∀ k, k < W3.heap.size → W4.heap[k]? = W3.heap[k]? := fun k hk => by rw [← hW4]; exact Below.heap_alloc W3 _ k hk
  have HX4 : Hid (Box W4 w.heap.size #[.int .i64 0, .bool false, .int .i64 0, .string ⟨#[]⟩, .slice none 0 0, .slice none 0 0]) := Lib.hid ((hg _ (by omega)).trans hx3)
  have HN4 : Hid (W4.heap[w.heap.size + 1]? = some (.cells #[.int .i64 0] 3 (0, 0))) := Lib.hid ((hg _ (by omega)).trans hn3)
  have HE4 : Hid (W4.heap[w.heap.size + 1 + 1]? = some (.cells #[.int .i64 0] 28 (0, 0))) := Lib.hid ((hg _ (by omega)).trans he3)
  have CALL := Lib.hid (value_any 32 (by omega) (w.heap.size + 1 + 1 + 1) w.heap.size l 0 W4 hr4 (by omega) (by omega))
  have HL4 := Lib.hid hl4
  have HS4 := Lib.hid hs4
  have HW3 := Lib.hid hW3
  have HW4 := Lib.hid hW4
  clear hW3 hW4 hs3 hl3 hx3 hn3 he3 hr4 hl4 hg hs4 hs hle hcap
  have hmf : ∀ (fn : Fn) (first cap : Array Value) (w : World), (Instr.makeFunc fn first cap).run Try.prog w = .ok (.func fn first cap) w := fun _ _ _ _ => rfl
  have h331 : (33 : Int) - ((32 : Nat) : Int) = 1 := by decide
  rw [h331] at CALL
  rw [hp] at CALL
  have HM2 := Lib.hid hm2
  clear hL hp hle0 hm2
  go_enter_defers Try.func18, Try.ntmps18
  go_wp2_with fail
  rw [HW3.out, HW4.out]
  refine CALL.out.mono ?_
  rintro e w1 ⟨v, rfl, hown, hg1⟩
  obtain ⟨yk, yb, yn, ys, ypl, ynl, ycl, ypk, ynk, yck, rfl⟩ := hown.shape
  have k1 := hg1.2
  have HX1 : Hid (Box w1 w.heap.size #[.int .i64 0, .bool false, .int .i64 0, .string ⟨#[]⟩, .slice none 0 0, .slice none 0 0]) := Lib.hid ((k1.block _ HX4.out.lt (by omega)).trans HX4.out)
  have HN1 : Hid (w1.heap[w.heap.size + 1]? = some (.cells #[.int .i64 0] 3 (0, 0))) := Lib.hid ((k1.block _ (by have := HS4.out; omega) (by omega)).trans HN4.out)
  have HE1 : Hid (w1.heap[w.heap.size + 1 + 1]? = some (.cells #[.int .i64 0] 28 (0, 0))) := Lib.hid ((k1.block _ (by have := HS4.out; omega) (by omega)).trans HE4.out)
  have HL1 : Hid (Below w.heap.size w w1) := Lib.hid (HL4.out.trans (k1.below (fun k hk => by omega) (by have := HS4.out; omega)))
  obtain ⟨a2, c2, ha2⟩ := hg1.1
  have ha3 := ha2.cell.1
  rw [HM2.out] at ha3
  have HR1 : Hid (w1.cell? ⟨w.heap.size + 1 + 1 + 1, 0, none⟩ = some (.slice a2 m2 c2)) := Lib.hid ha3
  have HO := Lib.hid hown
  have hw14 : w.heap.size + 4 ≤ W4.heap.size := by have := HS4.out; omega
  have hw1s : W4.heap.size ≤ w1.heap.size := k1.size
  have hf1 := fun i => box_free HX1.out i
  obtain ⟨b0, b1, b2, b3, b4, b5⟩ := HX1.out.cell
  clear k1 CALL hg1 hown ha2 ha3 HX4 HN4 HE4 HL4 HS4 HW3 HW4
  have HD : Hid (Dst w w1 #[.int .i64 yk, .bool yb, .int .i64 yn, .string ys, .slice ypl ynl ycl, .slice ypk ynk yck] (.slice a2 m2 c2) (six w1 w.heap.size (.int .i64 yk) (.bool yb) (.int .i64 yn) (.string ys) (.slice ypl ynl ycl) (.slice ypk ynk yck))) := Lib.hid
    ⟨box_six HX1.out _ _ _ _ _ _, (World.cell?_of_block (six_heap (by show w.heap.size + 1 + 1 + 1 ≠ _; omega) _ _ _ _ _ _)).trans HR1.out, below_six HL1.out (Nat.le_refl _) _ _ _ _ _ _, ⟨0, (six_heap (by omega) _ _ _ _ _ _).trans HN1.out⟩, (six_heap (by omega) _ _ _ _ _ _).trans HE1.out, keeps_six (Keeps.refl _ w1) (.inl ⟨Nat.le_refl _, by omega⟩) _ _ _ _ _ _⟩
  go_upto_region 4 with fail
  obtain ⟨W5, hW5⟩ : ∃ W5, six w1 w.heap.size (.int .i64 yk) (.bool yb) (.int .i64 yn) (.string ys) (.slice ypl ynl ycl) (.slice ypk ynk yck) = W5 := ⟨_, rfl⟩
  rw [hW5] at HD
  unfold six at hW5
  rw [hW5]
  clear hW5 b0 b1 b2 b3 b4 b5 hf1
  have HD5 : Hid (Dst w w1 #[.int .i64 yk, .bool yb, .int .i64 yn, .string ys, .slice ypl ynl ycl, .slice ypk ynk yck] (.slice a2 m2 c2) W5.drew) := Lib.hid ⟨HD.out.box, HD.out.rd, HD.out.low.drew, HD.out.num, HD.out.err, HD.out.kept.drew⟩
  refine wp_region_seq (Dst w w1 #[.int .i64 yk, .bool yb, .int .i64 yn, .string ys, .slice ypl ynl ycl, .slice ypk ynk yck] (.slice a2 m2 c2)) [0, 1, 2, 3, 4, 5, 6, 7, 8, 9] (by kernel_rfl) (by kernel_rfl) (by kernel_rfl) (by kernel_rfl) HD5.out ?_
  refine seqS_take (o := _) (.agg #[.int .i64 yk, .bool yb, .int .i64 yn, .string ys, .slice ypl ynl ycl, .slice ypk ynk yck]) (by conv => lhs; simp only [List.getElem?_toArray, List.getElem?_cons_succ, List.getElem?_cons_zero]) (by rfl) (by rfl) ?_ (fun _ => by rfl) (by conv => lhs; simp only [Act.put, List.setIfInBounds_toArray, List.set_cons_succ, List.set_cons_zero]) ?_
  · rintro w' t0; obtain ⟨c0, c1, c2, c3, c4, c5⟩ := t0.box.cell; clear t0; go_simp
  refine seqS_take (o := _) (.slice a L cap) (by conv => lhs; simp only [List.getElem?_toArray, List.getElem?_cons_succ, List.getElem?_cons_zero]) (by rfl) (by rfl) ?_ (fun _ => by rfl) (by conv => lhs; simp only [Act.put, List.setIfInBounds_toArray, List.set_cons_succ, List.set_cons_zero]) ?_
  · intro w _; go_simp
  refine seqS_take (o := _) (.int .i64 (L : Int)) (by conv => lhs; simp only [List.getElem?_toArray, List.getElem?_cons_succ, List.getElem?_cons_zero]) (by rfl) (by rfl) ?_ (fun _ => by rfl) (by conv => lhs; simp only [Act.put, List.setIfInBounds_toArray, List.set_cons_succ, List.set_cons_zero]) ?_
  · intro w _; go_simp
  refine seqS_take (o := _) (.pointer (some ⟨w.heap.size + 1 + 1 + 1, 0, none⟩)) (by conv => lhs; simp only [List.getElem?_toArray, List.getElem?_cons_succ, List.getElem?_cons_zero]) (by rfl) (by rfl) ?_ (fun _ => by rfl) (by conv => lhs; simp only [Act.put, List.setIfInBounds_toArray, List.set_cons_succ, List.set_cons_zero]) ?_
  · intro w _; go_simp
  refine seqS_take (o := _) (.slice a2 m2 c2) (by conv => lhs; simp only [List.getElem?_toArray, List.getElem?_cons_succ, List.getElem?_cons_zero]) (by rfl) (by rfl) ?_ (fun _ => by rfl) (by conv => lhs; simp only [Act.put, List.setIfInBounds_toArray, List.set_cons_succ, List.set_cons_zero]) ?_
  · rintro w' t0; have c0 := t0.rd; clear t0; go_simp
  refine seqS_take (o := _) (.int .i64 (m2 : Int)) (by conv => lhs; simp only [List.getElem?_toArray, List.getElem?_cons_succ, List.getElem?_cons_zero]) (by rfl) (by rfl) ?_ (fun _ => by rfl) (by conv => lhs; simp only [Act.put, List.setIfInBounds_toArray, List.set_cons_succ, List.set_cons_zero]) ?_
  · intro w _; go_simp
  refine seqS_take (o := _) (.int .i64 ((L : Int) - (m2 : Int))) (by conv => lhs; simp only [List.getElem?_toArray, List.getElem?_cons_succ, List.getElem?_cons_zero]) (by rfl) (by rfl) ?_ (fun _ => by rfl) (by conv => lhs; simp only [Act.put, List.setIfInBounds_toArray, List.set_cons_succ, List.set_cons_zero]) ?_
  · intro w _; go_simp; try (simp [IntKind.wrap, IntKind.bits, IntKind.signed]; omega)
  obtain ⟨W6, hW6⟩ : ∃ W6, six W5.drew w.heap.size (.int .i64 yk) (.bool yb) (.int .i64 yn) (.string ys) (.slice ypl ynl ycl) (.slice ypk ynk yck) = W6 := ⟨_, rfl⟩
  have HD6 : Hid (Dst w w1 #[.int .i64 yk, .bool yb, .int .i64 yn, .string ys, .slice ypl ynl ycl, .slice ypk ynk yck] (.slice a2 m2 c2) W6) := Lib.hid (by
    rw [← hW6]
    obtain ⟨x, hx⟩ := HD5.out.num
    exact ⟨box_six HD5.out.box _ _ _ _ _ _, (World.cell?_of_block (six_heap (by show w.heap.size + 1 + 1 + 1 ≠ _; omega) _ _ _ _ _ _)).trans HD5.out.rd, below_six HD5.out.low (Nat.le_refl _) _ _ _ _ _ _, ⟨x, (six_heap (by omega) _ _ _ _ _ _).trans hx⟩, (six_heap (by omega) _ _ _ _ _ _).trans HD5.out.err, keeps_six HD5.out.kept (.inl ⟨Nat.le_refl _, by omega⟩) _ _ _ _ _ _⟩)
  have HW6 := Lib.hid hW6
  clear hW6
  refine seqS_lay (o := _) (w1 := W6) (by conv => lhs; simp only [List.getElem?_toArray, List.getElem?_cons_succ, List.getElem?_cons_zero]) (by rfl) (by rfl) (by rfl) ?_ HD6.out ?_
  · rw [← HW6.out]
    unfold six
    obtain ⟨c0, c1, c2, c3, c4, c5⟩ := HD.out.box.cell
    have hf := fun i => box_free HD.out.box i
    go_simp
  obtain ⟨x6, hx6⟩ := HD6.out.num
  have HX6 := Lib.hid hx6
  obtain ⟨W7, hW7⟩ : ∃ W7, W6.setCell ⟨w.heap.size + 1, 0, none⟩ (.int .i64 ((L : Int) - (m2 : Int))) = W7 := ⟨_, rfl⟩
  have HD7 : Hid (Dst w w1 #[.int .i64 yk, .bool yb, .int .i64 yn, .string ys, .slice ypl ynl ycl, .slice ypk ynk yck] (.slice a2 m2 c2) W7) := Lib.hid (by
    rw [← hW7]
    exact ⟨HD6.out.box.far (show w.heap.size ≠ w.heap.size + 1 by omega) _, (cell_far _ (by simp <;> omega)).trans HD6.out.rd, HD6.out.low.setCell (p := ⟨w.heap.size + 1, 0, none⟩) (by simp) _, ⟨_, by simp [World.setCell, Array.getElem?_modify, hx6]; rfl⟩, (Below.heap_setCell _ _ _ _ (by simp <;> omega)).trans HD6.out.err, HD6.out.kept.setCell (p := ⟨w.heap.size + 1, 0, none⟩) (.inl ⟨by simp <;> omega, by simp <;> omega⟩) _⟩)
  have HW7 := Lib.hid hW7
  clear hW7 hx6
  refine seqS_lay (o := _) (w1 := W7) (by conv => lhs; simp only [List.getElem?_toArray, List.getElem?_cons_succ, List.getElem?_cons_zero]) (by rfl) (by rfl) (by rfl) ?_ HD7.out ?_
  · rw [← HW7.out]
    have hx6 := HX6.out
    have q0 : W6.cell? ⟨w.heap.size + 1, 0, none⟩ = some (.int .i64 x6) := by simp [World.cell?, hx6]
    have q1 : W6.frozen? ⟨w.heap.size + 1, 0, none⟩ = false := by simp [World.frozen?, hx6]
    go_simp
  obtain ⟨W8, hW8⟩ : ∃ W8, W7.setCell ⟨w.heap.size + 1 + 1, 0, none⟩ (.int .i64 0) = W8 := ⟨_, rfl⟩
  have HD8 : Hid (Dst w w1 #[.int .i64 yk, .bool yb, .int .i64 yn, .string ys, .slice ypl ynl ycl, .slice ypk ynk yck] (.slice a2 m2 c2) W8) := Lib.hid (by
    rw [← hW8]
    obtain ⟨x, hx⟩ := HD7.out.num
    have he := HD7.out.err
    exact ⟨HD7.out.box.far (show w.heap.size ≠ w.heap.size + 1 + 1 by omega) _, (cell_far _ (by simp <;> omega)).trans HD7.out.rd, HD7.out.low.setCell (p := ⟨w.heap.size + 1 + 1, 0, none⟩) (by simp <;> omega) _, ⟨x, (Below.heap_setCell _ _ _ _ (by simp <;> omega)).trans hx⟩, by simp [World.setCell, Array.getElem?_modify, he], HD7.out.kept.setCell (p := ⟨w.heap.size + 1 + 1, 0, none⟩) (.inl ⟨by simp <;> omega, by simp <;> omega⟩) _⟩)
  have HW8 := Lib.hid hW8
  clear hW8
  refine seqS_lay (o := _) (w1 := W8) (by conv => lhs; simp only [List.getElem?_toArray, List.getElem?_cons_succ, List.getElem?_cons_zero]) (by rfl) (by rfl) (by rfl) ?_ HD8.out ?_
  · rw [← HW8.out]
    have he := HD7.out.err
    have q0 : W7.cell? ⟨w.heap.size + 1 + 1, 0, none⟩ = some (.int .i64 0) := by simp [World.cell?, he]
    have q1 : W7.frozen? ⟨w.heap.size + 1 + 1, 0, none⟩ = false := by simp [World.frozen?, he]
    go_simp
  refine NoPanic.normal ?_
  have hn8 : W8.cell? ⟨w.heap.size + 1, 0, none⟩ = some (.int .i64 ((L : Int) - (m2 : Int))) := by
    rw [← HW8.out, cell_far _ (by simp <;> omega), ← HW7.out]
    simp [World.cell?, World.setCell, Array.getElem?_modify, HX6.out]
  have he8 : W8.cell? ⟨w.heap.size + 1 + 1, 0, none⟩ = some (.int .i64 0) := by simp [World.cell?, HD8.out.err]
  obtain ⟨q0, q1, q2, q3, q4, q5⟩ := HD8.out.box.cell
  have HL8 := Lib.hid HD8.out.low
  have HO8 : Hid (VT.Own W8 t (Made w W8) (.agg #[.int .i64 yk, .bool yb, .int .i64 yn, .string ys, .slice ypl ynl ycl, .slice ypk ynk yck])) := Lib.hid (VT.Own.more (fun k hk => ⟨by have := hk.1; omega, Nat.lt_of_lt_of_le hk.2 HD8.out.kept.size⟩) (HO.out.keeps HD8.out.kept (fun k hk => ⟨hk.2, fun h => by have := hk.1; omega⟩)))
  clear HX1 HN1 HE1 HL1 HR1 HD HD5 HD6 HD7 HD8 HW6 HW7 HW8 HX6 HO
  go_wp2
  refine leaves_cons (f := 39) (args := #[.pointer (some ⟨w.heap.size, 0, none⟩), .pointer (some ⟨w.heap.size + 1, 0, none⟩), .pointer (some ⟨w.heap.size + 1 + 1, 0, none⟩)]) (by simp) (by simp [go_sem]) ?_
  refine (door_idle _ _ _ _).mono ?_
  rintro e u' w'' ⟨rfl, rfl, rfl⟩
  have hl := HL8.out
  have ho := HO8.out
  simp [Leaves, settle, results, Try.results18, go_sem, q0, q1, q2, q3, q4, q5, hn8, he8, hl, ho]
theorem decode_any (a : Option Addr) (cap : Nat) (l : List UInt8) (w : World) (hs : Fr.Src w (fun _ => False) a l) (hle : l.length ≤ cap) (hcap : cap ≤ 9223372036854775807) :
    Calls Try.prog 18 #[.slice a l.length cap] w (DecPost l w) := by
  cases hp : parseV 32 0 l with
  | error c =>
    refine (decode_no a cap l c w hs hle hcap hp).mono fun e w' h => ?_
    unfold DecPost
    rw [hp]
    exact ⟨h.2, h.1⟩
  | ok x =>
    obtain ⟨t, p2, r⟩ := x
    refine (decode_ok a cap l r t p2 w hs hle hcap hp).mono fun e w' h => ?_
    obtain ⟨v, h1, h2, h3⟩ := h
    unfold DecPost
    rw [hp]
    exact ⟨h3, v, h1, h2⟩
end Pk
end Go.Proofs.Ytmhlipncelgmlaa
