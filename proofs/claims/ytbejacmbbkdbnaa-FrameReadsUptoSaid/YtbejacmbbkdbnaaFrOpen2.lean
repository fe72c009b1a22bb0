/- Frame: a slice of slices of bytes that came in; a slice of numbers. -/
import Derived.Test.YtbejacmbbkdbnaaFrOpen
import Derived.ChangeArms
namespace Go.Proofs.Ytbejacmbbkdbnaa
open Go.RowKit Go.ChangeShapes Go.WideShapes Go.ChangeAt
set_option linter.unusedVariables false
namespace Fr
/-- A slice of bytes that came in: address, room, bytes. -/
abbrev Ar := Option Addr × Nat × List UInt8
def hdr (e : Ar) : Value := .slice e.1 e.2.2.length e.2.1
structure Good (B : Nat) (w : World) (e : Ar) : Prop where
  src : Src w (fun k => B ≤ k) e.1 e.2.2
  le : e.2.2.length ≤ e.2.1
  max : e.2.1 ≤ maxLen
def RowsIn (B : Nat) (w : World) (p : Option Addr) (LS : List Ar) : Prop := ∀ i e, LS[i]? = some e → ∃ a, p = some a ∧ a.block < B ∧ w.cell? (a.add i) = some (hdr e) ∧ Good B w e
def total (LS : List Ar) : Nat := (LS.map fun e => e.2.2.length + 1).sum
theorem Good.low {B : Nat} {w w' : World} {e : Ar} (h : Good B w e) (hb : Below B w w') : Good B w' e :=
  ⟨fun h0 => by
    obtain ⟨a, e1, h1, h2, h3⟩ := h.src h0
    have hlt : a.block < B := by omega
    refine ⟨a, e1, Nat.lt_of_lt_of_le h1 hb.size, h2, fun j u hu => ?_⟩
    have hbl : (a.add j).block = a.block := by unfold Addr.add; split <;> rfl
    rw [hb.cell (p := a.add j) (by rw [hbl]; exact hlt)]
    exact h3 j u hu, h.le, h.max⟩
theorem RowsIn.low {B : Nat} {w w' : World} {p : Option Addr} {LS : List Ar} (h : RowsIn B w p LS) (hb : Below B w w') : RowsIn B w' p LS := fun i e he => by
  obtain ⟨a, h1, h2, h3, h4⟩ := h i e he
  have hbl : (a.add i).block = a.block := by unfold Addr.add; split <;> rfl
  exact ⟨a, h1, h2, (hb.cell (p := a.add i) (by rw [hbl]; exact h2)).trans h3, h4.low hb⟩
theorem rows_of {H : Type} {R : Nat → Ar → Prop} : ∀ (ys : List (DataW H)) (o : Nat), (∀ i y, ys[i]? = some y → ∃ e : Ar, R (o + i) e ∧ e.2.2.length + 1 ≤ Rows.uptoBulk y) → ∃ LS : List Ar, LS.length = ys.length ∧ (∀ i e, LS[i]? = some e → R (o + i) e) ∧ total LS ≤ Rows.uptoBulkAll ys
  | [], o, _ => ⟨[], rfl, fun i e h => by simp at h, by simp [total]⟩
  | y :: ys, o, h => by
    obtain ⟨e, h1, h2⟩ := h 0 y rfl
    obtain ⟨LS, hl, hR, ht⟩ := rows_of ys (o + 1) (fun i y' hi => by
      have := h (i + 1) y' (by simpa using hi)
      rwa [show o + (i + 1) = o + 1 + i by omega] at this)
    refine ⟨e :: LS, by rw [List.length_cons, List.length_cons, hl], fun i e' he => ?_, ?_⟩
    · cases i with
      | zero => simp at he; subst he; exact h1
      | succ i =>
        have := hR i e' (by simpa using he)
        rwa [show o + 1 + i = o + (i + 1) by omega] at this
    · unfold total at ht ⊢
      rw [Rows.uptoBulkAll, List.map_cons, List.sum_cons]
      omega
theorem open_rows {H : Type} {enc : TypeId × Value → H} {P : Program} {W : World} {t e b : TypeId} {v : Value} {d : DataW H} {ps : List MemPlace}
    (ht : P.underlying t = some (.slice e)) (he : P.underlying e = some (.slice b)) (hb : P.underlying b = some (.int .u8)) (hcb : P.cellsOf b = 1) (hce : P.cellsOf e = 1) (hval : ∃ a n c, v = .slice a n c) (hd : DataW.Trod enc P W 0 (fun _ => true) true t v d ps) :
    ∃ (p : Option Addr) (c : Nat) (LS : List Ar), v = .slice p LS.length c ∧ LS.length ≤ c ∧ c ≤ maxLen ∧ RowsIn W.heap.size W p LS ∧ total LS + 1 ≤ Rows.uptoBulk d := by
  obtain ⟨a0, len, cap, rfl⟩ := hval
  obtain ⟨fuel, hf⟩ := hd
  rcases DataW.trod_slice ht hf with ⟨hcs, hx⟩ | ⟨a, len', cap', elems, rest, n, -, hcs, hx, -, hl, hm, hel, hels, -, -⟩
  · simp [Value.cells] at hcs
    obtain ⟨rfl, rfl, rfl⟩ := hcs
    simp only [Prod.mk.injEq] at hx
    refine ⟨none, 0, [], rfl, Nat.le_refl _, by unfold maxLen; omega, fun i e h => by simp at h, ?_⟩
    rw [hx.1]
    simp [Rows.uptoBulk, total]
  · simp [Value.cells] at hcs
    obtain ⟨rfl, rfl, rfl⟩ := hcs
    simp only [Prod.mk.injEq] at hx
    obtain ⟨rfl, -⟩ := hx
    obtain ⟨LS, hLl, hLR, hLt⟩ := rows_of (R := fun i e => a.block < W.heap.size ∧ W.cell? (a.add i) = some (hdr e) ∧ Good W.heap.size W e) (elems.map (·.1)) 0 (fun i y hy => by
      have hi : i < len := by
        have := (List.getElem?_eq_some_iff.1 hy).1
        simp at this; omega
      have h := hels i hi
      rw [hce, Nat.mul_one] at h
      have hyz : elems[i]? = some (elems[i]'(by rw [hel]; exact hi)) := List.getElem?_eq_getElem _
      rw [hyz] at h
      obtain ⟨cs', hc, ht'⟩ := Option.bind_eq_some_iff.1 h
      have hzy : (elems[i]'(by rw [hel]; exact hi)).1 = y := by
        rw [List.getElem?_map, hyz] at hy
        simpa using hy
      obtain ⟨-, hcl, hat⟩ := World.cells?_some hc
      match cs', hcl with
      | [v'], _ =>
        have hcell : W.cell? (a.add i) = some v' := by
          have := hat 0 (by omega)
          simpa [Addr.add_add] using this
        have hsl : ∃ a n c, v' = .slice a n c := by
          rcases open_ints he hb hcb ht' with ⟨h1, -⟩ | ⟨a', len', cap', zs, h1, -⟩
          · exact ⟨none, 0, 0, by simpa using h1⟩
          · exact ⟨some a', len', cap', by simpa using h1⟩
        obtain ⟨p', c', bs, hv', h1, h2, h3, h4⟩ := open_bytes (v := v') (d := (elems[i]'(by rw [hel]; exact hi)).1) (ps := (elems[i]'(by rw [hel]; exact hi)).2) he hb hcb hsl ⟨n, by
          obtain ⟨q1, q2, q3, rfl⟩ := hsl
          exact ht'⟩
        have hlt := World.block_lt_of_cell? _ _ hcell
        have hbl : (a.add i).block = a.block := by unfold Addr.add; split <;> rfl
        refine ⟨(p', c', bs), ⟨by rw [hbl] at hlt; exact hlt, by rw [Nat.zero_add, hcell, hv']; rfl, ⟨fun h0 => ?_, h1, h2⟩⟩, by rw [← hzy]; exact h4⟩
        obtain ⟨a2, e2, k1, -, k3⟩ := h3 h0
        exact ⟨a2, e2, k1, fun x => absurd k1 (Nat.not_lt.2 x), k3⟩)
    have hLn : LS.length = len := by rw [hLl, List.length_map, hel]
    refine ⟨some a, cap, LS, by rw [hLn], by omega, hm, fun i e he' => ?_, ?_⟩
    · have := hLR i e he'
      rw [Nat.zero_add] at this
      exact ⟨a, rfl, this.1, this.2.1, this.2.2⟩
    · simp only [Rows.uptoBulk]
      omega
/-- A slice of numbers. -/
def IntsIn (B : Nat) (w : World) (p : Option Addr) (zs : List Int) : Prop := ∀ i z, zs[i]? = some z → ∃ a, p = some a ∧ a.block < B ∧ w.cell? (a.add i) = some (.int .i64 z) ∧ -9223372036854775808 ≤ z ∧ z ≤ 9223372036854775807
theorem IntsIn.low {B : Nat} {w w' : World} {p : Option Addr} {zs : List Int} (h : IntsIn B w p zs) (hb : Below B w w') : IntsIn B w' p zs := fun i z hz => by
  obtain ⟨a, h1, h2, h3, h4⟩ := h i z hz
  have hbl : (a.add i).block = a.block := by unfold Addr.add; split <;> rfl
  exact ⟨a, h1, h2, (hb.cell (p := a.add i) (by rw [hbl]; exact h2)).trans h3, h4⟩
theorem open_numbers {H : Type} {enc : TypeId × Value → H} {P : Program} {W : World} {t e : TypeId} {v : Value} {d : DataW H} {ps : List MemPlace}
    (ht : P.underlying t = some (.slice e)) (he : P.underlying e = some (.int .i64)) (hc : P.cellsOf e = 1) (hval : ∃ a n c, v = .slice a n c) (hd : DataW.Trod enc P W 0 (fun _ => true) true t v d ps) :
    ∃ (p : Option Addr) (c : Nat) (zs : List Int), v = .slice p zs.length c ∧ zs.length ≤ c ∧ c ≤ maxLen ∧ IntsIn W.heap.size W p zs ∧ zs.length + 1 ≤ Rows.uptoBulk d := by
  obtain ⟨a0, len, cap, rfl⟩ := hval
  obtain ⟨fuel, hf⟩ := hd
  rcases open_ints ht he hc hf with ⟨hcs, hx⟩ | ⟨a, len', cap', zs, hcs, hlc, hl, hm, hz, hx, hcell, hwz⟩
  · simp [Value.cells] at hcs
    obtain ⟨rfl, rfl, rfl⟩ := hcs
    simp only [Prod.mk.injEq] at hx
    refine ⟨none, 0, [], rfl, Nat.le_refl _, by unfold maxLen; omega, fun i e h => by simp at h, ?_⟩
    rw [hx.1]
    simp [Rows.uptoBulk]
  · simp [Value.cells] at hcs
    obtain ⟨rfl, rfl, rfl⟩ := hcs
    simp only [Prod.mk.injEq] at hx
    obtain ⟨rfl, rfl⟩ := hx
    simp only [if_true] at hz
    have hlen : (zs.take len).length = len := by rw [List.length_take]; omega
    refine ⟨some a, cap, zs.take len, by rw [hlen], by omega, by omega, fun i z hi => ?_, ?_⟩
    · rw [List.getElem?_take] at hi
      split at hi
      · have hj2 : i < zs.length := (List.getElem?_eq_some_iff.1 hi).1
        have h3 := hcell i hj2
        have e3 : zs.getD i 0 = z := by rw [List.getD_eq_getElem?_getD, hi]; rfl
        rw [e3] at h3
        have h1 := World.block_lt_of_cell? _ _ h3
        have hw := hwz z (List.mem_of_getElem? hi)
        simp [Lit.wf, IntKind.min, IntKind.max, IntKind.bits, IntKind.signed] at hw
        exact ⟨a, rfl, by simpa [block_add] using h1, h3, hw.1, by omega⟩
      · cases hi
    · rw [hlen]
      have h3 := bulk_slice (H := H) (lits .i64 (zs.take len)) (lits .i64 (zs.drop len))
      have h4 : (lits (H := H) .i64 (zs.take len)).length = len := by simp [lits]; omega
      omega
end Fr
end Go.Proofs.Ytbejacmbbkdbnaa
