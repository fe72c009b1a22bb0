/- Frame: the row of loads that a call tells. -/
import Derived.Test.YtbejacmbbkdbnaaFrNext
namespace Go.Proofs.Ytbejacmbbkdbnaa
open Go.RowKit
set_option linter.unusedVariables false
set_option linter.unusedSimpArgs false
namespace Fr
theorem infoS : (Try.prog.info? 22).map (fun i => (i.zero, i.size, i.bytes)) = some (some (.slice none 0 0), 1, 24) := by kernel_rfl
/-- A load: its block, its room, its bytes. -/
abbrev Ld := Nat × Nat × List UInt8
def headV (e : Ld) : Value := .slice (some ⟨e.1, 4, none⟩) e.2.2.length e.2.1
def heads (L : List Ld) : List Value := L.map headV
/-- A load's bytes lie in block g, behind four. -/
def Lies (w : World) (g : Nat) (x : List UInt8) : Prop := ∃ cur, w.heap[g]? = some (.cells cur 5 (0, 0)) ∧ (cur.toList.drop 4).take x.length = Lib.byteCells x
theorem Lies.keeps {X : Nat → Prop} {w w' : World} {g : Nat} {x : List UInt8} (h : Lies w g x) (hk : Keeps X w w') (hX : ¬ X g) : Lies w' g x := by
  obtain ⟨cur, hc, hx⟩ := h
  exact ⟨cur, (hk.block g (Array.getElem?_eq_some_iff.1 hc).1 hX).trans hc, hx⟩
theorem Lies.lt {w : World} {g : Nat} {x : List UInt8} (h : Lies w g x) : g < w.heap.size := by
  obtain ⟨cur, hc, -⟩ := h
  exact (Array.getElem?_eq_some_iff.1 hc).1
/-- A row of loads of the call's own (made since block b), each load in a block of its own, of M, none of N. -/
structure RowL (b : Nat) (M N : Nat → Prop) (w : World) (lv : Value) (L : List Ld) : Prop where
  own : w.ownsRow b 22 1 lv L.length (heads L)
  ownN : ∀ g, lv.ownBlock = some g → ¬ N g
  nodup : (L.map (·.1)).Nodup
  each : ∀ e ∈ L, M e.1 ∧ lv.ownBlock ≠ some e.1 ∧ ¬ N e.1 ∧ Lies w e.1 e.2.2
theorem RowL.nil (b : Nat) (M N : Nat → Prop) (w : World) : RowL b M N w (.slice none 0 0) [] := ⟨World.ownsRow_nil _ _ _ _, fun g e => (by cases e), List.nodup_nil, fun e h => by cases h⟩
theorem owns_keeps {b : Nat} {t : TypeId} {z : Nat} {w w' : World} {v : Value} {n : Nat} {xs : List Value} {X : Nat → Prop} (h : w.ownsRow b t z v n xs) (hk : Keeps X w w') (hX : ∀ k, v.ownBlock = some k → ¬ X k) : w'.ownsRow b t z v n xs := by
  refine ⟨h.1, ?_⟩
  rcases h.2 with hn | ⟨g, cap, cur, hv, hg0, hg, rest⟩
  · exact .inl hn
  · exact .inr ⟨g, cap, cur, hv, hg0, (hk.block g (Array.getElem?_eq_some_iff.1 hg).1 (hX g (by rw [hv]; rfl))).trans hg, rest⟩
theorem RowL.lt {b : Nat} {M N : Nat → Prop} {w : World} {lv : Value} {L : List Ld} (h : RowL b M N w lv L) : ∀ g, lv.ownBlock = some g → b ≤ g ∧ g < w.heap.size := h.own.lt
theorem RowL.keeps {b : Nat} {M N N' X : Nat → Prop} {w w' : World} {lv : Value} {L : List Ld} (h : RowL b M N w lv L) (hk : Keeps X w w') (hX : ∀ k, X k → k < w.heap.size → N k) (hN : ∀ k, N' k → k < w.heap.size → N k) : RowL b M N' w' lv L :=
  ⟨owns_keeps h.own hk fun k e x => h.ownN k e (hX k x (h.lt k e).2), fun g e x => h.ownN g e (hN g x (h.lt g e).2), h.nodup, fun e he => by
    obtain ⟨h1, h2, h3, h4⟩ := h.each e he
    exact ⟨h1, h2, fun x => h3 (hN _ x h4.lt), h4.keeps hk fun x => h3 (hX _ x h4.lt)⟩⟩
theorem RowL.shape {b : Nat} {M N : Nat → Prop} {w : World} {lv : Value} {L : List Ld} (h : RowL b M N w lv L) : ∃ q c, lv = .slice q L.length c ∧ L.length ≤ c ∧ c ≤ maxLen ∧ (0 < L.length → ∃ g, q = some ⟨g, 0, none⟩) := by
  rcases h.own.2 with ⟨rfl, hn⟩ | ⟨g, cap, cur, rfl, hb, hg, hn, hm, hs, -⟩
  · exact ⟨none, 0, by rw [hn], by omega, by unfold maxLen; omega, fun h => absurd h (by omega)⟩
  · exact ⟨some ⟨g, 0, none⟩, cap, rfl, hn, hm, fun _ => ⟨g, rfl⟩⟩
/-- A load's bytes, out of the whole frame's row. -/
theorem Buf.lies {b g n cp : Nat} {w : World} {s : List UInt8} (h : Buf b w (.slice (some ⟨g, 0, none⟩) n cp) s) (h4 : 4 ≤ s.length) : Lies w g (s.drop 4) := by
  rcases h.2 with ⟨e, hn⟩ | ⟨g', cap, cur, hv, hb, hg, hn, hm, hs, hx⟩
  · omega
  · injection hv with e1 e2 e3
    injection e1 with e1
    injection e1 with e1
    subst e1
    refine ⟨cur, hg, ?_⟩
    rw [Nat.mul_one] at hx
    have : ((cur.toList.take s.length).drop 4) = (Lib.byteCells s).drop 4 := by rw [hx]
    rw [List.drop_take] at this
    rw [List.length_drop, this]
    unfold Lib.byteCells
    rw [List.map_drop]
/-- One more load behind the row. -/
theorem RowL.snoc {b g g1 cp cap : Nat} {M N N' : Nat → Prop} {w w1 : World} {o : Obj} {lv : Value} {L : List Ld} {x : List UInt8} (h : RowL b M N w lv L) (hg : (w.alloc o).grownBy w1 lv.ownBlock)
    (hown : w1.ownsRow b 22 1 (.slice (some ⟨g1, 0, none⟩) (L.length + 1) cap) (L.length + 1) (heads L ++ [headV (g, cp, x)])) (hg1 : lv.ownBlock = some g1 ∨ g1 = w.heap.size + 1)
    (hM : M g) (hgN : N g) (hl : Lies w g x) (hN : ∀ k, N' k → N k) (hNg : ¬ N' g) (hNlt : ∀ k, N' k → k < w.heap.size) : RowL b M N' w1 (.slice (some ⟨g1, 0, none⟩) (L.length + 1) cap) (L ++ [(g, cp, x)]) := by
  have hk0 : Keeps (fun _ => False) w (w.alloc o) := (Keeps.refl (fun _ => False) w).alloc o
  have hk1 : Keeps (fun k => lv.ownBlock = some k) (w.alloc o) w1 := ⟨hg.os, hg.tape, hg.output, hg.size, fun k hk hn => hg.block k hk (fun e => hn e.symm)⟩
  have hk : Keeps (fun k => lv.ownBlock = some k) w w1 := (hk0.mono (Y := fun k => lv.ownBlock = some k) (fun k f _ => f.elim)).join hk1 (fun k e _ => e)
  refine ⟨?_, ?_, ?_, ?_⟩
  · rw [List.length_append]
    unfold heads at hown ⊢
    rw [List.map_append]
    exact hown
  · intro g' e
    simp only [Value.ownBlock, Option.some.injEq] at e
    subst e
    rcases hg1 with hg1 | hg1
    · exact fun x => h.ownN g1 hg1 (hN _ x)
    · exact fun x => by have := hNlt _ x; omega
  · rw [List.map_append, List.nodup_append]
    refine ⟨h.nodup, by simp, fun a ha b' hb' e => ?_⟩
    simp only [List.map_cons, List.map_nil, List.mem_singleton] at hb'
    rw [hb'] at e
    obtain ⟨e0, he, rfl⟩ := List.mem_map.1 ha
    exact (h.each e0 he).2.2.1 (by rw [e]; exact hgN)
  · intro e he
    rcases List.mem_append.1 he with he | he
    · obtain ⟨h1, h2, h3, h4⟩ := h.each e he
      refine ⟨h1, fun e' => ?_, fun x => h3 (hN _ x), h4.keeps hk h2⟩
      simp only [Value.ownBlock, Option.some.injEq] at e'
      rcases hg1 with hg1 | hg1
      · exact h2 (by rw [hg1, e'])
      · have := h4.lt; omega
    · rw [List.mem_singleton] at he
      subst he
      refine ⟨hM, fun e' => ?_, hNg, hl.keeps hk (fun e' => h.ownN g e' hgN)⟩
      simp only [Value.ownBlock, Option.some.injEq] at e'
      rcases hg1 with hg1 | hg1
      · exact h.ownN g1 hg1 (by rw [e']; exact hgN)
      · have := hl.lt; omega
/-- The reader lets its row go. -/
theorem Rdr.let_go {b R : Nat} {w : World} {hv : Value} {held : List UInt8} {br : Bool} (h : Rdr b w R hv held br) : Rdr b (w.setCell ⟨R, 0, none⟩ (.slice none 0 0)) R (.slice none 0 0) [] br ∧ Keeps (fun k => k = R) w (w.setCell ⟨R, 0, none⟩ (.slice none 0 0)) := by
  have h0 := h.at_
  refine ⟨⟨?_, h.ge, Buf.nil _ _, fun e => by cases e⟩, (Keeps.refl (fun k => k = R) w).setCell (p := ⟨R, 0, none⟩) (.inl rfl) _⟩
  simp [World.setCell, Array.getElem?_modify, h0]
theorem Rdr.break_ {b R : Nat} {w : World} {hv : Value} {held : List UInt8} {br : Bool} (h : Rdr b w R hv held br) : Rdr b ((w.setCell ⟨R, 0, none⟩ (.slice none 0 0)).setCell ⟨R, 1, none⟩ (.bool true)) R (.slice none 0 0) [] true ∧ Keeps (fun k => k = R) w ((w.setCell ⟨R, 0, none⟩ (.slice none 0 0)).setCell ⟨R, 1, none⟩ (.bool true)) := by
  have h0 := h.at_
  refine ⟨⟨?_, h.ge, Buf.nil _ _, fun e => by cases e⟩, ((Keeps.refl (fun k => k = R) w).setCell (p := ⟨R, 0, none⟩) (.inl rfl) _).setCell (p := ⟨R, 1, none⟩) (.inl rfl) _⟩
  simp [World.setCell, Array.getElem?_modify, h0]
end Fr
end Go.Proofs.Ytbejacmbbkdbnaa
