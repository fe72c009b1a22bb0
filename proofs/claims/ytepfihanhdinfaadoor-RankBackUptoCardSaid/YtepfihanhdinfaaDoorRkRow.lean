/- Keys: rows of values of the call's own, beside another row that grows. -/
import Derived.Test.YtepfihanhdinfaaDoorRkRead2
import Derived.Test.YtepfihanhdinfaaDoorValOwn
import Derived.Laws.OwnMore
import Derived.Deep.AppendLies
namespace Go.Proofs.YtepfihanhdinfaaDoor
open Go.RowKit
set_option linter.unusedVariables false
set_option linter.unusedSimpArgs false
namespace Rk
open Val (VT Keeps Box StrBlock)
theorem ownL_move {X : Nat → Prop} {w w' : World} {lb lb' : Nat} (hk : Keeps X w w') : ∀ {l : List VT} {o : Nat} {S : Nat → Prop}, (∀ i, i < o + l.length * 6 → w'.cell? ⟨lb', i, none⟩ = w.cell? ⟨lb, i, none⟩) → VT.OwnL w lb l o S → (∀ k, S k → k < w.heap.size ∧ ¬ X k) → VT.OwnL w' lb' l o S
  | [], _, _, _, _, _ => by unfold VT.OwnL; trivial
  | t :: ts, o, S, hc, h, hS => by
    unfold VT.OwnL at h ⊢
    rw [List.length_cons] at hc
    obtain ⟨S1, S2, h1, h2, ⟨c0, c1, c2, c3, c4, c5, e0, e1, e2, e3, e4, e5, ht⟩, hts⟩ := h
    exact ⟨S1, S2, h1, h2, ⟨c0, c1, c2, c3, c4, c5, (hc _ (by omega)).trans e0, (hc _ (by omega)).trans e1, (hc _ (by omega)).trans e2, (hc _ (by omega)).trans e3, (hc _ (by omega)).trans e4, (hc _ (by omega)).trans e5, VT.Own.keeps hk ht (fun k hk' => hS k (h1 k hk'))⟩, ownL_move hk (fun i hi => hc i (by omega)) hts (fun k hk' => hS k (h2 k hk').1)⟩
/-- A row of values of the call's own, made since block b, apart from the blocks N. -/
def RowW (b : Nat) (N : Nat → Prop) (l : List VT) (w : World) (lv : Value) (xs : List Value) : Prop :=
  w.ownsRow b 26 6 lv l.length xs ∧ ∀ g cap, lv = .slice (some ⟨g, 0, none⟩) l.length cap → ¬ N g ∧ VT.OwnL w g l 0 (fun k => b ≤ k ∧ k < w.heap.size ∧ k ≠ g ∧ ¬ N k)
theorem RowW.nil (b : Nat) (N : Nat → Prop) (w : World) : RowW b N [] w (.slice none 0 0) [] := ⟨World.ownsRow_nil _ _ _ _, fun g cap e => by cases e⟩
theorem own_keeps {b : Nat} {t : TypeId} {z : Nat} {w w' : World} {v : Value} {n : Nat} {xs : List Value} {X : Nat → Prop} (h : w.ownsRow b t z v n xs) (hk : Keeps X w w') (hX : ∀ k, X k → k < b ∨ v.ownBlock ≠ some k) : w'.ownsRow b t z v n xs := by
  refine ⟨h.1, ?_⟩
  rcases h.2 with hn | ⟨g, cap, cur, hv, hg0, hg, rest⟩
  · exact .inl hn
  · refine .inr ⟨g, cap, cur, hv, hg0, (hk.block g (Array.getElem?_eq_some_iff.1 hg).1 (fun hx => ?_)).trans hg, rest⟩
    rcases hX g hx with h1 | h1
    · omega
    · exact h1 (by rw [hv]; rfl)
theorem RowW.block {b : Nat} {N : Nat → Prop} {l : List VT} {w : World} {lv : Value} {xs : List Value} (h : RowW b N l w lv xs) : ∀ g, lv.ownBlock = some g → ¬ N g ∧ b ≤ g ∧ g < w.heap.size := fun g e => by
  have hl := h.1.lt g e
  rcases h.1.2 with ⟨rfl, -⟩ | ⟨g', cap, cur, rfl, -⟩
  · cases e
  · simp only [Value.ownBlock, Option.some.injEq] at e
    subst e
    exact ⟨(h.2 g' cap rfl).1, hl.1, hl.2⟩
theorem RowW.keeps {b : Nat} {N X : Nat → Prop} {l : List VT} {w w' : World} {lv : Value} {xs : List Value} (h : RowW b N l w lv xs) (hk : Keeps X w w') (hX : ∀ k, X k → k < b ∨ N k ∨ w.heap.size ≤ k) : RowW b N l w' lv xs := by
  refine ⟨own_keeps h.1 hk (fun k hx => ?_), fun g cap e => ?_⟩
  · rcases hX k hx with h1 | h1 | h1
    · exact .inl h1
    · exact .inr fun e => (h.block k e).1 h1
    · exact .inr fun e => by have := (h.block k e).2.2; omega
  · obtain ⟨hN, h2⟩ := h.2 g cap e
    have hb := h.block g (by rw [e]; rfl)
    have hgX : ¬ X g := fun hx => by
      rcases hX g hx with h1 | h1 | h1
      · omega
      · exact hN h1
      · omega
    refine ⟨hN, VT.OwnL.more (fun k hk' => ⟨hk'.1, Nat.lt_of_lt_of_le hk'.2.1 hk.size, hk'.2.2⟩) (ownL_move hk (fun i _ => hk.cell (p := ⟨g, i, none⟩) hb.2.2 hgX) h2 (fun k hk' => ⟨hk'.2.1, fun hx => ?_⟩))⟩
    rcases hX k hx with h1 | h1 | h1
    · omega
    · exact hk'.2.2.2 h1
    · omega
/-- Another row beside it. -/
theorem RowW.beside {b : Nat} {N N' : Nat → Prop} {l : List VT} {w : World} {lv : Value} {xs : List Value} (h : RowW b N l w lv xs) (hN : ∀ k, N' k → N k ∨ w.heap.size ≤ k) : RowW b N' l w lv xs := by
  refine ⟨h.1, fun g cap e => ?_⟩
  obtain ⟨h1, h2⟩ := h.2 g cap e
  have hb := h.block g (by rw [e]; rfl)
  refine ⟨fun hn => ?_, VT.OwnL.more (fun k hk => ⟨hk.1, hk.2.1, hk.2.2.1, fun hn => ?_⟩) h2⟩
  · rcases hN g hn with h3 | h3
    · exact h1 h3
    · omega
  · rcases hN k hn with h3 | h3
    · exact hk.2.2.2 h3
    · omega
/-- One more behind it: its blocks Sx, made since. -/
theorem RowW.snoc {b H g' cap' : Nat} {N0 N Sx X : Nat → Prop} {l : List VT} {w w1 w5 : World} {lv : Value} {xs : List Value} {x : VT} {v0 v1 v2 v3 v4 v5 : Value} (h0 : RowW b N0 l w lv xs) (hk0 : Keeps X w w1) (hX : ∀ k, X k → k < b ∨ N0 k ∨ w.heap.size ≤ k)
    (hown5 : w5.ownsRow b 26 6 (.slice (some ⟨g', 0, none⟩) (l.length + 1) cap') (l.length + 1) (xs ++ [v0, v1, v2, v3, v4, v5])) (hg : w1.grownBy w5 lv.ownBlock) (hl : lv.ownBlock = some g' ∨ g' = H) (hH : w1.heap.size = H) (hN : ∀ k, N k → N0 k ∨ w.heap.size ≤ k) (hNs : ∀ k, N k → k < w1.heap.size) (hbd : b ≤ w.heap.size)
    (hSx : ∀ k, Sx k → w.heap.size ≤ k ∧ k < w1.heap.size ∧ ¬ N k) (hXo : VT.Own w1 x Sx (.agg #[v0, v1, v2, v3, v4, v5])) :
    RowW b N (l ++ [x]) w5 (.slice (some ⟨g', 0, none⟩) (l.length + 1) cap') (xs ++ [v0, v1, v2, v3, v4, v5]) := by
  have hlen : (l ++ [x]).length = l.length + 1 := by simp
  have hs01 := hk0.size
  refine ⟨by rw [hlen]; exact hown5, fun g cap e => ?_⟩
  injection e with e
  injection e with e
  injection e with e
  subst e
  have hxl : xs.length = l.length * 6 := h0.1.1
  have hk : Keeps (fun k => lv.ownBlock = some k) w1 w5 := ⟨hg.os, hg.tape, hg.output, hg.size, fun k hk hn => hg.block k hk (fun e => hn e.symm)⟩
  have hgo : w1.heap.size ≤ g' ∨ lv.ownBlock = some g' := by
    rcases hl with hl | hl
    · exact .inr hl
    · exact .inl (by omega)
  have hcell : ∀ i, i < (l.length + 1) * 6 → w5.cell? ⟨g', i, none⟩ = (xs ++ [v0, v1, v2, v3, v4, v5])[i]? := fun i hi => hown5.cellAt i hi
  have hXX : VT.Own w5 x Sx (.agg #[v0, v1, v2, v3, v4, v5]) := hXo.keeps hk (fun k hk => ⟨(hSx k hk).2.1, fun e => by have := (h0.block k e).2.2; have := (hSx k hk).1; omega⟩)
  have hnew : ∀ e v, e < 6 → [v0, v1, v2, v3, v4, v5][e]? = some v → w5.cell? ⟨g', l.length * 6 + e, none⟩ = some v := fun e v he hv => by
    rw [hcell _ (by omega), List.getElem?_append_right (by omega), hxl, show l.length * 6 + e - l.length * 6 = e by omega]
    exact hv
  have hNg : ¬ N g' := by
    rcases hgo with hgo | hgo
    · exact fun hn => by have := hNs _ hn; omega
    · intro hn
      have h3 := h0.block g' hgo
      rcases hN g' hn with h4 | h4
      · exact h3.1 h4
      · omega
  have hold : VT.OwnL w5 g' l 0 (fun k => b ≤ k ∧ k < w.heap.size ∧ k ≠ g' ∧ ¬ N0 k) := by
    rcases h0.1.2 with ⟨rfl, hn0⟩ | ⟨g0, cap0, cur, rfl, hb0, -⟩
    · rw [List.length_eq_zero_iff.1 hn0]
      unfold VT.OwnL
      trivial
    · have hb := h0.block g0 rfl
      obtain ⟨hng0, h2⟩ := h0.2 g0 cap0 rfl
      have hkk : Keeps (fun k => X k ∨ k = g0) w w5 := (hk0.mono (fun k hx _ => Or.inl hx)).trans (hk.mono (fun k hx _ => by simp [Value.ownBlock] at hx; exact .inr hx.symm))
      have hg0X : ¬ X g0 := fun hx => by
        rcases hX g0 hx with h3 | h3 | h3
        · omega
        · exact hng0 h3
        · omega
      refine VT.OwnL.more (fun k hk => ⟨hk.1, hk.2.1, fun e => ?_, hk.2.2.2⟩) (ownL_move hkk (fun i hi => ?_) h2 (fun k hk => ⟨hk.2.1, fun e => ?_⟩))
      · rcases hgo with hgo | hgo
        · have := hk.2.1; omega
        · simp [Value.ownBlock] at hgo
          exact hk.2.2.1 (e.trans hgo.symm)
      · rw [Nat.zero_add] at hi
        rw [hcell i (by omega), List.getElem?_append_left (by omega), h0.1.cellAt i (by omega)]
      · rcases e with e | e
        · rcases hX k e with h3 | h3 | h3
          · omega
          · exact hk.2.2.2 h3
          · omega
        · exact hk.2.2.1 e
  have := VT.OwnL.snoc (x := x) hold (Sx := Sx) (fun k hk hk2 => by have := (hSx k hk).1; omega) (by rw [Nat.zero_add]; exact hnew 0 v0 (by omega) rfl) (by rw [Nat.zero_add]; exact hnew 1 v1 (by omega) rfl) (by rw [Nat.zero_add]; exact hnew 2 v2 (by omega) rfl) (by rw [Nat.zero_add]; exact hnew 3 v3 (by omega) rfl) (by rw [Nat.zero_add]; exact hnew 4 v4 (by omega) rfl) (by rw [Nat.zero_add]; exact hnew 5 v5 (by omega) rfl) hXX
  refine ⟨hNg, VT.OwnL.more (fun k hk' => ?_) this⟩
  have hs := hg.size
  rcases hk' with hk' | hk'
  · refine ⟨hk'.1, by omega, hk'.2.2.1, fun hn => ?_⟩
    rcases hN k hn with h4 | h4
    · exact hk'.2.2.2 h4
    · omega
  · have h5 := hSx k hk'
    refine ⟨by omega, by omega, fun e => ?_, h5.2.2⟩
    rcases hgo with hgo | hgo
    · omega
    · have := (h0.block g' hgo).2.2; omega
/-- The row as a list's or a map's values. -/
theorem RowW.slice {b : Nat} {N : Nat → Prop} {l : List VT} {w : World} {lv : Value} {xs : List Value} (h : RowW b N l w lv xs) : ∃ (pl : Option Addr) (cl : Nat), lv = .slice pl l.length cl ∧ l.length ≤ cl ∧ cl ≤ maxLen ∧ (0 < l.length → ∃ g cs, pl = some ⟨g, 0, none⟩ ∧ b ≤ g ∧ g < w.heap.size ∧ ¬ N g ∧ w.heap[g]? = some (.cells cs 26 (0, 0)) ∧ l.length * 6 ≤ cs.size ∧ VT.OwnL w g l 0 (fun k => b ≤ k ∧ k < w.heap.size ∧ k ≠ g ∧ ¬ N k)) := by
  have hbl := h.block
  rcases h.1.2 with ⟨rfl, hn⟩ | ⟨g, cap, cur, rfl, hb, hg, hn, hm, hs, -⟩
  · exact ⟨none, 0, by rw [hn], by omega, by unfold maxLen; omega, fun h => absurd h (by omega)⟩
  · have := hbl g rfl
    exact ⟨some ⟨g, 0, none⟩, cap, rfl, hn, hm, fun _ => ⟨g, cur, rfl, hb, this.2.2, this.1, hg, by rw [hs]; exact Nat.mul_le_mul_right _ hn, (h.2 g cap rfl).2⟩⟩
end Rk
end Go.Proofs.YtepfihanhdinfaaDoor
