/- value.Map: what it makes ahead of its loop. -/
import Derived.Test.YtiphegccaijbgaaDoorRows
import Derived.Test.YtiphegccaijbgaaDoorValBase
import Derived.Test.YtiphegccaijbgaaDoorVal
import Derived.Test.YtiphegccaijbgaaDoorValCmp
import Derived.Test.YtiphegccaijbgaaDoorValCopy
import Derived.WalkKit
import Derived.Lib.Hide
import Derived.WalkSpells
import Derived.WalkLawsBesides
import Derived.Laws.MakeOwn
import Derived.OwnWalk
import Derived.Outline
import Derived.Deep.Cut
import Derived.Deep.CutRange
import Derived.Deep.DeepCutAuto
namespace Go.Proofs.YtiphegccaijbgaaDoor
open Go.RowKit
set_option linter.unusedVariables false
set_option linter.unusedSimpArgs false
namespace Val
theorem info9b : (Tryd.prog.info? 9).map (fun i => (i.zero, i.size, i.bytes)) = some (some (.string ⟨#[]⟩), 1, 16) := by kernel_rfl
theorem heap_at (w : World) (o : Obj) (k : Nat) : (w.alloc o).heap[k]? = if k = w.heap.size then some o else w.heap[k]? := by
  by_cases h : k = w.heap.size
  · rw [if_pos h, h]
    exact World.alloc_heap_new w o
  · rw [if_neg h]
    by_cases h2 : k < w.heap.size
    · exact Below.heap_alloc w o k h2
    · have h3 : (w.alloc o).heap.size = w.heap.size + 1 := World.size_alloc w o
      rw [Array.getElem?_eq_none (xs := (w.alloc o).heap) (by omega), Array.getElem?_eq_none (xs := w.heap) (by omega)]
/-- What Map has made ahead of its loop. -/
structure MapBox (N : Nat) (w wx : World) (MK ML M : Nat) : Prop where
  low : Below w.heap.size w wx
  size : wx.heap.size = w.heap.size + 1 + 1 + 1 + 1
  ne : MK ≠ ML ∧ MK ≠ M ∧ ML ≠ M
  lt : w.heap.size < MK ∧ w.heap.size < ML ∧ w.heap.size < M ∧ MK < wx.heap.size ∧ ML < wx.heap.size ∧ M < wx.heap.size
  bM : wx.heap[M]? = some (.cells #[.int .i64 5, .bool false, .int .i64 0, .string ⟨#[]⟩, .slice (some ⟨ML, 0, none⟩) N N, .slice (some ⟨MK, 0, none⟩) N N] 25 (0, 0))
  bK : wx.heap[MK]? = some (.cells (madeCells #[.string ⟨#[]⟩] N) 9 (0, 0))
  bL : wx.heap[ML]? = some (.cells (madeCells #[.int .i64 0, .bool false, .int .i64 0, .string ⟨#[]⟩, .slice none 0 0, .slice none 0 0] (N * 6)) 25 (0, 0))
  bR : wx.heap[w.heap.size]? = some (.cells #[.int .i64 0, .bool false, .int .i64 0, .string ⟨#[]⟩, .slice none 0 0, .slice none 0 0] 25 (0, 0))
theorem box4_below (w : World) (r a b c : Obj) : Below w.heap.size w ((((w.alloc r).alloc a).alloc b).alloc c).drew :=
  (((((Below.refl _ w).alloc (Nat.le_refl _) _).alloc (by simp) _).alloc (by simp; omega) _).alloc (by simp; omega) _).drew
theorem box4_size (w : World) (r a b c : Obj) : ((((w.alloc r).alloc a).alloc b).alloc c).drew.heap.size = w.heap.size + 1 + 1 + 1 + 1 := by
  show ((((w.alloc r).alloc a).alloc b).alloc c).heap.size = _
  simp
theorem box4_0 (w : World) (r a b c : Obj) : ((((w.alloc r).alloc a).alloc b).alloc c).drew.heap[w.heap.size]? = some r := by
  show ((((w.alloc r).alloc a).alloc b).alloc c).heap[_]? = _
  rw [heap_at, if_neg (by simp; omega), heap_at, if_neg (by simp; omega), heap_at, if_neg (by simp), heap_at, if_pos rfl]
theorem box4_1 (w : World) (r a b c : Obj) : ((((w.alloc r).alloc a).alloc b).alloc c).drew.heap[w.heap.size + 1]? = some a := by
  show ((((w.alloc r).alloc a).alloc b).alloc c).heap[_]? = _
  rw [heap_at, if_neg (by simp), heap_at, if_neg (by simp), heap_at, if_pos (by simp)]
theorem box4_2 (w : World) (r a b c : Obj) : ((((w.alloc r).alloc a).alloc b).alloc c).drew.heap[w.heap.size + 1 + 1]? = some b := by
  show ((((w.alloc r).alloc a).alloc b).alloc c).heap[_]? = _
  rw [heap_at, if_neg (by simp), heap_at, if_pos (by simp)]
theorem box4_3 (w : World) (r a b c : Obj) : ((((w.alloc r).alloc a).alloc b).alloc c).drew.heap[w.heap.size + 1 + 1 + 1]? = some c := by
  show ((((w.alloc r).alloc a).alloc b).alloc c).heap[_]? = _
  rw [heap_at, if_pos (by simp)]
/-- Where the loop stands: jk keys and jl values are laid. -/
structure MapAt (N jk jl MK ML lb lo : Nat) (ks : List ByteArray) (p : Nat → Nat) (w w1 wr : World) : Prop where
  keeps : Keeps (fun k => k = MK ∨ k = ML) w1 wr
  bK : ∃ cs, wr.heap[MK]? = some (.cells cs 9 (0, 0)) ∧ cs.size = N ∧ ∀ i, i < jk → cs[i]? = some (.string (ks.getD (p i) default))
  bL : ∃ cs, wr.heap[ML]? = some (.cells cs 25 (0, 0)) ∧ cs.size = N * 6 ∧ ∀ i e, i < jl → e < 6 → ∃ v, w.cell? ⟨lb, lo + p i * 6 + e, none⟩ = some v ∧ cs[i * 6 + e]? = some v
theorem MapAt.drew {N jk jl MK ML lb lo : Nat} {ks : List ByteArray} {p : Nat → Nat} {w w1 wr : World} (h : MapAt N jk jl MK ML lb lo ks p w w1 wr) : MapAt N jk jl MK ML lb lo ks p w w1 wr.drew := ⟨h.keeps.drew, h.bK, h.bL⟩
theorem MapAt.stepK {N jk jl MK ML lb lo : Nat} {ks : List ByteArray} {p : Nat → Nat} {w w1 wr : World} {x : ByteArray} (h : MapAt N jk jl MK ML lb lo ks p w w1 wr) (hne : MK ≠ ML) (hj : jk < N) (hx : x = ks.getD (p jk) default) : MapAt N (jk + 1) jl MK ML lb lo ks p w w1 (wr.setCell ⟨MK, jk, none⟩ (.string x)) := by
  obtain ⟨cs, hb, hs, hc⟩ := h.bK
  obtain ⟨cl, hbl, hsl, hcl⟩ := h.bL
  refine ⟨h.keeps.setCell (p := ⟨MK, jk, none⟩) (.inl (.inl rfl)) _, ⟨cs.setIfInBounds jk (.string x), by simp [World.setCell, Array.getElem?_modify, hb], by simpa using hs, fun i hi => ?_⟩, ⟨cl, ?_, hsl, hcl⟩⟩
  · by_cases e : i = jk
    · subst e
      simp [hs, hj, hx]
    · rw [Array.getElem?_setIfInBounds_ne (by omega)]
      exact hc i (by omega)
  · exact (Below.heap_setCell wr ⟨MK, jk, none⟩ _ ML (fun e => hne e.symm)).trans hbl
theorem MapAt.stepL {N jk jl MK ML lb lo : Nat} {ks : List ByteArray} {p : Nat → Nat} {w w1 wr : World} {v0 v1 v2 v3 v4 v5 : Value} (h : MapAt N jk jl MK ML lb lo ks p w w1 wr) (hne : MK ≠ ML) (hj : jl < N)
    (h0 : w.cell? ⟨lb, lo + p jl * 6, none⟩ = some v0) (h1 : w.cell? ⟨lb, lo + p jl * 6 + 1, none⟩ = some v1) (h2 : w.cell? ⟨lb, lo + p jl * 6 + 2, none⟩ = some v2) (h3 : w.cell? ⟨lb, lo + p jl * 6 + 3, none⟩ = some v3) (h4 : w.cell? ⟨lb, lo + p jl * 6 + 4, none⟩ = some v4) (h5 : w.cell? ⟨lb, lo + p jl * 6 + 5, none⟩ = some v5) :
    MapAt N jk (jl + 1) MK ML lb lo ks p w w1 (six wr ML (jl * 6) v0 v1 v2 v3 v4 v5) := by
  obtain ⟨cs, hb, hs, hc⟩ := h.bK
  obtain ⟨cl, hbl, hsl, hcl⟩ := h.bL
  have hk : Keeps (· = ML) wr (six wr ML (jl * 6) v0 v1 v2 v3 v4 v5) := six_keeps (Keeps.refl (· = ML) wr) (.inl rfl)
  refine ⟨six_keeps h.keeps (.inl (.inr rfl)), ⟨cs, (hk.block MK (by
    rcases Nat.lt_or_ge MK wr.heap.size with hh | hh
    · exact hh
    · rw [Array.getElem?_eq_none hh] at hb; cases hb) hne).trans hb, hs, hc⟩, ⟨_, six_block hbl, by simpa using hsl, fun i e hi he => ?_⟩⟩
  have hz : jl * 6 + 5 < cl.size := by omega
  by_cases ei : i = jl
  · subst ei
    obtain ⟨q0, q1, q2, q3, q4, q5⟩ := set6 (v0 := v0) (v1 := v1) (v2 := v2) (v3 := v3) (v4 := v4) (v5 := v5) hz
    match e, he with
    | 0, _ => exact ⟨v0, h0, q0⟩
    | 1, _ => exact ⟨v1, h1, q1⟩
    | 2, _ => exact ⟨v2, h2, q2⟩
    | 3, _ => exact ⟨v3, h3, q3⟩
    | 4, _ => exact ⟨v4, h4, q4⟩
    | 5, _ => exact ⟨v5, h5, q5⟩
  · obtain ⟨v, hv, hcv⟩ := hcl i e (by omega) he
    refine ⟨v, hv, ?_⟩
    rw [Array.getElem?_setIfInBounds_ne (by omega), Array.getElem?_setIfInBounds_ne (by omega), Array.getElem?_setIfInBounds_ne (by omega), Array.getElem?_setIfInBounds_ne (by omega), Array.getElem?_setIfInBounds_ne (by omega), Array.getElem?_setIfInBounds_ne (by omega)]
    exact hcv
theorem rowF {w : World} {B bl : Nat} : ∀ (n o : Nat) (f : Nat → VT), (∀ i, i < n → ∃ (c0 c1 c2 c3 c4 c5 : Value), w.cell? ⟨bl, o + i * 6, none⟩ = some c0 ∧ w.cell? ⟨bl, o + i * 6 + 1, none⟩ = some c1 ∧ w.cell? ⟨bl, o + i * 6 + 2, none⟩ = some c2 ∧ w.cell? ⟨bl, o + i * 6 + 3, none⟩ = some c3 ∧ w.cell? ⟨bl, o + i * 6 + 4, none⟩ = some c4 ∧ w.cell? ⟨bl, o + i * 6 + 5, none⟩ = some c5 ∧ VT.In w B (f i) (.agg #[c0, c1, c2, c3, c4, c5])) →
    VT.InL w B bl o ((List.range n).map f)
  | 0, o, f, _ => by unfold VT.InL; trivial
  | n + 1, o, f, h => by
    rw [List.range_succ_eq_map, List.map_cons, List.map_map]
    unfold VT.InL
    refine ⟨?_, rowF n (o + 6) (f ∘ Nat.succ) (fun i hi => ?_)⟩
    · have := h 0 (by omega)
      simpa using this
    · have := h (i + 1) (by omega)
      rw [show o + (i + 1) * 6 = o + 6 + i * 6 by omega] at this
      exact this
/-- The value of nothing. -/
def nullV : VT := .mk 0 false 0 ⟨#[]⟩ [] []
/-- The map whose keys and values stand at the places p. -/
def mapTree (ks : List ByteArray) (l : List VT) (N : Nat) (p : Nat → Nat) : VT := .mk 5 false 0 ⟨#[]⟩ ((List.range N).map fun i => l.getD (p i) nullV) ((List.range N).map fun i => ks.getD (p i) default)
theorem MapAt.tree {N MK ML lb lo B : Nat} {ks : List ByteArray} {l : List VT} {p : Nat → Nat} {w w1 wr : World} (h : MapAt N N N MK ML lb lo ks p w w1 wr) (hw : Below w.heap.size w wr) (hB : B ≤ w.heap.size) (hMK : MK < wr.heap.size) (hML : ML < wr.heap.size) (hL : VT.InL w B lb lo l) (hp : ∀ i, i < N → p i < l.length) (hN : N ≤ 4194304) :
    VT.In wr wr.heap.size (mapTree ks l N p) (.agg #[.int .i64 5, .bool false, .int .i64 0, .string ⟨#[]⟩, .slice (some ⟨ML, 0, none⟩) N N, .slice (some ⟨MK, 0, none⟩) N N]) := by
  obtain ⟨cs, hb, hs, hc⟩ := h.bK
  obtain ⟨cl, hbl, hsl, hcl⟩ := h.bL
  unfold mapTree VT.In
  refine ⟨some ⟨ML, 0, none⟩, N, some ⟨MK, 0, none⟩, N, by simp, by simp, by unfold maxLen; omega, by simp, by unfold maxLen; omega, fun _ => ⟨MK, 0, rfl, hMK, fun i hi => ?_⟩, fun _ => ⟨ML, 0, rfl, hML, rowF _ _ _ fun i hi => ?_⟩⟩
  · have hi' : i < N := by simpa using hi
    rw [Nat.zero_add, VT.cell_of hb (hc i hi')]
    simp [hi']
  · have hx : l[p i]? = some (l.getD (p i) nullV) := by
      rw [List.getD_eq_getElem?_getD, List.getElem?_eq_getElem (hp i hi)]; rfl
    obtain ⟨c0, c1, c2, c3, c4, c5, e0, e1, e2, e3, e4, e5, hI⟩ := hL.at hx
    have hat : ∀ e v, e < 6 → w.cell? ⟨lb, lo + p i * 6 + e, none⟩ = some v → wr.cell? ⟨ML, 0 + i * 6 + e, none⟩ = some v := fun e v he hv => by
      obtain ⟨v', hv', hcv⟩ := hcl i e hi he
      rw [hv] at hv'
      injection hv' with hv'
      subst hv'
      rw [Nat.zero_add]
      exact VT.cell_of hbl hcv
    exact ⟨c0, c1, c2, c3, c4, c5, hat 0 _ (by omega) e0, hat 1 _ (by omega) e1, hat 2 _ (by omega) e2, hat 3 _ (by omega) e3, hat 4 _ (by omega) e4, hat 5 _ (by omega) e5, VT.In.more (Nat.le_trans hB hw.size) (VT.In.keep (fun q hq => hw.cell (Nat.lt_of_lt_of_le hq hB)) hI)⟩
end Val
end Go.Proofs.YtiphegccaijbgaaDoor
