/- Bytes as values: what stands while the reader reads a map: two rows of the call's own beside one another. -/
import Derived.Test.YtmhlipncelgmlaaPkRdL
namespace Go.Proofs.Ytmhlipncelgmlaa
open Go.RowKit
set_option linter.unusedVariables false
set_option linter.unusedSimpArgs false
namespace Pk
open Val (VT Keeps Box StrBlock)
open Rk (info_parts)
theorem keepsLow {R : Nat} {w V V' : World} {X : Nat → Prop} (h : Keeps (· = R) w V) (k : Keeps X V V') (hX : ∀ i, X i → w.heap.size ≤ i) : Keeps (· = R) w V' :=
  ⟨k.os.trans h.os, k.tape.trans h.tape, k.output.trans h.output, Nat.le_trans h.size k.size, fun i hi hx => (k.block i (Nat.lt_of_lt_of_le hi h.size) (fun e => by have := hX i e; omega)).trans (h.block i hi hx)⟩
structure DS (R B : Nat) (w : World) (ts : List VT) (ks : List ByteArray) (lv kv : Value) (xs : List Value) (cur : List UInt8) (p1 : Nat) (V : World) : Prop where
  rd : Rb V R B cur (p1 : Int)
  box0 : Box V w.heap.size #[.int .i64 0, .bool false, .int .i64 0, .string ⟨#[]⟩, .slice none 0 0, .slice none 0 0]
  box1 : Box V (w.heap.size + 1) #[.int .i64 5, .bool false, .int .i64 0, .string ⟨#[]⟩, lv, kv]
  row : RowW (w.heap.size + 2) (fun k => kv.ownBlock = some k) ts V lv xs
  keys : V.ownsRow (w.heap.size + 2) 9 1 kv ks.length (ks.map Value.string)
  keeps : Keeps (· = R) w V
section
variable {R B : Nat} {w V : World} {ts : List VT} {ks : List ByteArray} {lv kv : Value} {xs : List Value} {cur : List UInt8} {p1 : Nat}
theorem DS.got (h : DS R B w ts ks lv kv xs cur p1 V) (hR : R < w.heap.size) {V' : World} {cur2 : List UInt8} {p2 : Nat} (g : Got R B (p2 : Int) V cur2 V') : DS R B w ts ks lv kv xs cur2 p2 V' :=
  ⟨g.1, box_keeps h.box0 g.2 (by omega), box_keeps h.box1 g.2 (by omega), h.row.keeps g.2 (fun k (hk : k = R) => .inl (by omega)), own_keeps h.keys g.2 (fun k (hk : k = R) => .inl (by omega)), h.keeps.trans g.2⟩
/-- A name behind the names. -/
theorem DS.key (h : DS R B w ts ks lv kv xs cur p1 V) (hR : R < w.heap.size) (hB : B ≤ w.heap.size) (key : ByteArray) {V3 : World} {g6 cap6 : Nat}
    (hrow : V3.ownsRow (w.heap.size + 2) 9 1 (.slice (some ⟨g6, 0, none⟩) (ks.length + 1) cap6) (ks.length + 1) (ks.map Value.string ++ [.string key]))
    (hg : (V.alloc (.cells #[.string key] 9)).grownBy V3 kv.ownBlock) (hl : kv.ownBlock = some g6 ∨ g6 = (V.alloc (.cells #[.string key] 9)).heap.size) :
    Box V3 (w.heap.size + 1) #[.int .i64 5, .bool false, .int .i64 0, .string ⟨#[]⟩, lv, kv] ∧ DS R B w ts (ks ++ [key]) lv (.slice (some ⟨g6, 0, none⟩) (ks.length + 1) cap6) xs cur p1 (V3.setCell ⟨w.heap.size + 1, 5, none⟩ (.slice (some ⟨g6, 0, none⟩) (ks.length + 1) cap6)) := by
  have kown : ∀ q, kv.ownBlock = some q → w.heap.size + 2 ≤ q ∧ q < V.heap.size := fun q e => h.keys.lt q e
  have hVs : w.heap.size + 1 < V.heap.size := h.box1.lt
  have hk : Keeps (fun k => kv.ownBlock = some k) V V3 := ((Keeps.refl _ V).alloc (.cells #[.string key] 9)).grown hg (fun k e => .inl e)
  have B1 : Box V3 (w.heap.size + 1) #[.int .i64 5, .bool false, .int .i64 0, .string ⟨#[]⟩, lv, kv] := (hk.block _ h.box1.lt (fun e => by have := (kown _ e).1; omega)).trans h.box1
  have B0 : Box V3 w.heap.size #[.int .i64 0, .bool false, .int .i64 0, .string ⟨#[]⟩, .slice none 0 0, .slice none 0 0] := (hk.block _ h.box0.lt (fun e => by have := (kown _ e).1; omega)).trans h.box0
  have hset : Keeps (· = w.heap.size + 1) V3 (V3.setCell ⟨w.heap.size + 1, 5, none⟩ (.slice (some ⟨g6, 0, none⟩) (ks.length + 1) cap6)) := (Keeps.refl (· = w.heap.size + 1) V3).setCell (.inl rfl) _
  have hall : Keeps (fun k => kv.ownBlock = some k ∨ k = w.heap.size + 1) V (V3.setCell ⟨w.heap.size + 1, 5, none⟩ (.slice (some ⟨g6, 0, none⟩) (ks.length + 1) cap6)) := (hk.mono (fun k e _ => .inl e)).trans (hset.mono (fun k e _ => .inr e))
  refine ⟨B1, ⟨h.rd.keeps hall (fun k e _ => ?_), B0.far (show w.heap.size ≠ w.heap.size + 1 by omega) _, box_set5 B1 _, ?_, ?_, ?_⟩⟩
  · rcases e with e | e
    · have := (kown k e).1; exact ⟨by omega, by omega⟩
    · exact ⟨by omega, by omega⟩
  · have h1 : RowW (w.heap.size + 2) (fun k => kv.ownBlock = some k ∨ k = g6) ts V lv xs := h.row.beside (fun k e => by
      rcases e with e | e
      · exact .inl e
      · subst e
        rcases hl with hl | hl
        · exact .inl hl
        · right; rw [hl, World.size_alloc]; omega)
    have h2 : RowW (w.heap.size + 2) (fun k => kv.ownBlock = some k ∨ k = g6) ts (V3.setCell ⟨w.heap.size + 1, 5, none⟩ (.slice (some ⟨g6, 0, none⟩) (ks.length + 1) cap6)) lv xs := h1.keeps hall (fun k e => by
      rcases e with e | e
      · exact .inr (.inl (.inl e))
      · exact .inl (by omega))
    exact h2.beside (fun k e => by
      simp only [Value.ownBlock, Option.some.injEq] at e
      exact .inl (.inr e.symm))
  · have e1 : (ks ++ [key]).length = ks.length + 1 := by simp
    rw [e1, List.map_append]
    exact own_keeps hrow hset (fun k (e : k = w.heap.size + 1) => .inl (by omega))
  · exact keepsLow h.keeps hall (fun k e => by
      rcases e with e | e
      · have := (kown k e).1; omega
      · omega)
/-- A value behind the values. -/
theorem DS.val (h : DS R B w ts ks lv kv xs cur p1 V) (hR : R < w.heap.size) (hB : B ≤ w.heap.size) {V2 V5 : World} {t : VT} {v0 v1 v2 v3 v4 v5 : Value} {cur2 : List UInt8} {p2 g' cap' : Nat} (k2 : Keeps (· = R) V V2) (r2 : Rb V2 R B cur2 (p2 : Int)) (ho : VT.Own V2 t (Made V V2) (.agg #[v0, v1, v2, v3, v4, v5]))
    (hrow : V5.ownsRow (w.heap.size + 2) 25 6 (.slice (some ⟨g', 0, none⟩) (ts.length + 1) cap') (ts.length + 1) (xs ++ [v0, v1, v2, v3, v4, v5]))
    (hg : (V2.alloc (.cells #[v0, v1, v2, v3, v4, v5] 25)).grownBy V5 lv.ownBlock) (hl : lv.ownBlock = some g' ∨ g' = (V2.alloc (.cells #[v0, v1, v2, v3, v4, v5] 25)).heap.size) :
    Box V5 (w.heap.size + 1) #[.int .i64 5, .bool false, .int .i64 0, .string ⟨#[]⟩, lv, kv] ∧ DS R B w (ts ++ [t]) ks (.slice (some ⟨g', 0, none⟩) (ts.length + 1) cap') kv (xs ++ [v0, v1, v2, v3, v4, v5]) cur2 p2 (V5.setCell ⟨w.heap.size + 1, 4, none⟩ (.slice (some ⟨g', 0, none⟩) (ts.length + 1) cap')) := by
  have kown : ∀ q, kv.ownBlock = some q → w.heap.size + 2 ≤ q ∧ q < V.heap.size := fun q e => h.keys.lt q e
  have lown : ∀ q, lv.ownBlock = some q → ¬ kv.ownBlock = some q ∧ w.heap.size + 2 ≤ q ∧ q < V.heap.size := fun q e => h.row.block q e
  have hVs : w.heap.size + 1 < V.heap.size := h.box1.lt
  have hs2 := k2.size
  have ka : Keeps (· = R) V (V2.alloc (.cells #[v0, v1, v2, v3, v4, v5] 25)) := k2.alloc _
  have hk : Keeps (fun k => lv.ownBlock = some k) V2 V5 := ((Keeps.refl _ V2).alloc (.cells #[v0, v1, v2, v3, v4, v5] 25)).grown hg (fun k e => .inl e)
  have hk5 : Keeps (fun k => k = R ∨ lv.ownBlock = some k) V V5 := (k2.mono (fun k e _ => .inl e)).trans (hk.mono (fun k e _ => .inr e))
  have B1 : Box V5 (w.heap.size + 1) #[.int .i64 5, .bool false, .int .i64 0, .string ⟨#[]⟩, lv, kv] := (hk5.block _ h.box1.lt (fun e => by
    rcases e with e | e
    · omega
    · have := (lown _ e).2.1; omega)).trans h.box1
  have B0 : Box V5 w.heap.size #[.int .i64 0, .bool false, .int .i64 0, .string ⟨#[]⟩, .slice none 0 0, .slice none 0 0] := (hk5.block _ h.box0.lt (fun e => by
    rcases e with e | e
    · omega
    · have := (lown _ e).2.1; omega)).trans h.box0
  have hset : Keeps (· = w.heap.size + 1) V5 (V5.setCell ⟨w.heap.size + 1, 4, none⟩ (.slice (some ⟨g', 0, none⟩) (ts.length + 1) cap')) := (Keeps.refl (· = w.heap.size + 1) V5).setCell (.inl rfl) _
  have h2all : Keeps (fun k => lv.ownBlock = some k ∨ k = w.heap.size + 1) V2 (V5.setCell ⟨w.heap.size + 1, 4, none⟩ (.slice (some ⟨g', 0, none⟩) (ts.length + 1) cap')) := (hk.mono (fun k e _ => .inl e)).trans (hset.mono (fun k e _ => .inr e))
  have hO5 : VT.Own (V2.alloc (.cells #[v0, v1, v2, v3, v4, v5] 25)) t (fun k => V.heap.size ≤ k ∧ k < (V2.alloc (.cells #[v0, v1, v2, v3, v4, v5] 25)).heap.size) (.agg #[v0, v1, v2, v3, v4, v5]) :=
    VT.Own.more (fun k hk => ⟨hk.1, by rw [World.size_alloc]; have := hk.2; omega⟩) (ho.keeps ((Keeps.refl (fun _ => False) V2).alloc _) (fun q hq => ⟨hq.2, fun h => h⟩))
  have WN := h.row.snoc (x := t) (N := fun k => kv.ownBlock = some k) ka (fun k e => .inl (by omega)) hrow hg hl rfl (fun k e => .inl e) (fun k e => by have := (kown k e).2; rw [World.size_alloc]; omega) (by omega) (fun k hk => ⟨hk.1, hk.2, fun e => by have := (kown k e).2; have := hk.1; omega⟩) hO5
  refine ⟨B1, ⟨r2.keeps h2all (fun k e _ => ?_), B0.far (show w.heap.size ≠ w.heap.size + 1 by omega) _, box_set4 B1 _, WN.keeps hset (fun k (e : k = w.heap.size + 1) => .inl (by omega)), ?_, ?_⟩⟩
  · rcases e with e | e
    · have := (lown k e).2.1; exact ⟨by omega, by omega⟩
    · exact ⟨by omega, by omega⟩
  · refine own_keeps (own_keeps h.keys hk5 (fun k e => ?_)) hset (fun k (e : k = w.heap.size + 1) => .inl (by omega))
    rcases e with e | e
    · exact .inl (by omega)
    · exact .inr (lown k e).1
  · exact keepsLow (h.keeps.trans k2) h2all (fun k e => by
      rcases e with e | e
      · have := (lown k e).2.1; omega
      · omega)
end
end Pk
end Go.Proofs.Ytmhlipncelgmlaa
