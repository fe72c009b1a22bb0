/- The document's reader of values: what stands while it reads a row: two rows of the call's own beside one another. -/
import Derived.Test.YtmhlipncelgmlaaPkRefR1
import Derived.Test.YtmhlipncelgmlaaPkOwn
namespace Go.Proofs.Ytmhlipncelgmlaa
open Go.RowKit
set_option linter.unusedVariables false
set_option linter.unusedSimpArgs false
namespace Pk
open Val (VT Keeps Box StrBlock)
open Rk (info_parts)
structure DT (kk : Int) (w : World) (ts : List VT) (ks : List ByteArray) (lv kv : Value) (xs : List Value) (V : World) : Prop where
  box0 : Box V w.heap.size #[.int .i64 0, .bool false, .int .i64 0, .string ⟨#[]⟩, .slice none 0 0, .slice none 0 0]
  box1 : Box V (w.heap.size + 1) #[.int .i64 kk, .bool false, .int .i64 0, .string ⟨#[]⟩, lv, kv]
  row : RowW (w.heap.size + 2) (fun k => kv.ownBlock = some k) ts V lv xs
  keys : V.ownsRow (w.heap.size + 2) 9 1 kv ks.length (ks.map Value.string)
  low : Below w.heap.size w V
section
variable {kk : Int} {w V : World} {ts : List VT} {ks : List ByteArray} {lv kv : Value} {xs : List Value}
theorem DT.got (h : DT kk w ts ks lv kv xs V) {V' : World} (g : Below V.heap.size V V') : DT kk w ts ks lv kv xs V' :=
  ⟨(g.block _ h.box0.lt).trans h.box0, (g.block _ h.box1.lt).trans h.box1, h.row.keeps (X := fun _ => False) (Keeps.of_below g) (fun k hk => hk.elim), own_keeps h.keys (X := fun _ => False) (Keeps.of_below g) (fun k hk => hk.elim), h.low.trans (g.mono h.low.size)⟩
/-- A name behind the names. -/
theorem DT.key (h : DT kk w ts ks lv kv xs V) (key : ByteArray) {V3 : World} {g6 cap6 : Nat}
    (hrow : V3.ownsRow (w.heap.size + 2) 9 1 (.slice (some ⟨g6, 0, none⟩) (ks.length + 1) cap6) (ks.length + 1) (ks.map Value.string ++ [.string key]))
    (hg : (V.alloc (.cells #[.string key] 9)).grownBy V3 kv.ownBlock) (hl : kv.ownBlock = some g6 ∨ g6 = (V.alloc (.cells #[.string key] 9)).heap.size) :
    Box V3 (w.heap.size + 1) #[.int .i64 kk, .bool false, .int .i64 0, .string ⟨#[]⟩, lv, kv] ∧ DT kk w ts (ks ++ [key]) lv (.slice (some ⟨g6, 0, none⟩) (ks.length + 1) cap6) xs (V3.setCell ⟨w.heap.size + 1, 5, none⟩ (.slice (some ⟨g6, 0, none⟩) (ks.length + 1) cap6)) := by
  have kown : ∀ q, kv.ownBlock = some q → w.heap.size + 2 ≤ q ∧ q < V.heap.size := fun q e => h.keys.lt q e
  have hVs : w.heap.size + 1 < V.heap.size := h.box1.lt
  have hk : Keeps (fun k => kv.ownBlock = some k) V V3 := ((Keeps.refl _ V).alloc (.cells #[.string key] 9)).grown hg (fun k e => .inl e)
  have B1 : Box V3 (w.heap.size + 1) #[.int .i64 kk, .bool false, .int .i64 0, .string ⟨#[]⟩, lv, kv] := (hk.block _ h.box1.lt (fun e => by have := (kown _ e).1; omega)).trans h.box1
  have B0 : Box V3 w.heap.size #[.int .i64 0, .bool false, .int .i64 0, .string ⟨#[]⟩, .slice none 0 0, .slice none 0 0] := (hk.block _ h.box0.lt (fun e => by have := (kown _ e).1; omega)).trans h.box0
  have hset : Keeps (· = w.heap.size + 1) V3 (V3.setCell ⟨w.heap.size + 1, 5, none⟩ (.slice (some ⟨g6, 0, none⟩) (ks.length + 1) cap6)) := (Keeps.refl (· = w.heap.size + 1) V3).setCell (.inl rfl) _
  have hall : Keeps (fun k => kv.ownBlock = some k ∨ k = w.heap.size + 1) V (V3.setCell ⟨w.heap.size + 1, 5, none⟩ (.slice (some ⟨g6, 0, none⟩) (ks.length + 1) cap6)) := (hk.mono (fun k e _ => .inl e)).trans (hset.mono (fun k e _ => .inr e))
  refine ⟨B1, ⟨B0.far (show w.heap.size ≠ w.heap.size + 1 by omega) _, box_set5 B1 _, ?_, ?_, ?_⟩⟩
  · have h1 : RowW (w.heap.size + 2) (fun k => kv.ownBlock = some k ∨ k = g6) ts V lv xs := h.row.beside (fun k e => by
      rcases e with e | e
      · exact .inl e
      · subst e
        rcases hl with hl | hl
        · exact .inl hl
        · right; rw [hl, World.size_alloc]; omega)
    have h2 : RowW (w.heap.size + 2) (fun k => kv.ownBlock = some k ∨ k = g6) ts (V3.setCell ⟨w.heap.size + 1, 5, none⟩ (.slice (some ⟨g6, 0, none⟩) (ks.length + 1) cap6)) lv xs := h1.keeps hall (fun k e => by
      rcases e with e | e
      · exact .inr (.inl (.inl e))
      · exact .inl (by omega))
    exact h2.beside (fun k e => by
      simp only [Value.ownBlock, Option.some.injEq] at e
      exact .inl (.inr e.symm))
  · have e1 : (ks ++ [key]).length = ks.length + 1 := by simp
    rw [e1, List.map_append]
    exact own_keeps hrow hset (fun k (e : k = w.heap.size + 1) => .inl (by omega))
  · exact h.low.trans (hall.below (B := w.heap.size) (fun k e => by
      rcases e with e | e
      · have := (kown k e).1; omega
      · omega) h.low.size)
/-- A value behind the values. -/
theorem DT.val (h : DT kk w ts ks lv kv xs V) {V2 V5 : World} {t : VT} {v0 v1 v2 v3 v4 v5 : Value} {g' cap' : Nat} (k2b : Below V.heap.size V V2) (ho : VT.Own V2 t (Made V V2) (.agg #[v0, v1, v2, v3, v4, v5]))
    (hrow : V5.ownsRow (w.heap.size + 2) 25 6 (.slice (some ⟨g', 0, none⟩) (ts.length + 1) cap') (ts.length + 1) (xs ++ [v0, v1, v2, v3, v4, v5]))
    (hg : (V2.alloc (.cells #[v0, v1, v2, v3, v4, v5] 25)).grownBy V5 lv.ownBlock) (hl : lv.ownBlock = some g' ∨ g' = (V2.alloc (.cells #[v0, v1, v2, v3, v4, v5] 25)).heap.size) :
    Box V5 (w.heap.size + 1) #[.int .i64 kk, .bool false, .int .i64 0, .string ⟨#[]⟩, lv, kv] ∧ DT kk w (ts ++ [t]) ks (.slice (some ⟨g', 0, none⟩) (ts.length + 1) cap') kv (xs ++ [v0, v1, v2, v3, v4, v5]) (V5.setCell ⟨w.heap.size + 1, 4, none⟩ (.slice (some ⟨g', 0, none⟩) (ts.length + 1) cap')) := by
  have kown : ∀ q, kv.ownBlock = some q → w.heap.size + 2 ≤ q ∧ q < V.heap.size := fun q e => h.keys.lt q e
  have lown : ∀ q, lv.ownBlock = some q → ¬ kv.ownBlock = some q ∧ w.heap.size + 2 ≤ q ∧ q < V.heap.size := fun q e => h.row.block q e
  have hVs : w.heap.size + 1 < V.heap.size := h.box1.lt
  have k2 : Keeps (fun _ => False) V V2 := Keeps.of_below k2b
  have hs2 := k2.size
  have ka : Keeps (fun _ => False) V (V2.alloc (.cells #[v0, v1, v2, v3, v4, v5] 25)) := k2.alloc _
  have hk : Keeps (fun k => lv.ownBlock = some k) V2 V5 := ((Keeps.refl _ V2).alloc (.cells #[v0, v1, v2, v3, v4, v5] 25)).grown hg (fun k e => .inl e)
  have hk5 : Keeps (fun k => lv.ownBlock = some k) V V5 := (k2.mono (fun k e _ => e.elim)).trans hk
  have B1 : Box V5 (w.heap.size + 1) #[.int .i64 kk, .bool false, .int .i64 0, .string ⟨#[]⟩, lv, kv] := (hk5.block _ h.box1.lt (fun e => by have := (lown _ e).2.1; omega)).trans h.box1
  have B0 : Box V5 w.heap.size #[.int .i64 0, .bool false, .int .i64 0, .string ⟨#[]⟩, .slice none 0 0, .slice none 0 0] := (hk5.block _ h.box0.lt (fun e => by have := (lown _ e).2.1; omega)).trans h.box0
  have hset : Keeps (· = w.heap.size + 1) V5 (V5.setCell ⟨w.heap.size + 1, 4, none⟩ (.slice (some ⟨g', 0, none⟩) (ts.length + 1) cap')) := (Keeps.refl (· = w.heap.size + 1) V5).setCell (.inl rfl) _
  have h2all : Keeps (fun k => lv.ownBlock = some k ∨ k = w.heap.size + 1) V2 (V5.setCell ⟨w.heap.size + 1, 4, none⟩ (.slice (some ⟨g', 0, none⟩) (ts.length + 1) cap')) := (hk.mono (fun k e _ => .inl e)).trans (hset.mono (fun k e _ => .inr e))
  have hO5 : VT.Own (V2.alloc (.cells #[v0, v1, v2, v3, v4, v5] 25)) t (fun k => V.heap.size ≤ k ∧ k < (V2.alloc (.cells #[v0, v1, v2, v3, v4, v5] 25)).heap.size) (.agg #[v0, v1, v2, v3, v4, v5]) :=
    VT.Own.more (fun k hk => ⟨hk.1, by rw [World.size_alloc]; have := hk.2; omega⟩) (ho.keeps ((Keeps.refl (fun _ => False) V2).alloc _) (fun q hq => ⟨hq.2, fun h => h⟩))
  have WN := h.row.snoc (x := t) (N := fun k => kv.ownBlock = some k) ka (fun k e => e.elim) hrow hg hl rfl (fun k e => .inl e) (fun k e => by have := (kown k e).2; rw [World.size_alloc]; omega) (by omega) (fun k hk => ⟨hk.1, hk.2, fun e => by have := (kown k e).2; have := hk.1; omega⟩) hO5
  refine ⟨B1, ⟨B0.far (show w.heap.size ≠ w.heap.size + 1 by omega) _, box_set4 B1 _, WN.keeps hset (fun k (e : k = w.heap.size + 1) => .inl (by omega)), ?_, ?_⟩⟩
  · refine own_keeps (own_keeps h.keys hk5 (fun k e => .inr (lown k e).1)) hset (fun k (e : k = w.heap.size + 1) => .inl (by omega))
  · exact (h.low.trans (k2b.mono h.low.size)).trans (h2all.below (B := w.heap.size) (fun k e => by
      rcases e with e | e
      · have := (lown k e).2.1; omega
      · omega) (Nat.le_trans h.low.size k2.size))
end
/-- What the document's reader comes to. -/
def RefPost (L : Nat) (w : World) (x : Except Int (VT × Nat × List UInt8)) (e : Ending) (w' : World) : Prop :=
  Below w.heap.size w w' ∧ match x with
  | .error c => e = .returned (.tuple #[.agg #[.int .i64 0, .bool false, .int .i64 0, .string ⟨#[]⟩, .slice none 0 0, .slice none 0 0], .int .i64 0, .int .i64 0, .int .i64 c])
  | .ok a => ∃ v, e = .returned (.tuple #[v, .int .i64 ((L : Int) - (a.2.2.length : Int)), .int .i64 (a.2.1 : Int), .int .i64 0]) ∧ VT.Own w' a.1 (Made w w') v
def ReadIH (d : Nat) (a : Option Addr) (c L : Nat) (all : List UInt8) : Prop := ∀ (at_ p : Nat) (w : World), Data w a c L all → at_ ≤ L → p ≤ 4096 → Calls Try.prog 41 #[.slice a L c, .int .i64 (at_ : Int), .int .i64 (d : Int), .int .i64 (p : Int)] w (RefPost L w (parseV d p (all.drop at_)))
/-- The place behind which the rest stands. -/
theorem drop_rest {all x r : List UInt8} {at_ L : Nat} (hL : all.length = L) (hat : at_ ≤ L) (h : all.drop at_ = x ++ r) : ∃ at2 : Nat, at2 ≤ L ∧ all.drop at2 = r ∧ (L : Int) - (r.length : Int) = (at2 : Int) ∧ at2 = at_ + x.length := by
  have hl := congrArg List.length h
  rw [List.length_drop, List.length_append, hL] at hl
  refine ⟨at_ + x.length, by omega, ?_, by omega, rfl⟩
  rw [← List.drop_drop, h, List.drop_left]
end Pk
end Go.Proofs.Ytmhlipncelgmlaa
