/- THE WALK over (*reach).compare: the fields of two values held against each other, each comparison handed to yield, till it says no more. -/
import Derived.Test.YtmhlipncelgmlaaRows
import Derived.Test.YtmhlipncelgmlaaHeld
import Derived.Test.YtmhlipncelgmlaaValBase
import Derived.WalkKit
import Derived.Lib.Hide
import Derived.Outline
import Derived.Deep.Cut
import Derived.Deep.CutRange
import Derived.Deep.DeepCutAuto
import Derived.Deep.RegionHeld3
import Derived.RangeFuncNested
import Derived.RangeFuncBound
import Derived.RangeFuncCalls
import Derived.RangeFuncLeaves
import Derived.OwnWalkIn
import Derived.TacticsInMore
namespace Go.Proofs.Ytmhlipncelgmlaa
open Go.RowKit
set_option linter.unusedVariables false
set_option linter.unusedSimpArgs false
namespace Val
theorem zero_of {f : FuncId} {args : Array Value} {w : World} {x : Int} (h : x = 0) (hc : Calls Try.prog f args w fun e w' => e = .returned (.int .i64 x) ∧ w = w') : Calls Try.prog f args w fun e w' => e = .returned (.int .i64 0) ∧ w = w' := by
  rw [h] at hc
  exact hc
/-- A block of the call's own with a value's six cells. -/
def Box (w : World) (A : Nat) (cs : Array Value) : Prop := w.heap[A]? = some (.cells cs 25 (0, 0))
theorem Box.lt {w : World} {A : Nat} {cs : Array Value} (h : Box w A cs) : A < w.heap.size := by
  rcases Nat.lt_or_ge A w.heap.size with hlt | hge
  · exact hlt
  · unfold Box at h; rw [Array.getElem?_eq_none hge] at h; cases h
theorem Box.cell {w : World} {A : Nat} {c0 c1 c2 c3 c4 c5 : Value} (h : Box w A #[c0, c1, c2, c3, c4, c5]) : w.cell? ⟨A, 0, none⟩ = some c0 ∧ w.cell? ⟨A, 1, none⟩ = some c1 ∧ w.cell? ⟨A, 2, none⟩ = some c2 ∧ w.cell? ⟨A, 3, none⟩ = some c3 ∧ w.cell? ⟨A, 4, none⟩ = some c4 ∧ w.cell? ⟨A, 5, none⟩ = some c5 := by
  unfold Box at h
  simp [World.cell?, h]
theorem Box.new (w : World) (cs : Array Value) : Box (w.alloc (.cells cs 25)) w.heap.size cs := World.alloc_heap_new w _
theorem Box.alloc {w : World} {A : Nat} {cs : Array Value} (h : Box w A cs) (o : Obj) : Box (w.alloc o) A cs := (Below.heap_alloc w o A h.lt).trans h
theorem Box.far {w : World} {A : Nat} {cs : Array Value} (h : Box w A cs) {p : Addr} (hp : A ≠ p.block) (u : Value) : Box (w.setCell p u) A cs := (Below.heap_setCell w p u A hp).trans h
theorem Box.drew {w : World} {A : Nat} {cs : Array Value} (h : Box w A cs) : Box w.drew A cs := h
/-- What lies at B and above is as it was. -/
def Above (B : Nat) (W W' : World) : Prop := W.heap.size ≤ W'.heap.size ∧ ∀ k, B ≤ k → k < W.heap.size → W'.heap[k]? = W.heap[k]?
/-- What a round of the loop over comparisons answers: on, if the comparison is 0, all that lay lies as it lay; else no more, and what lies below B is as the round leaves it. -/
structure Yld (lo l B : Nat) (Wl : World) (WS : Int → World) : Prop where
  zero : ∀ (m : Nat) (W : World), Below B Wl W → YieldAt Fence.wide m Try.prog l #[.int .i64 0] W fun e W' => e = .returned (.bool true) ∧ Below W.heap.size W W'
  stop : ∀ (m : Nat) (x : Int) (W : World), x ≠ 0 → Below B Wl W → YieldAt Fence.wide m Try.prog l #[.int .i64 x] W fun e W' => e = .returned (.bool false) ∧ Below B (WS x) W' ∧ Above B W W'
  keep : ∀ (x : Int) (k : Nat) (cs : Array Value), Box Wl k cs → Box (WS x) k cs
  kept : ∀ (x : Int) (p : Addr), p.block < lo → (WS x).cell? p = Wl.cell? p
/-- The two values' boxes. -/
def Two (A : Nat) (ca cb : Array Value) (w : World) : Prop := Box w A ca ∧ Box w (A + 1) cb
structure Fs (B A : Nat) (WS : World) (ca cb : Array Value) (w : World) : Prop where
  two : Two A ca cb w
  low : Below B WS w
end Val
end Go.Proofs.Ytmhlipncelgmlaa
