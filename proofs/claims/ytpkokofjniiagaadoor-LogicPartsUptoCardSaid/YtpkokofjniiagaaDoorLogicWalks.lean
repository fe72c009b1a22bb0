/- THE WALKS over the small functions of layer logic and of the document's own answers: of one truth, of two. -/
import Derived.Test.YtpkokofjniiagaaDoorRows
import Derived.Test.YtpkokofjniiagaaDoorLogicPlain
import Derived.WalkKit
import Derived.Lib.Hide
import Derived.WalkSpells
import Derived.WalkLawsBesides
import Derived.Deep.QuietTactic
import Derived.BigQuiet
import Derived.Deep.RegionWith
namespace Go.Proofs.YtpkokofjniiagaaDoor
open Go.RowKit
set_option linter.unusedVariables false
set_option linter.unusedSimpArgs false
namespace Logic
theorem _root_.Go.RowKit.Below.drewN {B : Nat} {a : World} (n : Nat) (w : World) (h : Below B a w) : Below B a (w.drewN n) := ⟨h.os, h.tape, h.output, h.size, h.block⟩
/-- The tables hold what their initialisers lay. -/
def nots : List Int := [1, 0, 2]
def ands : List Int := [0, 0, 0, 0, 1, 2, 0, 2, 2]
def ors : List Int := [0, 1, 2, 1, 1, 1, 2, 1, 2]
def xors : List Int := [0, 1, 2, 1, 0, 2, 2, 2, 2]
/-- A block holds a table from its head on. -/
def Tab (w : World) (g : Nat) (zs : List Int) : Prop := ∀ i : Nat, i < zs.length → w.cell? ⟨g, i, none⟩ = some (.int .i64 (zs.getD i 0))
theorem Tab.pos {w : World} {g : Nat} {zs : List Int} (h : Tab w g zs) (hz : 0 < zs.length) : g < w.heap.size := by
  have h0 := h 0 hz
  unfold World.cell? at h0
  by_cases k : g < w.heap.size
  · exact k
  · rw [Array.getElem?_eq_none (by simpa using k)] at h0
    simp at h0
theorem Tab.below {w w' : World} {g B : Nat} {zs : List Int} (h : Tab w g zs) (hz : g < B) (hb : Below B w w') : Tab w' g zs := fun i hi => by
  rw [hb.cell (p := ⟨g, i, none⟩) hz]; exact h i hi
structure Tabs (w : World) : Prop where
  nots : Tab w 0 nots
  ands : Tab w 1 ands
  ors : Tab w 2 ors
theorem Tabs.below {w w' : World} (h : Tabs w) (hb : Below w.heap.size w w') : Tabs w' :=
  ⟨h.nots.below (h.nots.pos (by decide)) hb, h.ands.below (h.ands.pos (by decide)) hb, h.ors.below (h.ors.pos (by decide)) hb⟩
/-- The three, and what one truth counts as. -/
theorem plain_zero (w : World) : Calls Tryd.prog 24 #[.int .i64 0] w fun e w' => e = .returned (.int .i64 0) ∧ w = w' := by
  go_enter Tryd.func24, Tryd.ntmps24
  go_wp2
  go_ret
  exact ⟨rfl, rfl⟩
theorem plain_one (w : World) : Calls Tryd.prog 24 #[.int .i64 1] w fun e w' => e = .returned (.int .i64 1) ∧ w = w' := by
  go_enter Tryd.func24, Tryd.ntmps24
  go_wp2
  go_ret
  exact ⟨rfl, rfl⟩
theorem plain_two (n : Int) (w : World) (h0 : (n == 0) = false) (h1 : (n == 1) = false) : Calls Tryd.prog 24 #[.int .i64 n] w fun e w' => e = .returned (.int .i64 2) ∧ w = w' := by
  go_enter Tryd.func24, Tryd.ntmps24
  go_wp2
  go_ret
  exact ⟨rfl, rfl⟩
theorem plain_any (n : Int) (w : World) : Calls Tryd.prog 24 #[.int .i64 n] w fun e w' => e = .returned (.int .i64 (cnt n)) ∧ w = w' := by
  rcases cases3 n with rfl | rfl | ⟨h, h'⟩
  · exact plain_zero w
  · exact plain_one w
  · rw [show cnt n = 2 by unfold cnt; rw [if_neg h, if_neg h']]
    exact plain_two n w (by simpa using h) (by simpa using h')
theorem plain_is (n c : Int) (w : World) (h : cnt n = c) : Calls Tryd.prog 24 #[.int .i64 n] w fun e w' => e = .returned (.int .i64 c) ∧ w' = w :=
  (plain_any n w).mono fun e w' ⟨he, hw⟩ => ⟨by rw [he, h], hw.symm⟩
theorem not_any (n : Int) (w : World) (ht : Tabs w) : Calls Tryd.prog 11 #[.int .i64 n] w fun e w' => e = .returned (.int .i64 (notV n)) ∧ w = w' := by
  have key : ∀ c v : Int, cnt n = c → notV n = v → (0 ≤ c ∧ c ≤ 2) → w.cell? ⟨0, c.toNat, none⟩ = some (.int .i64 v) →
      Calls Tryd.prog 11 #[.int .i64 n] w fun e w' => e = .returned (.int .i64 (notV n)) ∧ w = w' := by
    intro c v hc hv hr hcell
    have HC := Lib.hid hc
    have HV := Lib.hid hv
    clear hc hv ht
    obtain ⟨k, rfl⟩ : ∃ k : Nat, c = (k : Int) := ⟨c.toNat, by omega⟩
    simp only [Int.toNat_natCast] at hcell
    go_enter Tryd.func11, Tryd.ntmps11
    go_wp2_with (go_at_call 24; refine (plain_any _ _).mono ?_; rw [HC.out]; rintro e w' ⟨rfl, rfl⟩)
    go_ret
    refine ⟨?_, rfl⟩
    rw [HV.out]
    rfl
  rcases cases3 n with rfl | rfl | ⟨h, h'⟩
  · exact key 0 1 rfl rfl (by omega) (ht.nots 0 (by decide))
  · exact key 1 0 rfl rfl (by omega) (ht.nots 1 (by decide))
  · exact key 2 2 (by unfold cnt; rw [if_neg h, if_neg h']) (by unfold notV; rw [if_neg h, if_neg h']) (by omega) (ht.nots 2 (by decide))
end Logic
end Go.Proofs.YtpkokofjniiagaaDoor
