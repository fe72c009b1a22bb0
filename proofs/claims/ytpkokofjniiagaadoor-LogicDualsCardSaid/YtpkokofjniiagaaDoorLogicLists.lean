/- THE WALKS over the laws of layer logic that take lists. -/
import Derived.Test.YtpkokofjniiagaaDoorRows
import Derived.Test.YtpkokofjniiagaaDoorLogicPlain
import Derived.Test.YtpkokofjniiagaaDoorLogicWalks
import Derived.Test.YtpkokofjniiagaaDoorLogicWalks2
import Derived.Test.YtpkokofjniiagaaDoorLogicWalks3
import Derived.Test.YtpkokofjniiagaaDoorLogicLaws
import Derived.Test.YtpkokofjniiagaaDoorLogicFold
import Derived.Test.YtpkokofjniiagaaDoorLogicFoldRef
import Derived.WalkKit
import Derived.Lib.Hide
import Derived.WalkSpells
import Derived.WalkLawsBesides
namespace Go.Proofs.YtpkokofjniiagaaDoor
open Go.RowKit
set_option linter.unusedVariables false
set_option linter.unusedSimpArgs false
namespace Logic
theorem infoT : (Tryd.prog.info? 22).map (fun i => (i.zero, i.size, i.bytes)) = some (some (.int .i64 0), 1, 8) := by kernel_rfl
theorem Row.lt {w : World} {a : Addr} {zs : List Int} (h : Row w a zs) (hz : 0 < zs.length) : a.block < w.heap.size := by
  have h0 := World.block_lt_of_cell? w (a.add 0) (h 0 hz)
  simpa [Addr.add] using h0
theorem Lst.below {w w' : World} {v : Value} {zs : List Int} (h : Lst w v zs) (hb : Below w.heap.size w w') : Lst w' v zs := by
  rcases h with h | ⟨a, c, e, hr, hm⟩
  · exact .inl h
  · refine .inr ⟨a, c, e, fun i hi => ?_, hm⟩
    have hl := World.block_lt_of_cell? w (a.add i) (hr i hi)
    rw [hb.cell hl]
    exact hr i hi
/-- What the call built itself is a list. -/
theorem Lst.of_own {w : World} {base : Nat} {v : Value} {zs : List Int} {n : Nat} (h : w.ownsRow base 22 1 v n (zs.map (Value.int .i64))) (hn : n = zs.length) (hm : zs.length ≤ maxLen) : Lst w v zs := by
  subst hn
  have h' := h
  rcases h.2 with ⟨rfl, h0⟩ | ⟨g, cap, cur, rfl, hb, hg, hnc, hcm, hcs, htake⟩
  · exact .inl ⟨rfl, List.eq_nil_of_length_eq_zero h0⟩
  · refine .inr ⟨⟨g, 0, none⟩, cap, rfl, fun i hi => ?_, hm⟩
    exact h'.cells (g := g) rfl i _ (by rw [List.getElem?_map, List.getElem?_eq_getElem hi, List.getD_eq_getElem?_getD, List.getElem?_eq_getElem hi]; rfl)
set_option maxHeartbeats 400000 in
theorem logicLists_any (v : Value) (zs : List Int) (w : World) (h : Lst w v zs) (ht : Tabs w) :
    Calls Tryd.prog 4 #[v] w fun e w' => e = .returned (.bool true) ∧ Below w.heap.size w w' := by
  have HT := Lib.hid ht
  have HS := Lib.hid h
  clear ht h
  go_enter Tryd.func4, Tryd.ntmps4
  go_wp2_with (first | (go_at_call 20; refine (all_any _ _ _ HS.out HT.out.ands).mono ?_; rintro e w1 ⟨rfl, n1, rfl⟩) | (go_at_call 21; refine (rall_any _ _ _ (HS.out.drewN _)).mono ?_; rintro e w1 ⟨rfl, rfl⟩) | (go_at_call 22; refine (any_any _ _ _ (HS.out.drewN _) (HT.out.drewN _).ors).mono ?_; rintro e w1 ⟨rfl, n2, rfl⟩) | (go_at_call 23; refine (rany_any _ _ _ (HS.out.drewN _)).mono ?_; rintro e w1 ⟨rfl, rfl⟩) | (go_at_call 19; refine (works_any _ (HT.out.drewN _)).mono ?_; rintro e w1 ⟨rfl, n4, rfl⟩))
  go_ret
  exact ⟨rfl, Below.drewN _ _ (Below.refl _ _)⟩
end Logic
end Go.Proofs.YtpkokofjniiagaaDoor
