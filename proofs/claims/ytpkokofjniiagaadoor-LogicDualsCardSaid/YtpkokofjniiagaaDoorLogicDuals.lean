/- THE WALK over the law of layer logic that builds a list of opposites. -/
import Derived.Test.YtpkokofjniiagaaDoorRows
import Derived.Test.YtpkokofjniiagaaDoorLogicPlain
import Derived.Test.YtpkokofjniiagaaDoorLogicWalks
import Derived.Test.YtpkokofjniiagaaDoorLogicWalks2
import Derived.Test.YtpkokofjniiagaaDoorLogicWalks3
import Derived.Test.YtpkokofjniiagaaDoorLogicLaws
import Derived.Test.YtpkokofjniiagaaDoorLogicFold
import Derived.Test.YtpkokofjniiagaaDoorLogicFoldRef
import Derived.Test.YtpkokofjniiagaaDoorLogicLists
import Derived.WalkKit
import Derived.Lib.Hide
import Derived.WalkSpells
import Derived.WalkLawsBesides
namespace Go.Proofs.YtpkokofjniiagaaDoor
open Go.RowKit
set_option linter.unusedVariables false
set_option linter.unusedSimpArgs false
namespace Logic
theorem Tab.under {w w' : World} {g : Nat} {zs : List Int} (h : Tab w g zs) (hz : 0 < zs.length) (hb : Below w.heap.size w w') : Tab w' g zs := h.below (h.pos hz) hb
theorem Row.below {w w' : World} {a : Addr} {zs : List Int} (h : Row w a zs) (hb : Below w.heap.size w w') : Row w' a zs := fun i hi => by
  have hl := World.block_lt_of_cell? w (a.add i) (h i hi)
  rw [hb.cell hl]
  exact h i hi
/-- What is built of the first k. -/
def dualRow (zs : List Int) (k : Nat) : List Value := ((zs.take k).map notV).map (Value.int .i64)
/-- One more round: what was built grows by one opposite. -/
theorem dual_step {B k : Nat} {zs : List Int} {w wr w1 : World} {m v' : Value} {o : Obj} {x : Int} (hk : k < zs.length) (hx : zs.getD k 0 = x) (hB : B = w.heap.size)
    (hown : wr.ownsRow B 22 1 m k (dualRow zs k)) (hb : Below B w wr)
    (hown' : w1.ownsRow B 22 1 v' (k + 1) (dualRow zs k ++ [.int .i64 (notV x)])) (hg : (wr.alloc o).grownBy w1 m.ownBlock) :
    w1.ownsRow B 22 1 v' (k + 1) (dualRow zs (k + 1)) ∧ Below B w w1 := by
  have hs := hb.size
  refine ⟨?_, (hb.alloc (by omega) o).grown hg (by simp; omega) (fun j hj => (hown.lt j hj).1)⟩
  unfold dualRow at hown' ⊢
  rw [take_succ_getD zs hk, List.map_append, List.map_append, hx]
  exact hown'
set_option maxHeartbeats 1600000 in
theorem logicDuals_nil (a b : Int) (w : World) (ht : Tabs w) (hx : Tab w 3 xors) :
    Calls Tryd.prog 5 #[.int .i64 a, .int .i64 b, .slice none 0 0] w fun e w' => e = .returned (.bool true) ∧ Below w.heap.size w w' := by
  have HT := Lib.hid ht
  have HX := Lib.hid hx
  clear ht hx
  have e1 : notV (andV a b) = orV (notV a) (notV b) := not_and a b
  have e2 : notV (orV (notV a) (notV b)) = andV a b := by rw [← not_and]; exact not_not_and a b
  have e3 : andV b a = andV a b := andV_comm b a
  have e4 : orV b a = orV a b := orV_comm b a
  have e5 : xorV b a = xorV a b := xorV_comm b a
  have e6 : notV (allV []) = 0 := rfl
  have e7 : anyV [] = 0 := rfl
  go_enter Tryd.func5, Tryd.ntmps5
  go_wp2_with (first | (go_at_call 13; refine (and_any _ _ _ (by first | exact HT.out.ands | exact (HT.out.drewN _).ands)).mono ?_; rintro e w1 ⟨rfl, n1, rfl⟩) | (go_at_call 15; refine (or_any _ _ _ (HT.out.drewN _).ors).mono ?_; rintro e w1 ⟨rfl, n1, rfl⟩) | (go_at_call 17; refine (xor_any _ _ _ (HX.out.drewN _)).mono ?_; rintro e w1 ⟨rfl, n1, rfl⟩) | (go_at_call 11; refine (not_any _ _ (HT.out.drewN _)).mono ?_; rintro e w1 ⟨rfl, rfl⟩))
  clear e1 e2 e3 e4 e5
  go_loop [7, 8] (fun m i => m = .slice none 0 0 ∧ i = .int .i64 0) (fun _ _ => 0)
  case atStart => exact ⟨rfl, rfl⟩
  case round =>
    obtain ⟨rfl, rfl⟩ := hrel
    go_wp2_with (first | (go_at_call 20; refine (all_any _ [] _ (.inl ⟨rfl, rfl⟩) (HT.out.drewN _).ands).mono ?_; rintro e w1 ⟨rfl, n1, rfl⟩) | (go_at_call 22; refine (any_any _ [] _ (.inl ⟨rfl, rfl⟩) (HT.out.drewN _).ors).mono ?_; rintro e w1 ⟨rfl, n2, rfl⟩) | (go_at_call 11; refine (not_any _ _ (HT.out.drewN _)).mono ?_; rintro e w1 ⟨rfl, rfl⟩) | (go_at_call 19; refine (works_any _ (HT.out.drewN _)).mono ?_; rintro e w1 ⟨rfl, n4, rfl⟩))
    go_ret
    exact ⟨rfl, Below.drewN _ _ (Below.refl _ _)⟩
set_option maxHeartbeats 1600000 in
theorem logicDuals_some (a b : Int) (ad : Addr) (cap : Nat) (zs : List Int) (w : World) (hr : Row w ad zs) (hreach : zs.length * 8 ≤ 140737488351232) (ht : Tabs w) (hx : Tab w 3 xors) :
    Calls Tryd.prog 5 #[.int .i64 a, .int .i64 b, .slice (some ad) zs.length cap] w fun e w' => e = .returned (.bool true) ∧ Below w.heap.size w w' := by
  obtain ⟨i0, hi, hz0, hz1, hz2⟩ := info_parts infoT
  have HR := Lib.hid hr
  have HT := Lib.hid ht
  have HX := Lib.hid hx
  clear ht hx hr
  have e1 : notV (andV a b) = orV (notV a) (notV b) := not_and a b
  have e2 : notV (orV (notV a) (notV b)) = andV a b := by rw [← not_and]; exact not_not_and a b
  have e3 : andV b a = andV a b := andV_comm b a
  have e4 : orV b a = orV a b := orV_comm b a
  have e5 : xorV b a = xorV a b := xorV_comm b a
  have e6 : notV (allV zs) = anyV (zs.map notV) := not_all zs
  have HE6 := Lib.hid e6
  clear e6
  generalize hL : zs.length = L at hreach
  have HL := Lib.hid hL
  clear hL
  go_enter Tryd.func5, Tryd.ntmps5
  go_wp2_with (first | (go_at_call 13; refine (and_any _ _ _ (by first | exact HT.out.ands | exact (HT.out.drewN _).ands)).mono ?_; rintro e w1 ⟨rfl, n1, rfl⟩) | (go_at_call 15; refine (or_any _ _ _ (HT.out.drewN _).ors).mono ?_; rintro e w1 ⟨rfl, n1, rfl⟩) | (go_at_call 17; refine (xor_any _ _ _ (HX.out.drewN _)).mono ?_; rintro e w1 ⟨rfl, n1, rfl⟩) | (go_at_call 11; refine (not_any _ _ (HT.out.drewN _)).mono ?_; rintro e w1 ⟨rfl, rfl⟩))
  clear e1 e2 e3 e4 e5
  go_loopw [7, 8] (fun m i wr => ∃ k : Nat, k ≤ L ∧ i = .int .i64 k ∧ wr.ownsRow w.heap.size 22 1 m k (dualRow zs k) ∧ Below w.heap.size w wr) (fun _ i _ => L - (intOf i).toNat)
  case atStart => exact ⟨0, by omega, rfl, World.ownsRow_nil _ _ _ _, Below.drewN _ _ (Below.refl _ _)⟩
  case round =>
    obtain ⟨k, hk, rfl, hown, hb⟩ := hrel
    have HO := Lib.hid hown
    have HB := Lib.hid hb
    clear hown hb
    by_cases hlt : k < L
    · have hc := HR.out.below HB.out k (by rw [HL.out]; exact hlt)
      generalize hx0 : zs.getD k 0 = x at hc
      have HX0 := Lib.hid hx0
      clear hx0
      go_wp2_with (first | (go_at_call 11; refine (not_any _ _ (HT.out.below HB.out)).mono ?_; rintro e w1 ⟨rfl, rfl⟩) | (at_builtin; refine wpList_append_own _ rfl _ _ 29 rfl w.heap.size 22 i0 (.int .i64 0) 1 8 Tryd.underlying29 hi hz0 hz1 hz2 rfl (by decide) _ _ _ rfl (HO.out.alloc _) ⟨wr.heap.size, 0, none⟩ 1 1 [.int .i64 (notV x)] rfl rfl ?c1 ?c2 ?c3 ?c4 ?c5 ?_))
      case c1 =>
        intro j u hj
        match j, hj with
        | 0, hj => simp at hj; subst hj; simp [Addr.add]
      case c2 => intro u hu; simp at hu; subst hu; rfl
      case c3 => unfold maxLen; omega
      case c4 => omega
      case c5 => have := HB.out.size; simp; omega
      intro v' w1 hown' hgrow _
      have R := dual_step (by rw [HL.out]; exact hlt) HX0.out rfl HO.out HB.out hown' hgrow
      clear hown' hgrow HO HB hc
      have HRR := Lib.hid R
      clear R
      go_wp2
      go_roundw
      case rel => exact ⟨k + 1, by omega, by go_num, HRR.out.1, HRR.out.2⟩
      case measure => simp [intOf]; omega
    · obtain rfl : k = L := by omega
      have HS : Hid (Lst wr u7 (zs.map notV)) := by
        have := HO.out
        unfold dualRow at this
        rw [List.take_of_length_le (by rw [HL.out]; exact Nat.le_refl _)] at this
        exact Lst.of_own this (by simp [HL.out]) (by simp [HL.out, maxLen]; omega)
      have HZ : Hid (Lst wr (.slice (some ad) k cap) zs) := by
        have := HL.out
        subst this
        exact .inr ⟨ad, cap, rfl, HR.out.below HB.out, by unfold maxLen; omega⟩
      have HTR := Lib.hid (HT.out.below HB.out)
      clear HO
      have e6 := HE6.out
      go_wp2_with (first | (go_at_call 20; refine (all_any _ _ _ HZ.out HTR.out.ands).mono ?_; rintro e w1 ⟨rfl, n1, rfl⟩) | (go_at_call 22; refine (any_any _ _ _ (HS.out.drewN _) (HTR.out.drewN _).ors).mono ?_; rintro e w1 ⟨rfl, n2, rfl⟩) | (go_at_call 11; refine (not_any _ _ (HTR.out.drewN _)).mono ?_; rintro e w1 ⟨rfl, rfl⟩) | (go_at_call 19; refine (works_any _ (HTR.out.drewN _)).mono ?_; rintro e w1 ⟨rfl, n4, rfl⟩))
      go_ret
      exact ⟨rfl, Below.drewN _ _ HB.out⟩
theorem logicDuals_any (a b : Int) (v : Value) (zs : List Int) (w : World) (h : Lst w v zs) (hreach : zs.length * 8 ≤ 140737488351232) (ht : Tabs w) (hx : Tab w 3 xors) :
    Calls Tryd.prog 5 #[.int .i64 a, .int .i64 b, v] w fun e w' => e = .returned (.bool true) ∧ Below w.heap.size w w' := by
  rcases h with ⟨rfl, rfl⟩ | ⟨ad, cap, rfl, hr, hm⟩
  · exact logicDuals_nil a b w ht hx
  · exact logicDuals_some a b ad cap zs w hr hreach ht hx
end Logic
end Go.Proofs.YtpkokofjniiagaaDoor
