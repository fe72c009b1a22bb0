/- THE WALK over the law of layer logic that joins two lists. -/
import Derived.Test.YtpkokofjniiagaaDoorRows
import Derived.Test.YtpkokofjniiagaaDoorLogicPlain
import Derived.Test.YtpkokofjniiagaaDoorLogicWalks
import Derived.Test.YtpkokofjniiagaaDoorLogicWalks2
import Derived.Test.YtpkokofjniiagaaDoorLogicWalks3
import Derived.Test.YtpkokofjniiagaaDoorLogicLaws
import Derived.Test.YtpkokofjniiagaaDoorLogicFold
import Derived.Test.YtpkokofjniiagaaDoorLogicFoldRef
import Derived.Test.YtpkokofjniiagaaDoorLogicLists
import Derived.Laws.AppendOwnNone
import Derived.WalkKit
import Derived.Lib.Hide
import Derived.WalkSpells
import Derived.WalkLawsBesides
namespace Go.Proofs.YtpkokofjniiagaaDoor
open Go.RowKit
set_option linter.unusedVariables false
set_option linter.unusedSimpArgs false
namespace Logic
theorem Row.news {w : World} {a : Addr} {zs : List Int} (h : Row w a zs) : ∀ j u, (zs.map (Value.int .i64))[j]? = some u → w.cell? (a.add j) = some u := by
  intro j u hj
  rw [List.getElem?_map, Option.map_eq_some_iff] at hj
  obtain ⟨z, hz, rfl⟩ := hj
  obtain ⟨hlt, rfl⟩ := List.getElem?_eq_some_iff.1 hz
  rw [h j hlt, List.getD_eq_getElem?_getD, hz]
  rfl
theorem ints_one {zs : List Int} : ∀ u ∈ zs.map (Value.int .i64), u.oneCell' = true := by
  intro u hu
  obtain ⟨z, _, rfl⟩ := List.mem_map.1 hu
  rfl
theorem Row.under {w w' : World} {a : Addr} {zs : List Int} (h : Row w a zs) (hb : Below w.heap.size w w') : Row w' a zs := fun i hi => by
  have hl := World.block_lt_of_cell? w (a.add i) (h i hi)
  rw [hb.cell hl]
  exact h i hi
/-- What is left of the call once both lists are joined. -/
def numRow (zs : List Int) : List Value := zs.map (Value.int .i64)
set_option maxHeartbeats 1600000 in
theorem logicParts_nil_nil (w : World) (zs ys both : List Int) (hBoth : zs ++ ys = both) (hz : zs = []) (hy : ys = []) (ht : Tabs w) :
    Calls Tryd.prog 7 #[.slice none 0 0, .slice none 0 0] w fun e w' => e = .returned (.bool true) ∧ Below w.heap.size w w' := by
  obtain ⟨i0, hi, hz0, hz1, hz2⟩ := info_parts infoT
  have e1 : andV (allV zs) (allV ys) = allV both := by rw [← hBoth]; exact (allV_append zs ys).symm
  have e2 : orV (anyV zs) (anyV ys) = anyV both := by rw [← hBoth]; exact (anyV_append zs ys).symm
  have HBO := Lib.hid hBoth
  have HE1 := Lib.hid e1
  have HE2 := Lib.hid e2
  have HT := Lib.hid ht
  clear e1 e2 ht hBoth
  have HZ := Lib.hid hz
  clear hz
  have HY := Lib.hid hy
  clear hy
  go_enter Tryd.func7, Tryd.ntmps7
  go_wp2_with (first | (at_builtin; refine wpList_append_own_none rfl (.tmp 6) (.tmp 7) 29 rfl w.heap.size 22 i0 1 Tryd.underlying29 hi _ _ _ rfl (World.ownsRow_nil _ _ _ _) rfl ?_) | (at_builtin; refine wpList_append_own_none rfl (.tmp 9) (.tmp 10) 29 rfl w.heap.size 22 i0 1 Tryd.underlying29 hi _ _ _ rfl (World.ownsRow_nil _ _ _ _) rfl ?_))
  have HO : Hid (Lst w (.slice none 0 0) both) := .inl ⟨rfl, by rw [← HBO.out, HZ.out, HY.out]; rfl⟩
  have HB : Hid (Below w.heap.size w w) := Below.refl _ _
  have HLL : Hid (Lst w (.slice none 0 0) zs) := .inl ⟨rfl, HZ.out⟩
  have HMM : Hid (Lst w (.slice none 0 0) ys) := .inl ⟨rfl, HY.out⟩
  have HTR := Lib.hid (HT.out.below HB.out)
  go_wp2_with fail
  refine (all_any _ _ _ HO.out HTR.out.ands).mono ?_
  rintro e x0 ⟨rfl, n0, rfl⟩
  go_wp2_with fail
  refine (all_any _ _ _ (HLL.out.drewN _) (HTR.out.drewN _).ands).mono ?_
  rintro e x1 ⟨rfl, n1, rfl⟩
  go_wp2_with fail
  refine (all_any _ _ _ (HMM.out.drewN _) (HTR.out.drewN _).ands).mono ?_
  rintro e x2 ⟨rfl, n2, rfl⟩
  go_wp2_with fail
  refine (and_any _ _ _ (HTR.out.drewN _).ands).mono ?_
  rintro e x3 ⟨rfl, n3, rfl⟩
  rw [HE1.out]
  go_wp2_with fail
  refine (any_any _ _ _ (HO.out.drewN _) (HTR.out.drewN _).ors).mono ?_
  rintro e y0 ⟨rfl, m0, rfl⟩
  go_wp2_with fail
  refine (any_any _ _ _ (HLL.out.drewN _) (HTR.out.drewN _).ors).mono ?_
  rintro e y1 ⟨rfl, m1, rfl⟩
  go_wp2_with fail
  refine (any_any _ _ _ (HMM.out.drewN _) (HTR.out.drewN _).ors).mono ?_
  rintro e y2 ⟨rfl, m2, rfl⟩
  go_wp2_with fail
  refine (or_any _ _ _ (HTR.out.drewN _).ors).mono ?_
  rintro e y3 ⟨rfl, m3, rfl⟩
  rw [HE2.out]
  go_wp2_with fail
  refine (works_any _ (HTR.out.drewN _)).mono ?_
  rintro e z ⟨rfl, k, rfl⟩
  go_wp2
  go_ret
  exact ⟨rfl, Below.drewN _ _ HB.out⟩
set_option maxHeartbeats 1600000 in
theorem logicParts_nil_some (w : World) (zs ys both : List Int) (hBoth : zs ++ ys = both) (hz : zs = []) (am : Addr) (cm M : Nat) (hm : Row w am ys) (hM : ys.length = M) (hM2 : M ≤ 1048576) (ht : Tabs w) :
    Calls Tryd.prog 7 #[.slice none 0 0, .slice (some am) M cm] w fun e w' => e = .returned (.bool true) ∧ Below w.heap.size w w' := by
  obtain ⟨i0, hi, hz0, hz1, hz2⟩ := info_parts infoT
  have e1 : andV (allV zs) (allV ys) = allV both := by rw [← hBoth]; exact (allV_append zs ys).symm
  have e2 : orV (anyV zs) (anyV ys) = anyV both := by rw [← hBoth]; exact (anyV_append zs ys).symm
  have HBO := Lib.hid hBoth
  have HE1 := Lib.hid e1
  have HE2 := Lib.hid e2
  have HT := Lib.hid ht
  clear e1 e2 ht hBoth
  have HZ := Lib.hid hz
  clear hz
  have HMR := Lib.hid hm
  have HMN := Lib.hid hM
  clear hm hM
  go_enter Tryd.func7, Tryd.ntmps7
  go_wp2_with (first | (at_builtin; refine wpList_append_own_none rfl (.tmp 6) (.tmp 7) 29 rfl w.heap.size 22 i0 1 Tryd.underlying29 hi _ _ _ rfl (World.ownsRow_nil _ _ _ _) rfl ?_) | (at_builtin; refine wpList_append_own _ rfl (.tmp 9) (.tmp 10) 29 rfl w.heap.size 22 i0 (.int .i64 0) 1 8 Tryd.underlying29 hi hz0 hz1 hz2 rfl (by decide) _ _ _ rfl (World.ownsRow_nil _ _ _ _) am M cm (ys.map (Value.int .i64)) rfl (by simp [HMN.out]) (HMR.out).news ints_one (by unfold maxLen; omega) (by omega) (Nat.le_refl _) ?_))
  intro v2 w2 hown2 hgrow2 _
  have HO : Hid (Lst w2 v2 both) := by
    rw [show both = ys by rw [← HBO.out, HZ.out]; rfl]
    exact Lst.of_own (by simpa using hown2) HMN.out.symm (by simp [HMN.out, maxLen]; omega)
  have HB : Hid (Below w.heap.size w w2) := (Below.refl _ _).grown hgrow2 (Nat.le_refl _) (fun j hj => by cases hj)
  clear hown2 hgrow2
  have HLL : Hid (Lst w2 (.slice none 0 0) zs) := .inl ⟨rfl, HZ.out⟩
  have HMM : Hid (Lst w2 (.slice (some am) M cm) ys) := by
    have := HMN.out
    subst this
    exact .inr ⟨am, cm, rfl, HMR.out.under HB.out, by unfold maxLen; omega⟩
  have HTR := Lib.hid (HT.out.below HB.out)
  go_wp2_with fail
  refine (all_any _ _ _ HO.out HTR.out.ands).mono ?_
  rintro e x0 ⟨rfl, n0, rfl⟩
  go_wp2_with fail
  refine (all_any _ _ _ (HLL.out.drewN _) (HTR.out.drewN _).ands).mono ?_
  rintro e x1 ⟨rfl, n1, rfl⟩
  go_wp2_with fail
  refine (all_any _ _ _ (HMM.out.drewN _) (HTR.out.drewN _).ands).mono ?_
  rintro e x2 ⟨rfl, n2, rfl⟩
  go_wp2_with fail
  refine (and_any _ _ _ (HTR.out.drewN _).ands).mono ?_
  rintro e x3 ⟨rfl, n3, rfl⟩
  rw [HE1.out]
  go_wp2_with fail
  refine (any_any _ _ _ (HO.out.drewN _) (HTR.out.drewN _).ors).mono ?_
  rintro e y0 ⟨rfl, m0, rfl⟩
  go_wp2_with fail
  refine (any_any _ _ _ (HLL.out.drewN _) (HTR.out.drewN _).ors).mono ?_
  rintro e y1 ⟨rfl, m1, rfl⟩
  go_wp2_with fail
  refine (any_any _ _ _ (HMM.out.drewN _) (HTR.out.drewN _).ors).mono ?_
  rintro e y2 ⟨rfl, m2, rfl⟩
  go_wp2_with fail
  refine (or_any _ _ _ (HTR.out.drewN _).ors).mono ?_
  rintro e y3 ⟨rfl, m3, rfl⟩
  rw [HE2.out]
  go_wp2_with fail
  refine (works_any _ (HTR.out.drewN _)).mono ?_
  rintro e z ⟨rfl, k, rfl⟩
  go_wp2
  go_ret
  exact ⟨rfl, Below.drewN _ _ HB.out⟩
set_option maxHeartbeats 1600000 in
theorem logicParts_some_nil (w : World) (zs ys both : List Int) (hBoth : zs ++ ys = both) (hy : ys = []) (al : Addr) (cl L : Nat) (hl : Row w al zs) (hL : zs.length = L) (hL2 : L ≤ 1048576) (ht : Tabs w) :
    Calls Tryd.prog 7 #[.slice (some al) L cl, .slice none 0 0] w fun e w' => e = .returned (.bool true) ∧ Below w.heap.size w w' := by
  obtain ⟨i0, hi, hz0, hz1, hz2⟩ := info_parts infoT
  have e1 : andV (allV zs) (allV ys) = allV both := by rw [← hBoth]; exact (allV_append zs ys).symm
  have e2 : orV (anyV zs) (anyV ys) = anyV both := by rw [← hBoth]; exact (anyV_append zs ys).symm
  have HBO := Lib.hid hBoth
  have HE1 := Lib.hid e1
  have HE2 := Lib.hid e2
  have HT := Lib.hid ht
  clear e1 e2 ht hBoth
  have HY := Lib.hid hy
  clear hy
  have HLR := Lib.hid hl
  have HLN := Lib.hid hL
  clear hl hL
  go_enter Tryd.func7, Tryd.ntmps7
  go_wp2_with (first | (at_builtin; refine wpList_append_own _ rfl (.tmp 6) (.tmp 7) 29 rfl w.heap.size 22 i0 (.int .i64 0) 1 8 Tryd.underlying29 hi hz0 hz1 hz2 rfl (by decide) _ _ _ rfl (World.ownsRow_nil _ _ _ _) al L cl (zs.map (Value.int .i64)) rfl (by simp [HLN.out]) (HLR.out).news ints_one (by unfold maxLen; omega) (by omega) (Nat.le_refl _) ?_))
  intro v1 w1 hown1 hgrow1 _
  have HB1 : Hid (Below w.heap.size w w1) := (Below.refl _ _).grown hgrow1 (Nat.le_refl _) (fun j hj => by cases hj)
  try simp only [Nat.zero_add, List.nil_append] at hown1
  have HO1 := Lib.hid hown1
  clear hown1 hgrow1
  go_wp2_with (first | (at_builtin; refine wpList_append_own_none rfl (.tmp 9) (.tmp 10) 29 rfl w.heap.size 22 i0 1 Tryd.underlying29 hi _ _ _ rfl HO1.out rfl ?_))
  have HO : Hid (Lst w1 v1 both) := by
    rw [show both = zs by rw [← HBO.out, HY.out, List.append_nil]]
    exact Lst.of_own HO1.out HLN.out.symm (by simp [HLN.out, maxLen]; omega)
  have HB := HB1
  have HLL : Hid (Lst w1 (.slice (some al) L cl) zs) := by
    have := HLN.out
    subst this
    exact .inr ⟨al, cl, rfl, HLR.out.under HB.out, by unfold maxLen; omega⟩
  have HMM : Hid (Lst w1 (.slice none 0 0) ys) := .inl ⟨rfl, HY.out⟩
  have HTR := Lib.hid (HT.out.below HB.out)
  go_wp2_with fail
  refine (all_any _ _ _ HO.out HTR.out.ands).mono ?_
  rintro e x0 ⟨rfl, n0, rfl⟩
  go_wp2_with fail
  refine (all_any _ _ _ (HLL.out.drewN _) (HTR.out.drewN _).ands).mono ?_
  rintro e x1 ⟨rfl, n1, rfl⟩
  go_wp2_with fail
  refine (all_any _ _ _ (HMM.out.drewN _) (HTR.out.drewN _).ands).mono ?_
  rintro e x2 ⟨rfl, n2, rfl⟩
  go_wp2_with fail
  refine (and_any _ _ _ (HTR.out.drewN _).ands).mono ?_
  rintro e x3 ⟨rfl, n3, rfl⟩
  rw [HE1.out]
  go_wp2_with fail
  refine (any_any _ _ _ (HO.out.drewN _) (HTR.out.drewN _).ors).mono ?_
  rintro e y0 ⟨rfl, m0, rfl⟩
  go_wp2_with fail
  refine (any_any _ _ _ (HLL.out.drewN _) (HTR.out.drewN _).ors).mono ?_
  rintro e y1 ⟨rfl, m1, rfl⟩
  go_wp2_with fail
  refine (any_any _ _ _ (HMM.out.drewN _) (HTR.out.drewN _).ors).mono ?_
  rintro e y2 ⟨rfl, m2, rfl⟩
  go_wp2_with fail
  refine (or_any _ _ _ (HTR.out.drewN _).ors).mono ?_
  rintro e y3 ⟨rfl, m3, rfl⟩
  rw [HE2.out]
  go_wp2_with fail
  refine (works_any _ (HTR.out.drewN _)).mono ?_
  rintro e z ⟨rfl, k, rfl⟩
  go_wp2
  go_ret
  exact ⟨rfl, Below.drewN _ _ HB.out⟩
set_option maxHeartbeats 1600000 in
theorem logicParts_some_some (w : World) (zs ys both : List Int) (hBoth : zs ++ ys = both) (al : Addr) (cl L : Nat) (hl : Row w al zs) (hL : zs.length = L) (hL2 : L ≤ 1048576) (am : Addr) (cm M : Nat) (hm : Row w am ys) (hM : ys.length = M) (hM2 : M ≤ 1048576) (ht : Tabs w) :
    Calls Tryd.prog 7 #[.slice (some al) L cl, .slice (some am) M cm] w fun e w' => e = .returned (.bool true) ∧ Below w.heap.size w w' := by
  obtain ⟨i0, hi, hz0, hz1, hz2⟩ := info_parts infoT
  have e1 : andV (allV zs) (allV ys) = allV both := by rw [← hBoth]; exact (allV_append zs ys).symm
  have e2 : orV (anyV zs) (anyV ys) = anyV both := by rw [← hBoth]; exact (anyV_append zs ys).symm
  have HBO := Lib.hid hBoth
  have HE1 := Lib.hid e1
  have HE2 := Lib.hid e2
  have HT := Lib.hid ht
  clear e1 e2 ht hBoth
  have HLR := Lib.hid hl
  have HLN := Lib.hid hL
  clear hl hL
  have HMR := Lib.hid hm
  have HMN := Lib.hid hM
  clear hm hM
  go_enter Tryd.func7, Tryd.ntmps7
  go_wp2_with (first | (at_builtin; refine wpList_append_own _ rfl (.tmp 6) (.tmp 7) 29 rfl w.heap.size 22 i0 (.int .i64 0) 1 8 Tryd.underlying29 hi hz0 hz1 hz2 rfl (by decide) _ _ _ rfl (World.ownsRow_nil _ _ _ _) al L cl (zs.map (Value.int .i64)) rfl (by simp [HLN.out]) (HLR.out).news ints_one (by unfold maxLen; omega) (by omega) (Nat.le_refl _) ?_))
  intro v1 w1 hown1 hgrow1 _
  have HB1 : Hid (Below w.heap.size w w1) := (Below.refl _ _).grown hgrow1 (Nat.le_refl _) (fun j hj => by cases hj)
  try simp only [Nat.zero_add, List.nil_append] at hown1
  have HO1 := Lib.hid hown1
  clear hown1 hgrow1
  go_wp2_with (first | (at_builtin; refine wpList_append_own _ rfl (.tmp 9) (.tmp 10) 29 rfl w.heap.size 22 i0 (.int .i64 0) 1 8 Tryd.underlying29 hi hz0 hz1 hz2 rfl (by decide) _ _ _ rfl HO1.out am M cm (ys.map (Value.int .i64)) rfl (by simp [HMN.out]) ((HMR.out).under HB1.out).news ints_one (by unfold maxLen; omega) (by omega) (HB1.out.size) ?_))
  intro v2 w2 hown2 hgrow2 _
  have HO : Hid (Lst w2 v2 both) := by
    rw [← HBO.out]
    rw [← List.map_append] at hown2
    exact Lst.of_own hown2 (by simp [HLN.out, HMN.out]) (by simp [HLN.out, HMN.out, maxLen]; omega)
  have HB : Hid (Below w.heap.size w w2) := HB1.out.grown hgrow2 HB1.out.size (fun j hj => (HO1.out.lt j hj).1)
  clear hown2 hgrow2
  have HLL : Hid (Lst w2 (.slice (some al) L cl) zs) := by
    have := HLN.out
    subst this
    exact .inr ⟨al, cl, rfl, HLR.out.under HB.out, by unfold maxLen; omega⟩
  have HMM : Hid (Lst w2 (.slice (some am) M cm) ys) := by
    have := HMN.out
    subst this
    exact .inr ⟨am, cm, rfl, HMR.out.under HB.out, by unfold maxLen; omega⟩
  have HTR := Lib.hid (HT.out.below HB.out)
  go_wp2_with fail
  refine (all_any _ _ _ HO.out HTR.out.ands).mono ?_
  rintro e x0 ⟨rfl, n0, rfl⟩
  go_wp2_with fail
  refine (all_any _ _ _ (HLL.out.drewN _) (HTR.out.drewN _).ands).mono ?_
  rintro e x1 ⟨rfl, n1, rfl⟩
  go_wp2_with fail
  refine (all_any _ _ _ (HMM.out.drewN _) (HTR.out.drewN _).ands).mono ?_
  rintro e x2 ⟨rfl, n2, rfl⟩
  go_wp2_with fail
  refine (and_any _ _ _ (HTR.out.drewN _).ands).mono ?_
  rintro e x3 ⟨rfl, n3, rfl⟩
  rw [HE1.out]
  go_wp2_with fail
  refine (any_any _ _ _ (HO.out.drewN _) (HTR.out.drewN _).ors).mono ?_
  rintro e y0 ⟨rfl, m0, rfl⟩
  go_wp2_with fail
  refine (any_any _ _ _ (HLL.out.drewN _) (HTR.out.drewN _).ors).mono ?_
  rintro e y1 ⟨rfl, m1, rfl⟩
  go_wp2_with fail
  refine (any_any _ _ _ (HMM.out.drewN _) (HTR.out.drewN _).ors).mono ?_
  rintro e y2 ⟨rfl, m2, rfl⟩
  go_wp2_with fail
  refine (or_any _ _ _ (HTR.out.drewN _).ors).mono ?_
  rintro e y3 ⟨rfl, m3, rfl⟩
  rw [HE2.out]
  go_wp2_with fail
  refine (works_any _ (HTR.out.drewN _)).mono ?_
  rintro e z ⟨rfl, k, rfl⟩
  go_wp2
  go_ret
  exact ⟨rfl, Below.drewN _ _ HB.out⟩
theorem logicParts_any (vl vm : Value) (zs ys : List Int) (w : World) (hl : Lst w vl zs) (hm : Lst w vm ys) (hL : zs.length ≤ 1048576) (hM : ys.length ≤ 1048576) (ht : Tabs w) :
    Calls Tryd.prog 7 #[vl, vm] w fun e w' => e = .returned (.bool true) ∧ Below w.heap.size w w' := by
  rcases hl with ⟨rfl, rfl⟩ | ⟨al, cl, rfl, rl, _⟩ <;> rcases hm with ⟨rfl, rfl⟩ | ⟨am, cm, rfl, rm, _⟩
  · exact logicParts_nil_nil w _ _ _ rfl rfl rfl ht
  · exact logicParts_nil_some w _ _ _ rfl rfl am cm _ rm rfl hM ht
  · exact logicParts_some_nil w _ _ _ rfl rfl al cl _ rl rfl hL ht
  · exact logicParts_some_some w _ _ _ rfl al cl _ rl rfl hL am cm _ rm rfl hM ht
end Logic
end Go.Proofs.YtpkokofjniiagaaDoor
