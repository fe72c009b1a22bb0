/- THE WALKS over (*reach).compare of any two trees. -/
import Derived.Test.YtlmebeiopnfmdaaDoorRows
import Derived.Test.YtlmebeiopnfmdaaDoorHeld
import Derived.Test.YtlmebeiopnfmdaaDoorValBase
import Derived.Test.YtlmebeiopnfmdaaDoorValCmp
import Derived.Test.YtlmebeiopnfmdaaDoorValFlat
import Derived.Test.YtlmebeiopnfmdaaDoorValOrd
import Derived.Test.YtlmebeiopnfmdaaDoorVal
import Derived.Test.YtlmebeiopnfmdaaDoorValCopy
import Derived.Test.YtlmebeiopnfmdaaDoorValSame
import Derived.Test.YtlmebeiopnfmdaaDoorOrdPlain
import Derived.Test.YtlmebeiopnfmdaaDoorOrdNames
import Derived.Test.YtlmebeiopnfmdaaDoorOrdStop
import Derived.WalkKit
import Derived.Lib.Hide
import Derived.Outline
import Derived.WalkSpells
import Derived.WalkLawsBesides
import Derived.Deep.Cut
import Derived.Deep.CutRange
import Derived.Deep.DeepCutAuto
import Derived.Deep.RegionHeld3
import Derived.RangeFuncNested
import Derived.RangeFuncBound
import Derived.RangeFuncCalls
import Derived.RangeFuncLeaves
import Derived.OwnWalkIn
import Derived.TacticsInMore
namespace Go.Proofs.YtlmebeiopnfmdaaDoor
open Go.RowKit
set_option linter.unusedVariables false
set_option linter.unusedSimpArgs false
namespace Val
theorem Fy.drew {B R : Nat} {Wl W w : World} {ca cb : Array Value} {d m : Int} (h : Fy B R Wl W ca cb d m w) : Fy B R Wl W ca cb d m w.drew := ⟨⟨h.fx.two, h.fx.places, h.fx.low.drew, h.fx.reach⟩, h.keeps.drew⟩
theorem Fy.callee {B R : Nat} {Wl W w w' : World} {ca cb : Array Value} {d m m' : Int} (h : Fy B R Wl W ca cb d m w) (hk : Keeps (· = R) w w') (hr : Reach w' R d m') (hB : B ≤ Wl.heap.size) (hRB : B ≤ R) (hRA : R < W.heap.size) (hg : 1 < B) (hBA : B ≤ W.heap.size) : Fy B R Wl W ca cb d m' w' := by
  have hlow : Below B w w' := hk.below (fun k e => by omega) (Nat.le_trans hB h.low.size)
  exact ⟨⟨⟨(hk.block _ h.two.1.lt (by show ¬ _ = _; omega)).trans h.two.1, (hk.block _ h.two.2.lt (by show ¬ _ = _; omega)).trans h.two.2⟩, h.places.below hlow hg, h.low.trans hlow, hr⟩, h.keeps.trans hk⟩
theorem ordL_nilL (ys : List VT) (ps qs : List ByteArray) : ordL [] ys ps qs = 0 := by cases ys <;> (unfold ordL; rfl)
theorem ordL_nilR (xs : List VT) (ps qs : List ByteArray) : ordL xs [] ps qs = 0 := by cases xs <;> (unfold ordL; rfl)
def CmpIH (N lo B l R : Nat) (Wl : World) (WS : Int → World) : Prop := ∀ (t u : VT) (v z : Value) (W : World) (d m : Nat), t.parts ≤ N → small t → small u → VT.In Wl lo t v → VT.In Wl lo u z → u.parts ≤ 4194304 → Below B Wl W → Reach W R d m → Places W → t.parts ≤ d → t.parts ≤ m → d ≤ 65536 → m ≤ 4194304 →
  Calls Tryd.prog 66 #[.pointer (some ⟨R, 0, none⟩), v, z, .func (.yield l) #[] #[]] W (CmpPost B R d m WS (ordV t u) t.parts W)
structure CAt (B R : Nat) (Wl W : World) (ca cb : Array Value) (d0 m0 j mj : Nat) (xs ys : List VT) (ps qs : List ByteArray) (wr : World) : Prop where
  fy : Fy B R Wl W ca cb (d0 : Int) (mj : Int) wr
  rest : ordL xs ys ps qs = ordL (xs.drop j) (ys.drop j) (ps.drop j) (qs.drop j)
  le : mj ≤ m0
  cost : m0 + VT.partsL (xs.drop j) ≤ mj + VT.partsL xs
theorem ordL_at {xs ys : List VT} {ps qs : List ByteArray} {j : Nat} {x y : VT} (hx : xs[j]? = some x) (hy : ys[j]? = some y) : ordL (xs.drop j) (ys.drop j) (ps.drop j) (qs.drop j) = orE (if j < min ps.length qs.length then Lib.compareBytes (ps.getD j default).data.toList (qs.getD j default).data.toList else 0) (orE (ordV x y) (ordL (xs.drop (j + 1)) (ys.drop (j + 1)) (ps.drop (j + 1)) (qs.drop (j + 1)))) := by
  rw [drop_at hx, drop_at hy, ordL, List.drop_drop, List.drop_drop, List.length_drop, List.length_drop]
  have h1 : ∀ l : List ByteArray, (l.drop j).getD 0 default = l.getD j default := fun l => by
    rw [List.getD_eq_getElem?_getD, List.getElem?_drop, List.getD_eq_getElem?_getD]
    rfl
  rw [h1, h1]
  by_cases h : j < min ps.length qs.length
  · rw [if_pos h, if_pos (by omega)]
  · rw [if_neg h, if_neg (by omega)]
set_option maxRecDepth 100000 in
set_option maxHeartbeats 8000000 in
theorem compare_deep {lo B l R : Nat} {Wl W : World} {WS : Int → World} (hY : Yld lo l B Wl WS) (hB : B ≤ Wl.heap.size) (hRB : B ≤ R) (hg : 1 < B) (ka na kb nb : Int) (ba bb : Bool) (sa sb : ByteArray) (pla pqa plb pqb : Option Addr) (nla cla nqa cqa nlb clb nqb cqb : Nat) (d m : Int) (hR : Reach W R d m) (hP : Places W) (hlow : Below B Wl W) (hd : 0 < d) (hm : 0 < m) (hd' : d ≤ 65536) (hm' : m ≤ 4194304) (N d0 m0 : Nat) (IH : Hid (CmpIH N lo B l R Wl WS)) (ps qs : List ByteArray) (xs ys : List VT) (hdd : d = ((d0 + 1 : Nat) : Int)) (hmm : m = ((m0 + 1 : Nat) : Int)) (hlo : lo ≤ B) (hxl : xs.length = nla) (hyl : ys.length = nlb) (hpl : ps.length = nqa) (hql : qs.length = nqb) (hxb : nla ≤ 4194304) (hyb : nlb ≤ 4194304) (hpb : nqa ≤ 4194304) (hqb : nqb ≤ 4194304)
    (hX : 0 < xs.length → ∃ bl ol, pla = some ⟨bl, ol, none⟩ ∧ bl < lo ∧ VT.InL Wl lo bl ol xs) (hZ : 0 < ys.length → ∃ bl ol, plb = some ⟨bl, ol, none⟩ ∧ bl < lo ∧ VT.InL Wl lo bl ol ys) (hPK : VT.KeysIn Wl lo pqa ps) (hQK : VT.KeysIn Wl lo pqb qs) (hsx : smallL xs) (hsy : smallL ys) (hpy : VT.partsL ys ≤ 4194304) (hpN : VT.partsL xs ≤ N) (hpd : VT.partsL xs ≤ d0) (hpm : VT.partsL xs ≤ m0) (c : Int) (hc : orE (ordL xs ys ps qs) (orE (namesC ps qs) (cmpV (nla : Int) (nlb : Int))) = c) (x0 : cmpV (placeV ka) (placeV kb) = 0) (x1 : cmpV (ofV ba) (ofV bb) = 0) (x2 : cmpV na nb = 0) (x3 : Lib.compareBytes sa.data.toList sb.data.toList = 0) :
    Calls Tryd.prog 66 #[.pointer (some ⟨R, 0, none⟩), .agg #[.int .i64 ka, .bool ba, .int .i64 na, .string sa, (.slice pla nla cla), (.slice pqa nqa cqa)], .agg #[.int .i64 kb, .bool bb, .int .i64 nb, .string sb, (.slice plb nlb clb), (.slice pqb nqb cqb)], .func (.yield l) #[] #[]] W fun e w' => CmpPost B R (d0 + 1) (m0 + 1) WS c (VT.partsL xs + 1) W e w' := by
  have HXL := Lib.hid (And.intro hxl (And.intro hyl (And.intro hpl hql)))
  have HX := Lib.hid hX
  have HZ := Lib.hid hZ
  have HPK := Lib.hid (And.intro hPK hQK)
  have HSX := Lib.hid (And.intro hsx hsy)
  have HPN := Lib.hid (And.intro hpN (And.intro hpd (And.intro hpm hpy)))
  have HC := Lib.hid hc
  have HDD := Lib.hid (And.intro hdd hmm)
  have HLO := Lib.hid (And.intro hlo (And.intro hxb (And.intro hyb (And.intro hpb hqb))))
  clear hlo hxb hyb hpb hqb hdd hmm hxl hyl hpl hql hX hZ hPK hQK hsx hsy hpy hpN hpd hpm hc
  have hRA : R < W.heap.size := hR.lt
  have hBA : B ≤ W.heap.size := Nat.le_trans hB hlow.size
  have F := Fy.start #[.int .i64 ka, .bool ba, .int .i64 na, .string sa, (.slice pla nla cla), (.slice pqa nqa cqa)] #[.int .i64 kb, .bool bb, .int .i64 nb, .string sb, (.slice plb nlb clb), (.slice pqb nqb cqb)] hB hlow hP hR
  go_enter Tryd.func66, Tryd.ntmps66
  go_wp2
  rename_i Q' K1 hK1 K2 hK2
  refine wp_region_noPanic ?_
  refine wpIn_wide (n := 5).1 ?_
  refine wpIn_region_text (Two W.heap.size #[.int .i64 ka, .bool ba, .int .i64 na, .string sa, (.slice pla nla cla), (.slice pqa nqa cqa)] #[.int .i64 kb, .bool bb, .int .i64 nb, .string sb, (.slice plb nlb clb), (.slice pqb nqb cqb)]) [0, 1, 2, 3, 4, 5, 6, 8, 9, 7, 10, 11, 12, 13, 14, 15, 16, 17, 18, 20, 21, 19, 22, 23, 24, 25, 26, 27, 28, 29, 30, 31, 32, 33, 34, 35, 36, 37, 38, 39, 40, 41, 42, 43, 44, 45, 46] rfl (by kernel_rfl) (by kernel_rfl) (by kernel_rfl) (by kernel_rfl) (fun _ _ _ _ _ h => h) F.two ?_
  generalize ((W.alloc (.cells #[.int .i64 ka, .bool ba, .int .i64 na, .string sa, (.slice pla nla cla), (.slice pqa nqa cqa)] 26)).alloc (.cells #[.int .i64 kb, .bool bb, .int .i64 nb, .string sb, (.slice plb nlb clb), (.slice pqb nqb cqb)] 26)).drew = w0 at F ⊢
  refine textS_take (o := _) (.pointer (some ⟨R, 0, none⟩)) (by conv => lhs; simp only [List.getElem?_toArray, List.getElem?_cons_succ, List.getElem?_cons_zero]) (by rfl) (by rfl) ?_ (fun _ => by rfl) (by conv => lhs; simp only [Act.put, List.setIfInBounds_toArray, List.set_cons_succ, List.set_cons_zero]) ?_
  · intro w _; go_simp
  refine textS_call (o := _) (by conv => lhs; simp only [List.getElem?_toArray, List.getElem?_cons_succ, List.getElem?_cons_zero]) (by rfl) (by rfl) ?_
  refine wpIn_call (f := 67) (args := #[.pointer (some ⟨R, 0, none⟩)]) rfl ?_ (enter_yes R d m _ F.reach hd hm hd' hm') ?_
  · go_simp
  rintro e w1 ⟨rfl, hw1⟩
  replace F := F.enter hRB hRA hg hw1
  clear hw1
  refine ⟨_, _, rfl, (by conv => lhs; simp only [Act.put, List.setIfInBounds_toArray, List.set_cons_succ, List.set_cons_zero]), F.two, ?_⟩
  refine textS_take (o := _) (.bool false) (by conv => lhs; simp only [List.getElem?_toArray, List.getElem?_cons_succ, List.getElem?_cons_zero]) (by rfl) (by rfl) ?_ (fun _ => by rfl) (by conv => lhs; simp only [Act.put, List.setIfInBounds_toArray, List.set_cons_succ, List.set_cons_zero]) ?_
  · intro w _; go_simp
  refine textS_take (o := _) (.bool false) (by conv => lhs; simp only [List.getElem?_toArray, List.getElem?_cons_succ, List.getElem?_cons_zero]) (by rfl) (by rfl) ?_ (fun _ => by rfl) (by conv => lhs; simp only [Act.put, List.setIfInBounds_toArray, List.set_cons_succ, List.set_cons_zero]) ?_
  · intro w _; go_simp
  refine textS_take (o := _) (.func (.yield l) #[] #[]) (by conv => lhs; simp only [List.getElem?_toArray, List.getElem?_cons_succ, List.getElem?_cons_zero]) (by rfl) (by rfl) ?_ (fun _ => by rfl) (by conv => lhs; simp only [Act.put, List.setIfInBounds_toArray, List.set_cons_succ, List.set_cons_zero]) ?_
  · intro w _; go_simp
  refine textS_take (o := _) (.pointer (some ⟨W.heap.size, 0, none⟩)) (by conv => lhs; simp only [List.getElem?_toArray, List.getElem?_cons_succ, List.getElem?_cons_zero]) (by rfl) (by rfl) ?_ (fun _ => by rfl) (by conv => lhs; simp only [Act.put, List.setIfInBounds_toArray, List.set_cons_succ, List.set_cons_zero]) ?_
  · intro w _; go_simp
  refine textS_take (o := _) (.int .i64 ka) (by conv => lhs; simp only [List.getElem?_toArray, List.getElem?_cons_succ, List.getElem?_cons_zero]) (by rfl) (by rfl) ?_ (fun _ => by rfl) (by conv => lhs; simp only [Act.put, List.setIfInBounds_toArray, List.set_cons_succ, List.set_cons_zero]) ?_
  · rintro w ⟨t0, t1⟩; obtain ⟨c0, c1, c2, c3, c4, c5⟩ := t0.cell; clear t0 t1; go_simp
  refine textS_take (o := _) (.pointer (some ⟨(W.heap.size + 1), 0, none⟩)) (by conv => lhs; simp only [List.getElem?_toArray, List.getElem?_cons_succ, List.getElem?_cons_zero]) (by rfl) (by rfl) ?_ (fun _ => by rfl) (by conv => lhs; simp only [Act.put, List.setIfInBounds_toArray, List.set_cons_succ, List.set_cons_zero]) ?_
  · intro w _; go_simp
  refine textS_take (o := _) (.int .i64 kb) (by conv => lhs; simp only [List.getElem?_toArray, List.getElem?_cons_succ, List.getElem?_cons_zero]) (by rfl) (by rfl) ?_ (fun _ => by rfl) (by conv => lhs; simp only [Act.put, List.setIfInBounds_toArray, List.set_cons_succ, List.set_cons_zero]) ?_
  · rintro w ⟨t0, t1⟩; obtain ⟨c0, c1, c2, c3, c4, c5⟩ := t1.cell; clear t0 t1; go_simp
  refine textS_call (o := _) (by conv => lhs; simp only [List.getElem?_toArray, List.getElem?_cons_succ, List.getElem?_cons_zero]) (by rfl) (by rfl) ?_
  refine wpIn_call (f := 79) (args := #[.int .i64 ka]) rfl ?_ (place_any ka w1 F.places) ?_
  · go_simp
  rintro e w2 ⟨rfl, rfl⟩
  refine ⟨_, _, rfl, (by conv => lhs; simp only [Act.put, List.setIfInBounds_toArray, List.set_cons_succ, List.set_cons_zero]), F.two, ?_⟩
  refine textS_call (o := _) (by conv => lhs; simp only [List.getElem?_toArray, List.getElem?_cons_succ, List.getElem?_cons_zero]) (by rfl) (by rfl) ?_
  refine wpIn_call (f := 79) (args := #[.int .i64 kb]) rfl ?_ (place_any kb w1 F.places) ?_
  · go_simp
  rintro e w2 ⟨rfl, rfl⟩
  refine ⟨_, _, rfl, (by conv => lhs; simp only [Act.put, List.setIfInBounds_toArray, List.set_cons_succ, List.set_cons_zero]), F.two, ?_⟩
  refine textS_call (o := _) (by conv => lhs; simp only [List.getElem?_toArray, List.getElem?_cons_succ, List.getElem?_cons_zero]) (by rfl) (by rfl) ?_
  refine wpIn_call (f := 46) (args := #[.int .i64 (placeV ka), .int .i64 (placeV kb)]) rfl ?_ (zero_of x0 (cmp_int _ _ w1)) ?_
  · go_simp
  rintro e w2 ⟨rfl, rfl⟩
  refine ⟨_, _, rfl, (by conv => lhs; simp only [Act.put, List.setIfInBounds_toArray, List.set_cons_succ, List.set_cons_zero]), F.two, ?_⟩
  refine textS_call (o := _) (by conv => lhs; simp only [List.getElem?_toArray, List.getElem?_cons_succ, List.getElem?_cons_zero]) (by rfl) (by rfl) ?_
  obtain ⟨fn, tm, as1, bd, hy, hr⟩ := hY.zero 4 _ F.low
  refine wpIn_yield rfl ?_ hr ?_
  · go_simp
  rintro e y0 ⟨rfl, hlow⟩
  replace F := F.zero hB hlow
  clear hy hr hlow
  refine ⟨_, _, rfl, (by conv => lhs; simp only [Act.put, List.setIfInBounds_toArray, List.set_cons_succ, List.set_cons_zero]), F.two, ?_⟩
  refine textS_take (o := _) (.bool false) (by conv => lhs; simp only [List.getElem?_toArray, List.getElem?_cons_succ, List.getElem?_cons_zero]) (by rfl) (by rfl) ?_ (fun _ => by rfl) (by conv => lhs; simp only [Act.put, List.setIfInBounds_toArray, List.set_cons_succ, List.set_cons_zero]) ?_
  · intro w _; go_simp
  refine textS_take (o := _) (.bool false) (by conv => lhs; simp only [List.getElem?_toArray, List.getElem?_cons_succ, List.getElem?_cons_zero]) (by rfl) (by rfl) ?_ (fun _ => by rfl) (by conv => lhs; simp only [Act.put, List.setIfInBounds_toArray, List.set_cons_succ, List.set_cons_zero]) ?_
  · intro w _; go_simp
  refine textS_take (o := _) (.bool false) (by conv => lhs; simp only [List.getElem?_toArray, List.getElem?_cons_succ, List.getElem?_cons_zero]) (by rfl) (by rfl) ?_ (fun _ => by rfl) (by conv => lhs; simp only [Act.put, List.setIfInBounds_toArray, List.set_cons_succ, List.set_cons_zero]) ?_
  · intro w _; go_simp
  refine textS_take (o := _) (.func (.yield l) #[] #[]) (by conv => lhs; simp only [List.getElem?_toArray, List.getElem?_cons_succ, List.getElem?_cons_zero]) (by rfl) (by rfl) ?_ (fun _ => by rfl) (by conv => lhs; simp only [Act.put, List.setIfInBounds_toArray, List.set_cons_succ, List.set_cons_zero]) ?_
  · intro w _; go_simp
  refine textS_take (o := _) (.pointer (some ⟨W.heap.size, 1, none⟩)) (by conv => lhs; simp only [List.getElem?_toArray, List.getElem?_cons_succ, List.getElem?_cons_zero]) (by rfl) (by rfl) ?_ (fun _ => by rfl) (by conv => lhs; simp only [Act.put, List.setIfInBounds_toArray, List.set_cons_succ, List.set_cons_zero]) ?_
  · intro w _; go_simp
  refine textS_take (o := _) (.bool ba) (by conv => lhs; simp only [List.getElem?_toArray, List.getElem?_cons_succ, List.getElem?_cons_zero]) (by rfl) (by rfl) ?_ (fun _ => by rfl) (by conv => lhs; simp only [Act.put, List.setIfInBounds_toArray, List.set_cons_succ, List.set_cons_zero]) ?_
  · rintro w ⟨t0, t1⟩; obtain ⟨c0, c1, c2, c3, c4, c5⟩ := t0.cell; clear t0 t1; go_simp
  refine textS_take (o := _) (.pointer (some ⟨(W.heap.size + 1), 1, none⟩)) (by conv => lhs; simp only [List.getElem?_toArray, List.getElem?_cons_succ, List.getElem?_cons_zero]) (by rfl) (by rfl) ?_ (fun _ => by rfl) (by conv => lhs; simp only [Act.put, List.setIfInBounds_toArray, List.set_cons_succ, List.set_cons_zero]) ?_
  · intro w _; go_simp
  refine textS_take (o := _) (.bool bb) (by conv => lhs; simp only [List.getElem?_toArray, List.getElem?_cons_succ, List.getElem?_cons_zero]) (by rfl) (by rfl) ?_ (fun _ => by rfl) (by conv => lhs; simp only [Act.put, List.setIfInBounds_toArray, List.set_cons_succ, List.set_cons_zero]) ?_
  · rintro w ⟨t0, t1⟩; obtain ⟨c0, c1, c2, c3, c4, c5⟩ := t1.cell; clear t0 t1; go_simp
  refine textS_call (o := _) (by conv => lhs; simp only [List.getElem?_toArray, List.getElem?_cons_succ, List.getElem?_cons_zero]) (by rfl) (by rfl) ?_
  refine wpIn_call (f := 81) (args := #[.bool ba]) rfl ?_ (of_any ba y0) ?_
  · go_simp
  rintro e w2 ⟨rfl, rfl⟩
  refine ⟨_, _, rfl, (by conv => lhs; simp only [Act.put, List.setIfInBounds_toArray, List.set_cons_succ, List.set_cons_zero]), F.two, ?_⟩
  refine textS_call (o := _) (by conv => lhs; simp only [List.getElem?_toArray, List.getElem?_cons_succ, List.getElem?_cons_zero]) (by rfl) (by rfl) ?_
  refine wpIn_call (f := 81) (args := #[.bool bb]) rfl ?_ (of_any bb y0) ?_
  · go_simp
  rintro e w2 ⟨rfl, rfl⟩
  refine ⟨_, _, rfl, (by conv => lhs; simp only [Act.put, List.setIfInBounds_toArray, List.set_cons_succ, List.set_cons_zero]), F.two, ?_⟩
  refine textS_call (o := _) (by conv => lhs; simp only [List.getElem?_toArray, List.getElem?_cons_succ, List.getElem?_cons_zero]) (by rfl) (by rfl) ?_
  refine wpIn_call (f := 80) (args := #[.int .i64 (ofV ba), .int .i64 (ofV bb)]) rfl ?_ (zero_of x1 (cmp_truth _ _ y0)) ?_
  · go_simp
  rintro e w2 ⟨rfl, rfl⟩
  refine ⟨_, _, rfl, (by conv => lhs; simp only [Act.put, List.setIfInBounds_toArray, List.set_cons_succ, List.set_cons_zero]), F.two, ?_⟩
  refine textS_call (o := _) (by conv => lhs; simp only [List.getElem?_toArray, List.getElem?_cons_succ, List.getElem?_cons_zero]) (by rfl) (by rfl) ?_
  obtain ⟨fn, tm, as1, bd, hy, hr⟩ := hY.zero 4 _ F.low
  refine wpIn_yield rfl ?_ hr ?_
  · go_simp
  rintro e y1 ⟨rfl, hlow⟩
  replace F := F.zero hB hlow
  clear hy hr hlow
  refine ⟨_, _, rfl, (by conv => lhs; simp only [Act.put, List.setIfInBounds_toArray, List.set_cons_succ, List.set_cons_zero]), F.two, ?_⟩
  refine textS_take (o := _) (.bool false) (by conv => lhs; simp only [List.getElem?_toArray, List.getElem?_cons_succ, List.getElem?_cons_zero]) (by rfl) (by rfl) ?_ (fun _ => by rfl) (by conv => lhs; simp only [Act.put, List.setIfInBounds_toArray, List.set_cons_succ, List.set_cons_zero]) ?_
  · intro w _; go_simp
  refine textS_take (o := _) (.bool false) (by conv => lhs; simp only [List.getElem?_toArray, List.getElem?_cons_succ, List.getElem?_cons_zero]) (by rfl) (by rfl) ?_ (fun _ => by rfl) (by conv => lhs; simp only [Act.put, List.setIfInBounds_toArray, List.set_cons_succ, List.set_cons_zero]) ?_
  · intro w _; go_simp
  refine textS_take (o := _) (.bool false) (by conv => lhs; simp only [List.getElem?_toArray, List.getElem?_cons_succ, List.getElem?_cons_zero]) (by rfl) (by rfl) ?_ (fun _ => by rfl) (by conv => lhs; simp only [Act.put, List.setIfInBounds_toArray, List.set_cons_succ, List.set_cons_zero]) ?_
  · intro w _; go_simp
  refine textS_take (o := _) (.func (.yield l) #[] #[]) (by conv => lhs; simp only [List.getElem?_toArray, List.getElem?_cons_succ, List.getElem?_cons_zero]) (by rfl) (by rfl) ?_ (fun _ => by rfl) (by conv => lhs; simp only [Act.put, List.setIfInBounds_toArray, List.set_cons_succ, List.set_cons_zero]) ?_
  · intro w _; go_simp
  refine textS_take (o := _) (.pointer (some ⟨W.heap.size, 2, none⟩)) (by conv => lhs; simp only [List.getElem?_toArray, List.getElem?_cons_succ, List.getElem?_cons_zero]) (by rfl) (by rfl) ?_ (fun _ => by rfl) (by conv => lhs; simp only [Act.put, List.setIfInBounds_toArray, List.set_cons_succ, List.set_cons_zero]) ?_
  · intro w _; go_simp
  refine textS_take (o := _) (.int .i64 na) (by conv => lhs; simp only [List.getElem?_toArray, List.getElem?_cons_succ, List.getElem?_cons_zero]) (by rfl) (by rfl) ?_ (fun _ => by rfl) (by conv => lhs; simp only [Act.put, List.setIfInBounds_toArray, List.set_cons_succ, List.set_cons_zero]) ?_
  · rintro w ⟨t0, t1⟩; obtain ⟨c0, c1, c2, c3, c4, c5⟩ := t0.cell; clear t0 t1; go_simp
  refine textS_take (o := _) (.pointer (some ⟨(W.heap.size + 1), 2, none⟩)) (by conv => lhs; simp only [List.getElem?_toArray, List.getElem?_cons_succ, List.getElem?_cons_zero]) (by rfl) (by rfl) ?_ (fun _ => by rfl) (by conv => lhs; simp only [Act.put, List.setIfInBounds_toArray, List.set_cons_succ, List.set_cons_zero]) ?_
  · intro w _; go_simp
  refine textS_take (o := _) (.int .i64 nb) (by conv => lhs; simp only [List.getElem?_toArray, List.getElem?_cons_succ, List.getElem?_cons_zero]) (by rfl) (by rfl) ?_ (fun _ => by rfl) (by conv => lhs; simp only [Act.put, List.setIfInBounds_toArray, List.set_cons_succ, List.set_cons_zero]) ?_
  · rintro w ⟨t0, t1⟩; obtain ⟨c0, c1, c2, c3, c4, c5⟩ := t1.cell; clear t0 t1; go_simp
  refine textS_call (o := _) (by conv => lhs; simp only [List.getElem?_toArray, List.getElem?_cons_succ, List.getElem?_cons_zero]) (by rfl) (by rfl) ?_
  refine wpIn_call (f := 82) (args := #[.int .i64 na, .int .i64 nb]) rfl ?_ (zero_of x2 (cmp_i64 _ _ y1)) ?_
  · go_simp
  rintro e w2 ⟨rfl, rfl⟩
  refine ⟨_, _, rfl, (by conv => lhs; simp only [Act.put, List.setIfInBounds_toArray, List.set_cons_succ, List.set_cons_zero]), F.two, ?_⟩
  refine textS_call (o := _) (by conv => lhs; simp only [List.getElem?_toArray, List.getElem?_cons_succ, List.getElem?_cons_zero]) (by rfl) (by rfl) ?_
  obtain ⟨fn, tm, as1, bd, hy, hr⟩ := hY.zero 4 _ F.low
  refine wpIn_yield rfl ?_ hr ?_
  · go_simp
  rintro e y2 ⟨rfl, hlow⟩
  replace F := F.zero hB hlow
  clear hy hr hlow
  refine ⟨_, _, rfl, (by conv => lhs; simp only [Act.put, List.setIfInBounds_toArray, List.set_cons_succ, List.set_cons_zero]), F.two, ?_⟩
  refine textS_take (o := _) (.bool false) (by conv => lhs; simp only [List.getElem?_toArray, List.getElem?_cons_succ, List.getElem?_cons_zero]) (by rfl) (by rfl) ?_ (fun _ => by rfl) (by conv => lhs; simp only [Act.put, List.setIfInBounds_toArray, List.set_cons_succ, List.set_cons_zero]) ?_
  · intro w _; go_simp
  refine textS_take (o := _) (.bool false) (by conv => lhs; simp only [List.getElem?_toArray, List.getElem?_cons_succ, List.getElem?_cons_zero]) (by rfl) (by rfl) ?_ (fun _ => by rfl) (by conv => lhs; simp only [Act.put, List.setIfInBounds_toArray, List.set_cons_succ, List.set_cons_zero]) ?_
  · intro w _; go_simp
  refine textS_take (o := _) (.bool false) (by conv => lhs; simp only [List.getElem?_toArray, List.getElem?_cons_succ, List.getElem?_cons_zero]) (by rfl) (by rfl) ?_ (fun _ => by rfl) (by conv => lhs; simp only [Act.put, List.setIfInBounds_toArray, List.set_cons_succ, List.set_cons_zero]) ?_
  · intro w _; go_simp
  refine textS_take (o := _) (.func (.yield l) #[] #[]) (by conv => lhs; simp only [List.getElem?_toArray, List.getElem?_cons_succ, List.getElem?_cons_zero]) (by rfl) (by rfl) ?_ (fun _ => by rfl) (by conv => lhs; simp only [Act.put, List.setIfInBounds_toArray, List.set_cons_succ, List.set_cons_zero]) ?_
  · intro w _; go_simp
  refine textS_take (o := _) (.pointer (some ⟨W.heap.size, 3, none⟩)) (by conv => lhs; simp only [List.getElem?_toArray, List.getElem?_cons_succ, List.getElem?_cons_zero]) (by rfl) (by rfl) ?_ (fun _ => by rfl) (by conv => lhs; simp only [Act.put, List.setIfInBounds_toArray, List.set_cons_succ, List.set_cons_zero]) ?_
  · intro w _; go_simp
  refine textS_take (o := _) (.string sa) (by conv => lhs; simp only [List.getElem?_toArray, List.getElem?_cons_succ, List.getElem?_cons_zero]) (by rfl) (by rfl) ?_ (fun _ => by rfl) (by conv => lhs; simp only [Act.put, List.setIfInBounds_toArray, List.set_cons_succ, List.set_cons_zero]) ?_
  · rintro w ⟨t0, t1⟩; obtain ⟨c0, c1, c2, c3, c4, c5⟩ := t0.cell; clear t0 t1; go_simp
  refine textS_take (o := _) (.pointer (some ⟨(W.heap.size + 1), 3, none⟩)) (by conv => lhs; simp only [List.getElem?_toArray, List.getElem?_cons_succ, List.getElem?_cons_zero]) (by rfl) (by rfl) ?_ (fun _ => by rfl) (by conv => lhs; simp only [Act.put, List.setIfInBounds_toArray, List.set_cons_succ, List.set_cons_zero]) ?_
  · intro w _; go_simp
  refine textS_take (o := _) (.string sb) (by conv => lhs; simp only [List.getElem?_toArray, List.getElem?_cons_succ, List.getElem?_cons_zero]) (by rfl) (by rfl) ?_ (fun _ => by rfl) (by conv => lhs; simp only [Act.put, List.setIfInBounds_toArray, List.set_cons_succ, List.set_cons_zero]) ?_
  · rintro w ⟨t0, t1⟩; obtain ⟨c0, c1, c2, c3, c4, c5⟩ := t1.cell; clear t0 t1; go_simp
  refine textS_call (o := _) (by conv => lhs; simp only [List.getElem?_toArray, List.getElem?_cons_succ, List.getElem?_cons_zero]) (by rfl) (by rfl) ?_
  refine wpIn_call (f := 45) (args := #[.string sa, .string sb]) rfl ?_ (zero_of x3 (str_cmp _ _ y2)) ?_
  · go_simp
  rintro e w2 ⟨rfl, rfl⟩
  refine ⟨_, _, rfl, (by conv => lhs; simp only [Act.put, List.setIfInBounds_toArray, List.set_cons_succ, List.set_cons_zero]), F.two, ?_⟩
  refine textS_call (o := _) (by conv => lhs; simp only [List.getElem?_toArray, List.getElem?_cons_succ, List.getElem?_cons_zero]) (by rfl) (by rfl) ?_
  obtain ⟨fn, tm, as1, bd, hy, hr⟩ := hY.zero 4 _ F.low
  refine wpIn_yield rfl ?_ hr ?_
  · go_simp
  rintro e y3 ⟨rfl, hlow⟩
  replace F := F.zero hB hlow
  clear hy hr hlow
  refine ⟨_, _, rfl, (by conv => lhs; simp only [Act.put, List.setIfInBounds_toArray, List.set_cons_succ, List.set_cons_zero]), F.two, ?_⟩
  refine textS_take (o := _) (.bool false) (by conv => lhs; simp only [List.getElem?_toArray, List.getElem?_cons_succ, List.getElem?_cons_zero]) (by rfl) (by rfl) ?_ (fun _ => by rfl) (by conv => lhs; simp only [Act.put, List.setIfInBounds_toArray, List.set_cons_succ, List.set_cons_zero]) ?_
  · intro w _; go_simp
  refine textS_take (o := _) (.bool false) (by conv => lhs; simp only [List.getElem?_toArray, List.getElem?_cons_succ, List.getElem?_cons_zero]) (by rfl) (by rfl) ?_ (fun _ => by rfl) (by conv => lhs; simp only [Act.put, List.setIfInBounds_toArray, List.set_cons_succ, List.set_cons_zero]) ?_
  · intro w _; go_simp
  refine NoPanic.normal ?_
  refine hK2 _ _ ?_
  clear hK2
  obtain ⟨mk, hmk⟩ : ∃ mk : Nat, min nqa nqb = mk := ⟨_, rfl⟩
  obtain ⟨ml, hml⟩ : ∃ ml : Nat, min nla nlb = ml := ⟨_, rfl⟩
  obtain ⟨hdd, hmm⟩ := HDD.out
  obtain ⟨hlo, hxb, hyb, hpb, hqb⟩ := HLO.out
  have hmk2 : min (nqa : Int) (nqb : Int) = (mk : Int) := by omega
  have hml2 : min (nla : Int) (nlb : Int) = (ml : Int) := by omega
  have hdd2 : d - 1 = (d0 : Int) := by omega
  have hmm2 : m - 1 = (m0 : Int) := by omega
  rw [hdd2, hmm2] at F
  have H0 : Hid (CAt B R Wl W #[.int .i64 ka, .bool ba, .int .i64 na, .string sa, .slice pla nla cla, .slice pqa nqa cqa] #[.int .i64 kb, .bool bb, .int .i64 nb, .string sb, .slice plb nlb clb, .slice pqb nqb cqb] d0 m0 0 m0 xs ys ps qs y3) := Lib.hid ⟨F, by simp, Nat.le_refl _, by simp⟩
  have HMK := Lib.hid (And.intro hmk hml)
  have HD := Lib.hid (And.intro hdd (And.intro hmm (And.intro hd' hm')))
  obtain ⟨a0, a1, a2, a3, a4, a5⟩ := F.two.1.cell
  obtain ⟨b0, b1, b2, b3, b4, b5⟩ := F.two.2.cell
  clear F hmk hml hdd hmm hdd2 hmm2 hR hP hlow hd hm hd' hm' x0 x1 x2 x3
  go_wp2
  clear a0 a1 a2 a3 a4 a5 b0 b1 b2 b3 b4 b5 hmk2 hml2
  obtain ⟨yo3, rfl⟩ : ∃ yo3 : World, yo3 = y3 := ⟨_, rfl⟩
  go_loopw [72] (fun i wr => ∃ j mj : Nat, j ≤ ml ∧ i = .int .i64 j ∧ Hid (CAt B R Wl W #[.int .i64 ka, .bool ba, .int .i64 na, .string sa, .slice pla nla cla, .slice pqa nqa cqa] #[.int .i64 kb, .bool bb, .int .i64 nb, .string sb, .slice plb nlb clb, .slice pqb nqb cqb] d0 m0 j mj xs ys ps qs wr)) (fun i _ => ml - (intOf i).toNat)
  case atStart => exact ⟨0, m0, Nat.zero_le _, rfl, H0⟩
  case round =>
    rename_i wr
    obtain ⟨j, mj, hj, rfl, HW⟩ := hrel
    clear H0
    by_cases hlt : j < ml
    · have hjx : j < nla := by have := HMK.out.2; omega
      have hjy : j < nlb := by have := HMK.out.2; omega
      obtain ⟨x, hx⟩ : ∃ x, xs[j]? = some x := ⟨xs[j]'(by rw [HXL.out.1]; exact hjx), List.getElem?_eq_getElem _⟩
      obtain ⟨y, hy⟩ : ∃ y, ys[j]? = some y := ⟨ys[j]'(by rw [HXL.out.2.1]; exact hjy), List.getElem?_eq_getElem _⟩
      obtain ⟨xb, xo, rfl, hxlo, hIx⟩ := HX.out (by rw [HXL.out.1]; omega)
      obtain ⟨yb, yo, rfl, hylo, hIy⟩ := HZ.out (by rw [HXL.out.2.1]; omega)
      obtain ⟨d0v, d1v, d2v, d3v, d4v, d5v, e0, e1, e2, e3, e4, e5, hInx⟩ := hIx.at hx
      obtain ⟨g0v, g1v, g2v, g3v, g4v, g5v, f0, f1, f2, f3, f4, f5, hIny⟩ := hIy.at hy
      have hdx : VT.partsL (xs.drop j) = x.parts + VT.partsL (xs.drop (j + 1)) := by rw [drop_at hx, VT.partsL]
      have hxm := VT.parts_mem (List.mem_of_getElem? hx)
      have hneed : x.parts ≤ mj := by have h1 := HW.out.cost; have h2 := HPN.out.2.2.1; omega
      obtain ⟨xc, hxc⟩ : ∃ xc, ordV x y = xc := ⟨_, rfl⟩
      have hcall : ∀ V, Below B Wl V → Reach V R (d0 : Int) (mj : Int) → Places V → Calls Tryd.prog 66 #[.pointer (some ⟨R, 0, none⟩), .agg #[d0v, d1v, d2v, d3v, d4v, d5v], .agg #[g0v, g1v, g2v, g3v, g4v, g5v], .func (.yield l) #[] #[]] V (CmpPost B R d0 mj WS xc x.parts V) := fun V h1 h2 h3 => by
        have := IH.out x y _ _ V d0 mj (by have := HPN.out.1; omega) (small_mem HSX.out.1 (List.mem_of_getElem? hx)) (small_mem HSX.out.2 (List.mem_of_getElem? hy)) hInx hIny (by have h4 := VT.parts_mem (List.mem_of_getElem? hy); have := HPN.out.2.2.2; omega) h1 h2 h3 (by have := HPN.out.2.1; omega) hneed (by have := HD.out; omega) (by have := HD.out; have := HW.out.le; omega)
        rwa [hxc] at this
      have hord := ordL_at (ps := ps) (qs := qs) hx hy
      rw [hxc, HXL.out.2.2.1, HXL.out.2.2.2] at hord
      have HORD := Lib.hid hord
      have HDX := Lib.hid hdx
      clear hIx hIy hInx hIny hx hy hxc hord hdx hxm hneed
      by_cases hk : j < mk
      · have hjp : j < nqa := by have := HMK.out.1; omega
        have hjq : j < nqb := by have := HMK.out.1; omega
        obtain ⟨pb, po, rfl, hplo, hcp⟩ := HPK.out.1 (by rw [HXL.out.2.2.1]; omega)
        obtain ⟨qb, qo, rfl, hqlo, hcq⟩ := HPK.out.2 (by rw [HXL.out.2.2.2]; omega)
        have g1 := hcp j (by rw [HXL.out.2.2.1]; exact hjp)
        have g2 := hcq j (by rw [HXL.out.2.2.2]; exact hjq)
        have hord := HORD.out
        rw [HMK.out.1, if_pos hk] at hord
        obtain ⟨kx, hkx⟩ : ∃ kx, ps.getD j default = kx := ⟨_, rfl⟩
        obtain ⟨ky, hky⟩ : ∃ ky, qs.getD j default = ky := ⟨_, rfl⟩
        rw [hkx, hky] at hord
        rw [hkx] at g1
        rw [hky] at g2
        have HORD2 := Lib.hid hord
        clear hcp hcq hkx hky hord
        by_cases hkc : Lib.compareBytes kx.data.toList ky.data.toList = 0
        · by_cases hxc0 : xc = 0
          · have HCALL : Hid (∀ V, Below B Wl V → Reach V R (d0 : Int) (mj : Int) → Places V → Calls Tryd.prog 66 #[.pointer (some ⟨R, 0, none⟩), .agg #[d0v, d1v, d2v, d3v, d4v, d5v], .agg #[g0v, g1v, g2v, g3v, g4v, g5v], .func (.yield l) #[] #[]] V fun e w3 => e = .returned (.bool true) ∧ Keeps (· = R) V w3 ∧ ∃ m3 : Nat, Reach w3 R d0 m3 ∧ m3 ≤ mj ∧ mj ≤ m3 + x.parts) := Lib.hid fun V h1 h2 h3 => (hcall V h1 h2 h3).mono fun e w3 h => by
              rcases h with ⟨-, h⟩ | ⟨h, -⟩
              · exact h
              · exact absurd hxc0 h
            have HST : Hid (ordL xs ys ps qs = ordL (xs.drop (j + 1)) (ys.drop (j + 1)) (ps.drop (j + 1)) (qs.drop (j + 1))) := Lib.hid (by
              rw [HW.out.rest, HORD2.out, hkc, hxc0]; rfl)
            clear hcall hxc0
            go_wp2_with fail
            have F0 := HW.out.fy.drew
            have hS0 : Two W.heap.size #[.int .i64 ka, .bool ba, .int .i64 na, .string sa, .slice (some ⟨xb, xo, none⟩) nla cla, .slice (some ⟨pb, po, none⟩) nqa cqa] #[.int .i64 kb, .bool bb, .int .i64 nb, .string sb, .slice (some ⟨yb, yo, none⟩) nlb clb, .slice (some ⟨qb, qo, none⟩) nqb cqb] wr.drew ∧ ∀ p : Addr, p.block < lo → wr.drew.cell? p = Wl.cell? p := ⟨F0.two, fun p hp => F0.low.cell (Nat.lt_of_lt_of_le hp hlo)⟩
            rename_i Q' K7 hK7
            refine wp_region_noPanic ?_
            refine wpIn_wide (n := 5).1 ?_
            refine wpIn_region_text (fun V => Two W.heap.size #[.int .i64 ka, .bool ba, .int .i64 na, .string sa, .slice (some ⟨xb, xo, none⟩) nla cla, .slice (some ⟨pb, po, none⟩) nqa cqa] #[.int .i64 kb, .bool bb, .int .i64 nb, .string sb, .slice (some ⟨yb, yo, none⟩) nlb clb, .slice (some ⟨qb, qo, none⟩) nqb cqb] V ∧ ∀ p : Addr, p.block < lo → V.cell? p = Wl.cell? p) [0, 1, 2, 3, 4, 5, 6, 7, 8, 9, 10, 11, 12, 13, 14, 15, 16, 17, 18, 19, 20, 21, 22, 23, 24, 25, 26, 27, 28, 29, 30, 31, 32, 33, 34] rfl (by kernel_rfl) (by kernel_rfl) (by kernel_rfl) (by kernel_rfl) (fun _ _ _ _ _ h => h) hS0 ?_
            refine textS_take (o := _) (.int .i64 j) (by conv => lhs; simp only [List.getElem?_toArray, List.getElem?_cons_succ, List.getElem?_cons_zero]) (by rfl) (by rfl) ?_ (fun _ => by rfl) (by conv => lhs; simp only [Act.put, List.setIfInBounds_toArray, List.set_cons_succ, List.set_cons_zero]) ?_
            · intro w _; go_simp
            refine textS_take (o := _) (.int .i64 mk) (by conv => lhs; simp only [List.getElem?_toArray, List.getElem?_cons_succ, List.getElem?_cons_zero]) (by rfl) (by rfl) ?_ (fun _ => by rfl) (by conv => lhs; simp only [Act.put, List.setIfInBounds_toArray, List.set_cons_succ, List.set_cons_zero]) ?_
            · intro w _; go_simp
            refine textS_take (o := _) (.bool true) (by conv => lhs; simp only [List.getElem?_toArray, List.getElem?_cons_succ, List.getElem?_cons_zero]) (by rfl) (by rfl) ?_ (fun _ => by rfl) (by conv => lhs; simp only [Act.put, List.setIfInBounds_toArray, List.set_cons_succ, List.set_cons_zero]) ?_
            · intro w _; go_simp
            refine textS_take (o := _) (.bool true) (by conv => lhs; simp only [List.getElem?_toArray, List.getElem?_cons_succ, List.getElem?_cons_zero]) (by rfl) (by rfl) ?_ (fun _ => by rfl) (by conv => lhs; simp only [Act.put, List.setIfInBounds_toArray, List.set_cons_succ, List.set_cons_zero]) ?_
            · intro w _; go_simp
            refine textS_take (o := _) (.func (.yield l) #[] #[]) (by conv => lhs; simp only [List.getElem?_toArray, List.getElem?_cons_succ, List.getElem?_cons_zero]) (by rfl) (by rfl) ?_ (fun _ => by rfl) (by conv => lhs; simp only [Act.put, List.setIfInBounds_toArray, List.set_cons_succ, List.set_cons_zero]) ?_
            · intro w _; go_simp
            refine textS_take (o := _) (.pointer (some ⟨W.heap.size, 5, none⟩)) (by conv => lhs; simp only [List.getElem?_toArray, List.getElem?_cons_succ, List.getElem?_cons_zero]) (by rfl) (by rfl) ?_ (fun _ => by rfl) (by conv => lhs; simp only [Act.put, List.setIfInBounds_toArray, List.set_cons_succ, List.set_cons_zero]) ?_
            · intro w _; go_simp
            refine textS_take (o := _) (.slice (some ⟨pb, po, none⟩) nqa cqa) (by conv => lhs; simp only [List.getElem?_toArray, List.getElem?_cons_succ, List.getElem?_cons_zero]) (by rfl) (by rfl) ?_ (fun _ => by rfl) (by conv => lhs; simp only [Act.put, List.setIfInBounds_toArray, List.set_cons_succ, List.set_cons_zero]) ?_
            · rintro w1 ⟨t0, t1⟩; obtain ⟨c0, c1, c2, c3, c4, c5⟩ := t0.1.cell; clear t0 t1; go_simp
            refine textS_take (o := _) (.int .i64 j) (by conv => lhs; simp only [List.getElem?_toArray, List.getElem?_cons_succ, List.getElem?_cons_zero]) (by rfl) (by rfl) ?_ (fun _ => by rfl) (by conv => lhs; simp only [Act.put, List.setIfInBounds_toArray, List.set_cons_succ, List.set_cons_zero]) ?_
            · intro w _; go_simp
            refine textS_take (o := _) (.pointer (some ⟨pb, po + j, none⟩)) (by conv => lhs; simp only [List.getElem?_toArray, List.getElem?_cons_succ, List.getElem?_cons_zero]) (by rfl) (by rfl) ?_ (fun _ => by rfl) (by conv => lhs; simp only [Act.put, List.setIfInBounds_toArray, List.set_cons_succ, List.set_cons_zero]) ?_
            · intro w _; go_simp
            refine textS_take (o := _) (.string kx) (by conv => lhs; simp only [List.getElem?_toArray, List.getElem?_cons_succ, List.getElem?_cons_zero]) (by rfl) (by rfl) ?_ (fun _ => by rfl) (by conv => lhs; simp only [Act.put, List.setIfInBounds_toArray, List.set_cons_succ, List.set_cons_zero]) ?_
            · rintro w1 ⟨t0, t1⟩; have q0 := (t1 ⟨pb, po + j, none⟩ (by assumption)).trans g1; clear t0 t1; go_simp
            refine textS_take (o := _) (.pointer (some ⟨W.heap.size + 1, 5, none⟩)) (by conv => lhs; simp only [List.getElem?_toArray, List.getElem?_cons_succ, List.getElem?_cons_zero]) (by rfl) (by rfl) ?_ (fun _ => by rfl) (by conv => lhs; simp only [Act.put, List.setIfInBounds_toArray, List.set_cons_succ, List.set_cons_zero]) ?_
            · intro w _; go_simp
            refine textS_take (o := _) (.slice (some ⟨qb, qo, none⟩) nqb cqb) (by conv => lhs; simp only [List.getElem?_toArray, List.getElem?_cons_succ, List.getElem?_cons_zero]) (by rfl) (by rfl) ?_ (fun _ => by rfl) (by conv => lhs; simp only [Act.put, List.setIfInBounds_toArray, List.set_cons_succ, List.set_cons_zero]) ?_
            · rintro w1 ⟨t0, t1⟩; obtain ⟨c0, c1, c2, c3, c4, c5⟩ := t0.2.cell; clear t0 t1; go_simp
            refine textS_take (o := _) (.int .i64 j) (by conv => lhs; simp only [List.getElem?_toArray, List.getElem?_cons_succ, List.getElem?_cons_zero]) (by rfl) (by rfl) ?_ (fun _ => by rfl) (by conv => lhs; simp only [Act.put, List.setIfInBounds_toArray, List.set_cons_succ, List.set_cons_zero]) ?_
            · intro w _; go_simp
            refine textS_take (o := _) (.pointer (some ⟨qb, qo + j, none⟩)) (by conv => lhs; simp only [List.getElem?_toArray, List.getElem?_cons_succ, List.getElem?_cons_zero]) (by rfl) (by rfl) ?_ (fun _ => by rfl) (by conv => lhs; simp only [Act.put, List.setIfInBounds_toArray, List.set_cons_succ, List.set_cons_zero]) ?_
            · intro w _; go_simp
            refine textS_take (o := _) (.string ky) (by conv => lhs; simp only [List.getElem?_toArray, List.getElem?_cons_succ, List.getElem?_cons_zero]) (by rfl) (by rfl) ?_ (fun _ => by rfl) (by conv => lhs; simp only [Act.put, List.setIfInBounds_toArray, List.set_cons_succ, List.set_cons_zero]) ?_
            · rintro w1 ⟨t0, t1⟩; have q0 := (t1 ⟨qb, qo + j, none⟩ (by assumption)).trans g2; clear t0 t1; go_simp
            refine textS_call (o := _) (by conv => lhs; simp only [List.getElem?_toArray, List.getElem?_cons_succ, List.getElem?_cons_zero]) (by rfl) (by rfl) ?_
            refine wpIn_call rfl ?_ (zero_of hkc (str_cmp kx ky wr.drew)) ?_
            · go_simp
            rintro e w2 ⟨rfl, rfl⟩
            refine ⟨_, _, rfl, (by conv => lhs; simp only [Act.put, List.setIfInBounds_toArray, List.set_cons_succ, List.set_cons_zero]), hS0, ?_⟩
            refine textS_call (o := _) (by conv => lhs; simp only [List.getElem?_toArray, List.getElem?_cons_succ, List.getElem?_cons_zero]) (by rfl) (by rfl) ?_
            obtain ⟨fn, tm, as1, bd, hy, hr⟩ := hY.zero 4 _ F0.low
            refine wpIn_yield rfl ?_ hr ?_
            · go_simp
            rintro e y7 ⟨rfl, hlow7⟩
            have F7 := F0.zero hB hlow7
            clear hy hr hlow7
            have hS7 : Two W.heap.size #[.int .i64 ka, .bool ba, .int .i64 na, .string sa, .slice (some ⟨xb, xo, none⟩) nla cla, .slice (some ⟨pb, po, none⟩) nqa cqa] #[.int .i64 kb, .bool bb, .int .i64 nb, .string sb, .slice (some ⟨yb, yo, none⟩) nlb clb, .slice (some ⟨qb, qo, none⟩) nqb cqb] y7 ∧ ∀ p : Addr, p.block < lo → y7.cell? p = Wl.cell? p := ⟨F7.two, fun p hp => F7.low.cell (Nat.lt_of_lt_of_le hp hlo)⟩
            refine ⟨_, _, rfl, (by conv => lhs; simp only [Act.put, List.setIfInBounds_toArray, List.set_cons_succ, List.set_cons_zero]), hS7, ?_⟩
            refine textS_take (o := _) (.bool false) (by conv => lhs; simp only [List.getElem?_toArray, List.getElem?_cons_succ, List.getElem?_cons_zero]) (by rfl) (by rfl) ?_ (fun _ => by rfl) (by conv => lhs; simp only [Act.put, List.setIfInBounds_toArray, List.set_cons_succ, List.set_cons_zero]) ?_
            · intro w _; go_simp
            refine textS_take (o := _) (.bool false) (by conv => lhs; simp only [List.getElem?_toArray, List.getElem?_cons_succ, List.getElem?_cons_zero]) (by rfl) (by rfl) ?_ (fun _ => by rfl) (by conv => lhs; simp only [Act.put, List.setIfInBounds_toArray, List.set_cons_succ, List.set_cons_zero]) ?_
            · intro w _; go_simp
            refine textS_take (o := _) (.bool false) (by conv => lhs; simp only [List.getElem?_toArray, List.getElem?_cons_succ, List.getElem?_cons_zero]) (by rfl) (by rfl) ?_ (fun _ => by rfl) (by conv => lhs; simp only [Act.put, List.setIfInBounds_toArray, List.set_cons_succ, List.set_cons_zero]) ?_
            · intro w _; go_simp
            refine textS_take (o := _) (.pointer (some ⟨R, 0, none⟩)) (by conv => lhs; simp only [List.getElem?_toArray, List.getElem?_cons_succ, List.getElem?_cons_zero]) (by rfl) (by rfl) ?_ (fun _ => by rfl) (by conv => lhs; simp only [Act.put, List.setIfInBounds_toArray, List.set_cons_succ, List.set_cons_zero]) ?_
            · intro w _; go_simp
            refine textS_take (o := _) (.pointer (some ⟨W.heap.size, 4, none⟩)) (by conv => lhs; simp only [List.getElem?_toArray, List.getElem?_cons_succ, List.getElem?_cons_zero]) (by rfl) (by rfl) ?_ (fun _ => by rfl) (by conv => lhs; simp only [Act.put, List.setIfInBounds_toArray, List.set_cons_succ, List.set_cons_zero]) ?_
            · intro w _; go_simp
            refine textS_take (o := _) (.slice (some ⟨xb, xo, none⟩) nla cla) (by conv => lhs; simp only [List.getElem?_toArray, List.getElem?_cons_succ, List.getElem?_cons_zero]) (by rfl) (by rfl) ?_ (fun _ => by rfl) (by conv => lhs; simp only [Act.put, List.setIfInBounds_toArray, List.set_cons_succ, List.set_cons_zero]) ?_
            · rintro w1 ⟨t0, t1⟩; obtain ⟨c0, c1, c2, c3, c4, c5⟩ := t0.1.cell; clear t0 t1; go_simp
            refine textS_take (o := _) (.int .i64 j) (by conv => lhs; simp only [List.getElem?_toArray, List.getElem?_cons_succ, List.getElem?_cons_zero]) (by rfl) (by rfl) ?_ (fun _ => by rfl) (by conv => lhs; simp only [Act.put, List.setIfInBounds_toArray, List.set_cons_succ, List.set_cons_zero]) ?_
            · intro w _; go_simp
            refine textS_take (o := _) (.pointer (some ⟨xb, xo + j * 6, none⟩)) (by conv => lhs; simp only [List.getElem?_toArray, List.getElem?_cons_succ, List.getElem?_cons_zero]) (by rfl) (by rfl) ?_ (fun _ => by rfl) (by conv => lhs; simp only [Act.put, List.setIfInBounds_toArray, List.set_cons_succ, List.set_cons_zero]) ?_
            · intro w _; go_simp
            refine textS_take (o := _) (.agg #[d0v, d1v, d2v, d3v, d4v, d5v]) (by conv => lhs; simp only [List.getElem?_toArray, List.getElem?_cons_succ, List.getElem?_cons_zero]) (by rfl) (by rfl) ?_ (fun _ => by rfl) (by conv => lhs; simp only [Act.put, List.setIfInBounds_toArray, List.set_cons_succ, List.set_cons_zero]) ?_
            · rintro w1 ⟨t0, t1⟩; have q0 := (t1 ⟨xb, xo + j * 6, none⟩ (by assumption)).trans e0; have q1 := (t1 ⟨xb, xo + j * 6 + 1, none⟩ (by assumption)).trans e1; have q2 := (t1 ⟨xb, xo + j * 6 + 2, none⟩ (by assumption)).trans e2; have q3 := (t1 ⟨xb, xo + j * 6 + 3, none⟩ (by assumption)).trans e3; have q4 := (t1 ⟨xb, xo + j * 6 + 4, none⟩ (by assumption)).trans e4; have q5 := (t1 ⟨xb, xo + j * 6 + 5, none⟩ (by assumption)).trans e5; clear t0 t1; go_simp
            refine textS_take (o := _) (.pointer (some ⟨W.heap.size + 1, 4, none⟩)) (by conv => lhs; simp only [List.getElem?_toArray, List.getElem?_cons_succ, List.getElem?_cons_zero]) (by rfl) (by rfl) ?_ (fun _ => by rfl) (by conv => lhs; simp only [Act.put, List.setIfInBounds_toArray, List.set_cons_succ, List.set_cons_zero]) ?_
            · intro w _; go_simp
            refine textS_take (o := _) (.slice (some ⟨yb, yo, none⟩) nlb clb) (by conv => lhs; simp only [List.getElem?_toArray, List.getElem?_cons_succ, List.getElem?_cons_zero]) (by rfl) (by rfl) ?_ (fun _ => by rfl) (by conv => lhs; simp only [Act.put, List.setIfInBounds_toArray, List.set_cons_succ, List.set_cons_zero]) ?_
            · rintro w1 ⟨t0, t1⟩; obtain ⟨c0, c1, c2, c3, c4, c5⟩ := t0.2.cell; clear t0 t1; go_simp
            refine textS_take (o := _) (.int .i64 j) (by conv => lhs; simp only [List.getElem?_toArray, List.getElem?_cons_succ, List.getElem?_cons_zero]) (by rfl) (by rfl) ?_ (fun _ => by rfl) (by conv => lhs; simp only [Act.put, List.setIfInBounds_toArray, List.set_cons_succ, List.set_cons_zero]) ?_
            · intro w _; go_simp
            refine textS_take (o := _) (.pointer (some ⟨yb, yo + j * 6, none⟩)) (by conv => lhs; simp only [List.getElem?_toArray, List.getElem?_cons_succ, List.getElem?_cons_zero]) (by rfl) (by rfl) ?_ (fun _ => by rfl) (by conv => lhs; simp only [Act.put, List.setIfInBounds_toArray, List.set_cons_succ, List.set_cons_zero]) ?_
            · intro w _; go_simp
            refine textS_take (o := _) (.agg #[g0v, g1v, g2v, g3v, g4v, g5v]) (by conv => lhs; simp only [List.getElem?_toArray, List.getElem?_cons_succ, List.getElem?_cons_zero]) (by rfl) (by rfl) ?_ (fun _ => by rfl) (by conv => lhs; simp only [Act.put, List.setIfInBounds_toArray, List.set_cons_succ, List.set_cons_zero]) ?_
            · rintro w1 ⟨t0, t1⟩; have q0 := (t1 ⟨yb, yo + j * 6, none⟩ (by assumption)).trans f0; have q1 := (t1 ⟨yb, yo + j * 6 + 1, none⟩ (by assumption)).trans f1; have q2 := (t1 ⟨yb, yo + j * 6 + 2, none⟩ (by assumption)).trans f2; have q3 := (t1 ⟨yb, yo + j * 6 + 3, none⟩ (by assumption)).trans f3; have q4 := (t1 ⟨yb, yo + j * 6 + 4, none⟩ (by assumption)).trans f4; have q5 := (t1 ⟨yb, yo + j * 6 + 5, none⟩ (by assumption)).trans f5; clear t0 t1; go_simp
            refine textS_take (o := _) (.func (.yield l) #[] #[]) (by conv => lhs; simp only [List.getElem?_toArray, List.getElem?_cons_succ, List.getElem?_cons_zero]) (by rfl) (by rfl) ?_ (fun _ => by rfl) (by conv => lhs; simp only [Act.put, List.setIfInBounds_toArray, List.set_cons_succ, List.set_cons_zero]) ?_
            · intro w _; go_simp
            refine textS_call (o := _) (by conv => lhs; simp only [List.getElem?_toArray, List.getElem?_cons_succ, List.getElem?_cons_zero]) (by rfl) (by rfl) ?_
            refine wpIn_call rfl ?_ (HCALL.out _ F7.low F7.reach F7.places) ?_
            · go_simp
            rintro e w3 ⟨rfl, hk3, m3, hr3, hle3, hc3⟩
            have F3 : Fy B R Wl W #[.int .i64 ka, .bool ba, .int .i64 na, .string sa, .slice (some ⟨xb, xo, none⟩) nla cla, .slice (some ⟨pb, po, none⟩) nqa cqa] #[.int .i64 kb, .bool bb, .int .i64 nb, .string sb, .slice (some ⟨yb, yo, none⟩) nlb clb, .slice (some ⟨qb, qo, none⟩) nqb cqb] (d0 : Int) (m3 : Int) w3 := F7.callee hk3 hr3 hB hRB hRA hg hBA
            have hS3 : Two W.heap.size #[.int .i64 ka, .bool ba, .int .i64 na, .string sa, .slice (some ⟨xb, xo, none⟩) nla cla, .slice (some ⟨pb, po, none⟩) nqa cqa] #[.int .i64 kb, .bool bb, .int .i64 nb, .string sb, .slice (some ⟨yb, yo, none⟩) nlb clb, .slice (some ⟨qb, qo, none⟩) nqb cqb] w3 ∧ ∀ p : Addr, p.block < lo → w3.cell? p = Wl.cell? p := ⟨F3.two, fun p hp => F3.low.cell (Nat.lt_of_lt_of_le hp hlo)⟩
            refine ⟨_, _, rfl, (by conv => lhs; simp only [Act.put, List.setIfInBounds_toArray, List.set_cons_succ, List.set_cons_zero]), hS3, ?_⟩
            refine textS_take (o := _) (.bool false) (by conv => lhs; simp only [List.getElem?_toArray, List.getElem?_cons_succ, List.getElem?_cons_zero]) (by rfl) (by rfl) ?_ (fun _ => by rfl) (by conv => lhs; simp only [Act.put, List.setIfInBounds_toArray, List.set_cons_succ, List.set_cons_zero]) ?_
            · intro w _; go_simp
            refine textS_take (o := _) (.bool false) (by conv => lhs; simp only [List.getElem?_toArray, List.getElem?_cons_succ, List.getElem?_cons_zero]) (by rfl) (by rfl) ?_ (fun _ => by rfl) (by conv => lhs; simp only [Act.put, List.setIfInBounds_toArray, List.set_cons_succ, List.set_cons_zero]) ?_
            · intro w _; go_simp
            refine NoPanic.normal ?_
            refine hK7 _ _ ?_
            clear hK7
            have HNEW : Hid (CAt B R Wl W _ _ d0 m0 (j + 1) m3 xs ys ps qs w3) := Lib.hid ⟨F3, HST.out, Nat.le_trans hle3 HW.out.le, by have h1 := HW.out.cost; have h2 := HDX.out; omega⟩
            clear F0 F7 F3 hS0 hS7 hS3 hk3 hr3 hle3 hc3 HCALL e0 e1 e2 e3 e4 e5 f0 f1 f2 f3 f4 f5
            go_wp2_with fail
            go_roundw
            case rel => exact ⟨j + 1, m3, by omega, by go_num, HNEW⟩
            case measure => simp [intOf]; omega
          · have HCALL : Hid (∀ V, Below B Wl V → Reach V R (d0 : Int) (mj : Int) → Places V → Calls Tryd.prog 66 #[.pointer (some ⟨R, 0, none⟩), .agg #[d0v, d1v, d2v, d3v, d4v, d5v], .agg #[g0v, g1v, g2v, g3v, g4v, g5v], .func (.yield l) #[] #[]] V fun e w3 => e = .returned (.bool false) ∧ Below B (WS xc) w3 ∧ AboveR B R V w3) := Lib.hid fun V h1 h2 h3 => (hcall V h1 h2 h3).mono fun e w3 h => by
              rcases h with ⟨h, -⟩ | ⟨-, h⟩
              · exact absurd h hxc0
              · exact h
            have HST : Hid (c ≠ 0 ∧ c = xc) := Lib.hid (by
              have : c = xc := by rw [← HC.out, HW.out.rest, HORD2.out, hkc]; unfold orE; rw [if_pos rfl, if_neg hxc0, if_neg hxc0]
              exact ⟨by rw [this]; exact hxc0, this⟩)
            clear hcall hxc0
            go_wp2_with fail
            have F0 := HW.out.fy.drew
            have hS0 : Two W.heap.size #[.int .i64 ka, .bool ba, .int .i64 na, .string sa, .slice (some ⟨xb, xo, none⟩) nla cla, .slice (some ⟨pb, po, none⟩) nqa cqa] #[.int .i64 kb, .bool bb, .int .i64 nb, .string sb, .slice (some ⟨yb, yo, none⟩) nlb clb, .slice (some ⟨qb, qo, none⟩) nqb cqb] wr.drew ∧ ∀ p : Addr, p.block < lo → wr.drew.cell? p = Wl.cell? p := ⟨F0.two, fun p hp => F0.low.cell (Nat.lt_of_lt_of_le hp hlo)⟩
            rename_i Q' K7 hK7
            refine wp_region_noPanic ?_
            refine wpIn_wide (n := 5).1 ?_
            refine wpIn_region_text (fun V => Two W.heap.size #[.int .i64 ka, .bool ba, .int .i64 na, .string sa, .slice (some ⟨xb, xo, none⟩) nla cla, .slice (some ⟨pb, po, none⟩) nqa cqa] #[.int .i64 kb, .bool bb, .int .i64 nb, .string sb, .slice (some ⟨yb, yo, none⟩) nlb clb, .slice (some ⟨qb, qo, none⟩) nqb cqb] V ∧ ∀ p : Addr, p.block < lo → V.cell? p = Wl.cell? p) [0, 1, 2, 3, 4, 5, 6, 7, 8, 9, 10, 11, 12, 13, 14, 15, 16, 17, 18, 19, 20, 21, 22, 23, 24, 25, 26, 27, 28, 29, 30, 31, 32, 33, 34] rfl (by kernel_rfl) (by kernel_rfl) (by kernel_rfl) (by kernel_rfl) (fun _ _ _ _ _ h => h) hS0 ?_
            refine textS_take (o := _) (.int .i64 j) (by conv => lhs; simp only [List.getElem?_toArray, List.getElem?_cons_succ, List.getElem?_cons_zero]) (by rfl) (by rfl) ?_ (fun _ => by rfl) (by conv => lhs; simp only [Act.put, List.setIfInBounds_toArray, List.set_cons_succ, List.set_cons_zero]) ?_
            · intro w _; go_simp
            refine textS_take (o := _) (.int .i64 mk) (by conv => lhs; simp only [List.getElem?_toArray, List.getElem?_cons_succ, List.getElem?_cons_zero]) (by rfl) (by rfl) ?_ (fun _ => by rfl) (by conv => lhs; simp only [Act.put, List.setIfInBounds_toArray, List.set_cons_succ, List.set_cons_zero]) ?_
            · intro w _; go_simp
            refine textS_take (o := _) (.bool true) (by conv => lhs; simp only [List.getElem?_toArray, List.getElem?_cons_succ, List.getElem?_cons_zero]) (by rfl) (by rfl) ?_ (fun _ => by rfl) (by conv => lhs; simp only [Act.put, List.setIfInBounds_toArray, List.set_cons_succ, List.set_cons_zero]) ?_
            · intro w _; go_simp
            refine textS_take (o := _) (.bool true) (by conv => lhs; simp only [List.getElem?_toArray, List.getElem?_cons_succ, List.getElem?_cons_zero]) (by rfl) (by rfl) ?_ (fun _ => by rfl) (by conv => lhs; simp only [Act.put, List.setIfInBounds_toArray, List.set_cons_succ, List.set_cons_zero]) ?_
            · intro w _; go_simp
            refine textS_take (o := _) (.func (.yield l) #[] #[]) (by conv => lhs; simp only [List.getElem?_toArray, List.getElem?_cons_succ, List.getElem?_cons_zero]) (by rfl) (by rfl) ?_ (fun _ => by rfl) (by conv => lhs; simp only [Act.put, List.setIfInBounds_toArray, List.set_cons_succ, List.set_cons_zero]) ?_
            · intro w _; go_simp
            refine textS_take (o := _) (.pointer (some ⟨W.heap.size, 5, none⟩)) (by conv => lhs; simp only [List.getElem?_toArray, List.getElem?_cons_succ, List.getElem?_cons_zero]) (by rfl) (by rfl) ?_ (fun _ => by rfl) (by conv => lhs; simp only [Act.put, List.setIfInBounds_toArray, List.set_cons_succ, List.set_cons_zero]) ?_
            · intro w _; go_simp
            refine textS_take (o := _) (.slice (some ⟨pb, po, none⟩) nqa cqa) (by conv => lhs; simp only [List.getElem?_toArray, List.getElem?_cons_succ, List.getElem?_cons_zero]) (by rfl) (by rfl) ?_ (fun _ => by rfl) (by conv => lhs; simp only [Act.put, List.setIfInBounds_toArray, List.set_cons_succ, List.set_cons_zero]) ?_
            · rintro w1 ⟨t0, t1⟩; obtain ⟨c0, c1, c2, c3, c4, c5⟩ := t0.1.cell; clear t0 t1; go_simp
            refine textS_take (o := _) (.int .i64 j) (by conv => lhs; simp only [List.getElem?_toArray, List.getElem?_cons_succ, List.getElem?_cons_zero]) (by rfl) (by rfl) ?_ (fun _ => by rfl) (by conv => lhs; simp only [Act.put, List.setIfInBounds_toArray, List.set_cons_succ, List.set_cons_zero]) ?_
            · intro w _; go_simp
            refine textS_take (o := _) (.pointer (some ⟨pb, po + j, none⟩)) (by conv => lhs; simp only [List.getElem?_toArray, List.getElem?_cons_succ, List.getElem?_cons_zero]) (by rfl) (by rfl) ?_ (fun _ => by rfl) (by conv => lhs; simp only [Act.put, List.setIfInBounds_toArray, List.set_cons_succ, List.set_cons_zero]) ?_
            · intro w _; go_simp
            refine textS_take (o := _) (.string kx) (by conv => lhs; simp only [List.getElem?_toArray, List.getElem?_cons_succ, List.getElem?_cons_zero]) (by rfl) (by rfl) ?_ (fun _ => by rfl) (by conv => lhs; simp only [Act.put, List.setIfInBounds_toArray, List.set_cons_succ, List.set_cons_zero]) ?_
            · rintro w1 ⟨t0, t1⟩; have q0 := (t1 ⟨pb, po + j, none⟩ (by assumption)).trans g1; clear t0 t1; go_simp
            refine textS_take (o := _) (.pointer (some ⟨W.heap.size + 1, 5, none⟩)) (by conv => lhs; simp only [List.getElem?_toArray, List.getElem?_cons_succ, List.getElem?_cons_zero]) (by rfl) (by rfl) ?_ (fun _ => by rfl) (by conv => lhs; simp only [Act.put, List.setIfInBounds_toArray, List.set_cons_succ, List.set_cons_zero]) ?_
            · intro w _; go_simp
            refine textS_take (o := _) (.slice (some ⟨qb, qo, none⟩) nqb cqb) (by conv => lhs; simp only [List.getElem?_toArray, List.getElem?_cons_succ, List.getElem?_cons_zero]) (by rfl) (by rfl) ?_ (fun _ => by rfl) (by conv => lhs; simp only [Act.put, List.setIfInBounds_toArray, List.set_cons_succ, List.set_cons_zero]) ?_
            · rintro w1 ⟨t0, t1⟩; obtain ⟨c0, c1, c2, c3, c4, c5⟩ := t0.2.cell; clear t0 t1; go_simp
            refine textS_take (o := _) (.int .i64 j) (by conv => lhs; simp only [List.getElem?_toArray, List.getElem?_cons_succ, List.getElem?_cons_zero]) (by rfl) (by rfl) ?_ (fun _ => by rfl) (by conv => lhs; simp only [Act.put, List.setIfInBounds_toArray, List.set_cons_succ, List.set_cons_zero]) ?_
            · intro w _; go_simp
            refine textS_take (o := _) (.pointer (some ⟨qb, qo + j, none⟩)) (by conv => lhs; simp only [List.getElem?_toArray, List.getElem?_cons_succ, List.getElem?_cons_zero]) (by rfl) (by rfl) ?_ (fun _ => by rfl) (by conv => lhs; simp only [Act.put, List.setIfInBounds_toArray, List.set_cons_succ, List.set_cons_zero]) ?_
            · intro w _; go_simp
            refine textS_take (o := _) (.string ky) (by conv => lhs; simp only [List.getElem?_toArray, List.getElem?_cons_succ, List.getElem?_cons_zero]) (by rfl) (by rfl) ?_ (fun _ => by rfl) (by conv => lhs; simp only [Act.put, List.setIfInBounds_toArray, List.set_cons_succ, List.set_cons_zero]) ?_
            · rintro w1 ⟨t0, t1⟩; have q0 := (t1 ⟨qb, qo + j, none⟩ (by assumption)).trans g2; clear t0 t1; go_simp
            refine textS_call (o := _) (by conv => lhs; simp only [List.getElem?_toArray, List.getElem?_cons_succ, List.getElem?_cons_zero]) (by rfl) (by rfl) ?_
            refine wpIn_call rfl ?_ (zero_of hkc (str_cmp kx ky wr.drew)) ?_
            · go_simp
            rintro e w2 ⟨rfl, rfl⟩
            refine ⟨_, _, rfl, (by conv => lhs; simp only [Act.put, List.setIfInBounds_toArray, List.set_cons_succ, List.set_cons_zero]), hS0, ?_⟩
            refine textS_call (o := _) (by conv => lhs; simp only [List.getElem?_toArray, List.getElem?_cons_succ, List.getElem?_cons_zero]) (by rfl) (by rfl) ?_
            obtain ⟨fn, tm, as1, bd, hy, hr⟩ := hY.zero 4 _ F0.low
            refine wpIn_yield rfl ?_ hr ?_
            · go_simp
            rintro e y7 ⟨rfl, hlow7⟩
            have F7 := F0.zero hB hlow7
            clear hy hr hlow7
            have hS7 : Two W.heap.size #[.int .i64 ka, .bool ba, .int .i64 na, .string sa, .slice (some ⟨xb, xo, none⟩) nla cla, .slice (some ⟨pb, po, none⟩) nqa cqa] #[.int .i64 kb, .bool bb, .int .i64 nb, .string sb, .slice (some ⟨yb, yo, none⟩) nlb clb, .slice (some ⟨qb, qo, none⟩) nqb cqb] y7 ∧ ∀ p : Addr, p.block < lo → y7.cell? p = Wl.cell? p := ⟨F7.two, fun p hp => F7.low.cell (Nat.lt_of_lt_of_le hp hlo)⟩
            refine ⟨_, _, rfl, (by conv => lhs; simp only [Act.put, List.setIfInBounds_toArray, List.set_cons_succ, List.set_cons_zero]), hS7, ?_⟩
            refine textS_take (o := _) (.bool false) (by conv => lhs; simp only [List.getElem?_toArray, List.getElem?_cons_succ, List.getElem?_cons_zero]) (by rfl) (by rfl) ?_ (fun _ => by rfl) (by conv => lhs; simp only [Act.put, List.setIfInBounds_toArray, List.set_cons_succ, List.set_cons_zero]) ?_
            · intro w _; go_simp
            refine textS_take (o := _) (.bool false) (by conv => lhs; simp only [List.getElem?_toArray, List.getElem?_cons_succ, List.getElem?_cons_zero]) (by rfl) (by rfl) ?_ (fun _ => by rfl) (by conv => lhs; simp only [Act.put, List.setIfInBounds_toArray, List.set_cons_succ, List.set_cons_zero]) ?_
            · intro w _; go_simp
            refine textS_take (o := _) (.bool false) (by conv => lhs; simp only [List.getElem?_toArray, List.getElem?_cons_succ, List.getElem?_cons_zero]) (by rfl) (by rfl) ?_ (fun _ => by rfl) (by conv => lhs; simp only [Act.put, List.setIfInBounds_toArray, List.set_cons_succ, List.set_cons_zero]) ?_
            · intro w _; go_simp
            refine textS_take (o := _) (.pointer (some ⟨R, 0, none⟩)) (by conv => lhs; simp only [List.getElem?_toArray, List.getElem?_cons_succ, List.getElem?_cons_zero]) (by rfl) (by rfl) ?_ (fun _ => by rfl) (by conv => lhs; simp only [Act.put, List.setIfInBounds_toArray, List.set_cons_succ, List.set_cons_zero]) ?_
            · intro w _; go_simp
            refine textS_take (o := _) (.pointer (some ⟨W.heap.size, 4, none⟩)) (by conv => lhs; simp only [List.getElem?_toArray, List.getElem?_cons_succ, List.getElem?_cons_zero]) (by rfl) (by rfl) ?_ (fun _ => by rfl) (by conv => lhs; simp only [Act.put, List.setIfInBounds_toArray, List.set_cons_succ, List.set_cons_zero]) ?_
            · intro w _; go_simp
            refine textS_take (o := _) (.slice (some ⟨xb, xo, none⟩) nla cla) (by conv => lhs; simp only [List.getElem?_toArray, List.getElem?_cons_succ, List.getElem?_cons_zero]) (by rfl) (by rfl) ?_ (fun _ => by rfl) (by conv => lhs; simp only [Act.put, List.setIfInBounds_toArray, List.set_cons_succ, List.set_cons_zero]) ?_
            · rintro w1 ⟨t0, t1⟩; obtain ⟨c0, c1, c2, c3, c4, c5⟩ := t0.1.cell; clear t0 t1; go_simp
            refine textS_take (o := _) (.int .i64 j) (by conv => lhs; simp only [List.getElem?_toArray, List.getElem?_cons_succ, List.getElem?_cons_zero]) (by rfl) (by rfl) ?_ (fun _ => by rfl) (by conv => lhs; simp only [Act.put, List.setIfInBounds_toArray, List.set_cons_succ, List.set_cons_zero]) ?_
            · intro w _; go_simp
            refine textS_take (o := _) (.pointer (some ⟨xb, xo + j * 6, none⟩)) (by conv => lhs; simp only [List.getElem?_toArray, List.getElem?_cons_succ, List.getElem?_cons_zero]) (by rfl) (by rfl) ?_ (fun _ => by rfl) (by conv => lhs; simp only [Act.put, List.setIfInBounds_toArray, List.set_cons_succ, List.set_cons_zero]) ?_
            · intro w _; go_simp
            refine textS_take (o := _) (.agg #[d0v, d1v, d2v, d3v, d4v, d5v]) (by conv => lhs; simp only [List.getElem?_toArray, List.getElem?_cons_succ, List.getElem?_cons_zero]) (by rfl) (by rfl) ?_ (fun _ => by rfl) (by conv => lhs; simp only [Act.put, List.setIfInBounds_toArray, List.set_cons_succ, List.set_cons_zero]) ?_
            · rintro w1 ⟨t0, t1⟩; have q0 := (t1 ⟨xb, xo + j * 6, none⟩ (by assumption)).trans e0; have q1 := (t1 ⟨xb, xo + j * 6 + 1, none⟩ (by assumption)).trans e1; have q2 := (t1 ⟨xb, xo + j * 6 + 2, none⟩ (by assumption)).trans e2; have q3 := (t1 ⟨xb, xo + j * 6 + 3, none⟩ (by assumption)).trans e3; have q4 := (t1 ⟨xb, xo + j * 6 + 4, none⟩ (by assumption)).trans e4; have q5 := (t1 ⟨xb, xo + j * 6 + 5, none⟩ (by assumption)).trans e5; clear t0 t1; go_simp
            refine textS_take (o := _) (.pointer (some ⟨W.heap.size + 1, 4, none⟩)) (by conv => lhs; simp only [List.getElem?_toArray, List.getElem?_cons_succ, List.getElem?_cons_zero]) (by rfl) (by rfl) ?_ (fun _ => by rfl) (by conv => lhs; simp only [Act.put, List.setIfInBounds_toArray, List.set_cons_succ, List.set_cons_zero]) ?_
            · intro w _; go_simp
            refine textS_take (o := _) (.slice (some ⟨yb, yo, none⟩) nlb clb) (by conv => lhs; simp only [List.getElem?_toArray, List.getElem?_cons_succ, List.getElem?_cons_zero]) (by rfl) (by rfl) ?_ (fun _ => by rfl) (by conv => lhs; simp only [Act.put, List.setIfInBounds_toArray, List.set_cons_succ, List.set_cons_zero]) ?_
            · rintro w1 ⟨t0, t1⟩; obtain ⟨c0, c1, c2, c3, c4, c5⟩ := t0.2.cell; clear t0 t1; go_simp
            refine textS_take (o := _) (.int .i64 j) (by conv => lhs; simp only [List.getElem?_toArray, List.getElem?_cons_succ, List.getElem?_cons_zero]) (by rfl) (by rfl) ?_ (fun _ => by rfl) (by conv => lhs; simp only [Act.put, List.setIfInBounds_toArray, List.set_cons_succ, List.set_cons_zero]) ?_
            · intro w _; go_simp
            refine textS_take (o := _) (.pointer (some ⟨yb, yo + j * 6, none⟩)) (by conv => lhs; simp only [List.getElem?_toArray, List.getElem?_cons_succ, List.getElem?_cons_zero]) (by rfl) (by rfl) ?_ (fun _ => by rfl) (by conv => lhs; simp only [Act.put, List.setIfInBounds_toArray, List.set_cons_succ, List.set_cons_zero]) ?_
            · intro w _; go_simp
            refine textS_take (o := _) (.agg #[g0v, g1v, g2v, g3v, g4v, g5v]) (by conv => lhs; simp only [List.getElem?_toArray, List.getElem?_cons_succ, List.getElem?_cons_zero]) (by rfl) (by rfl) ?_ (fun _ => by rfl) (by conv => lhs; simp only [Act.put, List.setIfInBounds_toArray, List.set_cons_succ, List.set_cons_zero]) ?_
            · rintro w1 ⟨t0, t1⟩; have q0 := (t1 ⟨yb, yo + j * 6, none⟩ (by assumption)).trans f0; have q1 := (t1 ⟨yb, yo + j * 6 + 1, none⟩ (by assumption)).trans f1; have q2 := (t1 ⟨yb, yo + j * 6 + 2, none⟩ (by assumption)).trans f2; have q3 := (t1 ⟨yb, yo + j * 6 + 3, none⟩ (by assumption)).trans f3; have q4 := (t1 ⟨yb, yo + j * 6 + 4, none⟩ (by assumption)).trans f4; have q5 := (t1 ⟨yb, yo + j * 6 + 5, none⟩ (by assumption)).trans f5; clear t0 t1; go_simp
            refine textS_take (o := _) (.func (.yield l) #[] #[]) (by conv => lhs; simp only [List.getElem?_toArray, List.getElem?_cons_succ, List.getElem?_cons_zero]) (by rfl) (by rfl) ?_ (fun _ => by rfl) (by conv => lhs; simp only [Act.put, List.setIfInBounds_toArray, List.set_cons_succ, List.set_cons_zero]) ?_
            · intro w _; go_simp
            refine textS_call (o := _) (by conv => lhs; simp only [List.getElem?_toArray, List.getElem?_cons_succ, List.getElem?_cons_zero]) (by rfl) (by rfl) ?_
            refine wpIn_call rfl ?_ (HCALL.out _ F7.low F7.reach F7.places) ?_
            · go_simp
            rintro e w3 ⟨rfl, hl3, ha3⟩
            have hA3 : AboveR B R W w3 := ha3.after F7.keeps
            have hS3 : Two W.heap.size #[.int .i64 ka, .bool ba, .int .i64 na, .string sa, .slice (some ⟨xb, xo, none⟩) nla cla, .slice (some ⟨pb, po, none⟩) nqa cqa] #[.int .i64 kb, .bool bb, .int .i64 nb, .string sb, .slice (some ⟨yb, yo, none⟩) nlb clb, .slice (some ⟨qb, qo, none⟩) nqb cqb] w3 ∧ ∀ p : Addr, p.block < lo → w3.cell? p = Wl.cell? p := ⟨⟨(ha3.2 _ hBA F7.two.1.lt (by omega)).trans F7.two.1, (ha3.2 _ (by omega) F7.two.2.lt (by omega)).trans F7.two.2⟩, fun p hp => (hl3.cell (Nat.lt_of_lt_of_le hp hlo)).trans (hY.kept _ p hp)⟩
            refine ⟨_, _, rfl, (by conv => lhs; simp only [Act.put, List.setIfInBounds_toArray, List.set_cons_succ, List.set_cons_zero]), hS3, ?_⟩
            refine textS_take (o := _) (.bool true) (by conv => lhs; simp only [List.getElem?_toArray, List.getElem?_cons_succ, List.getElem?_cons_zero]) (by rfl) (by rfl) ?_ (fun _ => by rfl) (by conv => lhs; simp only [Act.put, List.setIfInBounds_toArray, List.set_cons_succ, List.set_cons_zero]) ?_
            · intro w _; go_simp
            refine textS_take (o := _) (.bool true) (by conv => lhs; simp only [List.getElem?_toArray, List.getElem?_cons_succ, List.getElem?_cons_zero]) (by rfl) (by rfl) ?_ (fun _ => by rfl) (by conv => lhs; simp only [Act.put, List.setIfInBounds_toArray, List.set_cons_succ, List.set_cons_zero]) ?_
            · intro w _; go_simp
            refine NoPanic.normal ?_
            refine hK7 _ _ ?_
            clear hK7
            have HP : Hid (CmpPost B R (d0 + 1) (m0 + 1) WS c (VT.partsL xs + 1) W (.returned (.bool false)) w3) := Lib.hid (.inr ⟨HST.out.1, rfl, by rw [HST.out.2]; exact hl3, hA3⟩)
            clear F0 F7 hS0 hS7 hS3 hl3 ha3 hA3 HCALL e0 e1 e2 e3 e4 e5 f0 f1 f2 f3 f4 f5
            go_wp2_with fail
            go_ret
            exact HP.out
        · have HST : Hid (c ≠ 0 ∧ c = Lib.compareBytes kx.data.toList ky.data.toList) := Lib.hid (by
            have : c = Lib.compareBytes kx.data.toList ky.data.toList := by rw [← HC.out, HW.out.rest, HORD2.out]; unfold orE; rw [if_neg hkc, if_neg hkc]
            exact ⟨by rw [this]; exact hkc, this⟩)
          clear hcall
          go_wp2_with fail
          have F0 := HW.out.fy.drew
          have hS0 : Two W.heap.size #[.int .i64 ka, .bool ba, .int .i64 na, .string sa, .slice (some ⟨xb, xo, none⟩) nla cla, .slice (some ⟨pb, po, none⟩) nqa cqa] #[.int .i64 kb, .bool bb, .int .i64 nb, .string sb, .slice (some ⟨yb, yo, none⟩) nlb clb, .slice (some ⟨qb, qo, none⟩) nqb cqb] wr.drew ∧ ∀ p : Addr, p.block < lo → wr.drew.cell? p = Wl.cell? p := ⟨F0.two, fun p hp => F0.low.cell (Nat.lt_of_lt_of_le hp hlo)⟩
          rename_i Q' K7 hK7
          refine wp_region_noPanic ?_
          refine wpIn_wide (n := 5).1 ?_
          refine wpIn_region_text (fun V => Two W.heap.size #[.int .i64 ka, .bool ba, .int .i64 na, .string sa, .slice (some ⟨xb, xo, none⟩) nla cla, .slice (some ⟨pb, po, none⟩) nqa cqa] #[.int .i64 kb, .bool bb, .int .i64 nb, .string sb, .slice (some ⟨yb, yo, none⟩) nlb clb, .slice (some ⟨qb, qo, none⟩) nqb cqb] V ∧ ∀ p : Addr, p.block < lo → V.cell? p = Wl.cell? p) [0, 1, 2, 3, 4, 5, 6, 7, 8, 9, 10, 11, 12, 13, 14, 15, 16, 17, 18, 19, 20, 21, 22, 23, 24, 25, 26, 27, 28, 29, 30, 31, 32, 33, 34] rfl (by kernel_rfl) (by kernel_rfl) (by kernel_rfl) (by kernel_rfl) (fun _ _ _ _ _ h => h) hS0 ?_
          refine textS_take (o := _) (.int .i64 j) (by conv => lhs; simp only [List.getElem?_toArray, List.getElem?_cons_succ, List.getElem?_cons_zero]) (by rfl) (by rfl) ?_ (fun _ => by rfl) (by conv => lhs; simp only [Act.put, List.setIfInBounds_toArray, List.set_cons_succ, List.set_cons_zero]) ?_
          · intro w _; go_simp
          refine textS_take (o := _) (.int .i64 mk) (by conv => lhs; simp only [List.getElem?_toArray, List.getElem?_cons_succ, List.getElem?_cons_zero]) (by rfl) (by rfl) ?_ (fun _ => by rfl) (by conv => lhs; simp only [Act.put, List.setIfInBounds_toArray, List.set_cons_succ, List.set_cons_zero]) ?_
          · intro w _; go_simp
          refine textS_take (o := _) (.bool true) (by conv => lhs; simp only [List.getElem?_toArray, List.getElem?_cons_succ, List.getElem?_cons_zero]) (by rfl) (by rfl) ?_ (fun _ => by rfl) (by conv => lhs; simp only [Act.put, List.setIfInBounds_toArray, List.set_cons_succ, List.set_cons_zero]) ?_
          · intro w _; go_simp
          refine textS_take (o := _) (.bool true) (by conv => lhs; simp only [List.getElem?_toArray, List.getElem?_cons_succ, List.getElem?_cons_zero]) (by rfl) (by rfl) ?_ (fun _ => by rfl) (by conv => lhs; simp only [Act.put, List.setIfInBounds_toArray, List.set_cons_succ, List.set_cons_zero]) ?_
          · intro w _; go_simp
          refine textS_take (o := _) (.func (.yield l) #[] #[]) (by conv => lhs; simp only [List.getElem?_toArray, List.getElem?_cons_succ, List.getElem?_cons_zero]) (by rfl) (by rfl) ?_ (fun _ => by rfl) (by conv => lhs; simp only [Act.put, List.setIfInBounds_toArray, List.set_cons_succ, List.set_cons_zero]) ?_
          · intro w _; go_simp
          refine textS_take (o := _) (.pointer (some ⟨W.heap.size, 5, none⟩)) (by conv => lhs; simp only [List.getElem?_toArray, List.getElem?_cons_succ, List.getElem?_cons_zero]) (by rfl) (by rfl) ?_ (fun _ => by rfl) (by conv => lhs; simp only [Act.put, List.setIfInBounds_toArray, List.set_cons_succ, List.set_cons_zero]) ?_
          · intro w _; go_simp
          refine textS_take (o := _) (.slice (some ⟨pb, po, none⟩) nqa cqa) (by conv => lhs; simp only [List.getElem?_toArray, List.getElem?_cons_succ, List.getElem?_cons_zero]) (by rfl) (by rfl) ?_ (fun _ => by rfl) (by conv => lhs; simp only [Act.put, List.setIfInBounds_toArray, List.set_cons_succ, List.set_cons_zero]) ?_
          · rintro w1 ⟨t0, t1⟩; obtain ⟨c0, c1, c2, c3, c4, c5⟩ := t0.1.cell; clear t0 t1; go_simp
          refine textS_take (o := _) (.int .i64 j) (by conv => lhs; simp only [List.getElem?_toArray, List.getElem?_cons_succ, List.getElem?_cons_zero]) (by rfl) (by rfl) ?_ (fun _ => by rfl) (by conv => lhs; simp only [Act.put, List.setIfInBounds_toArray, List.set_cons_succ, List.set_cons_zero]) ?_
          · intro w _; go_simp
          refine textS_take (o := _) (.pointer (some ⟨pb, po + j, none⟩)) (by conv => lhs; simp only [List.getElem?_toArray, List.getElem?_cons_succ, List.getElem?_cons_zero]) (by rfl) (by rfl) ?_ (fun _ => by rfl) (by conv => lhs; simp only [Act.put, List.setIfInBounds_toArray, List.set_cons_succ, List.set_cons_zero]) ?_
          · intro w _; go_simp
          refine textS_take (o := _) (.string kx) (by conv => lhs; simp only [List.getElem?_toArray, List.getElem?_cons_succ, List.getElem?_cons_zero]) (by rfl) (by rfl) ?_ (fun _ => by rfl) (by conv => lhs; simp only [Act.put, List.setIfInBounds_toArray, List.set_cons_succ, List.set_cons_zero]) ?_
          · rintro w1 ⟨t0, t1⟩; have q0 := (t1 ⟨pb, po + j, none⟩ (by assumption)).trans g1; clear t0 t1; go_simp
          refine textS_take (o := _) (.pointer (some ⟨W.heap.size + 1, 5, none⟩)) (by conv => lhs; simp only [List.getElem?_toArray, List.getElem?_cons_succ, List.getElem?_cons_zero]) (by rfl) (by rfl) ?_ (fun _ => by rfl) (by conv => lhs; simp only [Act.put, List.setIfInBounds_toArray, List.set_cons_succ, List.set_cons_zero]) ?_
          · intro w _; go_simp
          refine textS_take (o := _) (.slice (some ⟨qb, qo, none⟩) nqb cqb) (by conv => lhs; simp only [List.getElem?_toArray, List.getElem?_cons_succ, List.getElem?_cons_zero]) (by rfl) (by rfl) ?_ (fun _ => by rfl) (by conv => lhs; simp only [Act.put, List.setIfInBounds_toArray, List.set_cons_succ, List.set_cons_zero]) ?_
          · rintro w1 ⟨t0, t1⟩; obtain ⟨c0, c1, c2, c3, c4, c5⟩ := t0.2.cell; clear t0 t1; go_simp
          refine textS_take (o := _) (.int .i64 j) (by conv => lhs; simp only [List.getElem?_toArray, List.getElem?_cons_succ, List.getElem?_cons_zero]) (by rfl) (by rfl) ?_ (fun _ => by rfl) (by conv => lhs; simp only [Act.put, List.setIfInBounds_toArray, List.set_cons_succ, List.set_cons_zero]) ?_
          · intro w _; go_simp
          refine textS_take (o := _) (.pointer (some ⟨qb, qo + j, none⟩)) (by conv => lhs; simp only [List.getElem?_toArray, List.getElem?_cons_succ, List.getElem?_cons_zero]) (by rfl) (by rfl) ?_ (fun _ => by rfl) (by conv => lhs; simp only [Act.put, List.setIfInBounds_toArray, List.set_cons_succ, List.set_cons_zero]) ?_
          · intro w _; go_simp
          refine textS_take (o := _) (.string ky) (by conv => lhs; simp only [List.getElem?_toArray, List.getElem?_cons_succ, List.getElem?_cons_zero]) (by rfl) (by rfl) ?_ (fun _ => by rfl) (by conv => lhs; simp only [Act.put, List.setIfInBounds_toArray, List.set_cons_succ, List.set_cons_zero]) ?_
          · rintro w1 ⟨t0, t1⟩; have q0 := (t1 ⟨qb, qo + j, none⟩ (by assumption)).trans g2; clear t0 t1; go_simp
          refine textS_call (o := _) (by conv => lhs; simp only [List.getElem?_toArray, List.getElem?_cons_succ, List.getElem?_cons_zero]) (by rfl) (by rfl) ?_
          refine wpIn_call rfl ?_ (str_cmp kx ky wr.drew) ?_
          · go_simp
          rintro e w2 ⟨rfl, rfl⟩
          refine ⟨_, _, rfl, (by conv => lhs; simp only [Act.put, List.setIfInBounds_toArray, List.set_cons_succ, List.set_cons_zero]), hS0, ?_⟩
          refine textS_call (o := _) (by conv => lhs; simp only [List.getElem?_toArray, List.getElem?_cons_succ, List.getElem?_cons_zero]) (by rfl) (by rfl) ?_
          obtain ⟨fn, tm, as1, bd, hy, hr⟩ := hY.stop 4 _ _ hkc F0.low
          refine wpIn_yield rfl ?_ hr ?_
          · go_simp
          rintro e y7 ⟨rfl, hlow7⟩
          have F7 := F0.stop hBA hlow7
          clear hy hr hlow7
          have hS7 : Two W.heap.size #[.int .i64 ka, .bool ba, .int .i64 na, .string sa, .slice (some ⟨xb, xo, none⟩) nla cla, .slice (some ⟨pb, po, none⟩) nqa cqa] #[.int .i64 kb, .bool bb, .int .i64 nb, .string sb, .slice (some ⟨yb, yo, none⟩) nlb clb, .slice (some ⟨qb, qo, none⟩) nqb cqb] y7 ∧ ∀ p : Addr, p.block < lo → y7.cell? p = Wl.cell? p := ⟨F7.two, fun p hp => (F7.low.cell (Nat.lt_of_lt_of_le hp hlo)).trans (hY.kept _ p hp)⟩
          refine ⟨_, _, rfl, (by conv => lhs; simp only [Act.put, List.setIfInBounds_toArray, List.set_cons_succ, List.set_cons_zero]), hS7, ?_⟩
          refine textS_take (o := _) (.bool true) (by conv => lhs; simp only [List.getElem?_toArray, List.getElem?_cons_succ, List.getElem?_cons_zero]) (by rfl) (by rfl) ?_ (fun _ => by rfl) (by conv => lhs; simp only [Act.put, List.setIfInBounds_toArray, List.set_cons_succ, List.set_cons_zero]) ?_
          · intro w _; go_simp
          refine textS_take (o := _) (.bool true) (by conv => lhs; simp only [List.getElem?_toArray, List.getElem?_cons_succ, List.getElem?_cons_zero]) (by rfl) (by rfl) ?_ (fun _ => by rfl) (by conv => lhs; simp only [Act.put, List.setIfInBounds_toArray, List.set_cons_succ, List.set_cons_zero]) ?_
          · intro w _; go_simp
          refine textS_take (o := _) (.bool true) (by conv => lhs; simp only [List.getElem?_toArray, List.getElem?_cons_succ, List.getElem?_cons_zero]) (by rfl) (by rfl) ?_ (fun _ => by rfl) (by conv => lhs; simp only [Act.put, List.setIfInBounds_toArray, List.set_cons_succ, List.set_cons_zero]) ?_
          · intro w _; go_simp
          refine textS_skip (o := _) (by conv => lhs; simp only [List.getElem?_toArray, List.getElem?_cons_succ, List.getElem?_cons_zero]) (by rfl) (by rfl) (fun _ => by rfl) (by conv => lhs; simp only [Act.put, List.setIfInBounds_toArray, List.set_cons_succ, List.set_cons_zero]) ?_
          refine textS_skip (o := _) (by conv => lhs; simp only [List.getElem?_toArray, List.getElem?_cons_succ, List.getElem?_cons_zero]) (by rfl) (by rfl) (fun _ => by rfl) (by conv => lhs; simp only [Act.put, List.setIfInBounds_toArray, List.set_cons_succ, List.set_cons_zero]) ?_
          refine textS_skip (o := _) (by conv => lhs; simp only [List.getElem?_toArray, List.getElem?_cons_succ, List.getElem?_cons_zero]) (by rfl) (by rfl) (fun _ => by rfl) (by conv => lhs; simp only [Act.put, List.setIfInBounds_toArray, List.set_cons_succ, List.set_cons_zero]) ?_
          refine textS_skip (o := _) (by conv => lhs; simp only [List.getElem?_toArray, List.getElem?_cons_succ, List.getElem?_cons_zero]) (by rfl) (by rfl) (fun _ => by rfl) (by conv => lhs; simp only [Act.put, List.setIfInBounds_toArray, List.set_cons_succ, List.set_cons_zero]) ?_
          refine textS_skip (o := _) (by conv => lhs; simp only [List.getElem?_toArray, List.getElem?_cons_succ, List.getElem?_cons_zero]) (by rfl) (by rfl) (fun _ => by rfl) (by conv => lhs; simp only [Act.put, List.setIfInBounds_toArray, List.set_cons_succ, List.set_cons_zero]) ?_
          refine textS_skip (o := _) (by conv => lhs; simp only [List.getElem?_toArray, List.getElem?_cons_succ, List.getElem?_cons_zero]) (by rfl) (by rfl) (fun _ => by rfl) (by conv => lhs; simp only [Act.put, List.setIfInBounds_toArray, List.set_cons_succ, List.set_cons_zero]) ?_
          refine textS_skip (o := _) (by conv => lhs; simp only [List.getElem?_toArray, List.getElem?_cons_succ, List.getElem?_cons_zero]) (by rfl) (by rfl) (fun _ => by rfl) (by conv => lhs; simp only [Act.put, List.setIfInBounds_toArray, List.set_cons_succ, List.set_cons_zero]) ?_
          refine textS_skip (o := _) (by conv => lhs; simp only [List.getElem?_toArray, List.getElem?_cons_succ, List.getElem?_cons_zero]) (by rfl) (by rfl) (fun _ => by rfl) (by conv => lhs; simp only [Act.put, List.setIfInBounds_toArray, List.set_cons_succ, List.set_cons_zero]) ?_
          refine textS_skip (o := _) (by conv => lhs; simp only [List.getElem?_toArray, List.getElem?_cons_succ, List.getElem?_cons_zero]) (by rfl) (by rfl) (fun _ => by rfl) (by conv => lhs; simp only [Act.put, List.setIfInBounds_toArray, List.set_cons_succ, List.set_cons_zero]) ?_
          refine textS_skip (o := _) (by conv => lhs; simp only [List.getElem?_toArray, List.getElem?_cons_succ, List.getElem?_cons_zero]) (by rfl) (by rfl) (fun _ => by rfl) (by conv => lhs; simp only [Act.put, List.setIfInBounds_toArray, List.set_cons_succ, List.set_cons_zero]) ?_
          refine textS_skip (o := _) (by conv => lhs; simp only [List.getElem?_toArray, List.getElem?_cons_succ, List.getElem?_cons_zero]) (by rfl) (by rfl) (fun _ => by rfl) (by conv => lhs; simp only [Act.put, List.setIfInBounds_toArray, List.set_cons_succ, List.set_cons_zero]) ?_
          refine textS_skip (o := _) (by conv => lhs; simp only [List.getElem?_toArray, List.getElem?_cons_succ, List.getElem?_cons_zero]) (by rfl) (by rfl) (fun _ => by rfl) (by conv => lhs; simp only [Act.put, List.setIfInBounds_toArray, List.set_cons_succ, List.set_cons_zero]) ?_
          refine textS_callSkip (o := _) (by conv => lhs; simp only [List.getElem?_toArray, List.getElem?_cons_succ, List.getElem?_cons_zero]) (by rfl) (by rfl) (fun _ => trivial) hS7 (by conv => lhs; simp only [Act.put, List.setIfInBounds_toArray, List.set_cons_succ, List.set_cons_zero]) ?_
          refine textS_skip (o := _) (by conv => lhs; simp only [List.getElem?_toArray, List.getElem?_cons_succ, List.getElem?_cons_zero]) (by rfl) (by rfl) (fun _ => by rfl) (by conv => lhs; simp only [Act.put, List.setIfInBounds_toArray, List.set_cons_succ, List.set_cons_zero]) ?_
          refine textS_take (o := _) (.bool true) (by conv => lhs; simp only [List.getElem?_toArray, List.getElem?_cons_succ, List.getElem?_cons_zero]) (by rfl) (by rfl) ?_ (fun _ => by rfl) (by conv => lhs; simp only [Act.put, List.setIfInBounds_toArray, List.set_cons_succ, List.set_cons_zero]) ?_
          · intro w _; go_simp
          refine NoPanic.normal ?_
          refine hK7 _ _ ?_
          clear hK7
          have HP : Hid (CmpPost B R (d0 + 1) (m0 + 1) WS c (VT.partsL xs + 1) W (.returned (.bool false)) y7) := Lib.hid (.inr ⟨HST.out.1, rfl, by rw [HST.out.2]; exact F7.low, F7.above⟩)
          clear F0 F7 hS0 hS7 e0 e1 e2 e3 e4 e5 f0 f1 f2 f3 f4 f5
          go_wp2_with fail
          go_ret
          exact HP.out
      · have hk2 : ¬ ((j : Int) < (mk : Int)) := by omega
        have hk3 : decide (j < mk) = false := by simp; omega
        have hord := HORD.out
        rw [HMK.out.1, if_neg hk] at hord
        have HORD2 := Lib.hid hord
        clear hord
        by_cases hxc0 : xc = 0
        · have HCALL : Hid (∀ V, Below B Wl V → Reach V R (d0 : Int) (mj : Int) → Places V → Calls Tryd.prog 66 #[.pointer (some ⟨R, 0, none⟩), .agg #[d0v, d1v, d2v, d3v, d4v, d5v], .agg #[g0v, g1v, g2v, g3v, g4v, g5v], .func (.yield l) #[] #[]] V fun e w3 => e = .returned (.bool true) ∧ Keeps (· = R) V w3 ∧ ∃ m3 : Nat, Reach w3 R d0 m3 ∧ m3 ≤ mj ∧ mj ≤ m3 + x.parts) := Lib.hid fun V h1 h2 h3 => (hcall V h1 h2 h3).mono fun e w3 h => by
            rcases h with ⟨-, h⟩ | ⟨h, -⟩
            · exact h
            · exact absurd hxc0 h
          have HST : Hid (ordL xs ys ps qs = ordL (xs.drop (j + 1)) (ys.drop (j + 1)) (ps.drop (j + 1)) (qs.drop (j + 1))) := Lib.hid (by
            rw [HW.out.rest, HORD2.out, hxc0]; rfl)
          clear hcall hxc0
          go_wp2_with fail
          have F0 := HW.out.fy.drew
          have hS0 : Two W.heap.size #[.int .i64 ka, .bool ba, .int .i64 na, .string sa, .slice (some ⟨xb, xo, none⟩) nla cla, .slice pqa nqa cqa] #[.int .i64 kb, .bool bb, .int .i64 nb, .string sb, .slice (some ⟨yb, yo, none⟩) nlb clb, .slice pqb nqb cqb] wr.drew ∧ ∀ p : Addr, p.block < lo → wr.drew.cell? p = Wl.cell? p := ⟨F0.two, fun p hp => F0.low.cell (Nat.lt_of_lt_of_le hp hlo)⟩
          rename_i Q' K7 hK7
          refine wp_region_noPanic ?_
          refine wpIn_wide (n := 5).1 ?_
          refine wpIn_region_text (fun V => Two W.heap.size #[.int .i64 ka, .bool ba, .int .i64 na, .string sa, .slice (some ⟨xb, xo, none⟩) nla cla, .slice pqa nqa cqa] #[.int .i64 kb, .bool bb, .int .i64 nb, .string sb, .slice (some ⟨yb, yo, none⟩) nlb clb, .slice pqb nqb cqb] V ∧ ∀ p : Addr, p.block < lo → V.cell? p = Wl.cell? p) [0, 1, 2, 3, 4, 5, 6, 7, 8, 9, 10, 11, 12, 13, 14, 15, 16, 17, 18, 19, 20, 21, 22, 23, 24, 25, 26, 27, 28, 29, 30, 31, 32, 33, 34] rfl (by kernel_rfl) (by kernel_rfl) (by kernel_rfl) (by kernel_rfl) (fun _ _ _ _ _ h => h) hS0 ?_
          refine textS_take (o := _) (.int .i64 j) (by conv => lhs; simp only [List.getElem?_toArray, List.getElem?_cons_succ, List.getElem?_cons_zero]) (by rfl) (by rfl) ?_ (fun _ => by rfl) (by conv => lhs; simp only [Act.put, List.setIfInBounds_toArray, List.set_cons_succ, List.set_cons_zero]) ?_
          · intro w _; go_simp
          refine textS_take (o := _) (.int .i64 mk) (by conv => lhs; simp only [List.getElem?_toArray, List.getElem?_cons_succ, List.getElem?_cons_zero]) (by rfl) (by rfl) ?_ (fun _ => by rfl) (by conv => lhs; simp only [Act.put, List.setIfInBounds_toArray, List.set_cons_succ, List.set_cons_zero]) ?_
          · intro w _; go_simp
          refine textS_take (o := _) (.bool false) (by conv => lhs; simp only [List.getElem?_toArray, List.getElem?_cons_succ, List.getElem?_cons_zero]) (by rfl) (by rfl) ?_ (fun _ => by rfl) (by conv => lhs; simp only [Act.put, List.setIfInBounds_toArray, List.set_cons_succ, List.set_cons_zero]) ?_
          · intro w _; go_simp
          refine textS_take (o := _) (.bool false) (by conv => lhs; simp only [List.getElem?_toArray, List.getElem?_cons_succ, List.getElem?_cons_zero]) (by rfl) (by rfl) ?_ (fun _ => by rfl) (by conv => lhs; simp only [Act.put, List.setIfInBounds_toArray, List.set_cons_succ, List.set_cons_zero]) ?_
          · intro w _; go_simp
          refine textS_skip (o := _) (by conv => lhs; simp only [List.getElem?_toArray, List.getElem?_cons_succ, List.getElem?_cons_zero]) (by rfl) (by rfl) (fun _ => by rfl) (by conv => lhs; simp only [Act.put, List.setIfInBounds_toArray, List.set_cons_succ, List.set_cons_zero]) ?_
          refine textS_skip (o := _) (by conv => lhs; simp only [List.getElem?_toArray, List.getElem?_cons_succ, List.getElem?_cons_zero]) (by rfl) (by rfl) (fun _ => by rfl) (by conv => lhs; simp only [Act.put, List.setIfInBounds_toArray, List.set_cons_succ, List.set_cons_zero]) ?_
          refine textS_skip (o := _) (by conv => lhs; simp only [List.getElem?_toArray, List.getElem?_cons_succ, List.getElem?_cons_zero]) (by rfl) (by rfl) (fun _ => by rfl) (by conv => lhs; simp only [Act.put, List.setIfInBounds_toArray, List.set_cons_succ, List.set_cons_zero]) ?_
          refine textS_skip (o := _) (by conv => lhs; simp only [List.getElem?_toArray, List.getElem?_cons_succ, List.getElem?_cons_zero]) (by rfl) (by rfl) (fun _ => by rfl) (by conv => lhs; simp only [Act.put, List.setIfInBounds_toArray, List.set_cons_succ, List.set_cons_zero]) ?_
          refine textS_skip (o := _) (by conv => lhs; simp only [List.getElem?_toArray, List.getElem?_cons_succ, List.getElem?_cons_zero]) (by rfl) (by rfl) (fun _ => by rfl) (by conv => lhs; simp only [Act.put, List.setIfInBounds_toArray, List.set_cons_succ, List.set_cons_zero]) ?_
          refine textS_skip (o := _) (by conv => lhs; simp only [List.getElem?_toArray, List.getElem?_cons_succ, List.getElem?_cons_zero]) (by rfl) (by rfl) (fun _ => by rfl) (by conv => lhs; simp only [Act.put, List.setIfInBounds_toArray, List.set_cons_succ, List.set_cons_zero]) ?_
          refine textS_skip (o := _) (by conv => lhs; simp only [List.getElem?_toArray, List.getElem?_cons_succ, List.getElem?_cons_zero]) (by rfl) (by rfl) (fun _ => by rfl) (by conv => lhs; simp only [Act.put, List.setIfInBounds_toArray, List.set_cons_succ, List.set_cons_zero]) ?_
          refine textS_skip (o := _) (by conv => lhs; simp only [List.getElem?_toArray, List.getElem?_cons_succ, List.getElem?_cons_zero]) (by rfl) (by rfl) (fun _ => by rfl) (by conv => lhs; simp only [Act.put, List.setIfInBounds_toArray, List.set_cons_succ, List.set_cons_zero]) ?_
          refine textS_skip (o := _) (by conv => lhs; simp only [List.getElem?_toArray, List.getElem?_cons_succ, List.getElem?_cons_zero]) (by rfl) (by rfl) (fun _ => by rfl) (by conv => lhs; simp only [Act.put, List.setIfInBounds_toArray, List.set_cons_succ, List.set_cons_zero]) ?_
          refine textS_skip (o := _) (by conv => lhs; simp only [List.getElem?_toArray, List.getElem?_cons_succ, List.getElem?_cons_zero]) (by rfl) (by rfl) (fun _ => by rfl) (by conv => lhs; simp only [Act.put, List.setIfInBounds_toArray, List.set_cons_succ, List.set_cons_zero]) ?_
          refine textS_skip (o := _) (by conv => lhs; simp only [List.getElem?_toArray, List.getElem?_cons_succ, List.getElem?_cons_zero]) (by rfl) (by rfl) (fun _ => by rfl) (by conv => lhs; simp only [Act.put, List.setIfInBounds_toArray, List.set_cons_succ, List.set_cons_zero]) ?_
          refine textS_callSkip (o := _) (by conv => lhs; simp only [List.getElem?_toArray, List.getElem?_cons_succ, List.getElem?_cons_zero]) (by rfl) (by rfl) (fun _ => trivial) hS0 (by conv => lhs; simp only [Act.put, List.setIfInBounds_toArray, List.set_cons_succ, List.set_cons_zero]) ?_
          refine textS_callSkip (o := _) (by conv => lhs; simp only [List.getElem?_toArray, List.getElem?_cons_succ, List.getElem?_cons_zero]) (by rfl) (by rfl) (fun _ => trivial) hS0 (by conv => lhs; simp only [Act.put, List.setIfInBounds_toArray, List.set_cons_succ, List.set_cons_zero]) ?_
          refine textS_skip (o := _) (by conv => lhs; simp only [List.getElem?_toArray, List.getElem?_cons_succ, List.getElem?_cons_zero]) (by rfl) (by rfl) (fun _ => by rfl) (by conv => lhs; simp only [Act.put, List.setIfInBounds_toArray, List.set_cons_succ, List.set_cons_zero]) ?_
          refine textS_take (o := _) (.bool false) (by conv => lhs; simp only [List.getElem?_toArray, List.getElem?_cons_succ, List.getElem?_cons_zero]) (by rfl) (by rfl) ?_ (fun _ => by rfl) (by conv => lhs; simp only [Act.put, List.setIfInBounds_toArray, List.set_cons_succ, List.set_cons_zero]) ?_
          · intro w _; go_simp
          refine textS_take (o := _) (.bool false) (by conv => lhs; simp only [List.getElem?_toArray, List.getElem?_cons_succ, List.getElem?_cons_zero]) (by rfl) (by rfl) ?_ (fun _ => by rfl) (by conv => lhs; simp only [Act.put, List.setIfInBounds_toArray, List.set_cons_succ, List.set_cons_zero]) ?_
          · intro w _; go_simp
          refine textS_take (o := _) (.pointer (some ⟨R, 0, none⟩)) (by conv => lhs; simp only [List.getElem?_toArray, List.getElem?_cons_succ, List.getElem?_cons_zero]) (by rfl) (by rfl) ?_ (fun _ => by rfl) (by conv => lhs; simp only [Act.put, List.setIfInBounds_toArray, List.set_cons_succ, List.set_cons_zero]) ?_
          · intro w _; go_simp
          refine textS_take (o := _) (.pointer (some ⟨W.heap.size, 4, none⟩)) (by conv => lhs; simp only [List.getElem?_toArray, List.getElem?_cons_succ, List.getElem?_cons_zero]) (by rfl) (by rfl) ?_ (fun _ => by rfl) (by conv => lhs; simp only [Act.put, List.setIfInBounds_toArray, List.set_cons_succ, List.set_cons_zero]) ?_
          · intro w _; go_simp
          refine textS_take (o := _) (.slice (some ⟨xb, xo, none⟩) nla cla) (by conv => lhs; simp only [List.getElem?_toArray, List.getElem?_cons_succ, List.getElem?_cons_zero]) (by rfl) (by rfl) ?_ (fun _ => by rfl) (by conv => lhs; simp only [Act.put, List.setIfInBounds_toArray, List.set_cons_succ, List.set_cons_zero]) ?_
          · rintro w1 ⟨t0, t1⟩; obtain ⟨c0, c1, c2, c3, c4, c5⟩ := t0.1.cell; clear t0 t1; go_simp
          refine textS_take (o := _) (.int .i64 j) (by conv => lhs; simp only [List.getElem?_toArray, List.getElem?_cons_succ, List.getElem?_cons_zero]) (by rfl) (by rfl) ?_ (fun _ => by rfl) (by conv => lhs; simp only [Act.put, List.setIfInBounds_toArray, List.set_cons_succ, List.set_cons_zero]) ?_
          · intro w _; go_simp
          refine textS_take (o := _) (.pointer (some ⟨xb, xo + j * 6, none⟩)) (by conv => lhs; simp only [List.getElem?_toArray, List.getElem?_cons_succ, List.getElem?_cons_zero]) (by rfl) (by rfl) ?_ (fun _ => by rfl) (by conv => lhs; simp only [Act.put, List.setIfInBounds_toArray, List.set_cons_succ, List.set_cons_zero]) ?_
          · intro w _; go_simp
          refine textS_take (o := _) (.agg #[d0v, d1v, d2v, d3v, d4v, d5v]) (by conv => lhs; simp only [List.getElem?_toArray, List.getElem?_cons_succ, List.getElem?_cons_zero]) (by rfl) (by rfl) ?_ (fun _ => by rfl) (by conv => lhs; simp only [Act.put, List.setIfInBounds_toArray, List.set_cons_succ, List.set_cons_zero]) ?_
          · rintro w1 ⟨t0, t1⟩; have q0 := (t1 ⟨xb, xo + j * 6, none⟩ (by assumption)).trans e0; have q1 := (t1 ⟨xb, xo + j * 6 + 1, none⟩ (by assumption)).trans e1; have q2 := (t1 ⟨xb, xo + j * 6 + 2, none⟩ (by assumption)).trans e2; have q3 := (t1 ⟨xb, xo + j * 6 + 3, none⟩ (by assumption)).trans e3; have q4 := (t1 ⟨xb, xo + j * 6 + 4, none⟩ (by assumption)).trans e4; have q5 := (t1 ⟨xb, xo + j * 6 + 5, none⟩ (by assumption)).trans e5; clear t0 t1; go_simp
          refine textS_take (o := _) (.pointer (some ⟨W.heap.size + 1, 4, none⟩)) (by conv => lhs; simp only [List.getElem?_toArray, List.getElem?_cons_succ, List.getElem?_cons_zero]) (by rfl) (by rfl) ?_ (fun _ => by rfl) (by conv => lhs; simp only [Act.put, List.setIfInBounds_toArray, List.set_cons_succ, List.set_cons_zero]) ?_
          · intro w _; go_simp
          refine textS_take (o := _) (.slice (some ⟨yb, yo, none⟩) nlb clb) (by conv => lhs; simp only [List.getElem?_toArray, List.getElem?_cons_succ, List.getElem?_cons_zero]) (by rfl) (by rfl) ?_ (fun _ => by rfl) (by conv => lhs; simp only [Act.put, List.setIfInBounds_toArray, List.set_cons_succ, List.set_cons_zero]) ?_
          · rintro w1 ⟨t0, t1⟩; obtain ⟨c0, c1, c2, c3, c4, c5⟩ := t0.2.cell; clear t0 t1; go_simp
          refine textS_take (o := _) (.int .i64 j) (by conv => lhs; simp only [List.getElem?_toArray, List.getElem?_cons_succ, List.getElem?_cons_zero]) (by rfl) (by rfl) ?_ (fun _ => by rfl) (by conv => lhs; simp only [Act.put, List.setIfInBounds_toArray, List.set_cons_succ, List.set_cons_zero]) ?_
          · intro w _; go_simp
          refine textS_take (o := _) (.pointer (some ⟨yb, yo + j * 6, none⟩)) (by conv => lhs; simp only [List.getElem?_toArray, List.getElem?_cons_succ, List.getElem?_cons_zero]) (by rfl) (by rfl) ?_ (fun _ => by rfl) (by conv => lhs; simp only [Act.put, List.setIfInBounds_toArray, List.set_cons_succ, List.set_cons_zero]) ?_
          · intro w _; go_simp
          refine textS_take (o := _) (.agg #[g0v, g1v, g2v, g3v, g4v, g5v]) (by conv => lhs; simp only [List.getElem?_toArray, List.getElem?_cons_succ, List.getElem?_cons_zero]) (by rfl) (by rfl) ?_ (fun _ => by rfl) (by conv => lhs; simp only [Act.put, List.setIfInBounds_toArray, List.set_cons_succ, List.set_cons_zero]) ?_
          · rintro w1 ⟨t0, t1⟩; have q0 := (t1 ⟨yb, yo + j * 6, none⟩ (by assumption)).trans f0; have q1 := (t1 ⟨yb, yo + j * 6 + 1, none⟩ (by assumption)).trans f1; have q2 := (t1 ⟨yb, yo + j * 6 + 2, none⟩ (by assumption)).trans f2; have q3 := (t1 ⟨yb, yo + j * 6 + 3, none⟩ (by assumption)).trans f3; have q4 := (t1 ⟨yb, yo + j * 6 + 4, none⟩ (by assumption)).trans f4; have q5 := (t1 ⟨yb, yo + j * 6 + 5, none⟩ (by assumption)).trans f5; clear t0 t1; go_simp
          refine textS_take (o := _) (.func (.yield l) #[] #[]) (by conv => lhs; simp only [List.getElem?_toArray, List.getElem?_cons_succ, List.getElem?_cons_zero]) (by rfl) (by rfl) ?_ (fun _ => by rfl) (by conv => lhs; simp only [Act.put, List.setIfInBounds_toArray, List.set_cons_succ, List.set_cons_zero]) ?_
          · intro w _; go_simp
          refine textS_call (o := _) (by conv => lhs; simp only [List.getElem?_toArray, List.getElem?_cons_succ, List.getElem?_cons_zero]) (by rfl) (by rfl) ?_
          refine wpIn_call rfl ?_ (HCALL.out _ F0.low F0.reach F0.places) ?_
          · go_simp
          rintro e w3 ⟨rfl, hk3, m3, hr3, hle3, hc3⟩
          have F3 : Fy B R Wl W #[.int .i64 ka, .bool ba, .int .i64 na, .string sa, .slice (some ⟨xb, xo, none⟩) nla cla, .slice pqa nqa cqa] #[.int .i64 kb, .bool bb, .int .i64 nb, .string sb, .slice (some ⟨yb, yo, none⟩) nlb clb, .slice pqb nqb cqb] (d0 : Int) (m3 : Int) w3 := F0.callee hk3 hr3 hB hRB hRA hg hBA
          have hS3 : Two W.heap.size #[.int .i64 ka, .bool ba, .int .i64 na, .string sa, .slice (some ⟨xb, xo, none⟩) nla cla, .slice pqa nqa cqa] #[.int .i64 kb, .bool bb, .int .i64 nb, .string sb, .slice (some ⟨yb, yo, none⟩) nlb clb, .slice pqb nqb cqb] w3 ∧ ∀ p : Addr, p.block < lo → w3.cell? p = Wl.cell? p := ⟨F3.two, fun p hp => F3.low.cell (Nat.lt_of_lt_of_le hp hlo)⟩
          refine ⟨_, _, rfl, (by conv => lhs; simp only [Act.put, List.setIfInBounds_toArray, List.set_cons_succ, List.set_cons_zero]), hS3, ?_⟩
          refine textS_take (o := _) (.bool false) (by conv => lhs; simp only [List.getElem?_toArray, List.getElem?_cons_succ, List.getElem?_cons_zero]) (by rfl) (by rfl) ?_ (fun _ => by rfl) (by conv => lhs; simp only [Act.put, List.setIfInBounds_toArray, List.set_cons_succ, List.set_cons_zero]) ?_
          · intro w _; go_simp
          refine textS_take (o := _) (.bool false) (by conv => lhs; simp only [List.getElem?_toArray, List.getElem?_cons_succ, List.getElem?_cons_zero]) (by rfl) (by rfl) ?_ (fun _ => by rfl) (by conv => lhs; simp only [Act.put, List.setIfInBounds_toArray, List.set_cons_succ, List.set_cons_zero]) ?_
          · intro w _; go_simp
          refine NoPanic.normal ?_
          refine hK7 _ _ ?_
          clear hK7
          have HNEW : Hid (CAt B R Wl W _ _ d0 m0 (j + 1) m3 xs ys ps qs w3) := Lib.hid ⟨F3, HST.out, Nat.le_trans hle3 HW.out.le, by have h1 := HW.out.cost; have h2 := HDX.out; omega⟩
          clear F0 F3 hS0 hS3 hk3 hr3 hle3 hc3 HCALL e0 e1 e2 e3 e4 e5 f0 f1 f2 f3 f4 f5
          go_wp2_with fail
          go_roundw
          case rel => exact ⟨j + 1, m3, by omega, by go_num, HNEW⟩
          case measure => simp [intOf]; omega
        · have HCALL : Hid (∀ V, Below B Wl V → Reach V R (d0 : Int) (mj : Int) → Places V → Calls Tryd.prog 66 #[.pointer (some ⟨R, 0, none⟩), .agg #[d0v, d1v, d2v, d3v, d4v, d5v], .agg #[g0v, g1v, g2v, g3v, g4v, g5v], .func (.yield l) #[] #[]] V fun e w3 => e = .returned (.bool false) ∧ Below B (WS xc) w3 ∧ AboveR B R V w3) := Lib.hid fun V h1 h2 h3 => (hcall V h1 h2 h3).mono fun e w3 h => by
            rcases h with ⟨h, -⟩ | ⟨-, h⟩
            · exact absurd h hxc0
            · exact h
          have HST : Hid (c ≠ 0 ∧ c = xc) := Lib.hid (by
            have : c = xc := by rw [← HC.out, HW.out.rest, HORD2.out]; unfold orE; rw [if_pos rfl, if_neg hxc0, if_neg hxc0]
            exact ⟨by rw [this]; exact hxc0, this⟩)
          clear hcall hxc0
          go_wp2_with fail
          have F0 := HW.out.fy.drew
          have hS0 : Two W.heap.size #[.int .i64 ka, .bool ba, .int .i64 na, .string sa, .slice (some ⟨xb, xo, none⟩) nla cla, .slice pqa nqa cqa] #[.int .i64 kb, .bool bb, .int .i64 nb, .string sb, .slice (some ⟨yb, yo, none⟩) nlb clb, .slice pqb nqb cqb] wr.drew ∧ ∀ p : Addr, p.block < lo → wr.drew.cell? p = Wl.cell? p := ⟨F0.two, fun p hp => F0.low.cell (Nat.lt_of_lt_of_le hp hlo)⟩
          rename_i Q' K7 hK7
          refine wp_region_noPanic ?_
          refine wpIn_wide (n := 5).1 ?_
          refine wpIn_region_text (fun V => Two W.heap.size #[.int .i64 ka, .bool ba, .int .i64 na, .string sa, .slice (some ⟨xb, xo, none⟩) nla cla, .slice pqa nqa cqa] #[.int .i64 kb, .bool bb, .int .i64 nb, .string sb, .slice (some ⟨yb, yo, none⟩) nlb clb, .slice pqb nqb cqb] V ∧ ∀ p : Addr, p.block < lo → V.cell? p = Wl.cell? p) [0, 1, 2, 3, 4, 5, 6, 7, 8, 9, 10, 11, 12, 13, 14, 15, 16, 17, 18, 19, 20, 21, 22, 23, 24, 25, 26, 27, 28, 29, 30, 31, 32, 33, 34] rfl (by kernel_rfl) (by kernel_rfl) (by kernel_rfl) (by kernel_rfl) (fun _ _ _ _ _ h => h) hS0 ?_
          refine textS_take (o := _) (.int .i64 j) (by conv => lhs; simp only [List.getElem?_toArray, List.getElem?_cons_succ, List.getElem?_cons_zero]) (by rfl) (by rfl) ?_ (fun _ => by rfl) (by conv => lhs; simp only [Act.put, List.setIfInBounds_toArray, List.set_cons_succ, List.set_cons_zero]) ?_
          · intro w _; go_simp
          refine textS_take (o := _) (.int .i64 mk) (by conv => lhs; simp only [List.getElem?_toArray, List.getElem?_cons_succ, List.getElem?_cons_zero]) (by rfl) (by rfl) ?_ (fun _ => by rfl) (by conv => lhs; simp only [Act.put, List.setIfInBounds_toArray, List.set_cons_succ, List.set_cons_zero]) ?_
          · intro w _; go_simp
          refine textS_take (o := _) (.bool false) (by conv => lhs; simp only [List.getElem?_toArray, List.getElem?_cons_succ, List.getElem?_cons_zero]) (by rfl) (by rfl) ?_ (fun _ => by rfl) (by conv => lhs; simp only [Act.put, List.setIfInBounds_toArray, List.set_cons_succ, List.set_cons_zero]) ?_
          · intro w _; go_simp
          refine textS_take (o := _) (.bool false) (by conv => lhs; simp only [List.getElem?_toArray, List.getElem?_cons_succ, List.getElem?_cons_zero]) (by rfl) (by rfl) ?_ (fun _ => by rfl) (by conv => lhs; simp only [Act.put, List.setIfInBounds_toArray, List.set_cons_succ, List.set_cons_zero]) ?_
          · intro w _; go_simp
          refine textS_skip (o := _) (by conv => lhs; simp only [List.getElem?_toArray, List.getElem?_cons_succ, List.getElem?_cons_zero]) (by rfl) (by rfl) (fun _ => by rfl) (by conv => lhs; simp only [Act.put, List.setIfInBounds_toArray, List.set_cons_succ, List.set_cons_zero]) ?_
          refine textS_skip (o := _) (by conv => lhs; simp only [List.getElem?_toArray, List.getElem?_cons_succ, List.getElem?_cons_zero]) (by rfl) (by rfl) (fun _ => by rfl) (by conv => lhs; simp only [Act.put, List.setIfInBounds_toArray, List.set_cons_succ, List.set_cons_zero]) ?_
          refine textS_skip (o := _) (by conv => lhs; simp only [List.getElem?_toArray, List.getElem?_cons_succ, List.getElem?_cons_zero]) (by rfl) (by rfl) (fun _ => by rfl) (by conv => lhs; simp only [Act.put, List.setIfInBounds_toArray, List.set_cons_succ, List.set_cons_zero]) ?_
          refine textS_skip (o := _) (by conv => lhs; simp only [List.getElem?_toArray, List.getElem?_cons_succ, List.getElem?_cons_zero]) (by rfl) (by rfl) (fun _ => by rfl) (by conv => lhs; simp only [Act.put, List.setIfInBounds_toArray, List.set_cons_succ, List.set_cons_zero]) ?_
          refine textS_skip (o := _) (by conv => lhs; simp only [List.getElem?_toArray, List.getElem?_cons_succ, List.getElem?_cons_zero]) (by rfl) (by rfl) (fun _ => by rfl) (by conv => lhs; simp only [Act.put, List.setIfInBounds_toArray, List.set_cons_succ, List.set_cons_zero]) ?_
          refine textS_skip (o := _) (by conv => lhs; simp only [List.getElem?_toArray, List.getElem?_cons_succ, List.getElem?_cons_zero]) (by rfl) (by rfl) (fun _ => by rfl) (by conv => lhs; simp only [Act.put, List.setIfInBounds_toArray, List.set_cons_succ, List.set_cons_zero]) ?_
          refine textS_skip (o := _) (by conv => lhs; simp only [List.getElem?_toArray, List.getElem?_cons_succ, List.getElem?_cons_zero]) (by rfl) (by rfl) (fun _ => by rfl) (by conv => lhs; simp only [Act.put, List.setIfInBounds_toArray, List.set_cons_succ, List.set_cons_zero]) ?_
          refine textS_skip (o := _) (by conv => lhs; simp only [List.getElem?_toArray, List.getElem?_cons_succ, List.getElem?_cons_zero]) (by rfl) (by rfl) (fun _ => by rfl) (by conv => lhs; simp only [Act.put, List.setIfInBounds_toArray, List.set_cons_succ, List.set_cons_zero]) ?_
          refine textS_skip (o := _) (by conv => lhs; simp only [List.getElem?_toArray, List.getElem?_cons_succ, List.getElem?_cons_zero]) (by rfl) (by rfl) (fun _ => by rfl) (by conv => lhs; simp only [Act.put, List.setIfInBounds_toArray, List.set_cons_succ, List.set_cons_zero]) ?_
          refine textS_skip (o := _) (by conv => lhs; simp only [List.getElem?_toArray, List.getElem?_cons_succ, List.getElem?_cons_zero]) (by rfl) (by rfl) (fun _ => by rfl) (by conv => lhs; simp only [Act.put, List.setIfInBounds_toArray, List.set_cons_succ, List.set_cons_zero]) ?_
          refine textS_skip (o := _) (by conv => lhs; simp only [List.getElem?_toArray, List.getElem?_cons_succ, List.getElem?_cons_zero]) (by rfl) (by rfl) (fun _ => by rfl) (by conv => lhs; simp only [Act.put, List.setIfInBounds_toArray, List.set_cons_succ, List.set_cons_zero]) ?_
          refine textS_callSkip (o := _) (by conv => lhs; simp only [List.getElem?_toArray, List.getElem?_cons_succ, List.getElem?_cons_zero]) (by rfl) (by rfl) (fun _ => trivial) hS0 (by conv => lhs; simp only [Act.put, List.setIfInBounds_toArray, List.set_cons_succ, List.set_cons_zero]) ?_
          refine textS_callSkip (o := _) (by conv => lhs; simp only [List.getElem?_toArray, List.getElem?_cons_succ, List.getElem?_cons_zero]) (by rfl) (by rfl) (fun _ => trivial) hS0 (by conv => lhs; simp only [Act.put, List.setIfInBounds_toArray, List.set_cons_succ, List.set_cons_zero]) ?_
          refine textS_skip (o := _) (by conv => lhs; simp only [List.getElem?_toArray, List.getElem?_cons_succ, List.getElem?_cons_zero]) (by rfl) (by rfl) (fun _ => by rfl) (by conv => lhs; simp only [Act.put, List.setIfInBounds_toArray, List.set_cons_succ, List.set_cons_zero]) ?_
          refine textS_take (o := _) (.bool false) (by conv => lhs; simp only [List.getElem?_toArray, List.getElem?_cons_succ, List.getElem?_cons_zero]) (by rfl) (by rfl) ?_ (fun _ => by rfl) (by conv => lhs; simp only [Act.put, List.setIfInBounds_toArray, List.set_cons_succ, List.set_cons_zero]) ?_
          · intro w _; go_simp
          refine textS_take (o := _) (.bool false) (by conv => lhs; simp only [List.getElem?_toArray, List.getElem?_cons_succ, List.getElem?_cons_zero]) (by rfl) (by rfl) ?_ (fun _ => by rfl) (by conv => lhs; simp only [Act.put, List.setIfInBounds_toArray, List.set_cons_succ, List.set_cons_zero]) ?_
          · intro w _; go_simp
          refine textS_take (o := _) (.pointer (some ⟨R, 0, none⟩)) (by conv => lhs; simp only [List.getElem?_toArray, List.getElem?_cons_succ, List.getElem?_cons_zero]) (by rfl) (by rfl) ?_ (fun _ => by rfl) (by conv => lhs; simp only [Act.put, List.setIfInBounds_toArray, List.set_cons_succ, List.set_cons_zero]) ?_
          · intro w _; go_simp
          refine textS_take (o := _) (.pointer (some ⟨W.heap.size, 4, none⟩)) (by conv => lhs; simp only [List.getElem?_toArray, List.getElem?_cons_succ, List.getElem?_cons_zero]) (by rfl) (by rfl) ?_ (fun _ => by rfl) (by conv => lhs; simp only [Act.put, List.setIfInBounds_toArray, List.set_cons_succ, List.set_cons_zero]) ?_
          · intro w _; go_simp
          refine textS_take (o := _) (.slice (some ⟨xb, xo, none⟩) nla cla) (by conv => lhs; simp only [List.getElem?_toArray, List.getElem?_cons_succ, List.getElem?_cons_zero]) (by rfl) (by rfl) ?_ (fun _ => by rfl) (by conv => lhs; simp only [Act.put, List.setIfInBounds_toArray, List.set_cons_succ, List.set_cons_zero]) ?_
          · rintro w1 ⟨t0, t1⟩; obtain ⟨c0, c1, c2, c3, c4, c5⟩ := t0.1.cell; clear t0 t1; go_simp
          refine textS_take (o := _) (.int .i64 j) (by conv => lhs; simp only [List.getElem?_toArray, List.getElem?_cons_succ, List.getElem?_cons_zero]) (by rfl) (by rfl) ?_ (fun _ => by rfl) (by conv => lhs; simp only [Act.put, List.setIfInBounds_toArray, List.set_cons_succ, List.set_cons_zero]) ?_
          · intro w _; go_simp
          refine textS_take (o := _) (.pointer (some ⟨xb, xo + j * 6, none⟩)) (by conv => lhs; simp only [List.getElem?_toArray, List.getElem?_cons_succ, List.getElem?_cons_zero]) (by rfl) (by rfl) ?_ (fun _ => by rfl) (by conv => lhs; simp only [Act.put, List.setIfInBounds_toArray, List.set_cons_succ, List.set_cons_zero]) ?_
          · intro w _; go_simp
          refine textS_take (o := _) (.agg #[d0v, d1v, d2v, d3v, d4v, d5v]) (by conv => lhs; simp only [List.getElem?_toArray, List.getElem?_cons_succ, List.getElem?_cons_zero]) (by rfl) (by rfl) ?_ (fun _ => by rfl) (by conv => lhs; simp only [Act.put, List.setIfInBounds_toArray, List.set_cons_succ, List.set_cons_zero]) ?_
          · rintro w1 ⟨t0, t1⟩; have q0 := (t1 ⟨xb, xo + j * 6, none⟩ (by assumption)).trans e0; have q1 := (t1 ⟨xb, xo + j * 6 + 1, none⟩ (by assumption)).trans e1; have q2 := (t1 ⟨xb, xo + j * 6 + 2, none⟩ (by assumption)).trans e2; have q3 := (t1 ⟨xb, xo + j * 6 + 3, none⟩ (by assumption)).trans e3; have q4 := (t1 ⟨xb, xo + j * 6 + 4, none⟩ (by assumption)).trans e4; have q5 := (t1 ⟨xb, xo + j * 6 + 5, none⟩ (by assumption)).trans e5; clear t0 t1; go_simp
          refine textS_take (o := _) (.pointer (some ⟨W.heap.size + 1, 4, none⟩)) (by conv => lhs; simp only [List.getElem?_toArray, List.getElem?_cons_succ, List.getElem?_cons_zero]) (by rfl) (by rfl) ?_ (fun _ => by rfl) (by conv => lhs; simp only [Act.put, List.setIfInBounds_toArray, List.set_cons_succ, List.set_cons_zero]) ?_
          · intro w _; go_simp
          refine textS_take (o := _) (.slice (some ⟨yb, yo, none⟩) nlb clb) (by conv => lhs; simp only [List.getElem?_toArray, List.getElem?_cons_succ, List.getElem?_cons_zero]) (by rfl) (by rfl) ?_ (fun _ => by rfl) (by conv => lhs; simp only [Act.put, List.setIfInBounds_toArray, List.set_cons_succ, List.set_cons_zero]) ?_
          · rintro w1 ⟨t0, t1⟩; obtain ⟨c0, c1, c2, c3, c4, c5⟩ := t0.2.cell; clear t0 t1; go_simp
          refine textS_take (o := _) (.int .i64 j) (by conv => lhs; simp only [List.getElem?_toArray, List.getElem?_cons_succ, List.getElem?_cons_zero]) (by rfl) (by rfl) ?_ (fun _ => by rfl) (by conv => lhs; simp only [Act.put, List.setIfInBounds_toArray, List.set_cons_succ, List.set_cons_zero]) ?_
          · intro w _; go_simp
          refine textS_take (o := _) (.pointer (some ⟨yb, yo + j * 6, none⟩)) (by conv => lhs; simp only [List.getElem?_toArray, List.getElem?_cons_succ, List.getElem?_cons_zero]) (by rfl) (by rfl) ?_ (fun _ => by rfl) (by conv => lhs; simp only [Act.put, List.setIfInBounds_toArray, List.set_cons_succ, List.set_cons_zero]) ?_
          · intro w _; go_simp
          refine textS_take (o := _) (.agg #[g0v, g1v, g2v, g3v, g4v, g5v]) (by conv => lhs; simp only [List.getElem?_toArray, List.getElem?_cons_succ, List.getElem?_cons_zero]) (by rfl) (by rfl) ?_ (fun _ => by rfl) (by conv => lhs; simp only [Act.put, List.setIfInBounds_toArray, List.set_cons_succ, List.set_cons_zero]) ?_
          · rintro w1 ⟨t0, t1⟩; have q0 := (t1 ⟨yb, yo + j * 6, none⟩ (by assumption)).trans f0; have q1 := (t1 ⟨yb, yo + j * 6 + 1, none⟩ (by assumption)).trans f1; have q2 := (t1 ⟨yb, yo + j * 6 + 2, none⟩ (by assumption)).trans f2; have q3 := (t1 ⟨yb, yo + j * 6 + 3, none⟩ (by assumption)).trans f3; have q4 := (t1 ⟨yb, yo + j * 6 + 4, none⟩ (by assumption)).trans f4; have q5 := (t1 ⟨yb, yo + j * 6 + 5, none⟩ (by assumption)).trans f5; clear t0 t1; go_simp
          refine textS_take (o := _) (.func (.yield l) #[] #[]) (by conv => lhs; simp only [List.getElem?_toArray, List.getElem?_cons_succ, List.getElem?_cons_zero]) (by rfl) (by rfl) ?_ (fun _ => by rfl) (by conv => lhs; simp only [Act.put, List.setIfInBounds_toArray, List.set_cons_succ, List.set_cons_zero]) ?_
          · intro w _; go_simp
          refine textS_call (o := _) (by conv => lhs; simp only [List.getElem?_toArray, List.getElem?_cons_succ, List.getElem?_cons_zero]) (by rfl) (by rfl) ?_
          refine wpIn_call rfl ?_ (HCALL.out _ F0.low F0.reach F0.places) ?_
          · go_simp
          rintro e w3 ⟨rfl, hl3, ha3⟩
          have hA3 : AboveR B R W w3 := ha3.after F0.keeps
          have hS3 : Two W.heap.size #[.int .i64 ka, .bool ba, .int .i64 na, .string sa, .slice (some ⟨xb, xo, none⟩) nla cla, .slice pqa nqa cqa] #[.int .i64 kb, .bool bb, .int .i64 nb, .string sb, .slice (some ⟨yb, yo, none⟩) nlb clb, .slice pqb nqb cqb] w3 ∧ ∀ p : Addr, p.block < lo → w3.cell? p = Wl.cell? p := ⟨⟨(ha3.2 _ hBA F0.two.1.lt (by omega)).trans F0.two.1, (ha3.2 _ (by omega) F0.two.2.lt (by omega)).trans F0.two.2⟩, fun p hp => (hl3.cell (Nat.lt_of_lt_of_le hp hlo)).trans (hY.kept _ p hp)⟩
          refine ⟨_, _, rfl, (by conv => lhs; simp only [Act.put, List.setIfInBounds_toArray, List.set_cons_succ, List.set_cons_zero]), hS3, ?_⟩
          refine textS_take (o := _) (.bool true) (by conv => lhs; simp only [List.getElem?_toArray, List.getElem?_cons_succ, List.getElem?_cons_zero]) (by rfl) (by rfl) ?_ (fun _ => by rfl) (by conv => lhs; simp only [Act.put, List.setIfInBounds_toArray, List.set_cons_succ, List.set_cons_zero]) ?_
          · intro w _; go_simp
          refine textS_take (o := _) (.bool true) (by conv => lhs; simp only [List.getElem?_toArray, List.getElem?_cons_succ, List.getElem?_cons_zero]) (by rfl) (by rfl) ?_ (fun _ => by rfl) (by conv => lhs; simp only [Act.put, List.setIfInBounds_toArray, List.set_cons_succ, List.set_cons_zero]) ?_
          · intro w _; go_simp
          refine NoPanic.normal ?_
          refine hK7 _ _ ?_
          clear hK7
          have HP : Hid (CmpPost B R (d0 + 1) (m0 + 1) WS c (VT.partsL xs + 1) W (.returned (.bool false)) w3) := Lib.hid (.inr ⟨HST.out.1, rfl, by rw [HST.out.2]; exact hl3, hA3⟩)
          clear F0 hS0 hS3 hl3 ha3 hA3 HCALL e0 e1 e2 e3 e4 e5 f0 f1 f2 f3 f4 f5
          go_wp2_with fail
          go_ret
          exact HP.out
    · obtain rfl : ml = j := by omega
      have hz : ordL xs ys ps qs = 0 := by
        rw [HW.out.rest]
        by_cases h : nla ≤ nlb
        · rw [List.drop_of_length_le (l := xs) (by rw [HXL.out.1]; have := HMK.out.2; omega)]; exact ordL_nilL _ _ _
        · rw [List.drop_of_length_le (l := ys) (by rw [HXL.out.2.1]; have := HMK.out.2; omega)]; exact ordL_nilR _ _ _
      have hcc : orE (namesC ps qs) (cmpV (nla : Int) (nlb : Int)) = c := by
        have := HC.out
        rw [hz] at this
        exact this
      have F := HW.out.fy
      have hcost : m0 ≤ mj + VT.partsL xs := by have := HW.out.cost; omega
      have hL : Below B wr (wr.setCell ⟨R, 0, none⟩ (.int .i64 ((d0 : Int) + 1))) := (Below.refl _ _).setCell (p := ⟨R, 0, none⟩) hRB _
      have bA := F.two.1.far (p := ⟨R, 0, none⟩) (by simp; omega) (.int .i64 ((d0 : Int) + 1))
      have bB := F.two.2.far (p := ⟨R, 0, none⟩) (by simp; omega) (.int .i64 ((d0 : Int) + 1))
      have low4 := F.low.trans hL
      have keep4 : Keeps (· = R) W (wr.setCell ⟨R, 0, none⟩ (.int .i64 ((d0 : Int) + 1))) := F.keeps.setCell (p := ⟨R, 0, none⟩) (.inl rfl) _
      have reach4 := F.reach.set0 ((d0 : Int) + 1)
      have hnm := names_cmp pqa pqb cqa cqb lo ps qs (wr.setCell ⟨R, 0, none⟩ (.int .i64 ((d0 : Int) + 1))) (HPK.out.1.keep fun q hq => low4.cell (Nat.lt_of_lt_of_le hq hlo)) (HPK.out.2.keep fun q hq => low4.cell (Nat.lt_of_lt_of_le hq hlo)) (by rw [HXL.out.2.2.1]; exact hpb) (by rw [HXL.out.2.2.2]; exact hqb)
      rw [HXL.out.2.2.1, HXL.out.2.2.2] at hnm
      obtain ⟨k1, hk1⟩ : ∃ k1, namesC ps qs = k1 := ⟨_, rfl⟩
      obtain ⟨k2, hk2⟩ : ∃ k2, cmpV (nla : Int) (nlb : Int) = k2 := ⟨_, rfl⟩
      rw [hk1] at hnm hcc
      rw [hk2] at hcc
      have HNM := Lib.hid hnm
      have HCC := Lib.hid hcc
      have HK2 := Lib.hid hk2
      have HLV := Lib.hid (leave_any R d0 mj wr F.reach (by omega) (by have := HD.out; omega))
      have HKR := Lib.hid (And.intro keep4 (And.intro reach4 hcost))
      obtain ⟨a0, a1, a2, a3, a4, a5⟩ := F.two.1.cell
      obtain ⟨b0, b1, b2, b3, b4, b5⟩ := F.two.2.cell
      have HBX := Lib.hid (And.intro bA bB)
      have HL4 := Lib.hid low4
      clear hz hcc F hcost hL bA bB low4 keep4 reach4 hnm hk1 hk2 hxb hyb hpb hqb
      go_upto_region 11 with (go_at_call 68; refine HLV.out.mono ?_; rintro e w4 ⟨⟨v, rfl⟩, rfl⟩)
      clear a0 a1 a2 a3 a4 a5 b0 b1 b2 b3 b4 b5 HLV
      generalize wr.setCell ⟨R, 0, none⟩ (.int .i64 ((d0 : Int) + 1)) = w4 at *
      obtain ⟨a0, a1, a2, a3, a4, a5⟩ := HBX.out.1.cell
      obtain ⟨b0, b1, b2, b3, b4, b5⟩ := HBX.out.2.cell
      by_cases hk1 : k1 = 0
      · subst hk1
        obtain ⟨fn, tm, as1, bd, hy, hr⟩ := hY.zero 4 w4 HL4.out
        refine wpIn_wide (n := 5).1 ?_
        gi_wp2_with ((first | refine ⟨trivial, ?_⟩ | refine ⟨(fun h => by cases h), ?_⟩ | skip); gi_at_call 83; refine (callsIn_wide.2 HNM.out).mono ?_; rintro e w5 ⟨rfl, rfl⟩)
        refine hr.mono ?_
        rintro e w6 ⟨rfl, hb6⟩
        have cA : Box w6 W.heap.size _ := (hb6.block _ HBX.out.1.lt).trans HBX.out.1
        have cB : Box w6 (W.heap.size + 1) _ := (hb6.block _ HBX.out.2.lt).trans HBX.out.2
        have low6 := HL4.out.trans (hb6.mono (Nat.le_trans hB HL4.out.size))
        have keep6 : Keeps (· = R) W w6 := HKR.out.1.trans (Keeps.of_below hb6)
        have reach6 := HKR.out.2.1.below hb6 HKR.out.2.1.lt
        clear hr hy a0 a1 a2 a3 a4 a5 b0 b1 b2 b3 b4 b5
        obtain ⟨a0, a1, a2, a3, a4, a5⟩ := cA.cell
        obtain ⟨b0, b1, b2, b3, b4, b5⟩ := cB.cell
        have hci := cmp_int (nla : Int) (nlb : Int) w6
        rw [HK2.out] at hci
        have HCI := Lib.hid hci
        have HK6 := Lib.hid (And.intro keep6 reach6)
        clear hci hb6 keep6 reach6
        by_cases hk2 : k2 = 0
        · subst hk2
          obtain ⟨fn, tm, as1, bd, hy, hr⟩ := hY.zero 4 w6 low6
          gi_wp2_with ((first | refine ⟨trivial, ?_⟩ | refine ⟨(fun h => by cases h), ?_⟩ | skip); gi_at_call 46; refine (callsIn_wide.2 HCI.out).mono ?_; rintro e w7 ⟨rfl, rfl⟩)
          refine hr.mono ?_
          rintro e w8 ⟨rfl, hb8⟩
          have HP : Hid (CmpPost B R (d0 + 1) (m0 + 1) WS c (VT.partsL xs + 1) W (.returned (.bool true)) w8) := Lib.hid (.inl ⟨by rw [← HCC.out]; rfl, rfl, HK6.out.1.trans (Keeps.of_below hb8), mj, by have := HK6.out.2.below hb8 HK6.out.2.lt; exact this, by have := HW.out.le; omega, by have := HKR.out.2.2; omega⟩)
          gi_wp2
          go_wp2
          go_ret
          exact HP.out
        · obtain ⟨fn, tm, as1, bd, hy, hr⟩ := hY.stop 4 k2 w6 hk2 low6
          gi_wp2_with ((first | refine ⟨trivial, ?_⟩ | refine ⟨(fun h => by cases h), ?_⟩ | skip); gi_at_call 46; refine (callsIn_wide.2 HCI.out).mono ?_; rintro e w7 ⟨rfl, rfl⟩)
          refine hr.mono ?_
          rintro e w8 ⟨rfl, hl8, ha8⟩
          have hcv : c = k2 := by rw [← HCC.out]; rfl
          have HP : Hid (CmpPost B R (d0 + 1) (m0 + 1) WS c (VT.partsL xs + 1) W (.returned (.bool false)) w8) := Lib.hid (.inr ⟨by rw [hcv]; exact hk2, rfl, by rw [hcv]; exact hl8, Nat.le_trans HK6.out.1.size ha8.1, fun k hkB hkl hkR => (ha8.2 k hkB (Nat.lt_of_lt_of_le hkl HK6.out.1.size)).trans (HK6.out.1.block k hkl hkR)⟩)
          gi_wp2
          go_wp2
          go_ret
          exact HP.out
      · obtain ⟨fn, tm, as1, bd, hy, hr⟩ := hY.stop 4 k1 w4 hk1 HL4.out
        refine wpIn_wide (n := 5).1 ?_
        gi_wp2_with ((first | refine ⟨trivial, ?_⟩ | refine ⟨(fun h => by cases h), ?_⟩ | skip); gi_at_call 83; refine (callsIn_wide.2 HNM.out).mono ?_; rintro e w5 ⟨rfl, rfl⟩)
        refine hr.mono ?_
        rintro e w6 ⟨rfl, hl6, ha6⟩
        have hcv : c = k1 := by rw [← HCC.out]; unfold orE; rw [if_neg hk1]
        have HP : Hid (CmpPost B R (d0 + 1) (m0 + 1) WS c (VT.partsL xs + 1) W (.returned (.bool false)) w6) := Lib.hid (.inr ⟨by rw [hcv]; exact hk1, rfl, by rw [hcv]; exact hl6, Nat.le_trans HKR.out.1.size ha6.1, fun k hkB hkl hkR => (ha6.2 k hkB (Nat.lt_of_lt_of_le hkl HKR.out.1.size)).trans (HKR.out.1.block k hkl hkR)⟩)
        clear hr hy a0 a1 a2 a3 a4 a5 b0 b1 b2 b3 b4 b5
        gi_wp2
        refine ⟨trivial, ?_⟩
        rename_i K9 hK9
        refine hK9 _ _ ?_
        gi_wp2
        (repeat (first
          | (refine ⟨trivial, ?_⟩)
          | (refine ⟨fun _ _ => trivial, ?_⟩)
          | (rename_i K10 hK10; refine hK10 _ _ ?_)
          | (rename_i K10 hK10 x1; refine hK10 _ _ ?_)
          | (rename_i K10 hK10 x1 x2; refine hK10 _ _ ?_)
          | (rename_i K10 hK10 x1 x2 x3; refine hK10 _ _ ?_)
          | (rename_i K10 hK10 x1 x2 x3 x4; refine hK10 _ _ ?_)))
        gi_wp2
        go_wp2
        go_ret
        exact HP.out
theorem cmp_step (N lo B l R : Nat) (Wl : World) (WS : Int → World) (hY : Yld lo l B Wl WS) (hB : B ≤ Wl.heap.size) (hRB : B ≤ R) (hlo : lo ≤ B) (hg : 1 < B) (IH : CmpIH N lo B l R Wl WS) : CmpIH (N + 1) lo B l R Wl WS := fun t u v z W d m hN hst hsu hIn hIn2 hup hlow hR hP hd hm hd2 hm2 => by
  obtain ⟨k, b, n, s, xs, ps⟩ := t
  obtain ⟨k', b', n', s', ys, qs⟩ := u
  have hpp : (VT.mk k b n s xs ps).parts = VT.partsL xs + 1 := by rw [VT.parts]
  rw [hpp] at hN hd hm ⊢
  rw [VT.parts] at hup
  unfold small at hst hsu
  have hlx := len_le_parts xs
  have hly := len_le_parts ys
  unfold VT.In at hIn hIn2
  obtain ⟨pl, cl, pk, ck, rfl, -, -, -, -, hks, hl⟩ := hIn
  obtain ⟨pl', cl', pk', ck', rfl, h1', h2', -, -, hks', hl'⟩ := hIn2
  obtain ⟨d, rfl⟩ : ∃ d0, d = d0 + 1 := ⟨d - 1, by omega⟩
  obtain ⟨m, rfl⟩ : ∃ m0, m = m0 + 1 := ⟨m - 1, by omega⟩
  have hov : ordV (.mk k b n s xs ps) (.mk k' b' n' s' ys qs) = orE (flatV k n k' n' b b' s s') (orE (ordL xs ys ps qs) (orE (namesC ps qs) (cmpV (xs.length : Int) (ys.length : Int)))) := by rw [ordV]
  obtain ⟨c, hc⟩ : ∃ c, ordV (.mk k b n s xs ps) (.mk k' b' n' s' ys qs) = c := ⟨_, rfl⟩
  rw [hc]
  have hstop : ∀ (x : Int) (e : Ending) (w' : World), c = x → x ≠ 0 → (e = .returned (.bool false) ∧ Below B (WS x) w' ∧ AboveR B R W w') → CmpPost B R (d + 1) (m + 1) WS c (VT.partsL xs + 1) W e w' := fun x e w' hcx hx h => by
    subst hcx
    exact .inr ⟨hx, h.1, h.2.1, h.2.2⟩
  by_cases x0 : cmpV (placeV k) (placeV k') = 0
  · by_cases x1 : cmpV (ofV b) (ofV b') = 0
    · by_cases x2 : cmpV n n' = 0
      · by_cases x3 : Lib.compareBytes s.data.toList s'.data.toList = 0
        · have hf : flatV k n k' n' b b' s s' = 0 := by simp [flatV, orE, x0, x1, x2, x3]
          rw [hf] at hov
          exact compare_deep hY hB hRB hg k n k' n' b b' s s' _ _ _ _ _ _ _ _ _ _ _ _ _ _ hR hP hlow (by omega) (by omega) (by omega) (by omega) N d m (Lib.hid IH) ps qs xs ys rfl rfl hlo rfl rfl rfl rfl (by omega) (by omega) hst.1 hsu.1 hl hl' hks hks' hst.2 hsu.2 (by omega) (by omega) (by omega) (by omega) c (by rw [← hc, hov]; rfl) x0 x1 x2 x3
        · refine (compare_stopY3 hY hB hRB hg k n k' n' b b' s s' _ _ _ _ _ _ hR hP hlow (by omega) (by omega) (by omega) (by omega) x0 x1 x2 x3).mono fun e w' h => hstop _ e w' ?_ x3 h
          rw [← hc, hov]; simp [flatV, orE, x0, x1, x2, x3]
      · refine (compare_stopY2 hY hB hRB hg k n k' n' b b' s s' _ _ _ _ _ _ hR hP hlow (by omega) (by omega) (by omega) (by omega) x0 x1 x2).mono fun e w' h => hstop _ e w' ?_ x2 h
        rw [← hc, hov]; simp [flatV, orE, x0, x1, x2]
    · refine (compare_stopY1 hY hB hRB hg k n k' n' b b' s s' _ _ _ _ _ _ hR hP hlow (by omega) (by omega) (by omega) (by omega) x0 x1).mono fun e w' h => hstop _ e w' ?_ x1 h
      rw [← hc, hov]; simp [flatV, orE, x0, x1]
  · refine (compare_stopY0 hY hB hRB hg k n k' n' b b' s s' _ _ _ _ _ _ hR hP hlow (by omega) (by omega) (by omega) (by omega) x0).mono fun e w' h => hstop _ e w' ?_ x0 h
    rw [← hc, hov]; simp [flatV, orE, x0]
end Val
end Go.Proofs.YtlmebeiopnfmdaaDoor
