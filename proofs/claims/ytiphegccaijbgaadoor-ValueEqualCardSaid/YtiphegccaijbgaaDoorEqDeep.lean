/- THE WALKS over equals, and over equal where it goes down. -/
import Derived.Test.YtiphegccaijbgaaDoorRows
import Derived.Test.YtiphegccaijbgaaDoorHeld
import Derived.Test.YtiphegccaijbgaaDoorValBase
import Derived.Test.YtiphegccaijbgaaDoorVal
import Derived.Test.YtiphegccaijbgaaDoorValCmp
import Derived.Test.YtiphegccaijbgaaDoorValOrd
import Derived.Test.YtiphegccaijbgaaDoorValWalk
import Derived.Test.YtiphegccaijbgaaDoorValRef
import Derived.Test.YtiphegccaijbgaaDoorValSame
import Derived.Test.YtiphegccaijbgaaDoorValCopy
import Derived.Test.YtiphegccaijbgaaDoorEqAll
import Derived.Test.YtiphegccaijbgaaDoorEqPlain
import Derived.Test.YtiphegccaijbgaaDoorEqWalk
import Derived.WalkKit
import Derived.Lib.Hide
import Derived.WalkSpells
import Derived.WalkLawsBesides
import Derived.Laws.AppendOwn
import Derived.Laws.OwnMore
import Derived.OwnWalk
import Derived.Defers
import Derived.Outline
import Derived.Lib.SmallJoins
namespace Go.Proofs.YtiphegccaijbgaaDoor
open Go.RowKit
set_option linter.unusedVariables false
set_option linter.unusedSimpArgs false
namespace Val
theorem info_truth : (Tryd.prog.info? 41).map (fun i => (i.zero, i.size, i.bytes)) = some (some (.int .i64 0), 1, 8) := by kernel_rfl
def EqIH (N R : Nat) : Prop := ∀ (t u : VT) (v z : Value) (B : Nat) (w : World) (d m : Nat), t.parts ≤ N → allV formedV t = true → allV formedV u = true → small t → small u → VT.In w B t v → VT.In w B u z → B ≤ w.heap.size → B ≤ R → Places w → Logic.Tab w 2 Logic.ands → 1 < B → 2 < B → Reach w R d m → t.parts ≤ d → t.parts ≤ m → d ≤ 65536 → m ≤ 4194304 →
  Calls Tryd.prog 42 #[.pointer (some ⟨R, 0, none⟩), v, z] w (EqPost R d m t u w)
def EqsPost (R d m : Nat) (la lb : List VT) (w : World) (e : Ending) (w' : World) : Prop := ∃ (v : Value) (m' : Nat), e = .returned v ∧ Logic.Lst w' v (eqsV la lb) ∧ Keeps (· = R) w w' ∧ Reach w' R d m' ∧ m' ≤ m ∧ m ≤ m' + VT.partsL la
theorem lst_of_row {w : World} {b n : Nat} {v : Value} {zs : List Int} (h : w.ownsRow b 41 1 v n (zs.map (Value.int .i64))) (hn : zs.length = n) : Logic.Lst w v zs := by
  rcases h.2 with ⟨rfl, rfl⟩ | ⟨g, cap, cur, rfl, hb, hg, hnc, hm, hs, ht⟩
  · exact .inl ⟨rfl, List.eq_nil_of_length_eq_zero hn⟩
  · refine .inr ⟨⟨g, 0, none⟩, cap, by rw [hn], fun i hi => ?_, by omega⟩
    refine h.cells (g := g) rfl i _ ?_
    rw [List.getElem?_map, List.getElem?_eq_getElem hi, List.getD_eq_getElem?_getD, List.getElem?_eq_getElem hi]
    rfl
theorem VT.InL.dN {w : World} {B bl o : Nat} {l : List VT} (hb : bl < B) (h : VT.InL w B bl o l) (q : Nat) : VT.InL (w.drewN q) B bl o l := VT.InL.keep (w := w) (w' := w.drewN q) (fun _ _ => rfl) hb h
/-- Where the loop stands. -/
structure EqsAt (R d m j mj : Nat) (la lb : List VT) (w wr : World) (lv : Value) : Prop where
  keeps : Keeps (· = R) w wr
  reach : Reach wr R d mj
  le : mj ≤ m
  cost : m + VT.partsL (la.drop j) ≤ mj + VT.partsL la
  row : ∃ pre : List Int, pre.length = j ∧ eqsV la lb = pre ++ eqsV (la.drop j) (lb.drop j) ∧ wr.ownsRow w.heap.size 41 1 lv j (pre.map (Value.int .i64))
set_option maxRecDepth 100000 in
set_option maxHeartbeats 4000000 in
theorem equals_any (N R : Nat) (IH : Hid (EqIH N R)) (la lb : List VT) (pa pb : Option Addr) (ca cb B : Nat) (w : World) (d m : Nat) (hp : VT.partsL la ≤ N) (hfa : allL formedV la = true) (hfb : allL formedV lb = true) (hsa : smallL la) (hsb : smallL lb) (hl : la.length = lb.length)
    (hA : 0 < la.length → ∃ bl ol, pa = some ⟨bl, ol, none⟩ ∧ bl < B ∧ VT.InL w B bl ol la) (hBb : 0 < lb.length → ∃ bl ol, pb = some ⟨bl, ol, none⟩ ∧ bl < B ∧ VT.InL w B bl ol lb) (hB : B ≤ w.heap.size) (hBR : B ≤ R) (hP : Places w) (hT : Logic.Tab w 2 Logic.ands) (hg1 : 1 < B) (hg2 : 2 < B)
    (hR : Reach w R d m) (hd : VT.partsL la ≤ d) (hm : VT.partsL la ≤ m) (hd2 : d ≤ 65536) (hm2 : m ≤ 4194304) :
    Calls Tryd.prog 60 #[.pointer (some ⟨R, 0, none⟩), .slice pa la.length ca, .slice pb lb.length cb] w (EqsPost R d m la lb w) := by
  have hlp := len_le_parts la
  obtain ⟨ti, hi, hz0, hz1, hz2⟩ := info_parts info_truth
  obtain ⟨n, hn⟩ : ∃ n, la.length = n := ⟨_, rfl⟩
  have hn2 : lb.length = n := by omega
  have hnb : n ≤ 4194304 := by omega
  have H0 : Hid (EqsAt R d m 0 m la lb w w (.slice none 0 0)) := Lib.hid ⟨Keeps.refl _ _, hR, Nat.le_refl _, by simp, [], rfl, by simp, World.ownsRow_nil _ _ _ _⟩
  have HN := Lib.hid (And.intro hn hn2)
  have HA := Lib.hid hA
  have HB := Lib.hid hBb
  have HF : Hid (∀ x, x ∈ la → x.parts ≤ N ∧ x.parts ≤ d ∧ allV formedV x = true ∧ small x) := Lib.hid fun x hx => by have := VT.parts_mem hx; exact ⟨by omega, by omega, allL_mem hfa hx, small_mem hsa hx⟩
  have HG : Hid (∀ x, x ∈ lb → allV formedV x = true ∧ small x) := Lib.hid fun x hx => ⟨allL_mem hfb hx, small_mem hsb hx⟩
  have HW := Lib.hid (And.intro hB hBR)
  have HP := Lib.hid (And.intro hP (And.intro hT (And.intro hg1 hg2)))
  have HM := Lib.hid (And.intro hm (And.intro hd2 hm2))
  have HT := Lib.hid (And.intro hi (And.intro hz0 (And.intro hz1 hz2)))
  have hRw := hR.lt
  rw [hn, hn2]
  clear hn hn2 hp hfa hfb hsa hsb hl hA hBb hB hBR hP hT hg1 hg2 hR hd hm hd2 hm2 hlp hi hz0 hz1 hz2
  go_enter Tryd.func60, Tryd.ntmps60
  go_wp2_with fail
  go_loopw [7, 12] (fun lv i wr => ∃ j mj : Nat, j ≤ n ∧ i = .int .i64 j ∧ Hid (EqsAt R d m j mj la lb w wr lv)) (fun _ i _ => n - (intOf i).toNat)
  case atStart => exact ⟨0, m, Nat.zero_le _, rfl, H0⟩
  case round =>
    rename_i wr
    obtain ⟨j, mj, hj, rfl, HQ⟩ := hrel
    clear H0
    by_cases hlt : j < n
    · obtain ⟨x, hx⟩ : ∃ x, la[j]? = some x := ⟨la[j]'(by rw [HN.out.1]; exact hlt), List.getElem?_eq_getElem _⟩
      obtain ⟨y, hy⟩ : ∃ y, lb[j]? = some y := ⟨lb[j]'(by rw [HN.out.2]; exact hlt), List.getElem?_eq_getElem _⟩
      obtain ⟨ba, oa, rfl, hba, hIa⟩ := HA.out (by rw [HN.out.1]; omega)
      obtain ⟨bb, ob, rfl, hbb, hIb⟩ := HB.out (by rw [HN.out.2]; omega)
      have hlow : Below B w wr := HQ.out.keeps.below (fun k e => e ▸ HW.out.2) HW.out.1
      obtain ⟨d0, d1, d2, d3, d4, d5, e0, e1, e2, e3, e4, e5, hIx⟩ := (VT.InL.keep (fun q hq => hlow.cell hq) hba hIa).at hx
      obtain ⟨g0, g1, g2, g3, g4, g5, f0, f1, f2, f3, f4, f5, hIy⟩ := (VT.InL.keep (fun q hq => hlow.cell hq) hbb hIb).at hy
      obtain ⟨xk, xb, xn, xs, xpl, xnl, xcl, xpk, xnk, xck, rfl, rfl, rfl, rfl, rfl, rfl⟩ := hIx.shape
      obtain ⟨yk, yb, yn, ys, ypl, ynl, ycl, ypk, ynk, yck, rfl, rfl, rfl, rfl, rfl, rfl⟩ := hIy.shape
      have hsz := HQ.out.keeps.size
      have hxf := HF.out x (List.mem_of_getElem? hx)
      have hyf := HG.out y (List.mem_of_getElem? hy)
      have hdx : VT.partsL (la.drop j) = x.parts + VT.partsL (la.drop (j + 1)) := by rw [drop_at hx, VT.partsL]
      have hneed : x.parts ≤ mj := by have h1 := HQ.out.cost; have h2 := HM.out.1; omega
      have hdr : Below B wr wr.drew := (Below.refl B wr).drew
      have hPr : Places wr.drew := (HP.out.1.below hlow.drew HP.out.2.2.1)
      have hTr : Logic.Tab wr.drew 2 Logic.ands := HP.out.2.1.below HP.out.2.2.2 hlow.drew
      have hcall := IH.out x y _ _ B wr.drew d mj hxf.1 hxf.2.2.1 hyf.1 hxf.2.2.2 hyf.2 (hIx.below hdr) (hIy.below hdr) (by have := HW.out.1; show B ≤ wr.heap.size; omega) HW.out.2 hPr hTr HP.out.2.2.1 HP.out.2.2.2 HQ.out.reach hxf.2.1 hneed HM.out.2.1 (by have := HQ.out.le; have := HM.out.2.2; omega)
      have hltA : ba < wr.heap.size := by have := HW.out.1; omega
      have hltB : bb < wr.heap.size := by have := HW.out.1; omega
      have hneA : ba ≠ R := by have := HW.out.2; omega
      have hneB : bb ≠ R := by have := HW.out.2; omega
      obtain ⟨tv, htv⟩ : ∃ tv, eqV x y = tv := ⟨_, rfl⟩
      have hcall2 : Calls Tryd.prog 42 #[.pointer (some ⟨R, 0, none⟩), .agg #[.int .i64 xk, .bool xb, .int .i64 xn, .string xs, .slice xpl xnl xcl, .slice xpk xnk xck], .agg #[.int .i64 yk, .bool yb, .int .i64 yn, .string ys, .slice ypl ynl ycl, .slice ypk ynk yck]] wr.drew fun e w3 => ∃ m3 : Nat, e = .returned (.int .i64 tv) ∧ Keeps (· = R) wr w3 ∧ Reach w3 R d m3 ∧ m3 ≤ mj ∧ mj ≤ m3 + x.parts := by
        refine hcall.mono ?_
        rintro e w3 ⟨m3, rfl, hk, hr, h1, h2⟩
        exact ⟨m3, by rw [htv], (Keeps.refl _ wr).drew.trans hk, hr, h1, h2⟩
      have HC := Lib.hid hcall2
      have HXY := Lib.hid (And.intro hx (And.intro hy (And.intro htv hdx)))
      clear hIx hIy hIa hIb hx hy hlow hsz hxf hyf hdx hneed hdr hPr hTr hcall hcall2 htv
      go_wp2_with fail
      have hS0 : ∀ p : Addr, p.block < wr.heap.size → p.block ≠ R → wr.drew.cell? p = wr.cell? p := fun _ _ _ => rfl
      rename_i Q' K1 hK1
      refine wp_region_noPanic ?_
      refine wpIn_wide (n := 5).1 ?_
      refine wpIn_region_text (fun w' => ∀ p : Addr, p.block < wr.heap.size → p.block ≠ R → w'.cell? p = wr.cell? p) [0, 1, 2, 3, 4, 5, 6, 7, 8, 9, 10] rfl (by kernel_rfl) (by kernel_rfl) (by kernel_rfl) (by kernel_rfl) (fun _ _ _ _ _ h => h) hS0 ?_
      refine textS_take (o := _) (.pointer (some ⟨R, 0, none⟩)) (by conv => lhs; simp only [List.getElem?_toArray, List.getElem?_cons_succ, List.getElem?_cons_zero]) (by rfl) (by rfl) ?_ (fun _ => by rfl) (by conv => lhs; simp only [Act.put, List.setIfInBounds_toArray, List.set_cons_succ, List.set_cons_zero]) ?_
      · intro w _; go_simp
      refine textS_take (o := _) (.slice (some ⟨ba, oa, none⟩) n ca) (by conv => lhs; simp only [List.getElem?_toArray, List.getElem?_cons_succ, List.getElem?_cons_zero]) (by rfl) (by rfl) ?_ (fun _ => by rfl) (by conv => lhs; simp only [Act.put, List.setIfInBounds_toArray, List.set_cons_succ, List.set_cons_zero]) ?_
      · intro w _; go_simp
      refine textS_take (o := _) (.int .i64 j) (by conv => lhs; simp only [List.getElem?_toArray, List.getElem?_cons_succ, List.getElem?_cons_zero]) (by rfl) (by rfl) ?_ (fun _ => by rfl) (by conv => lhs; simp only [Act.put, List.setIfInBounds_toArray, List.set_cons_succ, List.set_cons_zero]) ?_
      · intro w _; go_simp
      refine textS_take (o := _) (.pointer (some ⟨ba, oa + j * 6, none⟩)) (by conv => lhs; simp only [List.getElem?_toArray, List.getElem?_cons_succ, List.getElem?_cons_zero]) (by rfl) (by rfl) ?_ (fun _ => by rfl) (by conv => lhs; simp only [Act.put, List.setIfInBounds_toArray, List.set_cons_succ, List.set_cons_zero]) ?_
      · intro w _; go_simp
      refine textS_take (o := _) (.agg #[.int .i64 xk, .bool xb, .int .i64 xn, .string xs, .slice xpl xnl xcl, .slice xpk xnk xck]) (by conv => lhs; simp only [List.getElem?_toArray, List.getElem?_cons_succ, List.getElem?_cons_zero]) (by rfl) (by rfl) ?_ (fun _ => by rfl) (by conv => lhs; simp only [Act.put, List.setIfInBounds_toArray, List.set_cons_succ, List.set_cons_zero]) ?_
      · intro w' hS; have q0 := (hS ⟨ba, oa + j * 6, none⟩ (by assumption) (by assumption)).trans e0; have q1 := (hS ⟨ba, oa + j * 6 + 1, none⟩ (by assumption) (by assumption)).trans e1; have q2 := (hS ⟨ba, oa + j * 6 + 2, none⟩ (by assumption) (by assumption)).trans e2; have q3 := (hS ⟨ba, oa + j * 6 + 3, none⟩ (by assumption) (by assumption)).trans e3; have q4 := (hS ⟨ba, oa + j * 6 + 4, none⟩ (by assumption) (by assumption)).trans e4; have q5 := (hS ⟨ba, oa + j * 6 + 5, none⟩ (by assumption) (by assumption)).trans e5; clear hS; go_simp
      refine textS_take (o := _) (.slice (some ⟨bb, ob, none⟩) n cb) (by conv => lhs; simp only [List.getElem?_toArray, List.getElem?_cons_succ, List.getElem?_cons_zero]) (by rfl) (by rfl) ?_ (fun _ => by rfl) (by conv => lhs; simp only [Act.put, List.setIfInBounds_toArray, List.set_cons_succ, List.set_cons_zero]) ?_
      · intro w _; go_simp
      refine textS_take (o := _) (.int .i64 j) (by conv => lhs; simp only [List.getElem?_toArray, List.getElem?_cons_succ, List.getElem?_cons_zero]) (by rfl) (by rfl) ?_ (fun _ => by rfl) (by conv => lhs; simp only [Act.put, List.setIfInBounds_toArray, List.set_cons_succ, List.set_cons_zero]) ?_
      · intro w _; go_simp
      refine textS_take (o := _) (.pointer (some ⟨bb, ob + j * 6, none⟩)) (by conv => lhs; simp only [List.getElem?_toArray, List.getElem?_cons_succ, List.getElem?_cons_zero]) (by rfl) (by rfl) ?_ (fun _ => by rfl) (by conv => lhs; simp only [Act.put, List.setIfInBounds_toArray, List.set_cons_succ, List.set_cons_zero]) ?_
      · intro w _; go_simp
      refine textS_take (o := _) (.agg #[.int .i64 yk, .bool yb, .int .i64 yn, .string ys, .slice ypl ynl ycl, .slice ypk ynk yck]) (by conv => lhs; simp only [List.getElem?_toArray, List.getElem?_cons_succ, List.getElem?_cons_zero]) (by rfl) (by rfl) ?_ (fun _ => by rfl) (by conv => lhs; simp only [Act.put, List.setIfInBounds_toArray, List.set_cons_succ, List.set_cons_zero]) ?_
      · intro w' hS; have q0 := (hS ⟨bb, ob + j * 6, none⟩ (by assumption) (by assumption)).trans f0; have q1 := (hS ⟨bb, ob + j * 6 + 1, none⟩ (by assumption) (by assumption)).trans f1; have q2 := (hS ⟨bb, ob + j * 6 + 2, none⟩ (by assumption) (by assumption)).trans f2; have q3 := (hS ⟨bb, ob + j * 6 + 3, none⟩ (by assumption) (by assumption)).trans f3; have q4 := (hS ⟨bb, ob + j * 6 + 4, none⟩ (by assumption) (by assumption)).trans f4; have q5 := (hS ⟨bb, ob + j * 6 + 5, none⟩ (by assumption) (by assumption)).trans f5; clear hS; go_simp
      refine textS_call (o := _) (by conv => lhs; simp only [List.getElem?_toArray, List.getElem?_cons_succ, List.getElem?_cons_zero]) (by rfl) (by rfl) ?_
      refine wpIn_call rfl ?_ (HC.out) ?_
      · go_simp
      rintro e w3 ⟨m3, rfl, hk3, hr3, hle3, hc3⟩
      have hS0_1 : ∀ p : Addr, p.block < wr.heap.size → p.block ≠ R → w3.cell? p = wr.cell? p := fun p hp hn => hk3.cell (p := p) hp hn
      refine ⟨_, _, rfl, (by conv => lhs; simp only [Act.put, List.setIfInBounds_toArray, List.set_cons_succ, List.set_cons_zero]), hS0_1, ?_⟩
      refine textS_take (o := _) (.int .i64 tv) (by conv => lhs; simp only [List.getElem?_toArray, List.getElem?_cons_succ, List.getElem?_cons_zero]) (by rfl) (by rfl) ?_ (fun _ => by rfl) (by conv => lhs; simp only [Act.put, List.setIfInBounds_toArray, List.set_cons_succ, List.set_cons_zero]) ?_
      · intro w _; go_simp
      have HK3 := Lib.hid (And.intro hk3 (And.intro hr3 (And.intro hle3 hc3)))
      clear hk3 hr3 hle3 hc3 hS0_1 hS0
      refine NoPanic.normal ?_
      refine hK1 _ _ ?_
      clear hK1
      clear e0 e1 e2 e3 e4 e5 f0 f1 f2 f3 f4 f5
      obtain ⟨pre, hpl, hpe, hrow⟩ := HQ.out.row
      have hg3 : wr.grownBy w3 (some R) := ⟨HK3.out.1.os, HK3.out.1.tape, HK3.out.1.output, HK3.out.1.size, fun k hk hn => HK3.out.1.block k hk (fun e => hn (by rw [e]))⟩
      have hrow3 := hrow.kept hg3 (by
        cases hv : u7.ownBlock with
        | none => exact .inl rfl
        | some k => exact .inr (by have := hrow.lt k hv; intro e; injection e with e; omega))
      have hrow4 := hrow3.alloc (.cells #[.int .i64 tv] 41)
      have hs3 := HK3.out.1.size
      have hsw : w.heap.size ≤ (w3.alloc (.cells #[.int .i64 tv] 41)).heap.size := by rw [World.size_alloc]; have := HQ.out.keeps.size; omega
      have hnews : ∀ q u, ([.int .i64 tv] : List Value)[q]? = some u → (w3.alloc (.cells #[.int .i64 tv] 41)).cell? ((⟨w3.heap.size, 0, none⟩ : Addr).add q) = some u := fun q u hu => by
        rw [Go.WideShapes.add_plain, Nat.zero_add]
        exact VT.cell_of (World.alloc_heap_new w3 _) (by simpa using hu)
      have HR4 := Lib.hid hrow4
      have HNW := Lib.hid hnews
      have HPRE := Lib.hid (And.intro hpl hpe)
      have HLV : Hid (∀ k, u7.ownBlock = some k → w.heap.size ≤ k) := Lib.hid fun k hk => (hrow.lt k hk).1
      clear hrow hg3 hrow3 hrow4 hs3 hnews hpl hpe
      go_wp2_with (at_builtin; refine wpList_append_own _ rfl (.tmp 25) (.tmp 27) 72 rfl w.heap.size 41 ti (.int .i64 0) 1 8 Tryd.underlying72 HT.out.1 HT.out.2.1 HT.out.2.2.1 HT.out.2.2.2 rfl (by decide) u7 j (pre.map (Value.int .i64)) rfl HR4.out ⟨w3.heap.size, 0, none⟩ 1 1 [.int .i64 tv] rfl rfl HNW.out ?c1 ?c2 ?c3 hsw ?_)
      case c1 => intro u hu; simp only [List.mem_singleton] at hu; subst hu; rfl
      case c2 => unfold maxLen; omega
      case c3 => omega
      intro v5 w5 hrow5 hg5 hnil5
      have hk5 : Keeps (· = R) w w5 := ((HQ.out.keeps.trans HK3.out.1).alloc _).grown hg5 (fun k hk => .inr (HLV.out k hk))
      have hr5 : Reach w5 R d m3 := by
        have h1 := HK3.out.2.1
        unfold Reach at h1 ⊢
        rw [hg5.block R (by rw [World.size_alloc]; have := HK3.out.1.size; have := HQ.out.keeps.size; omega) (fun e => by have := HLV.out R e.symm; omega), Below.heap_alloc _ _ _ (by have := HK3.out.1.size; have := HQ.out.keeps.size; omega)]
        exact h1
      have hmap : pre.map (Value.int .i64) ++ [.int .i64 tv] = (pre ++ [tv]).map (Value.int .i64) := by rw [List.map_append]; rfl
      rw [hmap] at hrow5
      have hstep : eqsV (la.drop j) (lb.drop j) = if tv = 0 then [0] else tv :: eqsV (la.drop (j + 1)) (lb.drop (j + 1)) := by
        rw [drop_at HXY.out.1, drop_at HXY.out.2.1, eqsV, HXY.out.2.2.1]
      by_cases hz : tv = 0
      · have hz2 : (tv == 0) = true := by simpa using hz
        have HE : Hid (EqsPost R d m la lb w (.returned v5) w5) := Lib.hid (by
          refine ⟨v5, m3, rfl, lst_of_row (b := w.heap.size) (n := j + 1) ?_ (by rw [HPRE.out.2, hstep, if_pos hz, List.length_append, HPRE.out.1]; rfl), hk5, hr5, by have := HQ.out.le; have := HK3.out.2.2.1; omega, ?_⟩
          · rw [HPRE.out.2, hstep, if_pos hz]
            rw [hz] at hrow5
            exact hrow5
          · have h1 := HQ.out.cost; have h2 := HXY.out.2.2.2; have h3 := HK3.out.2.2.2; omega)
        clear hrow5 hg5 hnil5 hk5 hr5 hmap hstep hz hsw
        go_wp2_with fail
        go_ret
        exact HE.out
      · have hz2 : (tv == 0) = false := by simpa using hz
        have HNEW : Hid (EqsAt R d m (j + 1) m3 la lb w w5 v5) := Lib.hid (by
          refine ⟨hk5, hr5, by have := HQ.out.le; have := HK3.out.2.2.1; omega, ?_, pre ++ [tv], by rw [List.length_append, HPRE.out.1]; rfl, ?_, hrow5⟩
          · have h1 := HQ.out.cost; have h2 := HXY.out.2.2.2; have h3 := HK3.out.2.2.2; omega
          · rw [HPRE.out.2, hstep, if_neg hz, List.append_assoc]
            rfl)
        clear hrow5 hg5 hnil5 hk5 hr5 hmap hstep hz hsw
        go_wp2_with fail
        go_roundw
        case rel => exact ⟨j + 1, m3, by omega, by go_num, HNEW⟩
        case measure => simp [intOf]; omega
    · obtain rfl : n = j := by omega
      have HE : Hid (EqsPost R d m la lb w (.returned u7) wr) := Lib.hid (by
        obtain ⟨pre, hpl, hpe, hrow⟩ := HQ.out.row
        have hdl : la.drop n = [] := by rw [← HN.out.1, List.drop_length]
        have hnil : eqsV (la.drop n) (lb.drop n) = [] := by rw [hdl]; unfold eqsV; rfl
        rw [hnil, List.append_nil] at hpe
        refine ⟨u7, mj, rfl, by rw [hpe]; exact lst_of_row hrow hpl, HQ.out.keeps, HQ.out.reach, HQ.out.le, ?_⟩
        have h1 := HQ.out.cost
        rw [hdl, VT.partsL] at h1
        omega)
      go_wp2_with fail
      go_ret
      exact HE.out
set_option maxRecDepth 100000 in
set_option maxHeartbeats 4000000 in
theorem equal_deep4 (N : Nat) (w : World) (R d m : Nat) (IH : Hid (EqIH N R)) (la lb : List VT) (qa qb : List ByteArray) (pla pqa plb pqb : Option Addr) (nla cla nqa cqa clb nqb cqb B : Nat) (n nb : Int) (b bb : Bool) (s sb : ByteArray) (t u : VT)
    (hp : VT.partsL la ≤ N) (hfa : allL formedV la = true) (hfb : allL formedV lb = true) (hsa : smallL la) (hsb : smallL lb) (hla : la.length = nla) (hlb : lb.length = nla) (hna : qa.length = nqa) (hnb : qb.length = nqb) (hqa : qa.length ≤ 4194304) (hqb : qb.length ≤ 4194304) (hka : VT.KeysIn w B pqa qa) (hkb : VT.KeysIn w B pqb qb)
    (hA : 0 < la.length → ∃ bl ol, pla = some ⟨bl, ol, none⟩ ∧ bl < B ∧ VT.InL w B bl ol la) (hBb : 0 < lb.length → ∃ bl ol, plb = some ⟨bl, ol, none⟩ ∧ bl < B ∧ VT.InL w B bl ol lb) (hB : B ≤ w.heap.size) (hBR : B ≤ R) (hP : Places w) (hT : Logic.Tab w 2 Logic.ands) (hg1 : 1 < B) (hg2 : 2 < B)
    (hR : Reach w R ((d + 1 : Nat) : Int) ((m + 1 : Nat) : Int)) (hd : d + 1 ≤ 65536) (hm : m + 1 ≤ 4194304) (hdl : VT.partsL la ≤ d) (hml : VT.partsL la ≤ m) (htp : t.parts = VT.partsL la + 1) (hf : namesV qa qb = true) (hx : Logic.allV (eqsV la lb) = eqV t u) :
    Calls Tryd.prog 42 #[.pointer (some ⟨R, 0, none⟩), .agg #[.int .i64 4, .bool b, .int .i64 n, .string s, .slice pla nla cla, .slice pqa nqa cqa], .agg #[.int .i64 4, .bool bb, .int .i64 nb, .string sb, .slice plb nla clb, .slice pqb nqb cqb]] w (EqPost R (d + 1) (m + 1) t u w) := by
  obtain ⟨e1, e2, e3, e4⟩ := eq_enter (w := w) #[.int .i64 4, .bool b, .int .i64 n, .string s, .slice pla nla cla, .slice pqa nqa cqa] #[.int .i64 4, .bool bb, .int .i64 nb, .string sb, .slice plb nla clb, .slice pqb nqb cqb] hR
  have hE := enter_yes R _ _ _ ((hR.alloc (.cells #[.int .i64 4, .bool b, .int .i64 n, .string s, .slice pla nla cla, .slice pqa nqa cqa] 25)).alloc (.cells #[.int .i64 4, .bool bb, .int .i64 nb, .string sb, .slice plb nla clb, .slice pqb nqb cqb] 25)) (by omega) (by omega) (by omega) (by omega)
  rw [show (((d + 1 : Nat) : Int) - 1) = (d : Int) by omega, show (((m + 1 : Nat) : Int) - 1) = (m : Int) by omega] at hE
  have hlow : ∀ q : Addr, q.block < B → _ := fun q hq => e2.cell (p := q) (Nat.lt_of_lt_of_le hq hB) (by show ¬ _ = _; omega)
  have hQ := keys_eq pqa pqb cqa cqb B qa qb _ (hka.keep hlow) (hkb.keep hlow) hqa hqb
  rw [hf, hna, hnb] at hQ
  have hsz := e2.size
  have hS : ∀ q, Calls Tryd.prog 60 #[.pointer (some ⟨R, 0, none⟩), .slice pla nla cla, .slice plb nla clb] (((((w.alloc (.cells #[.int .i64 4, .bool b, .int .i64 n, .string s, .slice pla nla cla, .slice pqa nqa cqa] 25)).alloc (.cells #[.int .i64 4, .bool bb, .int .i64 nb, .string sb, .slice plb nla clb, .slice pqb nqb cqb] 25)).setCell ⟨R, 0, none⟩ (.int .i64 d)).setCell ⟨R, 1, none⟩ (.int .i64 m)).drewN q) (EqsPost R d m la lb (((((w.alloc (.cells #[.int .i64 4, .bool b, .int .i64 n, .string s, .slice pla nla cla, .slice pqa nqa cqa] 25)).alloc (.cells #[.int .i64 4, .bool bb, .int .i64 nb, .string sb, .slice plb nla clb, .slice pqb nqb cqb] 25)).setCell ⟨R, 0, none⟩ (.int .i64 d)).setCell ⟨R, 1, none⟩ (.int .i64 m)).drewN q)) := fun q => by
    have := equals_any N R IH la lb pla plb cla clb B (((((w.alloc (.cells #[.int .i64 4, .bool b, .int .i64 n, .string s, .slice pla nla cla, .slice pqa nqa cqa] 25)).alloc (.cells #[.int .i64 4, .bool bb, .int .i64 nb, .string sb, .slice plb nla clb, .slice pqb nqb cqb] 25)).setCell ⟨R, 0, none⟩ (.int .i64 d)).setCell ⟨R, 1, none⟩ (.int .i64 m)).drewN q) d m hp hfa hfb hsa hsb (hla.trans hlb.symm) (fun h0 => by obtain ⟨bl, ol, e, hb, hL⟩ := hA h0; exact ⟨bl, ol, e, hb, VT.InL.dN hb (VT.InL.keep hlow hb hL) q⟩) (fun h0 => by obtain ⟨bl, ol, e, hb, hL⟩ := hBb h0; exact ⟨bl, ol, e, hb, VT.InL.dN hb (VT.InL.keep hlow hb hL) q⟩) (Nat.le_trans hB hsz) hBR (hP.keep fun i => hlow ⟨_, i, none⟩ hg1) (fun i hi => (hlow ⟨_, i, none⟩ hg2).trans (hT i hi)) hg1 hg2 (e1.drewN q) hdl hml (by omega) (by omega)
    rw [hla, hlb] at this
    exact this
  have hgR : 2 ≠ R := by omega
  have hTw : Logic.Tab _ 2 Logic.ands := fun i hi => (hlow ⟨_, i, none⟩ hg2).trans (hT i hi)
  have hgl : 2 < w.heap.size := by omega
  obtain ⟨a0, a1, a2, a3, a4, a5⟩ := e3.cell
  obtain ⟨b0, b1, b2, b3, b4, b5⟩ := e4.cell
  have HE := Lib.hid hE
  have H1 := Lib.hid e1
  have H2 := Lib.hid e2
  have HX := Lib.hid hx
  have HQ := Lib.hid hQ
  have HS := Lib.hid hS
  have HTW := Lib.hid (And.intro hTw (And.intro hgR hgl))
  have HTP := Lib.hid htp
  have H34 := Lib.hid (And.intro e3 e4)
  clear hE e1 e2 e3 e4 hR hx hQ hS hTw hgR hgl htp hlow hsz hp hfa hfb hsa hsb hla hlb hna hnb hqa hqb hka hkb hA hBb hB hBR hP hT hg1 hg2 hdl hml hf
  go_enter_defers Tryd.func42, Tryd.ntmps42
  go_wp2_with fail
  refine HE.out.mono ?_
  rintro e w1 ⟨rfl, rfl⟩
  go_wp2_with fail
  refine HQ.out.mono ?_
  rintro e w2 ⟨rfl, q, rfl⟩
  go_wp2_with fail
  refine (HS.out q).mono ?_
  rintro e w3 ⟨v, m3, rfl, hlst, hk3, hr3, hle3, hc3⟩
  have hk : Keeps (· = R) w w3 := ((H2.out.drewN q)).trans hk3
  have hA := Logic.all_any v _ w3 hlst (fun i hi => (hk3.cell (p := ⟨2, i, none⟩) (Nat.lt_of_lt_of_le HTW.out.2.2 H2.out.size) (by show ¬ _ = _; exact HTW.out.2.1)).trans (HTW.out.1 i hi))
  obtain ⟨av, hav⟩ : ∃ av, Logic.allV (eqsV la lb) = av := ⟨_, rfl⟩
  rw [hav] at hA
  have HA := Lib.hid hA
  have HK := Lib.hid (And.intro hk (And.intro hr3 (And.intro hle3 (And.intro hc3 hav))))
  clear hlst hk3 hr3 hle3 hc3 hk hA hav
  go_wp2_with fail
  refine HA.out.mono ?_
  rintro e w4 ⟨rfl, q2, rfl⟩
  go_wp2_with fail
  refine leaves_cons (f := 46) (args := #[.pointer (some ⟨R, 0, none⟩)]) (by simp) (by simp [go_sem]) ?_
  refine (leave_door R d m3 .returning _ (HK.out.2.1.drewN q2) (by omega) (by omega)).mono ?_
  rintro e u' w'' ⟨rfl, rfl, rfl⟩
  have hf := eq_left (HK.out.1.drewN q2) (HK.out.2.1.drewN q2) HK.out.2.2.1 t u (by have := HTP.out; have := HK.out.2.2.2.1; omega) av (by rw [← HX.out, HK.out.2.2.2.2])
  refine ⟨_, results_tmp rfl _ _ _, ?_⟩
  go_simp
set_option maxRecDepth 100000 in
set_option maxHeartbeats 4000000 in
theorem equal_deep5 (N : Nat) (w : World) (R d m : Nat) (IH : Hid (EqIH N R)) (la lb : List VT) (qa qb : List ByteArray) (pla pqa plb pqb : Option Addr) (nla cla nqa cqa clb nqb cqb B : Nat) (n nb : Int) (b bb : Bool) (s sb : ByteArray) (t u : VT)
    (hp : VT.partsL la ≤ N) (hfa : allL formedV la = true) (hfb : allL formedV lb = true) (hsa : smallL la) (hsb : smallL lb) (hla : la.length = nla) (hlb : lb.length = nla) (hna : qa.length = nqa) (hnb : qb.length = nqb) (hqa : qa.length ≤ 4194304) (hqb : qb.length ≤ 4194304) (hka : VT.KeysIn w B pqa qa) (hkb : VT.KeysIn w B pqb qb)
    (hA : 0 < la.length → ∃ bl ol, pla = some ⟨bl, ol, none⟩ ∧ bl < B ∧ VT.InL w B bl ol la) (hBb : 0 < lb.length → ∃ bl ol, plb = some ⟨bl, ol, none⟩ ∧ bl < B ∧ VT.InL w B bl ol lb) (hB : B ≤ w.heap.size) (hBR : B ≤ R) (hP : Places w) (hT : Logic.Tab w 2 Logic.ands) (hg1 : 1 < B) (hg2 : 2 < B)
    (hR : Reach w R ((d + 1 : Nat) : Int) ((m + 1 : Nat) : Int)) (hd : d + 1 ≤ 65536) (hm : m + 1 ≤ 4194304) (hdl : VT.partsL la ≤ d) (hml : VT.partsL la ≤ m) (htp : t.parts = VT.partsL la + 1) (hf : namesV qa qb = true) (hx : Logic.allV (eqsV la lb) = eqV t u) :
    Calls Tryd.prog 42 #[.pointer (some ⟨R, 0, none⟩), .agg #[.int .i64 5, .bool b, .int .i64 n, .string s, .slice pla nla cla, .slice pqa nqa cqa], .agg #[.int .i64 5, .bool bb, .int .i64 nb, .string sb, .slice plb nla clb, .slice pqb nqb cqb]] w (EqPost R (d + 1) (m + 1) t u w) := by
  obtain ⟨e1, e2, e3, e4⟩ := eq_enter (w := w) #[.int .i64 5, .bool b, .int .i64 n, .string s, .slice pla nla cla, .slice pqa nqa cqa] #[.int .i64 5, .bool bb, .int .i64 nb, .string sb, .slice plb nla clb, .slice pqb nqb cqb] hR
  have hE := enter_yes R _ _ _ ((hR.alloc (.cells #[.int .i64 5, .bool b, .int .i64 n, .string s, .slice pla nla cla, .slice pqa nqa cqa] 25)).alloc (.cells #[.int .i64 5, .bool bb, .int .i64 nb, .string sb, .slice plb nla clb, .slice pqb nqb cqb] 25)) (by omega) (by omega) (by omega) (by omega)
  rw [show (((d + 1 : Nat) : Int) - 1) = (d : Int) by omega, show (((m + 1 : Nat) : Int) - 1) = (m : Int) by omega] at hE
  have hlow : ∀ q : Addr, q.block < B → _ := fun q hq => e2.cell (p := q) (Nat.lt_of_lt_of_le hq hB) (by show ¬ _ = _; omega)
  have hQ := keys_eq pqa pqb cqa cqb B qa qb _ (hka.keep hlow) (hkb.keep hlow) hqa hqb
  rw [hf, hna, hnb] at hQ
  have hsz := e2.size
  have hS : ∀ q, Calls Tryd.prog 60 #[.pointer (some ⟨R, 0, none⟩), .slice pla nla cla, .slice plb nla clb] (((((w.alloc (.cells #[.int .i64 5, .bool b, .int .i64 n, .string s, .slice pla nla cla, .slice pqa nqa cqa] 25)).alloc (.cells #[.int .i64 5, .bool bb, .int .i64 nb, .string sb, .slice plb nla clb, .slice pqb nqb cqb] 25)).setCell ⟨R, 0, none⟩ (.int .i64 d)).setCell ⟨R, 1, none⟩ (.int .i64 m)).drewN q) (EqsPost R d m la lb (((((w.alloc (.cells #[.int .i64 5, .bool b, .int .i64 n, .string s, .slice pla nla cla, .slice pqa nqa cqa] 25)).alloc (.cells #[.int .i64 5, .bool bb, .int .i64 nb, .string sb, .slice plb nla clb, .slice pqb nqb cqb] 25)).setCell ⟨R, 0, none⟩ (.int .i64 d)).setCell ⟨R, 1, none⟩ (.int .i64 m)).drewN q)) := fun q => by
    have := equals_any N R IH la lb pla plb cla clb B (((((w.alloc (.cells #[.int .i64 5, .bool b, .int .i64 n, .string s, .slice pla nla cla, .slice pqa nqa cqa] 25)).alloc (.cells #[.int .i64 5, .bool bb, .int .i64 nb, .string sb, .slice plb nla clb, .slice pqb nqb cqb] 25)).setCell ⟨R, 0, none⟩ (.int .i64 d)).setCell ⟨R, 1, none⟩ (.int .i64 m)).drewN q) d m hp hfa hfb hsa hsb (hla.trans hlb.symm) (fun h0 => by obtain ⟨bl, ol, e, hb, hL⟩ := hA h0; exact ⟨bl, ol, e, hb, VT.InL.dN hb (VT.InL.keep hlow hb hL) q⟩) (fun h0 => by obtain ⟨bl, ol, e, hb, hL⟩ := hBb h0; exact ⟨bl, ol, e, hb, VT.InL.dN hb (VT.InL.keep hlow hb hL) q⟩) (Nat.le_trans hB hsz) hBR (hP.keep fun i => hlow ⟨_, i, none⟩ hg1) (fun i hi => (hlow ⟨_, i, none⟩ hg2).trans (hT i hi)) hg1 hg2 (e1.drewN q) hdl hml (by omega) (by omega)
    rw [hla, hlb] at this
    exact this
  have hgR : 2 ≠ R := by omega
  have hTw : Logic.Tab _ 2 Logic.ands := fun i hi => (hlow ⟨_, i, none⟩ hg2).trans (hT i hi)
  have hgl : 2 < w.heap.size := by omega
  obtain ⟨a0, a1, a2, a3, a4, a5⟩ := e3.cell
  obtain ⟨b0, b1, b2, b3, b4, b5⟩ := e4.cell
  have HE := Lib.hid hE
  have H1 := Lib.hid e1
  have H2 := Lib.hid e2
  have HX := Lib.hid hx
  have HQ := Lib.hid hQ
  have HS := Lib.hid hS
  have HTW := Lib.hid (And.intro hTw (And.intro hgR hgl))
  have HTP := Lib.hid htp
  have H34 := Lib.hid (And.intro e3 e4)
  clear hE e1 e2 e3 e4 hR hx hQ hS hTw hgR hgl htp hlow hsz hp hfa hfb hsa hsb hla hlb hna hnb hqa hqb hka hkb hA hBb hB hBR hP hT hg1 hg2 hdl hml hf
  go_enter_defers Tryd.func42, Tryd.ntmps42
  go_wp2_with fail
  refine HE.out.mono ?_
  rintro e w1 ⟨rfl, rfl⟩
  go_wp2_with fail
  refine HQ.out.mono ?_
  rintro e w2 ⟨rfl, q, rfl⟩
  go_wp2_with fail
  refine (HS.out q).mono ?_
  rintro e w3 ⟨v, m3, rfl, hlst, hk3, hr3, hle3, hc3⟩
  have hk : Keeps (· = R) w w3 := ((H2.out.drewN q)).trans hk3
  have hA := Logic.all_any v _ w3 hlst (fun i hi => (hk3.cell (p := ⟨2, i, none⟩) (Nat.lt_of_lt_of_le HTW.out.2.2 H2.out.size) (by show ¬ _ = _; exact HTW.out.2.1)).trans (HTW.out.1 i hi))
  obtain ⟨av, hav⟩ : ∃ av, Logic.allV (eqsV la lb) = av := ⟨_, rfl⟩
  rw [hav] at hA
  have HA := Lib.hid hA
  have HK := Lib.hid (And.intro hk (And.intro hr3 (And.intro hle3 (And.intro hc3 hav))))
  clear hlst hk3 hr3 hle3 hc3 hk hA hav
  go_wp2_with fail
  refine HA.out.mono ?_
  rintro e w4 ⟨rfl, q2, rfl⟩
  go_wp2_with fail
  refine leaves_cons (f := 46) (args := #[.pointer (some ⟨R, 0, none⟩)]) (by simp) (by simp [go_sem]) ?_
  refine (leave_door R d m3 .returning _ (HK.out.2.1.drewN q2) (by omega) (by omega)).mono ?_
  rintro e u' w'' ⟨rfl, rfl, rfl⟩
  have hf := eq_left (HK.out.1.drewN q2) (HK.out.2.1.drewN q2) HK.out.2.2.1 t u (by have := HTP.out; have := HK.out.2.2.2.1; omega) av (by rw [← HX.out, HK.out.2.2.2.2])
  refine ⟨_, results_tmp rfl _ _ _, ?_⟩
  go_simp
theorem equal_step (N R : Nat) (IH : EqIH N R) : EqIH (N + 1) R := fun t u v z B w d m hN hft hfu hst hsu hIn hIn2 hB hBR hP hT hg1 hg2 hR hd hm hd2 hm2 => by
  obtain ⟨k, b, n, s, l, ks⟩ := t
  obtain ⟨k', b', n', s', l', ks'⟩ := u
  have hf1 := hft
  have hf2 := hfu
  rw [allV, Bool.and_eq_true] at hf1 hf2
  obtain ⟨f0, f1, f2, f3, f4, f5, f6⟩ := formed_fields hf1.1
  obtain ⟨g0, g1, g2, g3, g4, g5, g6⟩ := formed_fields hf2.1
  have hpp : (VT.mk k b n s l ks).parts = VT.partsL l + 1 := by rw [VT.parts]
  rw [hpp] at hN hd hm
  unfold small at hst hsu
  unfold VT.In at hIn hIn2
  obtain ⟨pl, cl, pk, ck, rfl, -, -, -, -, hks, hl⟩ := hIn
  obtain ⟨pl', cl', pk', ck', rfl, -, -, -, -, hks', hl'⟩ := hIn2
  obtain ⟨d, rfl⟩ : ∃ d0, d = d0 + 1 := ⟨d - 1, by omega⟩
  obtain ⟨m, rfl⟩ : ∃ m0, m = m0 + 1 := ⟨m - 1, by omega⟩
  have hIH := Lib.hid IH
  by_cases hk0 : k = 0
  · subst hk0
    exact equal_null R d m k' _ _ _ _ n n' b b' s s' _ _ w hR hd2 hm2 (by unfold eqV; rw [if_pos (.inl rfl)])
  by_cases hk0' : k' = 0
  · subst hk0'
    exact equal_null2 R d m k (by simpa using hk0) _ _ _ _ n n' b b' s s' _ _ w hR hd2 hm2 (by unfold eqV; rw [if_pos (.inr rfl)])
  have hn0 : ¬ (k = 0 ∨ k' = 0) := fun h => h.elim hk0 hk0'
  by_cases hkk : k = k'
  · subst hkk
    by_cases h45 : k ≠ 4 ∧ k ≠ 5
    · obtain ⟨rfl, rfl⟩ := f2 h45.1 h45.2
      obtain ⟨rfl, rfl⟩ := g2 h45.1 h45.2
      exact equal_flat w R d m k (by simpa using hk0) (by simpa using h45.1) (by simpa using h45.2) (by simpa using h45.1) (by simpa using h45.2) _ _ _ _ _ _ _ _ hP (by omega) n n' b b' s s' _ _ hR hd2 hm2 (by
        unfold eqV
        rw [if_neg hn0, if_neg (show ¬ (k ≠ k) from fun h => h rfl), if_pos h45]
        by_cases hz : flatV k n k n' b b' s s' = 0
        · rw [if_pos hz, hz]; rfl
        · rw [if_neg hz, show (flatV k n k n' b b' s s' == 0) = false by simpa using hz]; rfl)
    · have hev : eqV (.mk k b n s l ks) (.mk k b' n' s' l' ks') = if l.length ≠ l'.length ∨ namesV ks ks' = false then 0 else Logic.allV (eqsV l l') := by
        rw [eqV, if_neg hn0, if_neg (show ¬ (k ≠ k) from fun h => h rfl), if_neg h45]
      by_cases hll : l.length = l'.length
      · by_cases hnm : namesV ks ks' = true
        · have hx : Logic.allV (eqsV l l') = eqV (.mk k b n s l ks) (.mk k b' n' s' l' ks') := by rw [hev, if_neg (fun h => h.elim (fun h => h hll) (fun h => by rw [hnm] at h; cases h))]
          have hk45 : k = 4 ∨ k = 5 := by omega
          rcases hk45 with rfl | rfl
          · rw [← hll]
            exact equal_deep4 N w R d m hIH l l' ks ks' _ _ _ _ _ _ _ _ _ _ _ B n n' b b' s s' _ _ (by omega) hf1.2 hf2.2 hst.2 hsu.2 rfl hll.symm rfl rfl hst.1 hsu.1 hks hks' hl hl' hB hBR hP hT hg1 hg2 hR hd2 hm2 (by omega) (by omega) hpp hnm hx
          · rw [← hll]
            exact equal_deep5 N w R d m hIH l l' ks ks' _ _ _ _ _ _ _ _ _ _ _ B n n' b b' s s' _ _ (by omega) hf1.2 hf2.2 hst.2 hsu.2 rfl hll.symm rfl rfl hst.1 hsu.1 hks hks' hl hl' hB hBR hP hT hg1 hg2 hR hd2 hm2 (by omega) (by omega) hpp hnm hx
        · have hnf : namesV ks ks' = false := by simpa using hnm
          have hx : 0 = eqV (.mk k b n s l ks) (.mk k b' n' s' l' ks') := by rw [hev, if_pos (.inr hnf)]
          have hk45 : k = 4 ∨ k = 5 := by omega
          rcases hk45 with rfl | rfl
          · rw [← hll]
            exact equal_keysL w R d m _ _ _ _ _ _ _ _ _ _ _ B ks ks' rfl rfl hst.1 hsu.1 hks hks' hB hBR hnf n n' b b' s s' _ _ hR hd2 hm2 hx
          · rw [← hll]
            exact equal_keysM w R d m _ _ _ _ _ _ _ _ _ _ _ B ks ks' rfl rfl hst.1 hsu.1 hks hks' hB hBR hnf n n' b b' s s' _ _ hR hd2 hm2 hx
      · have hx : 0 = eqV (.mk k b n s l ks) (.mk k b' n' s' l' ks') := by rw [hev, if_pos (.inl hll)]
        have h1 : ((l.length : Int) != (l'.length : Int)) = true := by simp only [bne_iff_ne]; omega
        have h2 : ((l.length : Int) == (l'.length : Int)) = false := by simp; omega
        have hk45 : k = 4 ∨ k = 5 := by omega
        rcases hk45 with rfl | rfl
        · exact equal_lenL R d m _ _ _ _ _ _ _ _ _ _ _ _ h1 h2 n n' b b' s s' _ _ w hR hd2 hm2 hx
        · exact equal_lenM R d m _ _ _ _ _ _ _ _ _ _ _ _ h1 h2 n n' b b' s s' _ _ w hR hd2 hm2 hx
  · exact equal_kinds R d m k k' (by simpa using hk0) (by simpa using hk0') (by simpa using hkk) (by simpa using hkk) _ _ _ _ n n' b b' s s' _ _ w hR hd2 hm2 (by unfold eqV; rw [if_neg hn0, if_pos hkk])
theorem equal_rec (R : Nat) : ∀ N, EqIH N R
  | 0 => fun t _ _ _ _ _ _ _ h => by have := t.parts_pos; omega
  | N + 1 => equal_step N R (equal_rec R N)
end Val
end Go.Proofs.YtiphegccaijbgaaDoor
