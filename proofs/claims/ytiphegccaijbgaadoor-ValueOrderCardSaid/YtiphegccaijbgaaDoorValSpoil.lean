/- Spoil of the document: it writes the blocks of a value of the call's own, no other. -/
import Derived.Test.YtiphegccaijbgaaDoorRows
import Derived.Test.YtiphegccaijbgaaDoorValBase
import Derived.Test.YtiphegccaijbgaaDoorVal
import Derived.Test.YtiphegccaijbgaaDoorValCmp
import Derived.Test.YtiphegccaijbgaaDoorValOwn
import Derived.Test.YtiphegccaijbgaaDoorValCopy
import Derived.Test.YtiphegccaijbgaaDoorValCopyR
import Derived.WalkKit
import Derived.Lib.Hide
import Derived.WalkSpells
import Derived.WalkLawsBesides
import Derived.OwnWalk
import Derived.Outline
namespace Go.Proofs.YtiphegccaijbgaaDoor
open Go.RowKit
set_option linter.unusedVariables false
set_option linter.unusedSimpArgs false
namespace Val
theorem VT.OwnL.later {X : Nat → Prop} {w w' : World} {lb : Nat} (hk : Keeps X w w') : ∀ {l : List VT} {o : Nat} {S : Nat → Prop}, (∀ i, o ≤ i → i < o + l.length * 6 → w'.cell? ⟨lb, i, none⟩ = w.cell? ⟨lb, i, none⟩) → VT.OwnL w lb l o S → (∀ k, S k → k < w.heap.size ∧ ¬ X k) → VT.OwnL w' lb l o S
  | [], _, _, _, _, _ => by unfold VT.OwnL; trivial
  | t :: ts, o, S, hc, h, hS => by
    unfold VT.OwnL at h ⊢
    rw [List.length_cons] at hc
    obtain ⟨S1, S2, h1, h2, ⟨c0, c1, c2, c3, c4, c5, e0, e1, e2, e3, e4, e5, ht⟩, hts⟩ := h
    exact ⟨S1, S2, h1, h2, ⟨c0, c1, c2, c3, c4, c5, (hc _ (by omega) (by omega)).trans e0, (hc _ (by omega) (by omega)).trans e1, (hc _ (by omega) (by omega)).trans e2, (hc _ (by omega) (by omega)).trans e3, (hc _ (by omega) (by omega)).trans e4, (hc _ (by omega) (by omega)).trans e5, VT.Own.keeps hk ht (fun k hk' => hS k (h1 k hk'))⟩, VT.OwnL.later hk (fun i ho hi => hc i (by omega) (by omega)) hts (fun k hk' => hS k (h2 k hk').1)⟩
def SpoilPost (S : Nat → Prop) (w : World) (e : Ending) (w' : World) : Prop := e = .returned (.tuple #[]) ∧ Keeps S w w'
def SpoilIH (N : Nat) : Prop := ∀ (t : VT) (v : Value) (S : Nat → Prop) (w : World), t.parts ≤ N → t.parts ≤ 4194304 → small t → VT.Own w t S v → (∀ k, S k → k < w.heap.size) → Calls Tryd.prog 20 #[v] w (SpoilPost S w)
/-- Where the loop over the values stands. -/
structure SpLoop (l : List VT) (j nk : Nat) (lb kb : Nat) (cs : Array Value) (S S' : Nat → Prop) (w wr : World) : Prop where
  keeps : Keeps S w wr
  box : Box wr w.heap.size cs
  blk : 0 < l.length → ∃ ds, wr.heap[lb]? = some (.cells ds 25 (0, 0)) ∧ l.length * 6 ≤ ds.size
  own : ∃ Sj : Nat → Prop, (∀ k, Sj k → S' k) ∧ VT.OwnL wr lb (l.drop j) (j * 6) Sj
  keys : 0 < nk → ∃ ds, wr.heap[kb]? = some (.cells ds 9 (0, 0)) ∧ nk ≤ ds.size
/-- Where the loop over the keys stands. -/
structure SpKeys (nk kb : Nat) (cs : Array Value) (S : Nat → Prop) (w wr : World) : Prop where
  keeps : Keeps S w wr
  box : Box wr w.heap.size cs
  keys : 0 < nk → ∃ ds, wr.heap[kb]? = some (.cells ds 9 (0, 0)) ∧ nk ≤ ds.size
theorem SpKeys.step {nk kb j : Nat} {cs : Array Value} {S : Nat → Prop} {w wr : World} {v : Value} (h : SpKeys nk kb cs S w wr) (hj : j < nk) (hS : S kb) (hlt : kb < w.heap.size) : SpKeys nk kb cs S w (wr.setCell ⟨kb, j, none⟩ v) := by
  refine ⟨h.keeps.setCell (p := ⟨kb, j, none⟩) (.inl hS) v, h.box.far (p := ⟨kb, j, none⟩) (by show w.heap.size ≠ kb; omega) v, fun h0 => ?_⟩
  obtain ⟨ds, hd, hz⟩ := h.keys h0
  exact ⟨ds.setIfInBounds j v, by simp [World.setCell, Array.getElem?_modify, hd], by simpa using hz⟩
theorem SpKeys.cell {nk kb j : Nat} {cs : Array Value} {S : Nat → Prop} {w wr : World} (h : SpKeys nk kb cs S w wr) (hj : j < nk) : ∃ v, wr.cell? ⟨kb, j, none⟩ = some v ∧ wr.frozen? ⟨kb, j, none⟩ = false := by
  obtain ⟨ds, hd, hz⟩ := h.keys (by omega)
  have hb : j < ds.size := by omega
  exact ⟨ds[j], by simp [World.cell?, hd, hb], by simp [World.frozen?, hd]⟩
set_option maxRecDepth 100000 in
set_option maxHeartbeats 4000000 in
theorem spoil_rec : ∀ N, SpoilIH N
  | 0, t, _, _, _, h, _, _, _, _ => by have := t.parts_pos; omega
  | N + 1, t, v, S, w, hN, h4, hsm, hOwn, hSl => by
    have IH := Lib.hid (spoil_rec N)
    obtain ⟨k, b, n, s, l, ks⟩ := t
    unfold VT.Own at hOwn
    obtain ⟨pl, cl, pk, ck, rfl, h1, h2, h3, h5, hks, hl⟩ := hOwn
    rw [VT.parts] at hN h4
    unfold small at hsm
    have hll := len_le_parts l
    have hL : ∃ (lb : Nat) (S' : Nat → Prop), (0 < l.length → pl = some ⟨lb, 0, none⟩ ∧ S lb) ∧ (0 < l.length → ∃ ds, w.heap[lb]? = some (.cells ds 25 (0, 0)) ∧ l.length * 6 ≤ ds.size) ∧ (∀ j, S' j → S j ∧ (0 < l.length → j ≠ lb) ∧ pk ≠ some ⟨j, 0, none⟩) ∧ VT.OwnL w lb l 0 S' := by
      by_cases h0 : 0 < l.length
      · obtain ⟨lb, S', e, hs, hb, hS', hown⟩ := hl h0
        exact ⟨lb, S', fun _ => ⟨e, hs⟩, fun _ => hb, fun j hj => ⟨(hS' j hj).1, fun _ => (hS' j hj).2.1, (hS' j hj).2.2⟩, hown⟩
      · have : l = [] := List.eq_nil_of_length_eq_zero (by omega)
        subst this
        exact ⟨0, fun _ => False, fun h => absurd h h0, fun h => absurd h h0, fun j hj => hj.elim, by unfold VT.OwnL; trivial⟩
    have hK : ∃ kb : Nat, (0 < ks.length → pk = some ⟨kb, 0, none⟩ ∧ S kb) ∧ (0 < ks.length → ∃ ds, w.heap[kb]? = some (.cells ds 9 (0, 0)) ∧ ks.length ≤ ds.size) := by
      by_cases h0 : 0 < ks.length
      · obtain ⟨kb, e, hs, ds, hd, hz, -⟩ := hks h0
        exact ⟨kb, fun _ => ⟨e, hs⟩, fun _ => ⟨ds, hd, hz⟩⟩
      · exact ⟨0, fun h => absurd h h0, fun h => absurd h h0⟩
    obtain ⟨lb, S', hlp, hlb, hS', hown⟩ := hL
    obtain ⟨kb, hkp, hkb⟩ := hK
    obtain ⟨nl, hnl⟩ : ∃ nl, l.length = nl := ⟨_, rfl⟩
    obtain ⟨nk, hnk⟩ : ∃ nk, ks.length = nk := ⟨_, rfl⟩
    have hnl2 : nl ≤ 4194304 := by omega
    have hnk2 : nk ≤ 4194304 := by omega
    rw [hnk] at hkp hkb
    have hw1 : Keeps S w (w.alloc (.cells #[.int .i64 k, .bool b, .int .i64 n, .string s, .slice pl nl cl, .slice pk nk ck] 25)) := (Keeps.refl S w).alloc _
    have H0 : Hid (SpLoop l 0 nk lb kb #[.int .i64 k, .bool b, .int .i64 n, .string s, .slice pl nl cl, .slice pk nk ck] S S' w (w.alloc (.cells #[.int .i64 k, .bool b, .int .i64 n, .string s, .slice pl nl cl, .slice pk nk ck] 25))) := Lib.hid (by
      refine ⟨hw1, Box.new w _, fun h0 => ?_, ⟨S', fun _ h => h, ?_⟩, fun h0 => ?_⟩
      · obtain ⟨ds, hd, hz⟩ := hlb h0
        exact ⟨ds, (Below.heap_alloc w _ lb (hSl lb (hlp h0).2)).trans hd, hz⟩
      · by_cases h0 : 0 < l.length
        · have hlt := hSl lb (hlp h0).2
          rw [List.drop_zero, Nat.zero_mul]
          exact VT.OwnL.later (Keeps.of_below (X := fun _ => False) ((Below.refl _ w).alloc (Nat.le_refl _) _)) (fun i _ _ => ((Below.refl _ w).alloc (Nat.le_refl _) _).cell (p := ⟨lb, i, none⟩) hlt) hown (fun q hq => ⟨hSl q (hS' q hq).1, fun h => h⟩)
        · have : l = [] := List.eq_nil_of_length_eq_zero (by omega)
          subst this
          rw [List.drop_nil]
          unfold VT.OwnL
          trivial
      · obtain ⟨ds, hd, hz⟩ := hkb h0
        exact ⟨ds, (Below.heap_alloc w _ kb (hSl kb (hkp h0).2)).trans hd, hz⟩)
    have HX : Hid (∀ x, x ∈ l → x.parts ≤ N ∧ x.parts ≤ 4194304 ∧ small x) := Lib.hid fun x hx => by have := VT.parts_mem hx; exact ⟨by omega, by omega, small_mem hsm.2 hx⟩
    have HN := Lib.hid (And.intro hnl hnk)
    have HL := Lib.hid (And.intro hlp hS')
    have HK := Lib.hid hkp
    have HS := Lib.hid hSl
    rw [hnl, hnk]
    clear hN h4 hsm h1 h2 h3 h5 hks hl hll hnl hnk hlp hlb hS' hown hkp hkb hw1 hSl
    go_enter Tryd.func20, Tryd.ntmps20
    go_wp2_with fail
    go_loopw [2] (fun i wr => ∃ j : Nat, j ≤ nl ∧ i = .int .i64 j ∧ Hid (SpLoop l j nk lb kb #[.int .i64 k, .bool b, .int .i64 n, .string s, .slice pl nl cl, .slice pk nk ck] S S' w wr)) (fun i _ => nl - (intOf i).toNat)
    case atStart => exact ⟨0, Nat.zero_le _, rfl, H0⟩
    case round =>
      rename_i wr
      obtain ⟨j, hj, rfl, HW⟩ := hrel
      clear H0
      obtain ⟨a0, a1, a2, a3, a4, a5⟩ := HW.out.box.cell
      by_cases hlt : j < nl
      · obtain ⟨x, hx⟩ : ∃ x, l[j]? = some x := ⟨l[j]'(by rw [HN.out.1]; exact hlt), List.getElem?_eq_getElem _⟩
        obtain ⟨rfl, hSlb⟩ := HL.out.1 (by rw [HN.out.1]; omega)
        obtain ⟨Sj, hSj, hown⟩ := HW.out.own
        rw [drop_at hx] at hown
        unfold VT.OwnL at hown
        obtain ⟨S1, S2, hS1, hS2, ⟨c0, c1, c2, c3, c4, c5, e0, e1, e2, e3, e4, e5, hXo⟩, hts⟩ := hown
        obtain ⟨xk, xb, xn, xs, xpl, xnl, xcl, xpk, xnk, xck, hsh⟩ := hXo.shape
        injection hsh with hsh
        injection hsh with hsh
        injection hsh with g0 hsh
        injection hsh with g1 hsh
        injection hsh with g2 hsh
        injection hsh with g3 hsh
        injection hsh with g4 hsh
        injection hsh with g5 _
        subst g0 g1 g2 g3 g4 g5
        have hxp := HX.out x (List.mem_of_getElem? hx)
        have hSS : ∀ q, S1 q → S q ∧ q ≠ lb ∧ pk ≠ some ⟨q, 0, none⟩ := fun q hq => by
          have h := HL.out.2 q (hSj q (hS1 q hq))
          exact ⟨h.1, h.2.1 (by rw [HN.out.1]; omega), h.2.2⟩
        have HC := Lib.hid (IH.out x _ S1 wr hxp.1 hxp.2.1 hxp.2.2 hXo (fun q hq => Nat.lt_of_lt_of_le (HS.out q (hSS q hq).1) HW.out.keeps.size))
        have HXJ := Lib.hid hx
        have HTS := Lib.hid (And.intro hSj (And.intro hS2 (And.intro hSS hts)))
        clear hXo hx hxp hSj hS1 hS2 hSS hts
        go_wp2_with fail
        refine HC.out.mono ?_
        rintro e w3 ⟨rfl, hk3⟩
        have hbx : Box w3 w.heap.size _ := (hk3.block _ HW.out.box.lt (fun h => by have := HS.out _ (HTS.out.2.2.1 _ h).1; omega)).trans HW.out.box
        obtain ⟨b0, b1, b2, b3, b4, b5⟩ := Box.cell hbx
        have hlbw : lb < w.heap.size := HS.out _ hSlb
        have hlbr : lb < wr.heap.size := Nat.lt_of_lt_of_le hlbw HW.out.keeps.size
        obtain ⟨ds, hd, hz⟩ := HW.out.blk (by rw [HN.out.1]; omega)
        rw [HN.out.1] at hz
        have hd3 : w3.heap[lb]? = some (.cells ds 25 (0, 0)) := (hk3.block _ hlbr (fun h => (HTS.out.2.2.1 _ h).2.1 rfl)).trans hd
        have hcell : ∀ i, i < 6 → w3.cell? ⟨lb, j * 6 + i, none⟩ = some (ds[j * 6 + i]!) ∧ w3.frozen? ⟨lb, j * 6 + i, none⟩ = false := fun i hi => by
          have hb : j * 6 + i < ds.size := by omega
          constructor
          · simp [World.cell?, hd3, hb]
          · simp [World.frozen?, hd3]
        obtain ⟨f0, u0⟩ := hcell 0 (by omega)
        obtain ⟨f1, u1⟩ := hcell 1 (by omega)
        obtain ⟨f2, u2⟩ := hcell 2 (by omega)
        obtain ⟨f3, u3⟩ := hcell 3 (by omega)
        obtain ⟨f4, u4⟩ := hcell 4 (by omega)
        obtain ⟨f5, u5⟩ := hcell 5 (by omega)
        simp only [Nat.add_zero] at f0 u0
        have HNEW : Hid (SpLoop l (j + 1) nk lb kb #[.int .i64 k, .bool b, .int .i64 n, .string s, .slice (some ⟨lb, 0, none⟩) nl cl, .slice pk nk ck] S S' w (six w3 lb (j * 6) (.int .i64 2) (.bool false) (.int .i64 99) (.string ⟨#[]⟩) (.slice none 0 0) (.slice none 0 0))) := Lib.hid (by
          have hsx : Keeps (· = lb) w3 (six w3 lb (j * 6) (.int .i64 2) (.bool false) (.int .i64 99) (.string ⟨#[]⟩) (.slice none 0 0) (.slice none 0 0)) := six_keeps (Keeps.refl (· = lb) w3) (.inl rfl)
          have hS3 := hk3.size
          refine ⟨(HW.out.keeps.trans (hk3.mono (fun q hq _ => (HTS.out.2.2.1 q hq).1))).trans (hsx.mono (fun q e _ => by rw [e]; exact hSlb)), (hsx.block _ (by have := HW.out.box.lt; omega) (by show ¬ _ = _; omega)).trans hbx, fun h0 => ?_, ⟨S2, fun q hq => HTS.out.1 q (HTS.out.2.1 q hq).1, ?_⟩, fun h0 => ?_⟩
          · refine ⟨_, six_block hd3, ?_⟩
            rw [HN.out.1]
            simpa using hz
          · have hl1 : ∀ q, S2 q → q < wr.heap.size ∧ ¬ S1 q ∧ q ≠ lb := fun q hq => by
              have h1 := HTS.out.2.1 q hq
              have h2 := HL.out.2 q (HTS.out.1 q h1.1)
              exact ⟨Nat.lt_of_lt_of_le (HS.out q h2.1) HW.out.keeps.size, h1.2, h2.2.1 (by rw [HN.out.1]; omega)⟩
            have o1 := VT.OwnL.later hk3 (fun i _ _ => hk3.cell (p := ⟨lb, i, none⟩) hlbr (fun h => (HTS.out.2.2.1 _ h).2.1 rfl)) HTS.out.2.2.2 (fun q hq => ⟨(hl1 q hq).1, (hl1 q hq).2.1⟩)
            have o2 := VT.OwnL.later hsx (fun i ho _ => ?_) o1 (fun q hq => ⟨Nat.lt_of_lt_of_le (hl1 q hq).1 hS3, (hl1 q hq).2.2⟩)
            · rw [show (j + 1) * 6 = j * 6 + 6 by omega]
              exact o2
            · simp only [World.cell?, six_block hd3, hd3]
              rw [Array.getElem?_setIfInBounds_ne (by omega), Array.getElem?_setIfInBounds_ne (by omega), Array.getElem?_setIfInBounds_ne (by omega), Array.getElem?_setIfInBounds_ne (by omega), Array.getElem?_setIfInBounds_ne (by omega), Array.getElem?_setIfInBounds_ne (by omega)]
          · obtain ⟨es, he, hez⟩ := HW.out.keys h0
            obtain ⟨hpk, hSk⟩ := HK.out h0
            have hne : kb ≠ lb := fun e => by rw [e, hd] at he; injection he with he; injection he with _ he; revert he; decide
            have hkl : kb < wr.heap.size := Nat.lt_of_lt_of_le (HS.out _ hSk) HW.out.keeps.size
            exact ⟨es, (hsx.block _ (by omega) hne).trans ((hk3.block _ hkl (fun h => (HTS.out.2.2.1 _ h).2.2 hpk)).trans he), hez⟩)
        clear hcell hd hz hd3 hbx hk3 hlbw hlbr
        go_wp2_with fail
        go_roundw
        case rel => exact ⟨j + 1, by omega, by go_num, HNEW⟩
        case measure => simp [intOf]; omega
      · obtain rfl : nl = j := by omega
        have HK0 : Hid (SpKeys nk kb #[.int .i64 k, .bool b, .int .i64 n, .string s, .slice pl nl cl, .slice pk nk ck] S w wr) := Lib.hid ⟨HW.out.keeps, HW.out.box, HW.out.keys⟩
        clear HW HX IH
        go_wp2_with fail
        clear a0 a1 a2 a3 a4 a5
        obtain ⟨wo, rfl⟩ : ∃ wo : World, wo = wr := ⟨_, rfl⟩
        go_loopw [3] (fun i wr => ∃ j : Nat, j ≤ nk ∧ i = .int .i64 j ∧ Hid (SpKeys nk kb #[.int .i64 k, .bool b, .int .i64 n, .string s, .slice pl nl cl, .slice pk nk ck] S w wr)) (fun i _ => nk - (intOf i).toNat)
        case atStart => exact ⟨0, Nat.zero_le _, rfl, HK0⟩
        case round =>
          obtain ⟨i, hi, rfl, HW⟩ := hrel
          clear HK0
          obtain ⟨a0, a1, a2, a3, a4, a5⟩ := HW.out.box.cell
          by_cases hlt : i < nk
          · obtain ⟨rfl, hSk⟩ := HK.out (by omega)
            obtain ⟨v0, f0, u0⟩ := HW.out.cell hlt
            have HNEW := Lib.hid (HW.out.step (v := .string ⟨#[115, 112, 111, 105, 108, 116]⟩) hlt hSk (HS.out _ hSk))
            go_wp2_with fail
            go_roundw
            case rel => exact ⟨i + 1, by omega, by go_num, HNEW⟩
            case measure => simp [intOf]; omega
          · obtain rfl : nk = i := by omega
            have HP : Hid (SpoilPost S w (.returned (.tuple #[])) _) := Lib.hid ⟨rfl, HW.out.keeps⟩
            go_wp2_with fail
            go_end0
            exact HP.out
end Val
end Go.Proofs.YtiphegccaijbgaaDoor
