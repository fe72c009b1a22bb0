/- The small example of layer 3's statements comes out true. -/
import Derived.Test.YtiphegccaijbgaaDoorRows
import Derived.Test.YtiphegccaijbgaaDoorValBase
import Derived.Test.YtiphegccaijbgaaDoorVal
import Derived.Test.YtiphegccaijbgaaDoorValCmp
import Derived.Test.YtiphegccaijbgaaDoorValOrd
import Derived.Test.YtiphegccaijbgaaDoorValCopy
import Derived.Test.YtiphegccaijbgaaDoorValCopyA
import Derived.Test.YtiphegccaijbgaaDoorValGet
import Derived.Test.YtiphegccaijbgaaDoorValRise3
import Derived.Test.YtiphegccaijbgaaDoorValMap
import Derived.WalkKit
import Derived.Lib.Hide
import Derived.WalkSpells
import Derived.WalkLawsBesides
import Derived.OwnWalk
import Derived.Outline
namespace Go.Proofs.YtiphegccaijbgaaDoor
open Go.RowKit Go.Shelf Go.Lib Go.Sort
set_option linter.unusedVariables false
set_option linter.unusedSimpArgs false
namespace Val
/-- One and b. -/
def oneV : VT := .mk 2 false 1 ⟨#[]⟩ [] []
def bV : VT := .mk 3 false 0 ⟨#[98]⟩ [] []
/-- The map of both. -/
def xyV : VT := .mk 5 false 0 ⟨#[]⟩ [bV, oneV] [⟨#[120]⟩, ⟨#[121]⟩]
theorem xy_may : mayB xyV = true := by kernel_rfl
theorem b_may : mayB bV = true := by kernel_rfl
theorem xy_tree (d' : Array (Fin (1 + 1))) (hp : PermIn 0 (1 + 1) (Array.ofFn (n := 1 + 1) id) d') (hs : SortedIn (ltOf (nameCmp yx 1)) 0 (1 + 1) d') : mapTree yx [oneV, bV] (1 + 1) (placeOf d') = xyV := by
  obtain ⟨e0, e1⟩ := yx_row d' hp hs
  have p0 : placeOf d' 0 = 1 := by unfold placeOf; rw [e0]; rfl
  have p1 : placeOf d' 1 = 0 := by unfold placeOf; rw [e1]; rfl
  unfold mapTree
  show VT.mk 5 false 0 ⟨#[]⟩ [([oneV, bV] : List VT).getD (placeOf d' 0) nullV, ([oneV, bV] : List VT).getD (placeOf d' 1) nullV] [yx.getD (placeOf d' 0) default, yx.getD (placeOf d' 1) default] = xyV
  rw [p0, p1]
  rfl
theorem flat_bb : flatV 3 0 3 0 false false ⟨#[98]⟩ ⟨#[98]⟩ = 0 := by decide
theorem flat_b1 : (flatV 3 0 2 1 false false ⟨#[98]⟩ ⟨#[]⟩ == 0) = false := by decide
theorem flat_1b : flatV 2 1 3 0 false false ⟨#[]⟩ ⟨#[98]⟩ = 1 := by decide
def XYPost (w : World) (e : Ending) (w' : World) : Prop := ∃ (pl : Option Addr) (cl kb ko ck : Nat), e = .returned (.tuple #[.agg #[.int .i64 5, .bool false, .int .i64 0, .string ⟨#[]⟩, .slice pl 2 cl, .slice (some ⟨kb, ko, none⟩) 2 ck], .int .i64 0]) ∧
  VT.In w' w'.heap.size xyV (.agg #[.int .i64 5, .bool false, .int .i64 0, .string ⟨#[]⟩, .slice pl 2 cl, .slice (some ⟨kb, ko, none⟩) 2 ck]) ∧ w'.cell? ⟨kb, ko, none⟩ = some (.string ⟨#[120]⟩) ∧ kb < w'.heap.size ∧ Go.RowKit.Below w.heap.size w w'
theorem map_yx (kb lb : Nat) (w : World) (hk : w.heap[kb]? = some (.cells #[.string ⟨#[121]⟩, .string ⟨#[120]⟩] 9 (0, 0)))
    (hl : w.heap[lb]? = some (.cells #[.int .i64 2, .bool false, .int .i64 1, .string ⟨#[]⟩, .slice none 0 0, .slice none 0 0, .int .i64 3, .bool false, .int .i64 0, .string ⟨#[98]⟩, .slice none 0 0, .slice none 0 0] 25 (0, 0))) :
    Calls Tryd.prog 17 #[.slice (some ⟨kb, 0, none⟩) 2 2, .slice (some ⟨lb, 0, none⟩) 2 2] w (XYPost w) := by
  have hkb : kb < w.heap.size := by
    rcases Nat.lt_or_ge kb w.heap.size with h | h
    · exact h
    · rw [Array.getElem?_eq_none h] at hk; cases hk
  have hlb : lb < w.heap.size := by
    rcases Nat.lt_or_ge lb w.heap.size with h | h
    · exact h
    · rw [Array.getElem?_eq_none h] at hl; cases hl
  have hnil : ∀ k b n s, VT.In w w.heap.size (.mk k b n s [] []) (.agg #[.int .i64 k, .bool b, .int .i64 n, .string s, .slice none 0 0, .slice none 0 0]) := fun k b n s => by
    unfold VT.In
    exact ⟨none, 0, none, 0, rfl, by simp, by unfold maxLen; omega, by simp, by unfold maxLen; omega, fun h => absurd h (by simp), fun h => absurd h (by simp)⟩
  have hL : VT.InL w w.heap.size lb 0 [oneV, bV] := by
    unfold VT.InL
    refine ⟨⟨_, _, _, _, _, _, VT.cell_of hl rfl, VT.cell_of hl rfl, VT.cell_of hl rfl, VT.cell_of hl rfl, VT.cell_of hl rfl, VT.cell_of hl rfl, hnil _ _ _ _⟩, ?_⟩
    unfold VT.InL
    refine ⟨⟨_, _, _, _, _, _, VT.cell_of hl rfl, VT.cell_of hl rfl, VT.cell_of hl rfl, VT.cell_of hl rfl, VT.cell_of hl rfl, VT.cell_of hl rfl, hnil _ _ _ _⟩, ?_⟩
    unfold VT.InL
    trivial
  refine (map_any yx [oneV, bV] 1 kb 0 2 lb 0 2 w.heap.size w (Nat.le_refl _) hkb (fun i hi => ?_) hlb hL rfl (by omega) yx_swo).mono ?_
  · match i, hi with
    | 0, _ => exact VT.cell_of hk rfl
    | 1, _ => exact VT.cell_of hk rfl
  · rintro e w' ⟨d', hp, hs, hb, hh⟩
    rw [xy_tree d' hp hs] at hh
    rcases hh with ⟨-, v', rfl, hown⟩ | ⟨hm, -⟩
    · have hI := hown.toIn (B := w'.heap.size) (fun k hk => hk.2)
      have hI2 := hI
      unfold xyV VT.In at hI2
      obtain ⟨pl, cl, pk, ck, rfl, -, -, -, -, hks, -⟩ := hI2
      obtain ⟨kb, ko, rfl, hkb, hkc⟩ := hks (by simp)
      exact ⟨pl, cl, kb, ko, ck, rfl, hI, hkc 0 (by simp), hkb, hb⟩
    · rw [xy_may] at hm
      cases hm
def BGot (w : World) (e : Ending) (w' : World) : Prop := ∃ (pl : Option Addr) (cl : Nat) (pk : Option Addr) (ck : Nat), e = .returned (.tuple #[.agg #[.int .i64 3, .bool false, .int .i64 0, .string ⟨#[98]⟩, .slice pl 0 cl, .slice pk 0 ck], .bool true]) ∧ Go.RowKit.Below w.heap.size w w'
theorem get_xy (v : Value) (B : Nat) (w : World) (h : VT.In w B xyV v) (hB : B ≤ w.heap.size) : Calls Tryd.prog 21 #[v, .string ⟨#[120]⟩] w (BGot w) := by
  refine (get_hit false 0 ⟨#[]⟩ [bV, oneV] [⟨#[120]⟩, ⟨#[121]⟩] ⟨#[120]⟩ bV 0 v B w h hB rfl (by simp) rfl b_may ?_ (by rw [ByteArray.toList_eq, ByteArray.toList_eq]; decide) ?_).mono ?_
  · refine ⟨by simp, fun i hi => by omega, fun i h0 hi => ?_⟩
    match i, hi with
    | 0, _ => rw [ByteArray.toList_eq, ByteArray.toList_eq]; decide
    | 1, _ => rw [ByteArray.toList_eq, ByteArray.toList_eq]; decide
  · intro i j hij hj
    match j, hj, i, hij with
    | 0, _, 0, _ => intro h; exact h
    | 1, _, 0, _ => intro h; revert h; rw [ByteArray.toList_eq, ByteArray.toList_eq, ByteArray.toList_eq]; decide
    | 1, _, 1, _ => intro h; exact h
  · rintro e w' ⟨v', rfl, hown, hb⟩
    unfold bV VT.Own at hown
    obtain ⟨pl, cl, pk, ck, rfl, -⟩ := hown
    exact ⟨pl, cl, pk, ck, rfl, hb⟩
/-- What the small example keeps of what it has made. -/
structure WBox (w W : World) (b3 b5 : Nat) (a0 a1 a2 a3 a4 a5 c0 c1 c2 c3 c4 c5 : Value) (kb ko : Nat) : Prop where
  h1 : Box W w.heap.size #[.int .i64 2, .bool false, .int .i64 1, .string ⟨#[]⟩, .slice none 0 0, .slice none 0 0]
  h2 : Box W (w.heap.size + 1) #[.int .i64 3, .bool false, .int .i64 0, .string ⟨#[98]⟩, .slice none 0 0, .slice none 0 0]
  h3 : Box W b3 #[a0, a1, a2, a3, a4, a5]
  h5 : Box W b5 #[c0, c1, c2, c3, c4, c5]
  key : W.cell? ⟨kb, ko, none⟩ = some (.string ⟨#[120]⟩)
  lt : kb < W.heap.size
  low : Go.RowKit.Below w.heap.size w W
  places : Places W
  tree : VT.In W W.heap.size xyV (.agg #[a0, a1, a2, a3, a4, a5])
theorem WBox.step {w W W' : World} {b3 b5 : Nat} {a0 a1 a2 a3 a4 a5 c0 c1 c2 c3 c4 c5 : Value} {kb ko : Nat} (h : WBox w W b3 b5 a0 a1 a2 a3 a4 a5 c0 c1 c2 c3 c4 c5 kb ko) (hb : Go.RowKit.Below W.heap.size W W') : WBox w W' b3 b5 a0 a1 a2 a3 a4 a5 c0 c1 c2 c3 c4 c5 kb ko :=
  ⟨(hb.block _ h.h1.lt).trans h.h1, (hb.block _ h.h2.lt).trans h.h2, (hb.block _ h.h3.lt).trans h.h3, (hb.block _ h.h5.lt).trans h.h5, (hb.cell (p := ⟨kb, ko, none⟩) h.lt).trans h.key, Nat.lt_of_lt_of_le h.lt hb.size, h.low.trans (hb.mono h.low.size), h.places.below hb h.places.lt, (h.tree.below hb).more hb.size⟩
set_option maxRecDepth 100000 in
set_option maxHeartbeats 4000000 in
theorem works_any (w : World) (hP : Places w) : Calls Tryd.prog 15 #[] w fun e w' => e = .returned (.bool true) ∧ Go.RowKit.Below w.heap.size w w' := by
  have HP := Lib.hid hP
  clear hP
  have hs4 : ((((w.alloc (.cells #[.int .i64 2, .bool false, .int .i64 1, .string ⟨#[]⟩, .slice none 0 0, .slice none 0 0] 25)).alloc (.cells #[.int .i64 3, .bool false, .int .i64 0, .string ⟨#[98]⟩, .slice none 0 0, .slice none 0 0] 25)).alloc (.cells #[.string ⟨#[121]⟩, .string ⟨#[120]⟩] 9)).alloc (.cells #[.int .i64 2, .bool false, .int .i64 1, .string ⟨#[]⟩, .slice none 0 0, .slice none 0 0, .int .i64 3, .bool false, .int .i64 0, .string ⟨#[98]⟩, .slice none 0 0, .slice none 0 0] 25)).heap.size = w.heap.size + 1 + 1 + 1 + 1 := box4_size w _ _ _ _
  have hb4 := box4_below w (.cells #[.int .i64 2, .bool false, .int .i64 1, .string ⟨#[]⟩, .slice none 0 0, .slice none 0 0] 25) (.cells #[.int .i64 3, .bool false, .int .i64 0, .string ⟨#[98]⟩, .slice none 0 0, .slice none 0 0] 25) (.cells #[.string ⟨#[121]⟩, .string ⟨#[120]⟩] 9) (.cells #[.int .i64 2, .bool false, .int .i64 1, .string ⟨#[]⟩, .slice none 0 0, .slice none 0 0, .int .i64 3, .bool false, .int .i64 0, .string ⟨#[98]⟩, .slice none 0 0, .slice none 0 0] 25)
  have h40 := box4_0 w (.cells #[.int .i64 2, .bool false, .int .i64 1, .string ⟨#[]⟩, .slice none 0 0, .slice none 0 0] 25) (.cells #[.int .i64 3, .bool false, .int .i64 0, .string ⟨#[98]⟩, .slice none 0 0, .slice none 0 0] 25) (.cells #[.string ⟨#[121]⟩, .string ⟨#[120]⟩] 9) (.cells #[.int .i64 2, .bool false, .int .i64 1, .string ⟨#[]⟩, .slice none 0 0, .slice none 0 0, .int .i64 3, .bool false, .int .i64 0, .string ⟨#[98]⟩, .slice none 0 0, .slice none 0 0] 25)
  have h41 := box4_1 w (.cells #[.int .i64 2, .bool false, .int .i64 1, .string ⟨#[]⟩, .slice none 0 0, .slice none 0 0] 25) (.cells #[.int .i64 3, .bool false, .int .i64 0, .string ⟨#[98]⟩, .slice none 0 0, .slice none 0 0] 25) (.cells #[.string ⟨#[121]⟩, .string ⟨#[120]⟩] 9) (.cells #[.int .i64 2, .bool false, .int .i64 1, .string ⟨#[]⟩, .slice none 0 0, .slice none 0 0, .int .i64 3, .bool false, .int .i64 0, .string ⟨#[98]⟩, .slice none 0 0, .slice none 0 0] 25)
  have h42 := box4_2 w (.cells #[.int .i64 2, .bool false, .int .i64 1, .string ⟨#[]⟩, .slice none 0 0, .slice none 0 0] 25) (.cells #[.int .i64 3, .bool false, .int .i64 0, .string ⟨#[98]⟩, .slice none 0 0, .slice none 0 0] 25) (.cells #[.string ⟨#[121]⟩, .string ⟨#[120]⟩] 9) (.cells #[.int .i64 2, .bool false, .int .i64 1, .string ⟨#[]⟩, .slice none 0 0, .slice none 0 0, .int .i64 3, .bool false, .int .i64 0, .string ⟨#[98]⟩, .slice none 0 0, .slice none 0 0] 25)
  have h43 := box4_3 w (.cells #[.int .i64 2, .bool false, .int .i64 1, .string ⟨#[]⟩, .slice none 0 0, .slice none 0 0] 25) (.cells #[.int .i64 3, .bool false, .int .i64 0, .string ⟨#[98]⟩, .slice none 0 0, .slice none 0 0] 25) (.cells #[.string ⟨#[121]⟩, .string ⟨#[120]⟩] 9) (.cells #[.int .i64 2, .bool false, .int .i64 1, .string ⟨#[]⟩, .slice none 0 0, .slice none 0 0, .int .i64 3, .bool false, .int .i64 0, .string ⟨#[98]⟩, .slice none 0 0, .slice none 0 0] 25)
  obtain ⟨W4, hW4⟩ : ∃ W4, ((((w.alloc (.cells #[.int .i64 2, .bool false, .int .i64 1, .string ⟨#[]⟩, .slice none 0 0, .slice none 0 0] 25)).alloc (.cells #[.int .i64 3, .bool false, .int .i64 0, .string ⟨#[98]⟩, .slice none 0 0, .slice none 0 0] 25)).alloc (.cells #[.string ⟨#[121]⟩, .string ⟨#[120]⟩] 9)).alloc (.cells #[.int .i64 2, .bool false, .int .i64 1, .string ⟨#[]⟩, .slice none 0 0, .slice none 0 0, .int .i64 3, .bool false, .int .i64 0, .string ⟨#[98]⟩, .slice none 0 0, .slice none 0 0] 25)) = W4 := ⟨_, rfl⟩
  rw [hW4] at hs4 hb4 h40 h41 h42 h43
  replace h40 : Box W4 w.heap.size _ := h40
  replace h41 : Box W4 (w.heap.size + 1) _ := h41
  have hM := map_yx (w.heap.size + 1 + 1) (w.heap.size + 1 + 1 + 1) W4 h42 h43
  have HM := Lib.hid hM
  have HS4 := Lib.hid hs4
  have HB4 : Hid (Go.RowKit.Below w.heap.size w W4) := Lib.hid ⟨hb4.os, hb4.tape, hb4.output, hb4.size, hb4.block⟩
  have H40 := Lib.hid h40
  have H41 := Lib.hid h41
  have HW4 := Lib.hid hW4
  clear hM hs4 hb4 h40 h41 h42 h43 hW4
  go_enter Tryd.func15, Tryd.ntmps15
  go_wp2_with fail
  rw [HW4.out]
  refine HM.out.mono ?_
  rintro e w1 ⟨pl, cl, kb, ko, ck, rfl, hI, g0, hkb, hb⟩
  have hG := get_xy _ w1.heap.size (w1.alloc (.cells #[.int .i64 5, .bool false, .int .i64 0, .string ⟨#[]⟩, .slice pl 2 cl, .slice (some ⟨kb, ko, none⟩) 2 ck] 25)) (hI.below ((Below.refl _ w1).alloc (Nat.le_refl _) _)) (by simp)
  have hsz : (w1.alloc (.cells #[.int .i64 5, .bool false, .int .i64 0, .string ⟨#[]⟩, .slice pl 2 cl, .slice (some ⟨kb, ko, none⟩) 2 ck] 25)).heap.size = w1.heap.size + 1 := by simp
  have hW : ∀ (w2 : World) (c0 c1 c2 c3 c4 c5 : Value), Go.RowKit.Below (w1.alloc (.cells #[.int .i64 5, .bool false, .int .i64 0, .string ⟨#[]⟩, .slice pl 2 cl, .slice (some ⟨kb, ko, none⟩) 2 ck] 25)).heap.size (w1.alloc (.cells #[.int .i64 5, .bool false, .int .i64 0, .string ⟨#[]⟩, .slice pl 2 cl, .slice (some ⟨kb, ko, none⟩) 2 ck] 25)) w2 →
      WBox w (w2.alloc (.cells #[c0, c1, c2, c3, c4, c5] 25)) w1.heap.size w2.heap.size (.int .i64 5) (.bool false) (.int .i64 0) (.string ⟨#[]⟩) (.slice pl 2 cl) (.slice (some ⟨kb, ko, none⟩) 2 ck) c0 c1 c2 c3 c4 c5 kb ko := fun w2 c0 c1 c2 c3 c4 c5 h2 => by
    have hb1 : Go.RowKit.Below w1.heap.size w1 w2 := (((Below.refl _ w1).alloc (Nat.le_refl _) _)).trans (h2.mono (by simp))
    have hb2 : Go.RowKit.Below w2.heap.size w2 (w2.alloc (.cells #[c0, c1, c2, c3, c4, c5] 25)) := (Below.refl _ w2).alloc (Nat.le_refl _) _
    have hb3 : Go.RowKit.Below w1.heap.size w1 (w2.alloc (.cells #[c0, c1, c2, c3, c4, c5] 25)) := hb1.trans (hb2.mono hb1.size)
    have hbw : Go.RowKit.Below W4.heap.size W4 (w2.alloc (.cells #[c0, c1, c2, c3, c4, c5] 25)) := hb.trans (hb3.mono hb.size)
    have hlow := HB4.out.trans (hbw.mono HB4.out.size)
    have h3 : w2.heap[w1.heap.size]? = some (.cells #[.int .i64 5, .bool false, .int .i64 0, .string ⟨#[]⟩, .slice pl 2 cl, .slice (some ⟨kb, ko, none⟩) 2 ck] 25 (0, 0)) := (h2.block _ (by simp)).trans (World.alloc_heap_new w1 _)
    have hs2 : w1.heap.size < w2.heap.size := by have := h2.size; rw [hsz] at this; omega
    exact ⟨(hbw.block _ H40.out.lt).trans H40.out, (hbw.block _ H41.out.lt).trans H41.out, (hb2.block _ hs2).trans h3, World.alloc_heap_new w2 _, (hb3.cell (p := ⟨kb, ko, none⟩) hkb).trans g0, Nat.lt_of_lt_of_le hkb hb3.size, hlow, HP.out.below hlow HP.out.lt, (hI.below hb3).more hb3.size⟩
  have HG := Lib.hid hG
  have HWB := Lib.hid hW
  clear hG hb hI g0 hkb hsz hW
  go_wp2_with fail
  refine HG.out.mono ?_
  rintro e w2 ⟨ql, dl, qk, dk, rfl, hb2⟩
  have hF := HWB.out w2 (.int .i64 3) (.bool false) (.int .i64 0) (.string ⟨#[98]⟩) (.slice ql 0 dl) (.slice qk 0 dk) hb2
  obtain ⟨p0, p1, p2, p3, p4, p5⟩ := hF.h1.cell
  obtain ⟨q0, q1, q2, q3, q4, q5⟩ := hF.h2.cell
  obtain ⟨r0, r1, r2, r3, r4, r5⟩ := hF.h3.cell
  obtain ⟨s0, s1, s2, s3, s4, s5⟩ := hF.h5.cell
  have kk := hF.key
  have hS := same_flat 3 0 3 0 false false ⟨#[98]⟩ ⟨#[98]⟩ ql qk none none dl dk 0 0 _ hF.places
  rw [flat_bb, show ((0 : Int) == 0) = true from rfl] at hS
  have HS := Lib.hid hS
  have HF := Lib.hid hF
  clear hF hS hb2
  go_wp2_with fail
  refine HS.out.mono ?_
  rintro e w3 ⟨rfl, hb3⟩
  have hF := HF.out.step hb3
  obtain ⟨p0, p1, p2, p3, p4, p5⟩ := hF.h1.cell
  obtain ⟨q0, q1, q2, q3, q4, q5⟩ := hF.h2.cell
  obtain ⟨r0, r1, r2, r3, r4, r5⟩ := hF.h3.cell
  obtain ⟨s0, s1, s2, s3, s4, s5⟩ := hF.h5.cell
  have hS := same_flat 3 0 2 1 false false ⟨#[98]⟩ ⟨#[]⟩ ql qk none none dl dk 0 0 _ hF.places
  rw [flat_b1] at hS
  have HS3 := Lib.hid hS
  have HF3 := Lib.hid hF
  clear hF hS hb3 HS HF kk
  go_wp2_with fail
  refine HS3.out.mono ?_
  rintro e w4 ⟨rfl, hb4⟩
  have hF := HF3.out.step hb4
  clear p0 p1 p2 p3 p4 p5 q0 q1 q2 q3 q4 q5 r0 r1 r2 r3 r4 r5 s0 s1 s2 s3 s4 s5
  obtain ⟨p0, p1, p2, p3, p4, p5⟩ := hF.h1.cell
  obtain ⟨q0, q1, q2, q3, q4, q5⟩ := hF.h2.cell
  obtain ⟨r0, r1, r2, r3, r4, r5⟩ := hF.h3.cell
  obtain ⟨s0, s1, s2, s3, s4, s5⟩ := hF.h5.cell
  have hS := order_flat 2 1 3 0 false false ⟨#[]⟩ ⟨#[98]⟩ none none none none 0 0 0 0 _ hF.places
  rw [flat_1b] at hS
  have HS4 := Lib.hid hS
  have HF4 := Lib.hid hF
  clear hF hS hb4 HS3 HF3
  go_wp2_with fail
  refine HS4.out.mono ?_
  rintro e w5 ⟨rfl, hb5⟩
  have hF := HF4.out.step hb5
  clear p0 p1 p2 p3 p4 p5 q0 q1 q2 q3 q4 q5 r0 r1 r2 r3 r4 r5 s0 s1 s2 s3 s4 s5
  obtain ⟨p0, p1, p2, p3, p4, p5⟩ := hF.h1.cell
  obtain ⟨q0, q1, q2, q3, q4, q5⟩ := hF.h2.cell
  obtain ⟨r0, r1, r2, r3, r4, r5⟩ := hF.h3.cell
  obtain ⟨s0, s1, s2, s3, s4, s5⟩ := hF.h5.cell
  have hC := check_any xyV _ _ _ hF.tree (Nat.le_refl _)
  rw [may_walk, xy_may] at hC
  simp only [if_true] at hC
  have HC := Lib.hid hC
  have HF5 := Lib.hid hF
  clear hF hC hb5 HS4 HF4
  go_wp2_with fail
  refine HC.out.mono ?_
  rintro e w6 ⟨rfl, hb6⟩
  have hE : Go.RowKit.Below w.heap.size w w6 := HF5.out.low.trans (hb6.mono HF5.out.low.size)
  clear p0 p1 p2 p3 p4 p5 q0 q1 q2 q3 q4 q5 r0 r1 r2 r3 r4 r5 s0 s1 s2 s3 s4 s5 hb6
  have HE := Lib.hid hE
  clear hE
  go_wp2_with fail
  go_ret
  exact ⟨rfl, HE.out⟩
end Val
end Go.Proofs.YtiphegccaijbgaaDoor
