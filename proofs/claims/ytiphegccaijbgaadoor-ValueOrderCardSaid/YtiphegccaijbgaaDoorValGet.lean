/- value.Get: the value of a key that is there. -/
/- THE WALK over copied: a value in new memory. -/
import Derived.Test.YtiphegccaijbgaaDoorRows
import Derived.Test.YtiphegccaijbgaaDoorValBase
import Derived.Test.YtiphegccaijbgaaDoorVal
import Derived.Test.YtiphegccaijbgaaDoorValCmp
import Derived.Test.YtiphegccaijbgaaDoorValWalk
import Derived.Test.YtiphegccaijbgaaDoorValForm2
import Derived.Test.YtiphegccaijbgaaDoorValRef
import Derived.Test.YtiphegccaijbgaaDoorValMay
import Derived.Test.YtiphegccaijbgaaDoorValOwn
import Derived.Test.YtiphegccaijbgaaDoorValCopy
import Derived.WalkKit
import Derived.Lib.Hide
import Derived.WalkSpells
import Derived.WalkLawsBesides
import Derived.Laws.MakeOwn
import Derived.Laws.CopyOwn
import Derived.OwnWalk
import Derived.Outline
import Derived.Deep.Cut
import Derived.Deep.CutRange
import Derived.Deep.DeepCutAuto
import Derived.Test.YtiphegccaijbgaaDoorValCopy
import Derived.Test.YtiphegccaijbgaaDoorValCopied
import Derived.Test.YtiphegccaijbgaaDoorValCopied2
import Derived.Test.YtiphegccaijbgaaDoorValCopied3
import Derived.Test.YtiphegccaijbgaaDoorValPlain
import Derived.Test.YtiphegccaijbgaaDoorValCopyR
import Derived.Test.YtiphegccaijbgaaDoorValCopyA
import Derived.Test.YtiphegccaijbgaaDoorValFind
import Derived.Test.YtiphegccaijbgaaDoorValMay4
import Derived.Deep.RegionWith
namespace Go.Proofs.YtiphegccaijbgaaDoor
open Go.RowKit
set_option linter.unusedVariables false
set_option linter.unusedSimpArgs false
namespace Val
theorem FindAt.same {ks : List ByteArray} {x : ByteArray} {n r r' : Nat} (h : FindAt ks x n r) (h' : FindAt ks x n r') : r = r' := by
  rcases Nat.lt_trichotomy r r' with hh | hh | hh
  · have a := h'.below r hh
    rw [h.above r (Nat.le_refl _) (Nat.lt_of_lt_of_le hh h'.le)] at a
    cases a
  · exact hh
  · have a := h.below r' hh
    rw [h'.above r' (Nat.le_refl _) (Nat.lt_of_lt_of_le hh h.le)] at a
    cases a
def GotPost (t : VT) (w : World) (e : Ending) (w' : World) : Prop := ∃ v', e = .returned (.tuple #[v', .bool true]) ∧ VT.Own w' t (fun j => w.heap.size ≤ j ∧ j < w'.heap.size) v' ∧ Below w.heap.size w w'
set_option maxRecDepth 100000 in
set_option maxHeartbeats 2000000 in
theorem get_hit (b : Bool) (n : Int) (s : ByteArray) (l : List VT) (ks : List ByteArray) (x : ByteArray) (T : VT) (r : Nat) (v : Value) (B : Nat) (w : World) (h : VT.In w B (.mk 5 b n s l ks) v) (hB : B ≤ w.heap.size) (hlk : ks.length = l.length) (hbig : l.length ≤ 4194304) (hx : l[r]? = some T) (hm : mayB T = true)
    (hat : FindAt ks x ks.length r) (hat2 : ((ks.getD r default).toList == x.toList) = true) (hs : ∀ i j, i ≤ j → j < ks.length → Op.bytesLess (ks.getD j default).toList x.toList = true → Op.bytesLess (ks.getD i default).toList x.toList = true) :
    Calls Tryd.prog 21 #[v, .string x] w (GotPost T w) := by
  have hr : r < l.length := (List.getElem?_eq_some_iff.1 hx).1
  have hIn := h.more hB
  unfold VT.In at hIn
  obtain ⟨pl, cl, pk, ck, rfl, h1, h2, h3, h4, hks, hl⟩ := hIn
  obtain ⟨kb, ko, rfl, hkb, hkc⟩ := hks (by omega)
  obtain ⟨lb, lo, rfl, hlb, hL⟩ := hl (by omega)
  obtain ⟨d0, d1, d2, d3, d4, d5, e0, e1, e2, e3, e4, e5, hT⟩ := hL.at hx
  obtain ⟨tk, tb, tn, ts, tpl, tnl, tcl, tpk, tnk, tck, rfl, rfl, rfl, rfl, rfl, rfl⟩ := hT.shape
  obtain ⟨nl, hnl⟩ : ∃ nl, l.length = nl := ⟨_, rfl⟩
  have hnk : ks.length = nl := hlk.trans hnl
  rw [hnl] at hr hbig
  rw [hnk] at hat hs
  clear hlk
  rw [hnl, hnk]
  have hb1 : Below w.heap.size w ((w.alloc (.cells #[.int .i64 5, .bool b, .int .i64 n, .string s, .slice (some ⟨lb, lo, none⟩) nl cl, .slice (some ⟨kb, ko, none⟩) nl ck] 25)).alloc (.cells #[.int .i64 0, .bool false, .int .i64 0, .string ⟨#[]⟩, .slice none 0 0, .slice none 0 0] 25)) := ((Below.refl _ w).alloc (Nat.le_refl _) _).alloc (by simp) _
  have es : ((w.alloc (.cells #[.int .i64 5, .bool b, .int .i64 n, .string s, .slice (some ⟨lb, lo, none⟩) nl cl, .slice (some ⟨kb, ko, none⟩) nl ck] 25)).alloc (.cells #[.int .i64 0, .bool false, .int .i64 0, .string ⟨#[]⟩, .slice none 0 0, .slice none 0 0] 25)).heap.size = w.heap.size + 1 + 1 := by simp
  have hF := find_any ks x kb ko nl ck ((w.alloc (.cells #[.int .i64 5, .bool b, .int .i64 n, .string s, .slice (some ⟨lb, lo, none⟩) nl cl, .slice (some ⟨kb, ko, none⟩) nl ck] 25)).alloc (.cells #[.int .i64 0, .bool false, .int .i64 0, .string ⟨#[]⟩, .slice none 0 0, .slice none 0 0] 25)) (by omega) (by omega) (fun i hi => (hb1.cell (p := ⟨kb, ko + i, none⟩) hkb).trans (hkc i hi)) hs
  have hC := copy_any T _ w.heap.size ((w.alloc (.cells #[.int .i64 5, .bool b, .int .i64 n, .string s, .slice (some ⟨lb, lo, none⟩) nl cl, .slice (some ⟨kb, ko, none⟩) nl ck] 25)).alloc (.cells #[.int .i64 0, .bool false, .int .i64 0, .string ⟨#[]⟩, .slice none 0 0, .slice none 0 0] 25)) (hT.below hb1) hb1.size hm
  have hbx : Box ((w.alloc (.cells #[.int .i64 5, .bool b, .int .i64 n, .string s, .slice (some ⟨lb, lo, none⟩) nl cl, .slice (some ⟨kb, ko, none⟩) nl ck] 25)).alloc (.cells #[.int .i64 0, .bool false, .int .i64 0, .string ⟨#[]⟩, .slice none 0 0, .slice none 0 0] 25)) w.heap.size #[.int .i64 5, .bool b, .int .i64 n, .string s, .slice (some ⟨lb, lo, none⟩) nl cl, .slice (some ⟨kb, ko, none⟩) nl ck] := (Box.new w _).alloc _
  have hbr : Box ((w.alloc (.cells #[.int .i64 5, .bool b, .int .i64 n, .string s, .slice (some ⟨lb, lo, none⟩) nl cl, .slice (some ⟨kb, ko, none⟩) nl ck] 25)).alloc (.cells #[.int .i64 0, .bool false, .int .i64 0, .string ⟨#[]⟩, .slice none 0 0, .slice none 0 0] 25)) (w.heap.size + 1) #[.int .i64 0, .bool false, .int .i64 0, .string ⟨#[]⟩, .slice none 0 0, .slice none 0 0] := by
    have := Box.new (w.alloc (.cells #[.int .i64 5, .bool b, .int .i64 n, .string s, .slice (some ⟨lb, lo, none⟩) nl cl, .slice (some ⟨kb, ko, none⟩) nl ck] 25)) #[.int .i64 0, .bool false, .int .i64 0, .string ⟨#[]⟩, .slice none 0 0, .slice none 0 0]
    rwa [World.size_alloc] at this
  have E0 := (hb1.cell (p := ⟨lb, lo + r * 6, none⟩) hlb).trans e0
  have E1 := (hb1.cell (p := ⟨lb, lo + r * 6 + 1, none⟩) hlb).trans e1
  have E2 := (hb1.cell (p := ⟨lb, lo + r * 6 + 2, none⟩) hlb).trans e2
  have E3 := (hb1.cell (p := ⟨lb, lo + r * 6 + 3, none⟩) hlb).trans e3
  have E4 := (hb1.cell (p := ⟨lb, lo + r * 6 + 4, none⟩) hlb).trans e4
  have E5 := (hb1.cell (p := ⟨lb, lo + r * 6 + 5, none⟩) hlb).trans e5
  have HF := Lib.hid hF
  have HC := Lib.hid hC
  have HB1 := Lib.hid hb1
  have HR := Lib.hid hbr
  have HAT := Lib.hid (And.intro hat hat2)
  have HS3 := Lib.hid es
  have hrk : r < nl := hr
  clear hF hC hb1 hbr es hat hat2 hs e0 e1 e2 e3 e4 e5 hT hL hkc hks hl h hx hm h1 h2 h3 h4 hnl hnk hB
  obtain ⟨a0, a1, a2, a3, a4, a5⟩ := hbx.cell
  clear hbx
  go_enter Tryd.func21, Tryd.ntmps21
  go_upto_region 3 with (fail)
  generalize ((w.alloc (.cells #[.int .i64 5, .bool b, .int .i64 n, .string s, .slice (some ⟨lb, lo, none⟩) nl cl, .slice (some ⟨kb, ko, none⟩) nl ck] 25)).alloc (.cells #[.int .i64 0, .bool false, .int .i64 0, .string ⟨#[]⟩, .slice none 0 0, .slice none 0 0] 25)) = w1 at *
  go_wp2_with fail
  refine HF.out.mono ?_
  rintro e w2 ⟨r', hr', rfl, rfl⟩
  obtain rfl := FindAt.same HAT.out.1 hr'
  rw [HAT.out.2, decide_eq_true hrk, Bool.and_true]
  clear hr'
  go_wp2_with fail
  refine HC.out.mono ?_
  rintro e w3 ⟨v', rfl, hown, hlow⟩
  obtain ⟨yk, yb, yn, ys, ypl, ynl, ycl, ypk, ynk, yck, rfl⟩ := hown.shape
  have hr2 := (hlow.block (w.heap.size + 1) HR.out.lt).trans HR.out
  obtain ⟨r0, r1, r2, r3, r4, r5⟩ := Box.cell hr2
  have z0 := box_free hr2 0
  have z1 := box_free hr2 1
  have z2 := box_free hr2 2
  have z3 := box_free hr2 3
  have z4 := box_free hr2 4
  have z5 := box_free hr2 5
  have hkF : Keeps (· = w.heap.size + 1) w3 (six w3 (w.heap.size + 1) 0 (.int .i64 yk) (.bool yb) (.int .i64 yn) (.string ys) (.slice ypl ynl ycl) (.slice ypk ynk yck)) := six_keeps (Keeps.refl (· = w.heap.size + 1) w3) (.inl rfl)
  have hP : GotPost T w (.returned (.tuple #[.agg #[.int .i64 yk, .bool yb, .int .i64 yn, .string ys, .slice ypl ynl ycl, .slice ypk ynk yck], .bool true])) (six w3 (w.heap.size + 1) 0 (.int .i64 yk) (.bool yb) (.int .i64 yn) (.string ys) (.slice ypl ynl ycl) (.slice ypk ynk yck)) := by
    have h3 := HS3.out
    have hs := hkF.size
    refine ⟨_, rfl, VT.Own.more (fun j hj => ⟨by rw [h3] at hj; omega, by omega⟩) (hown.keeps hkF (fun j hj => ⟨hj.2, by show ¬ j = _; rw [h3] at hj; omega⟩)), ?_⟩
    exact (HB1.out.trans (hlow.mono HB1.out.size)).trans (hkF.below (fun j e => by omega) (Nat.le_trans HB1.out.size hlow.size))
  have HP := Lib.hid hP
  have hend := box_six (v0 := .int .i64 yk) (v1 := .bool yb) (v2 := .int .i64 yn) (v3 := .string ys) (v4 := .slice ypl ynl ycl) (v5 := .slice ypk ynk yck) hr2
  obtain ⟨q0, q1, q2, q3, q4, q5⟩ := Box.cell hend
  unfold six at q0 q1 q2 q3 q4 q5
  simp only [Nat.zero_add] at q0 q1 q2 q3 q4 q5
  have HQ := Lib.hid (And.intro q0 (And.intro q1 (And.intro q2 (And.intro q3 (And.intro q4 q5)))))
  clear q0 q1 q2 q3 q4 q5 hend hP hkF hown hlow hr2
  go_wp2_with fail
  obtain ⟨q0, q1, q2, q3, q4, q5⟩ := HQ.out
  exact bodyPost_ret (v := .tuple #[.agg #[.int .i64 yk, .bool yb, .int .i64 yn, .string ys, .slice ypl ynl ycl, .slice ypk ynk yck], .bool true]) (by simp [results, Tryd.results21, go_sem, q0, q1, q2, q3, q4, q5]) rfl HP.out
end Val
end Go.Proofs.YtiphegccaijbgaaDoor
