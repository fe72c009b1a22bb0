/- value.Copy: a copy of any value that may be. -/
/- THE WALK over copied: a value in new memory. -/
import Derived.Test.YtiphegccaijbgaaDoorRows
import Derived.Test.YtiphegccaijbgaaDoorValBase
import Derived.Test.YtiphegccaijbgaaDoorVal
import Derived.Test.YtiphegccaijbgaaDoorValCmp
import Derived.Test.YtiphegccaijbgaaDoorValWalk
import Derived.Test.YtiphegccaijbgaaDoorValForm2
import Derived.Test.YtiphegccaijbgaaDoorValRef
import Derived.Test.YtiphegccaijbgaaDoorValMay
import Derived.Test.YtiphegccaijbgaaDoorValOwn
import Derived.Test.YtiphegccaijbgaaDoorValCopy
import Derived.WalkKit
import Derived.Lib.Hide
import Derived.WalkSpells
import Derived.WalkLawsBesides
import Derived.Laws.MakeOwn
import Derived.Laws.CopyOwn
import Derived.OwnWalk
import Derived.Outline
import Derived.Deep.Cut
import Derived.Deep.CutRange
import Derived.Deep.DeepCutAuto
import Derived.Test.YtiphegccaijbgaaDoorValCopy
import Derived.Test.YtiphegccaijbgaaDoorValCopied
import Derived.Test.YtiphegccaijbgaaDoorValCopied2
import Derived.Test.YtiphegccaijbgaaDoorValCopied3
import Derived.Test.YtiphegccaijbgaaDoorValPlain
import Derived.Test.YtiphegccaijbgaaDoorValCopyR
import Derived.Test.YtiphegccaijbgaaDoorValMay4
import Derived.Deep.RegionWith
namespace Go.Proofs.YtiphegccaijbgaaDoor
open Go.RowKit
set_option linter.unusedVariables false
set_option linter.unusedSimpArgs false
namespace Val
set_option maxRecDepth 100000 in
set_option maxHeartbeats 2000000 in
theorem copy_any (t : VT) (v : Value) (B : Nat) (w : World) (h : VT.In w B t v) (hB : B ≤ w.heap.size) (hm : mayB t = true) : Calls Tryd.prog 27 #[v] w (CopyPost t w) := by
  have hIn0 := h.more hB
  have hparts := parts_le hm
  have hsm := small_may hm
  obtain ⟨k, b, n, s, l, ks⟩ := t
  have hx := hIn0
  unfold VT.In at hx
  obtain ⟨pl, cl, pk, ck, rfl, -⟩ := hx
  obtain ⟨T, hT⟩ : ∃ T, VT.mk k b n s l ks = T := ⟨_, rfl⟩
  have hq : VT.partsL T.list + 1 = T.parts := by subst hT; rw [VT.parts]; rfl
  rw [hT] at hIn0 hparts hsm ⊢
  have hb1 : Below w.heap.size w ((((w.alloc (.cells #[.int .i64 k, .bool b, .int .i64 n, .string s, .slice pl l.length cl, .slice pk ks.length ck] 25)).alloc (.cells #[.int .i64 0, .bool false, .int .i64 0, .string ⟨#[]⟩, .slice none 0 0, .slice none 0 0] 25)).drew).alloc (.cells #[.int .i64 65536, .int .i64 4194304] 60)) := ((((Below.refl _ w).alloc (Nat.le_refl _) _).alloc (by simp) _).drew).alloc (by show w.heap.size ≤ ((w.alloc _).alloc _).heap.size; simp; omega) _
  have es : (((w.alloc (.cells #[.int .i64 k, .bool b, .int .i64 n, .string s, .slice pl l.length cl, .slice pk ks.length ck] 25)).alloc (.cells #[.int .i64 0, .bool false, .int .i64 0, .string ⟨#[]⟩, .slice none 0 0, .slice none 0 0] 25)).drew).heap.size = w.heap.size + 1 + 1 := by show ((w.alloc _).alloc _).heap.size = _; simp
  have hR : Reach ((((w.alloc (.cells #[.int .i64 k, .bool b, .int .i64 n, .string s, .slice pl l.length cl, .slice pk ks.length ck] 25)).alloc (.cells #[.int .i64 0, .bool false, .int .i64 0, .string ⟨#[]⟩, .slice none 0 0, .slice none 0 0] 25)).drew).alloc (.cells #[.int .i64 65536, .int .i64 4194304] 60)) (w.heap.size + 1 + 1) ((65536 : Nat) : Int) ((4194304 : Nat) : Int) := by
    have := Reach.new (((w.alloc (.cells #[.int .i64 k, .bool b, .int .i64 n, .string s, .slice pl l.length cl, .slice pk ks.length ck] 25)).alloc (.cells #[.int .i64 0, .bool false, .int .i64 0, .string ⟨#[]⟩, .slice none 0 0, .slice none 0 0] 25)).drew) 65536 4194304
    rw [es] at this
    exact this
  have hC := copied_rec (w.heap.size + 1 + 1) T.parts T _ w.heap.size ((((w.alloc (.cells #[.int .i64 k, .bool b, .int .i64 n, .string s, .slice pl l.length cl, .slice pk ks.length ck] 25)).alloc (.cells #[.int .i64 0, .bool false, .int .i64 0, .string ⟨#[]⟩, .slice none 0 0, .slice none 0 0] 25)).drew).alloc (.cells #[.int .i64 65536, .int .i64 4194304] 60)) 65536 4194304 (Nat.le_refl _) hsm (hIn0.below hb1) hb1.size (by omega) hR (by omega) (by omega) (Nat.le_refl _) (Nat.le_refl _)
  have hF := far_any (((w.alloc (.cells #[.int .i64 k, .bool b, .int .i64 n, .string s, .slice pl l.length cl, .slice pk ks.length ck] 25)).alloc (.cells #[.int .i64 0, .bool false, .int .i64 0, .string ⟨#[]⟩, .slice none 0 0, .slice none 0 0] 25)).drew)
  rw [es] at hF
  have hbx : Box (((w.alloc (.cells #[.int .i64 k, .bool b, .int .i64 n, .string s, .slice pl l.length cl, .slice pk ks.length ck] 25)).alloc (.cells #[.int .i64 0, .bool false, .int .i64 0, .string ⟨#[]⟩, .slice none 0 0, .slice none 0 0] 25)).drew) w.heap.size #[.int .i64 k, .bool b, .int .i64 n, .string s, .slice pl l.length cl, .slice pk ks.length ck] := (Box.new w _).alloc _
  have hbx3 : Box ((((w.alloc (.cells #[.int .i64 k, .bool b, .int .i64 n, .string s, .slice pl l.length cl, .slice pk ks.length ck] 25)).alloc (.cells #[.int .i64 0, .bool false, .int .i64 0, .string ⟨#[]⟩, .slice none 0 0, .slice none 0 0] 25)).drew).alloc (.cells #[.int .i64 65536, .int .i64 4194304] 60)) w.heap.size #[.int .i64 k, .bool b, .int .i64 n, .string s, .slice pl l.length cl, .slice pk ks.length ck] := hbx.alloc _
  have hbr : Box ((((w.alloc (.cells #[.int .i64 k, .bool b, .int .i64 n, .string s, .slice pl l.length cl, .slice pk ks.length ck] 25)).alloc (.cells #[.int .i64 0, .bool false, .int .i64 0, .string ⟨#[]⟩, .slice none 0 0, .slice none 0 0] 25)).drew).alloc (.cells #[.int .i64 65536, .int .i64 4194304] 60)) (w.heap.size + 1) #[.int .i64 0, .bool false, .int .i64 0, .string ⟨#[]⟩, .slice none 0 0, .slice none 0 0] := by
    have := (Box.new (w.alloc (.cells #[.int .i64 k, .bool b, .int .i64 n, .string s, .slice pl l.length cl, .slice pk ks.length ck] 25)) #[.int .i64 0, .bool false, .int .i64 0, .string ⟨#[]⟩, .slice none 0 0, .slice none 0 0]).drew.alloc (.cells #[.int .i64 65536, .int .i64 4194304] 60)
    rwa [World.size_alloc] at this
  have HF := Lib.hid hF
  have hs3 : ((((w.alloc (.cells #[.int .i64 k, .bool b, .int .i64 n, .string s, .slice pl l.length cl, .slice pk ks.length ck] 25)).alloc (.cells #[.int .i64 0, .bool false, .int .i64 0, .string ⟨#[]⟩, .slice none 0 0, .slice none 0 0] 25)).drew).alloc (.cells #[.int .i64 65536, .int .i64 4194304] 60)).heap.size = w.heap.size + 1 + 1 + 1 := by rw [World.size_alloc, es]
  have HS3 := Lib.hid hs3
  clear hs3
  have HC := Lib.hid hC
  have HB1 := Lib.hid hb1
  have HR := Lib.hid hbr
  clear hF hC hb1 hbr hR es hIn0 h hB hm hq hparts hsm hT
  obtain ⟨a0, a1, a2, a3, a4, a5⟩ := hbx.cell
  obtain ⟨e0, e1, e2, e3, e4, e5⟩ := hbx3.cell
  clear hbx hbx3
  go_enter Tryd.func27, Tryd.ntmps27
  go_upto_region 1 with (fail)
  go_region_with (first
    | (refine HF.out.mono ?_; rintro e w1 ⟨rfl, rfl⟩)
    | (refine HC.out.mono ?_; rintro e w2 ⟨v', m', rfl, hown, hk, -, -, -⟩
       obtain ⟨yk, yb, yn, ys, ypl, ynl, ycl, ypk, ynk, yck, rfl⟩ := hown.shape
       have hr2 := (hk.block (w.heap.size + 1) HR.out.lt (by show ¬ _ = _; omega)).trans HR.out
       obtain ⟨r0, r1, r2, r3, r4, r5⟩ := Box.cell hr2
       have z0 := box_free hr2 0
       have z1 := box_free hr2 1
       have z2 := box_free hr2 2
       have z3 := box_free hr2 3
       have z4 := box_free hr2 4
       have z5 := box_free hr2 5
       have HO := Lib.hid hown
       have HK := Lib.hid hk
       have HR2 := Lib.hid hr2
       clear hown hk hr2))
  all_goals
    have hkF : Keeps (· = w.heap.size + 1) w2 (six w2 (w.heap.size + 1) 0 (.int .i64 yk) (.bool yb) (.int .i64 yn) (.string ys) (.slice ypl ynl ycl) (.slice ypk ynk yck)) := six_keeps (Keeps.refl (· = w.heap.size + 1) w2) (.inl rfl)
    have hP : CopyPost T w (.returned (.agg #[.int .i64 yk, .bool yb, .int .i64 yn, .string ys, .slice ypl ynl ycl, .slice ypk ynk yck])) (six w2 (w.heap.size + 1) 0 (.int .i64 yk) (.bool yb) (.int .i64 yn) (.string ys) (.slice ypl ynl ycl) (.slice ypk ynk yck)) := by
      have h3 := HS3.out
      have hs := hkF.size
      refine ⟨_, rfl, VT.Own.more (fun j hj => ⟨by rw [h3] at hj; omega, by omega⟩) (HO.out.keeps hkF (fun j hj => ⟨hj.2, by show ¬ j = _; rw [h3] at hj; omega⟩)), ?_⟩
      exact (HB1.out.trans (HK.out.below (fun j e => by omega) HB1.out.size)).trans (hkF.below (fun j e => by omega) (Nat.le_trans HB1.out.size HK.out.size))
    have HP := Lib.hid hP
    have hend := box_six (v0 := .int .i64 yk) (v1 := .bool yb) (v2 := .int .i64 yn) (v3 := .string ys) (v4 := .slice ypl ynl ycl) (v5 := .slice ypk ynk yck) HR2.out
    obtain ⟨q0, q1, q2, q3, q4, q5⟩ := Box.cell hend
    unfold six at q0 q1 q2 q3 q4 q5
    simp only [Nat.zero_add] at q0 q1 q2 q3 q4 q5
    have HQ := Lib.hid (And.intro q0 (And.intro q1 (And.intro q2 (And.intro q3 (And.intro q4 q5)))))
    clear q0 q1 q2 q3 q4 q5 hend hP hkF
    go_wp2_with fail
    obtain ⟨q0, q1, q2, q3, q4, q5⟩ := HQ.out
    exact bodyPost_ret (v := .agg #[.int .i64 yk, .bool yb, .int .i64 yn, .string ys, .slice ypl ynl ycl, .slice ypk ynk yck]) (by simp [results, Tryd.results27, go_sem, q0, q1, q2, q3, q4, q5]) rfl HP.out
end Val
end Go.Proofs.YtiphegccaijbgaaDoor
