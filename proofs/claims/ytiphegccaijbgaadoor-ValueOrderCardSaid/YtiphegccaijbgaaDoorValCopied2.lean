/- THE WALK over copied, where there are values. -/
/- THE WALK over copied: a value in new memory. -/
import Derived.Test.YtiphegccaijbgaaDoorRows
import Derived.Test.YtiphegccaijbgaaDoorValBase
import Derived.Test.YtiphegccaijbgaaDoorVal
import Derived.Test.YtiphegccaijbgaaDoorValCmp
import Derived.Test.YtiphegccaijbgaaDoorValWalk
import Derived.Test.YtiphegccaijbgaaDoorValForm2
import Derived.Test.YtiphegccaijbgaaDoorValRef
import Derived.Test.YtiphegccaijbgaaDoorValMay
import Derived.Test.YtiphegccaijbgaaDoorValOwn
import Derived.Test.YtiphegccaijbgaaDoorValCopy
import Derived.WalkKit
import Derived.Lib.Hide
import Derived.WalkSpells
import Derived.WalkLawsBesides
import Derived.Laws.MakeOwn
import Derived.Laws.CopyOwn
import Derived.OwnWalk
import Derived.Outline
import Derived.Deep.Cut
import Derived.Deep.CutRange
import Derived.Deep.DeepCutAuto
import Derived.Test.YtiphegccaijbgaaDoorValCopy
import Derived.Test.YtiphegccaijbgaaDoorValCopied
namespace Go.Proofs.YtiphegccaijbgaaDoor
open Go.RowKit
set_option linter.unusedVariables false
set_option linter.unusedSimpArgs false
namespace Val
theorem box_set4 {w : World} {b : Nat} {c0 c1 c2 c3 c4 c5 v : Value} (h : Box w b #[c0, c1, c2, c3, c4, c5]) : Box (w.setCell ⟨b, 4, none⟩ v) b #[c0, c1, c2, c3, v, c5] := by
  unfold Box at h ⊢
  simp [World.setCell, Array.getElem?_modify, h]
set_option maxRecDepth 100000 in
set_option maxHeartbeats 2000000 in
theorem copied_l0 (N R B : Nat) (IH : Hid (CopiedIH N R)) (k : Int) (b : Bool) (n : Int) (s : ByteArray) (l : List VT) (pl pk : Option Addr) (cl ck nl d m : Nat) (w : World) (hR : Reach w R ((d + 1 : Nat) : Int) ((m + 1 : Nat) : Int)) (HL : Hid (VT.partsL l ≤ N ∧ smallL l ∧ (0 < l.length → ∃ bl ol, pl = some ⟨bl, ol, none⟩ ∧ bl < B ∧ VT.InL w B bl ol l) ∧ B ≤ w.heap.size ∧ B ≤ R ∧ VT.partsL l ≤ d + 1 ∧ 2 * VT.partsL l ≤ m + l.length)) (HNL : Hid (l.length = nl)) (HLM : Hid (nl ≤ maxLen)) (h0 : 0 < nl) (HD : Hid (d + 1 ≤ 65536 ∧ m + 1 ≤ 4194304)) :
    Calls Tryd.prog 44 #[.pointer (some ⟨R, 0, none⟩), .agg #[.int .i64 k, .bool b, .int .i64 n, .string s, .slice pl nl cl, .slice pk 0 ck]] w (CopPost R (.mk k b n s l []) (d + 1) (m + 1) w) := by
  have hRlt := hR.lt
  have hmid : Mid R (d + 1) (m + 1) #[.int .i64 k, .bool b, .int .i64 n, .string s, .slice pl nl cl, .slice pk 0 ck] #[.int .i64 k, .bool b, .int .i64 n, .string s, .slice none 0 0, .slice none 0 0] w (((w.alloc (.cells #[.int .i64 k, .bool b, .int .i64 n, .string s, .slice pl nl cl, .slice pk 0 ck] 25)).alloc (.cells #[.int .i64 0, .bool false, .int .i64 0, .string ⟨#[]⟩, .slice none 0 0, .slice none 0 0] 25)).alloc (.cells #[.int .i64 k, .bool b, .int .i64 n, .string s, .slice none 0 0, .slice none 0 0] 25)) :=
    ⟨(((Below.refl _ w).alloc (Nat.le_refl _) _).alloc (by simp) _).alloc (by simp; omega) _, ((Box.new w _).alloc _).alloc _, (by
      have := (Box.new (w.alloc (.cells #[.int .i64 k, .bool b, .int .i64 n, .string s, .slice pl nl cl, .slice pk 0 ck] 25)) #[.int .i64 0, .bool false, .int .i64 0, .string ⟨#[]⟩, .slice none 0 0, .slice none 0 0]).alloc (.cells #[.int .i64 k, .bool b, .int .i64 n, .string s, .slice none 0 0, .slice none 0 0] 25)
      rwa [World.size_alloc] at this), (by
      have := Box.new ((w.alloc (.cells #[.int .i64 k, .bool b, .int .i64 n, .string s, .slice pl nl cl, .slice pk 0 ck] 25)).alloc (.cells #[.int .i64 0, .bool false, .int .i64 0, .string ⟨#[]⟩, .slice none 0 0, .slice none 0 0] 25)) #[.int .i64 k, .bool b, .int .i64 n, .string s, .slice none 0 0, .slice none 0 0]
      rwa [World.size_alloc, World.size_alloc] at this), ((hR.alloc _).alloc _).alloc _⟩
  clear hR
  go_enter Tryd.func44, Tryd.ntmps44
  go_upto_region 6 with (fail)
  generalize (((w.alloc (.cells #[.int .i64 k, .bool b, .int .i64 n, .string s, .slice pl nl cl, .slice pk 0 ck] 25)).alloc (.cells #[.int .i64 0, .bool false, .int .i64 0, .string ⟨#[]⟩, .slice none 0 0, .slice none 0 0] 25)).alloc (.cells #[.int .i64 k, .bool b, .int .i64 n, .string s, .slice none 0 0, .slice none 0 0] 25)) = wk at *
  have hkey : KeyOwn w wk none [] := ⟨fun _ => rfl, fun h => absurd h (by simp)⟩
  have hE := enter_nat R d m wk hmid.reach HD.out.1 HD.out.2
  have hdl : decide (0 < nl) = true := by simpa using h0
  have HMID := Lib.hid hmid
  have HKEY := Lib.hid hkey
  obtain ⟨a0, a1, a2, a3, a4, a5⟩ := hmid.bA.cell
  clear hmid hkey
  go_wp2_with fail
  refine hE.mono ?_
  rintro e w1 ⟨rfl, hr1, hk1⟩
  have hk01 : Keeps (· = R) w w1 := (Keeps.of_below HMID.out.low).trans hk1
  have hsz1 : w.heap.size + 1 + 1 < w1.heap.size := Nat.lt_of_lt_of_le HMID.out.bO.lt hk1.size
  have hA1 : Box w1 w.heap.size #[.int .i64 k, .bool b, .int .i64 n, .string s, .slice pl nl cl, .slice pk 0 ck] := (hk1.block _ HMID.out.bA.lt (by show ¬ w.heap.size = R; omega)).trans HMID.out.bA
  have hC := copies_any N R IH l pl cl B w1 d m HL.out.1 HL.out.2.1 (by rw [HNL.out]; exact h0) (fun h => by
      obtain ⟨bl, ol, e, hbl, hIn⟩ := HL.out.2.2.1 h
      exact ⟨bl, ol, e, hbl, VT.InL.keep (fun q hq => (hk01.below (fun k e => e ▸ HL.out.2.2.2.2.1) HL.out.2.2.2.1).cell hq) hbl hIn⟩) (Nat.le_trans HL.out.2.2.2.1 hk01.size) HL.out.2.2.2.2.1 hr1 HL.out.2.2.2.2.2.1 HL.out.2.2.2.2.2.2 (by have := HD.out.1; omega) (by have := HD.out.2; omega)
  rw [HNL.out] at hC
  have HC := Lib.hid hC
  have HK1 := Lib.hid hk1
  obtain ⟨a0, a1, a2, a3, a4, a5⟩ := hA1.cell
  clear hE hr1 hk1 hA1 hC hk01
  go_wp2_with fail
  refine HC.out.mono ?_
  rintro e w2 ⟨lb, m2, rfl, hn⟩
  have HNR := Lib.hid hn
  have hb2 : ∀ j cs, Box wk j cs → j ≠ R → Box w2 j cs := fun j cs h hj => (HNR.out.keeps.block j (Nat.lt_of_lt_of_le h.lt HK1.out.size) hj).trans ((HK1.out.block j h.lt hj).trans h)
  have hO2 := hb2 _ _ HMID.out.bO (by omega)
  have hR2 := hb2 _ _ HMID.out.bR (by omega)
  have hkA : Keeps (· = w.heap.size + 1 + 1) w2 (w2.setCell ⟨w.heap.size + 1 + 1, 4, none⟩ (.slice (some ⟨lb, 0, none⟩) l.length l.length)) := (Keeps.refl (· = w.heap.size + 1 + 1) w2).setCell (p := ⟨w.heap.size + 1 + 1, 4, none⟩) (.inl rfl) _
  have hr4 : Reach (w2.setCell ⟨w.heap.size + 1 + 1, 4, none⟩ (.slice (some ⟨lb, 0, none⟩) l.length l.length)) R d m2 := (hkA.block R HNR.out.reach.lt (by show ¬ R = _; omega)).trans HNR.out.reach
  have hO4 := box_set4 (v := .slice (some ⟨lb, 0, none⟩) l.length l.length) hO2
  have hR4 : Box (w2.setCell ⟨w.heap.size + 1 + 1, 4, none⟩ (.slice (some ⟨lb, 0, none⟩) l.length l.length)) (w.heap.size + 1) _ := (hkA.block _ hR2.lt (by omega)).trans hR2
  have hlv := leave_nat R d m2 _ hr4 HD.out.1
  have zf := box_free hO2 4
  obtain ⟨o0, o1, o2, o3, o4, o5⟩ := hO2.cell
  have HO4 := Lib.hid (And.intro hO4 hR4)
  clear hn hb2 hO2 hR2 hkA hr4 hO4 hR4 a0 a1 a2 a3 a4 a5
  go_wp2_with fail
  refine hlv.mono ?_
  rintro e w3 ⟨⟨vv, rfl⟩, hr3, hk3⟩
  have hP := cop_list (l := l) (ck := 0) ⟨Nat.le_refl _, by unfold maxLen; omega⟩ (by rw [HNL.out]; exact HLM.out) (by rw [HNL.out]; exact h0) HMID.out HKEY.out hRlt HK1.out HNR.out hk3 hr3
  have HP := Lib.hid hP
  have hO3 := (hk3.block _ HO4.out.1.lt (by show ¬ _ = R; omega)).trans HO4.out.1
  have hR3 : Box w3 (w.heap.size + 1) _ := (hk3.block _ HO4.out.2.lt (by show ¬ _ = R; omega)).trans HO4.out.2
  obtain ⟨o0, o1, o2, o3, o4, o5⟩ := Box.cell hO3
  obtain ⟨r0, r1, r2, r3, r4, r5⟩ := hR3.cell
  have z0 := box_free hR3 0
  have z1 := box_free hR3 1
  have z2 := box_free hR3 2
  have z3 := box_free hR3 3
  have z4 := box_free hR3 4
  have z5 := box_free hR3 5
  have hend := box_six (v0 := .int .i64 k) (v1 := .bool b) (v2 := .int .i64 n) (v3 := .string s) (v4 := .slice (some ⟨lb, 0, none⟩) l.length l.length) (v5 := .slice none 0 0) hR3
  obtain ⟨q0, q1, q2, q3, q4, q5⟩ := hend.cell
  unfold six at q0 q1 q2 q3 q4 q5
  simp only [Nat.zero_add] at q0 q1 q2 q3 q4 q5
  have HQ := Lib.hid (And.intro q0 (And.intro q1 (And.intro q2 (And.intro q3 (And.intro q4 q5)))))
  clear q0 q1 q2 q3 q4 q5 hend hO3 hR3 hlv hr3 hk3 hP zf
  go_wp2_with fail
  obtain ⟨q0, q1, q2, q3, q4, q5⟩ := HQ.out
  exact bodyPost_ret (v := .agg #[.int .i64 k, .bool b, .int .i64 n, .string s, .slice (some ⟨lb, 0, none⟩) l.length l.length, .slice none 0 0]) (by simp [results, Tryd.results44, go_sem, q0, q1, q2, q3, q4, q5]) rfl HP.out
end Val
end Go.Proofs.YtiphegccaijbgaaDoor
