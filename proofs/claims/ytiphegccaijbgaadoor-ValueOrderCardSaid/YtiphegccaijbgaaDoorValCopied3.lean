/- THE WALK over copied, where there are values and keys. -/
/- THE WALK over copied: a value in new memory. -/
import Derived.Test.YtiphegccaijbgaaDoorRows
import Derived.Test.YtiphegccaijbgaaDoorValBase
import Derived.Test.YtiphegccaijbgaaDoorVal
import Derived.Test.YtiphegccaijbgaaDoorValCmp
import Derived.Test.YtiphegccaijbgaaDoorValWalk
import Derived.Test.YtiphegccaijbgaaDoorValForm2
import Derived.Test.YtiphegccaijbgaaDoorValRef
import Derived.Test.YtiphegccaijbgaaDoorValMay
import Derived.Test.YtiphegccaijbgaaDoorValOwn
import Derived.Test.YtiphegccaijbgaaDoorValCopy
import Derived.WalkKit
import Derived.Lib.Hide
import Derived.WalkSpells
import Derived.WalkLawsBesides
import Derived.Laws.MakeOwn
import Derived.Laws.CopyOwn
import Derived.OwnWalk
import Derived.Outline
import Derived.Deep.Cut
import Derived.Deep.CutRange
import Derived.Deep.DeepCutAuto
import Derived.Test.YtiphegccaijbgaaDoorValCopy
import Derived.Test.YtiphegccaijbgaaDoorValCopied
import Derived.Test.YtiphegccaijbgaaDoorValCopied2
namespace Go.Proofs.YtiphegccaijbgaaDoor
open Go.RowKit
set_option linter.unusedVariables false
set_option linter.unusedSimpArgs false
namespace Val
set_option maxRecDepth 100000 in
set_option maxHeartbeats 8000000 in
theorem copied_lk (N R B : Nat) (IH : Hid (CopiedIH N R)) (k : Int) (b : Bool) (n : Int) (s : ByteArray) (ks : List ByteArray) (l : List VT) (pl pk : Option Addr) (cl ck nl nk d m : Nat) (w : World) (hR : Reach w R ((d + 1 : Nat) : Int) ((m + 1 : Nat) : Int)) (HL : Hid (VT.partsL l ≤ N ∧ smallL l ∧ (0 < l.length → ∃ bl ol, pl = some ⟨bl, ol, none⟩ ∧ bl < B ∧ VT.InL w B bl ol l) ∧ B ≤ w.heap.size ∧ B ≤ R ∧ VT.partsL l ≤ d + 1 ∧ 2 * VT.partsL l ≤ m + l.length)) (HNL : Hid (l.length = nl)) (HLM : Hid (nl ≤ maxLen)) (h0 : 0 < nl) (HD : Hid (d + 1 ≤ 65536 ∧ m + 1 ≤ 4194304)) (hks : VT.KeysIn w B pk ks) (hnk : ks.length = nk) (hk0 : 0 < nk) (hk9 : nk ≤ 4194304) :
    Calls Tryd.prog 44 #[.pointer (some ⟨R, 0, none⟩), .agg #[.int .i64 k, .bool b, .int .i64 n, .string s, .slice pl nl cl, .slice pk nk ck]] w (CopPost R (.mk k b n s l ks) (d + 1) (m + 1) w) := by
  have hRlt := hR.lt
  have hB := HL.out.2.2.2.1
  obtain ⟨ti, hi, hz0, hz1, hz2⟩ := info_parts info9
  have hmk : ∀ V, (Instr.makeSlice 23 (.int .i64 (nk : Int)) (.int .i64 (nk : Int))).run Tryd.prog V = .ok (.slice (some ⟨V.heap.size, 0, none⟩) nk nk) (V.alloc (.cells (madeCells #[.string ⟨#[]⟩] nk) 9)) := fun V => by
    have := run_make (P := Tryd.prog) V 23 9 ti _ Tryd.underlying23 hi hz0 .i64 .i64 (nk : Int) (nk : Int) (by omega) (Int.le_refl _) (by rw [hz2]; omega) (by omega)
    rw [hz1] at this
    simpa [Value.cells] using this
  have hmid4 : Mid R (d + 1) (m + 1) #[.int .i64 k, .bool b, .int .i64 n, .string s, .slice pl nl cl, .slice pk nk ck] #[.int .i64 k, .bool b, .int .i64 n, .string s, .slice none 0 0, .slice (some ⟨w.heap.size + 1 + 1 + 1, 0, none⟩) nk nk] w ((((w.alloc (.cells #[.int .i64 k, .bool b, .int .i64 n, .string s, .slice pl nl cl, .slice pk nk ck] 25)).alloc (.cells #[.int .i64 0, .bool false, .int .i64 0, .string ⟨#[]⟩, .slice none 0 0, .slice none 0 0] 25)).alloc (.cells #[.int .i64 k, .bool b, .int .i64 n, .string s, .slice none 0 0, .slice (some ⟨w.heap.size + 1 + 1 + 1, 0, none⟩) nk nk] 25)).alloc (.cells (madeCells #[.string ⟨#[]⟩] nk) 9)) :=
    ⟨((((Below.refl _ w).alloc (Nat.le_refl _) _).alloc (by simp) _).alloc (by simp; omega) _).alloc (by simp; omega) _, (((Box.new w _).alloc _).alloc _).alloc _, (by
      have := ((Box.new (w.alloc (.cells #[.int .i64 k, .bool b, .int .i64 n, .string s, .slice pl nl cl, .slice pk nk ck] 25)) #[.int .i64 0, .bool false, .int .i64 0, .string ⟨#[]⟩, .slice none 0 0, .slice none 0 0]).alloc (.cells #[.int .i64 k, .bool b, .int .i64 n, .string s, .slice none 0 0, .slice (some ⟨w.heap.size + 1 + 1 + 1, 0, none⟩) nk nk] 25)).alloc (.cells (madeCells #[.string ⟨#[]⟩] nk) 9)
      rwa [World.size_alloc] at this), (by
      have := (Box.new ((w.alloc (.cells #[.int .i64 k, .bool b, .int .i64 n, .string s, .slice pl nl cl, .slice pk nk ck] 25)).alloc (.cells #[.int .i64 0, .bool false, .int .i64 0, .string ⟨#[]⟩, .slice none 0 0, .slice none 0 0] 25)) #[.int .i64 k, .bool b, .int .i64 n, .string s, .slice none 0 0, .slice (some ⟨w.heap.size + 1 + 1 + 1, 0, none⟩) nk nk]).alloc (.cells (madeCells #[.string ⟨#[]⟩] nk) 9)
      rwa [World.size_alloc, World.size_alloc] at this), (((hR.alloc _).alloc _).alloc _).alloc _⟩
  have hblk4 : ((((w.alloc (.cells #[.int .i64 k, .bool b, .int .i64 n, .string s, .slice pl nl cl, .slice pk nk ck] 25)).alloc (.cells #[.int .i64 0, .bool false, .int .i64 0, .string ⟨#[]⟩, .slice none 0 0, .slice none 0 0] 25)).alloc (.cells #[.int .i64 k, .bool b, .int .i64 n, .string s, .slice none 0 0, .slice (some ⟨w.heap.size + 1 + 1 + 1, 0, none⟩) nk nk] 25)).alloc (.cells (madeCells #[.string ⟨#[]⟩] nk) 9)).heap[w.heap.size + 1 + 1 + 1]? = some (.cells (madeCells #[.string ⟨#[]⟩] nk).toList.toArray 9 (0, 0)) := by
    have := World.alloc_heap_new (((w.alloc (.cells #[.int .i64 k, .bool b, .int .i64 n, .string s, .slice pl nl cl, .slice pk nk ck] 25)).alloc (.cells #[.int .i64 0, .bool false, .int .i64 0, .string ⟨#[]⟩, .slice none 0 0, .slice none 0 0] 25)).alloc (.cells #[.int .i64 k, .bool b, .int .i64 n, .string s, .slice none 0 0, .slice (some ⟨w.heap.size + 1 + 1 + 1, 0, none⟩) nk nk] 25)) (.cells (madeCells #[.string ⟨#[]⟩] nk) 9)
    rw [World.size_alloc, World.size_alloc, World.size_alloc] at this
    simpa using this
  have hcur : (madeCells #[.string ⟨#[]⟩] nk).toList.length = nk := by rw [Array.length_toList, size_madeCells]
  have hsrc : 0 < (ks.map Value.string).length → (some ⟨w.heap.size + 1 + 1 + 1, 0, none⟩ : Option Addr) = some ⟨w.heap.size + 1 + 1 + 1, 0, none⟩ ∧ ∃ ad, pk = some ad ∧ ∀ j v, (ks.map Value.string)[j]? = some v → ((((w.alloc (.cells #[.int .i64 k, .bool b, .int .i64 n, .string s, .slice pl nl cl, .slice pk nk ck] 25)).alloc (.cells #[.int .i64 0, .bool false, .int .i64 0, .string ⟨#[]⟩, .slice none 0 0, .slice none 0 0] 25)).alloc (.cells #[.int .i64 k, .bool b, .int .i64 n, .string s, .slice none 0 0, .slice (some ⟨w.heap.size + 1 + 1 + 1, 0, none⟩) nk nk] 25)).alloc (.cells (madeCells #[.string ⟨#[]⟩] nk) 9)).cell? (ad.add j) = some v := fun h => by
    obtain ⟨bb, oo, e, hbb, hc⟩ := hks (by simpa using h)
    refine ⟨rfl, _, e, fun j v hv => ?_⟩
    rw [List.getElem?_map] at hv
    obtain ⟨kx, hkx, rfl⟩ := Option.map_eq_some_iff.1 hv
    have hj := (List.getElem?_eq_some_iff.1 hkx).1
    rw [Go.WideShapes.add_plain]
    have h1 := (hmid4.low.cell (p := ⟨bb, oo + j, none⟩) (Nat.lt_of_lt_of_le hbb hB)).trans (hc j hj)
    rw [h1, List.getD_eq_getElem?_getD, hkx]
    rfl
  have hone : ∀ v ∈ ks.map Value.string, v.oneCell' = true := fun v hv => by
    obtain ⟨kx, -, rfl⟩ := List.mem_map.1 hv
    rfl
  have HML := Lib.hid (And.intro (by rw [List.length_map, hnk]; simp : (ks.map Value.string).length = Nat.min nk nk) (by rw [List.length_map, hnk, hcur]; omega : 0 + (ks.map Value.string).length ≤ (madeCells #[.string ⟨#[]⟩] nk).toList.length))
  have HM4 := Lib.hid hmid4
  have HB4 := Lib.hid hblk4
  have HSR := Lib.hid hsrc
  have HON := Lib.hid hone
  have HNK := Lib.hid hnk
  have hdk : decide (0 < nk) = true := by simpa using hk0
  clear hmid4 hblk4 hsrc hone hcur hi hz0 hz1 hz2 ti hnk hR
  clear hB
  go_enter Tryd.func44, Tryd.ntmps44
  go_upto_region 5 with (fail)
  obtain ⟨a0, a1, a2, a3, a4, a5⟩ := HM4.out.bA.cell
  obtain ⟨o0, o1, o2, o3, o4, o5⟩ := HM4.out.bO.cell
  generalize ((((w.alloc (.cells #[.int .i64 k, .bool b, .int .i64 n, .string s, .slice pl nl cl, .slice pk nk ck] 25)).alloc (.cells #[.int .i64 0, .bool false, .int .i64 0, .string ⟨#[]⟩, .slice none 0 0, .slice none 0 0] 25)).alloc (.cells #[.int .i64 k, .bool b, .int .i64 n, .string s, .slice none 0 0, .slice (some ⟨w.heap.size + 1 + 1 + 1, 0, none⟩) nk nk] 25)).alloc (.cells (madeCells #[.string ⟨#[]⟩] nk) 9)) = W4 at *
  go_upto_region 6 with (refine wpList_copy_splice rfl (.tmp 19) (.tmp 21) 23 23 rfl 9 Tryd.underlying23 (by kernel_rfl) (some ⟨w.heap.size + 1 + 1 + 1, 0, none⟩) pk nk nk nk ck rfl rfl (w.heap.size + 1 + 1 + 1) 0 _ 9 HB4.out (ks.map Value.string) HML.out.1 HSR.out HML.out.2 HON.out (w.heap.size + 1 + 1 + 1) W4 (Below.refl _ _) (Nat.le_refl _) ?_; intro wk hg5 hb5)
  have hmid : Mid R (d + 1) (m + 1) #[.int .i64 k, .bool b, .int .i64 n, .string s, .slice pl nl cl, .slice pk nk ck] #[.int .i64 k, .bool b, .int .i64 n, .string s, .slice none 0 0, .slice (some ⟨w.heap.size + 1 + 1 + 1, 0, none⟩) nk nk] w wk := ⟨HM4.out.low.trans (hb5.mono (by omega)), (hb5.block _ (by omega)).trans HM4.out.bA, (hb5.block _ (by omega)).trans HM4.out.bR, (hb5.block _ (by omega)).trans HM4.out.bO, (hb5.block _ (by omega)).trans HM4.out.reach⟩
  have hkey : KeyOwn w wk (some ⟨w.heap.size + 1 + 1 + 1, 0, none⟩) ks := ⟨fun h => by rw [HNK.out] at h; omega, fun _ => ⟨_, rfl, by omega, (Array.getElem?_eq_some_iff.1 hg5.out).1, strs_splice hg5.out⟩⟩
  clear hb5 hg5 a0 a1 a2 a3 a4 a5 o0 o1 o2 o3 o4 o5 hmk HML HSR HON HB4
  have hmidK : Mid R (d + 1) (m + 1) #[.int .i64 k, .bool b, .int .i64 n, .string s, .slice pl nl cl, .slice pk nk ck] #[.int .i64 k, .bool b, .int .i64 n, .string s, .slice none 0 0, .slice (some ⟨w.heap.size + 1 + 1 + 1, 0, none⟩) ks.length nk] w wk := by
    rw [HNK.out]
    exact hmid
  have HMK := Lib.hid hmidK
  clear hmidK
  have hE := enter_nat R d m wk hmid.reach HD.out.1 HD.out.2
  have hdl : decide (0 < nl) = true := by simpa using h0
  have HMID := Lib.hid hmid
  have HKEY := Lib.hid hkey
  obtain ⟨a0, a1, a2, a3, a4, a5⟩ := hmid.bA.cell
  clear hmid hkey
  go_wp2_with fail
  refine hE.mono ?_
  rintro e w1 ⟨rfl, hr1, hk1⟩
  have hk01 : Keeps (· = R) w w1 := (Keeps.of_below HMID.out.low).trans hk1
  have hsz1 : w.heap.size + 1 + 1 < w1.heap.size := Nat.lt_of_lt_of_le HMID.out.bO.lt hk1.size
  have hA1 : Box w1 w.heap.size #[.int .i64 k, .bool b, .int .i64 n, .string s, .slice pl nl cl, .slice pk nk ck] := (hk1.block _ HMID.out.bA.lt (by show ¬ w.heap.size = R; omega)).trans HMID.out.bA
  have hC := copies_any N R IH l pl cl B w1 d m HL.out.1 HL.out.2.1 (by rw [HNL.out]; exact h0) (fun h => by
      obtain ⟨bl, ol, e, hbl, hIn⟩ := HL.out.2.2.1 h
      exact ⟨bl, ol, e, hbl, VT.InL.keep (fun q hq => (hk01.below (fun k e => e ▸ HL.out.2.2.2.2.1) HL.out.2.2.2.1).cell hq) hbl hIn⟩) (Nat.le_trans HL.out.2.2.2.1 hk01.size) HL.out.2.2.2.2.1 hr1 HL.out.2.2.2.2.2.1 HL.out.2.2.2.2.2.2 (by have := HD.out.1; omega) (by have := HD.out.2; omega)
  rw [HNL.out] at hC
  have HC := Lib.hid hC
  have HK1 := Lib.hid hk1
  obtain ⟨a0, a1, a2, a3, a4, a5⟩ := hA1.cell
  clear hE hr1 hk1 hA1 hC hk01
  go_wp2_with fail
  refine HC.out.mono ?_
  rintro e w2 ⟨lb, m2, rfl, hn⟩
  have HNR := Lib.hid hn
  have hb2 : ∀ j cs, Box wk j cs → j ≠ R → Box w2 j cs := fun j cs h hj => (HNR.out.keeps.block j (Nat.lt_of_lt_of_le h.lt HK1.out.size) hj).trans ((HK1.out.block j h.lt hj).trans h)
  have hO2 := hb2 _ _ HMID.out.bO (by omega)
  have hR2 := hb2 _ _ HMID.out.bR (by omega)
  have hkA : Keeps (· = w.heap.size + 1 + 1) w2 (w2.setCell ⟨w.heap.size + 1 + 1, 4, none⟩ (.slice (some ⟨lb, 0, none⟩) l.length l.length)) := (Keeps.refl (· = w.heap.size + 1 + 1) w2).setCell (p := ⟨w.heap.size + 1 + 1, 4, none⟩) (.inl rfl) _
  have hr4 : Reach (w2.setCell ⟨w.heap.size + 1 + 1, 4, none⟩ (.slice (some ⟨lb, 0, none⟩) l.length l.length)) R d m2 := (hkA.block R HNR.out.reach.lt (by show ¬ R = _; omega)).trans HNR.out.reach
  have hO4 := box_set4 (v := .slice (some ⟨lb, 0, none⟩) l.length l.length) hO2
  have hR4 : Box (w2.setCell ⟨w.heap.size + 1 + 1, 4, none⟩ (.slice (some ⟨lb, 0, none⟩) l.length l.length)) (w.heap.size + 1) _ := (hkA.block _ hR2.lt (by omega)).trans hR2
  have hlv := leave_nat R d m2 _ hr4 HD.out.1
  have zf := box_free hO2 4
  obtain ⟨o0, o1, o2, o3, o4, o5⟩ := hO2.cell
  have HO4 := Lib.hid (And.intro hO4 hR4)
  clear hn hb2 hO2 hR2 hkA hr4 hO4 hR4 a0 a1 a2 a3 a4 a5
  go_wp2_with fail
  refine hlv.mono ?_
  rintro e w3 ⟨⟨vv, rfl⟩, hr3, hk3⟩
  have hP := cop_list (l := l) (ck := nk) ⟨by rw [HNK.out]; exact Nat.le_refl _, by unfold maxLen; omega⟩ (by rw [HNL.out]; exact HLM.out) (by rw [HNL.out]; exact h0) HMK.out HKEY.out hRlt HK1.out HNR.out hk3 hr3
  rw [HNK.out] at hP
  have HP := Lib.hid hP
  have hO3 := (hk3.block _ HO4.out.1.lt (by show ¬ _ = R; omega)).trans HO4.out.1
  have hR3 : Box w3 (w.heap.size + 1) _ := (hk3.block _ HO4.out.2.lt (by show ¬ _ = R; omega)).trans HO4.out.2
  obtain ⟨o0, o1, o2, o3, o4, o5⟩ := Box.cell hO3
  obtain ⟨r0, r1, r2, r3, r4, r5⟩ := hR3.cell
  have z0 := box_free hR3 0
  have z1 := box_free hR3 1
  have z2 := box_free hR3 2
  have z3 := box_free hR3 3
  have z4 := box_free hR3 4
  have z5 := box_free hR3 5
  have hend := box_six (v0 := .int .i64 k) (v1 := .bool b) (v2 := .int .i64 n) (v3 := .string s) (v4 := .slice (some ⟨lb, 0, none⟩) l.length l.length) (v5 := .slice (some ⟨w.heap.size + 1 + 1 + 1, 0, none⟩) nk nk) hR3
  obtain ⟨q0, q1, q2, q3, q4, q5⟩ := hend.cell
  unfold six at q0 q1 q2 q3 q4 q5
  simp only [Nat.zero_add] at q0 q1 q2 q3 q4 q5
  have HQ := Lib.hid (And.intro q0 (And.intro q1 (And.intro q2 (And.intro q3 (And.intro q4 q5)))))
  clear q0 q1 q2 q3 q4 q5 hend hO3 hR3 hlv hr3 hk3 hP zf
  go_wp2_with fail
  obtain ⟨q0, q1, q2, q3, q4, q5⟩ := HQ.out
  exact bodyPost_ret (v := .agg #[.int .i64 k, .bool b, .int .i64 n, .string s, .slice (some ⟨lb, 0, none⟩) l.length l.length, .slice (some ⟨w.heap.size + 1 + 1 + 1, 0, none⟩) nk nk]) (by simp [results, Tryd.results44, go_sem, q0, q1, q2, q3, q4, q5]) rfl HP.out
end Val
end Go.Proofs.YtiphegccaijbgaaDoor
