/- THE WALK over copied: a value in new memory. -/
import Derived.Test.YtiphegccaijbgaaDoorRows
import Derived.Test.YtiphegccaijbgaaDoorValBase
import Derived.Test.YtiphegccaijbgaaDoorVal
import Derived.Test.YtiphegccaijbgaaDoorValCmp
import Derived.Test.YtiphegccaijbgaaDoorValWalk
import Derived.Test.YtiphegccaijbgaaDoorValForm2
import Derived.Test.YtiphegccaijbgaaDoorValRef
import Derived.Test.YtiphegccaijbgaaDoorValMay
import Derived.Test.YtiphegccaijbgaaDoorValOwn
import Derived.Test.YtiphegccaijbgaaDoorValCopy
import Derived.WalkKit
import Derived.Lib.Hide
import Derived.WalkSpells
import Derived.WalkLawsBesides
import Derived.Laws.MakeOwn
import Derived.Laws.CopyOwn
import Derived.OwnWalk
import Derived.Outline
import Derived.Deep.Cut
import Derived.Deep.CutRange
import Derived.Deep.DeepCutAuto
namespace Go.Proofs.YtiphegccaijbgaaDoor
open Go.RowKit
set_option linter.unusedVariables false
set_option linter.unusedSimpArgs false
namespace Val
theorem info9 : (Tryd.prog.info? 9).map (fun i => (i.zero, i.size, i.bytes)) = some (some (.string ⟨#[]⟩), 1, 16) := by kernel_rfl
theorem strs_splice {ks : List ByteArray} {cur : List Value} {w : World} {g : Nat} (h : w.heap[g]? = some (.cells (splice cur 0 (ks.map Value.string)).toArray 9 (0, 0))) : StrBlock w g ks := by
  refine ⟨_, h, ?_, fun i hi => ?_⟩
  · simp [splice]
  · have : i < (ks.map Value.string).length := by simpa using hi
    simp [splice, List.getElem?_append_left, hi, List.getD_eq_getElem?_getD]
/-- Where the keys are copied: what the rest of the walk knows. -/
structure Mid (R : Nat) (d m : Nat) (box out : Array Value) (w wk : World) : Prop where
  low : Below w.heap.size w wk
  bA : Box wk w.heap.size box
  bR : Box wk (w.heap.size + 1) #[.int .i64 0, .bool false, .int .i64 0, .string ⟨#[]⟩, .slice none 0 0, .slice none 0 0]
  bO : Box wk (w.heap.size + 1 + 1) out
  reach : Reach wk R d m
/-- The keys of the copy. -/
def KeyOwn (w wk : World) (pk : Option Addr) (ks : List ByteArray) : Prop := (ks.length = 0 → pk = none) ∧ (0 < ks.length → ∃ kb, pk = some ⟨kb, 0, none⟩ ∧ w.heap.size + 3 ≤ kb ∧ kb < wk.heap.size ∧ StrBlock wk kb ks)
theorem box_six {w : World} {b : Nat} {c0 c1 c2 c3 c4 c5 v0 v1 v2 v3 v4 v5 : Value} (h : Box w b #[c0, c1, c2, c3, c4, c5]) : Box (six w b 0 v0 v1 v2 v3 v4 v5) b #[v0, v1, v2, v3, v4, v5] := by
  unfold Box at h ⊢
  rw [six_block h]
  rfl
theorem box_free {w : World} {b : Nat} {cs : Array Value} (h : Box w b cs) (i : Nat) : w.frozen? ⟨b, i, none⟩ = false := by
  unfold Box at h
  simp [World.frozen?, h]
/-- The end, where there are no values in it. -/
theorem cop_flat {R : Nat} {k : Int} {b : Bool} {n : Int} {s : ByteArray} {ks : List ByteArray} {d m ck : Nat} {box : Array Value} {w wk : World} {pk : Option Addr} (hck : ks.length ≤ ck ∧ ck ≤ maxLen) (h : Mid R d m box #[.int .i64 k, .bool b, .int .i64 n, .string s, .slice none 0 0, .slice pk ks.length ck] w wk) (hk : KeyOwn w wk pk ks) (hR : R < w.heap.size) :
    CopPost R (.mk k b n s [] ks) d m w (.returned (.agg #[.int .i64 k, .bool b, .int .i64 n, .string s, .slice none 0 0, .slice pk ks.length ck])) (six wk (w.heap.size + 1) 0 (.int .i64 k) (.bool b) (.int .i64 n) (.string s) (.slice none 0 0) (.slice pk ks.length ck)) := by
  have hkp : Keeps (· = w.heap.size + 1) wk (six wk (w.heap.size + 1) 0 (.int .i64 k) (.bool b) (.int .i64 n) (.string s) (.slice none 0 0) (.slice pk ks.length ck)) := six_keeps (Keeps.refl (· = w.heap.size + 1) wk) (.inl rfl)
  refine ⟨_, m, rfl, ?_, six_keeps (Keeps.of_below h.low) (.inr (by omega)), (hkp.block R h.reach.lt (by show ¬ R = _; omega)).trans h.reach, Nat.le_refl _, by omega⟩
  unfold VT.Own
  refine ⟨none, 0, pk, ck, rfl, Nat.le_refl _, by unfold maxLen; omega, hck.1, hck.2, fun h0 => ?_, fun h0 => absurd h0 (by simp)⟩
  obtain ⟨kb, e, h1, h2, cs, hb, hsz, hc⟩ := hk.2 h0
  exact ⟨kb, e, ⟨by omega, by have := hkp.size; omega⟩, cs, (hkp.block kb h2 (by show ¬ kb = _; omega)).trans hb, hsz, hc⟩
set_option maxRecDepth 100000 in
set_option maxHeartbeats 2000000 in
theorem copied_00 (R : Nat) (k : Int) (b : Bool) (n : Int) (s : ByteArray) (pl pk : Option Addr) (cl ck d m : Nat) (w : World) (hR : Reach w R d m) :
    Calls Tryd.prog 44 #[.pointer (some ⟨R, 0, none⟩), .agg #[.int .i64 k, .bool b, .int .i64 n, .string s, .slice pl 0 cl, .slice pk 0 ck]] w (CopPost R (.mk k b n s [] []) d m w) := by
  have hRlt := hR.lt
  have hmid : Mid R d m #[.int .i64 k, .bool b, .int .i64 n, .string s, .slice pl 0 cl, .slice pk 0 ck] #[.int .i64 k, .bool b, .int .i64 n, .string s, .slice none 0 0, .slice none 0 0] w (((w.alloc (.cells #[.int .i64 k, .bool b, .int .i64 n, .string s, .slice pl 0 cl, .slice pk 0 ck] 25)).alloc (.cells #[.int .i64 0, .bool false, .int .i64 0, .string ⟨#[]⟩, .slice none 0 0, .slice none 0 0] 25)).alloc (.cells #[.int .i64 k, .bool b, .int .i64 n, .string s, .slice none 0 0, .slice none 0 0] 25)) :=
    ⟨(((Below.refl _ w).alloc (Nat.le_refl _) _).alloc (by simp) _).alloc (by simp; omega) _, ((Box.new w _).alloc _).alloc _, (by
      have := (Box.new (w.alloc (.cells #[.int .i64 k, .bool b, .int .i64 n, .string s, .slice pl 0 cl, .slice pk 0 ck] 25)) #[.int .i64 0, .bool false, .int .i64 0, .string ⟨#[]⟩, .slice none 0 0, .slice none 0 0]).alloc (.cells #[.int .i64 k, .bool b, .int .i64 n, .string s, .slice none 0 0, .slice none 0 0] 25)
      rwa [World.size_alloc] at this), (by
      have := Box.new ((w.alloc (.cells #[.int .i64 k, .bool b, .int .i64 n, .string s, .slice pl 0 cl, .slice pk 0 ck] 25)).alloc (.cells #[.int .i64 0, .bool false, .int .i64 0, .string ⟨#[]⟩, .slice none 0 0, .slice none 0 0] 25)) #[.int .i64 k, .bool b, .int .i64 n, .string s, .slice none 0 0, .slice none 0 0]
      rwa [World.size_alloc, World.size_alloc] at this), ((hR.alloc _).alloc _).alloc _⟩
  clear hR
  go_enter Tryd.func44, Tryd.ntmps44
  go_upto_region 6 with (fail)
  generalize (((w.alloc (.cells #[.int .i64 k, .bool b, .int .i64 n, .string s, .slice pl 0 cl, .slice pk 0 ck] 25)).alloc (.cells #[.int .i64 0, .bool false, .int .i64 0, .string ⟨#[]⟩, .slice none 0 0, .slice none 0 0] 25)).alloc (.cells #[.int .i64 k, .bool b, .int .i64 n, .string s, .slice none 0 0, .slice none 0 0] 25)) = wk at *
  have HP := Lib.hid (cop_flat (ck := 0) ⟨Nat.le_refl _, by unfold maxLen; omega⟩ hmid (ks := []) ⟨fun _ => rfl, fun h => absurd h (by simp)⟩ hRlt)
  obtain ⟨a0, a1, a2, a3, a4, a5⟩ := hmid.bA.cell
  obtain ⟨r0, r1, r2, r3, r4, r5⟩ := hmid.bR.cell
  obtain ⟨o0, o1, o2, o3, o4, o5⟩ := hmid.bO.cell
  have z0 := box_free hmid.bR 0
  have z1 := box_free hmid.bR 1
  have z2 := box_free hmid.bR 2
  have z3 := box_free hmid.bR 3
  have z4 := box_free hmid.bR 4
  have z5 := box_free hmid.bR 5
  have hend := box_six (v0 := .int .i64 k) (v1 := .bool b) (v2 := .int .i64 n) (v3 := .string s) (v4 := .slice none 0 0) (v5 := .slice none 0 0) hmid.bR
  obtain ⟨q0, q1, q2, q3, q4, q5⟩ := hend.cell
  unfold six at q0 q1 q2 q3 q4 q5
  simp only [Nat.zero_add] at q0 q1 q2 q3 q4 q5
  have HQ := Lib.hid (And.intro q0 (And.intro q1 (And.intro q2 (And.intro q3 (And.intro q4 q5)))))
  clear q0 q1 q2 q3 q4 q5 hend hmid
  go_wp2_with fail
  obtain ⟨q0, q1, q2, q3, q4, q5⟩ := HQ.out
  exact bodyPost_ret (v := .agg #[.int .i64 k, .bool b, .int .i64 n, .string s, .slice none 0 0, .slice none 0 0]) (by simp [results, Tryd.results44, go_sem, q0, q1, q2, q3, q4, q5]) rfl HP.out
/-- The end, where there are values in it. -/
theorem cop_list {R : Nat} {k : Int} {b : Bool} {n : Int} {s : ByteArray} {ks : List ByteArray} {l : List VT} {d m m2 ck lb : Nat} {box : Array Value} {w wk w1 w2 w3 : World} {pk : Option Addr} (hck : ks.length ≤ ck ∧ ck ≤ maxLen) (hl : l.length ≤ maxLen) (h0l : 0 < l.length) (h : Mid R (d + 1) (m + 1) box #[.int .i64 k, .bool b, .int .i64 n, .string s, .slice none 0 0, .slice pk ks.length ck] w wk) (hk : KeyOwn w wk pk ks) (hR : R < w.heap.size)
    (hw1 : Keeps (· = R) wk w1) (hn : NewRow R lb l d m w1 w2 m2) (hw3 : Keeps (· = R) (w2.setCell ⟨w.heap.size + 1 + 1, 4, none⟩ (.slice (some ⟨lb, 0, none⟩) l.length l.length)) w3) (hr3 : Reach w3 R ((d + 1 : Nat) : Int) m2) :
    CopPost R (.mk k b n s l ks) (d + 1) (m + 1) w (.returned (.agg #[.int .i64 k, .bool b, .int .i64 n, .string s, .slice (some ⟨lb, 0, none⟩) l.length l.length, .slice pk ks.length ck])) (six w3 (w.heap.size + 1) 0 (.int .i64 k) (.bool b) (.int .i64 n) (.string s) (.slice (some ⟨lb, 0, none⟩) l.length l.length) (.slice pk ks.length ck)) := by
  have hA2 := h.bO.lt
  have hs1 := hw1.size
  have hs2 := hn.keeps.size
  have hlo := hn.lo
  have hhi := hn.hi
  have kA : Keeps (· = w.heap.size + 1 + 1) w2 (w2.setCell ⟨w.heap.size + 1 + 1, 4, none⟩ (.slice (some ⟨lb, 0, none⟩) l.length l.length)) := (Keeps.refl (· = w.heap.size + 1 + 1) w2).setCell (p := ⟨w.heap.size + 1 + 1, 4, none⟩) (.inl rfl) _
  have kF : Keeps (· = w.heap.size + 1) w3 (six w3 (w.heap.size + 1) 0 (.int .i64 k) (.bool b) (.int .i64 n) (.string s) (.slice (some ⟨lb, 0, none⟩) l.length l.length) (.slice pk ks.length ck)) := six_keeps (Keeps.refl (· = w.heap.size + 1) w3) (.inl rfl)
  have k2F : Keeps (fun j => j = w.heap.size + 1 ∨ j = w.heap.size + 1 + 1 ∨ j = R) w2 (six w3 (w.heap.size + 1) 0 (.int .i64 k) (.bool b) (.int .i64 n) (.string s) (.slice (some ⟨lb, 0, none⟩) l.length l.length) (.slice pk ks.length ck)) :=
    ((kA.mono fun j e _ => .inr (.inl e)).trans (hw3.mono fun j e _ => .inr (.inr e))).trans (kF.mono fun j e _ => .inl e)
  have hsF := k2F.size
  have hkR : Keeps (· = R) w w3 := by
    have a1 : Keeps (· = R) w w2 := ((Keeps.of_below h.low).trans hw1).trans hn.keeps
    exact (a1.setCell (p := ⟨w.heap.size + 1 + 1, 4, none⟩) (.inr (by show w.heap.size ≤ w.heap.size + 1 + 1; omega)) _).trans hw3
  refine ⟨_, m2, rfl, ?_, six_keeps hkR (.inr (by omega)), (kF.block R (hr3.lt) (by show ¬ R = _; omega)).trans hr3, by have := hn.le; omega, ?_⟩
  · unfold VT.Own
    refine ⟨some ⟨lb, 0, none⟩, l.length, pk, ck, rfl, Nat.le_refl _, hl, hck.1, hck.2, fun h0 => ?_, fun _ => ?_⟩
    · obtain ⟨kb, e, g1, g2, cs, hb, hsz, hc⟩ := hk.2 h0
      refine ⟨kb, e, ⟨by omega, by omega⟩, cs, ?_, hsz, hc⟩
      have b1 := (hw1.block kb g2 (by show ¬ kb = R; omega)).trans hb
      have b2 := (hn.keeps.block kb (by omega) (by show ¬ kb = R; omega)).trans b1
      exact (k2F.block kb (by omega) (by rintro (e | e | e) <;> omega)).trans b2
    · obtain ⟨cs, hb, hsz⟩ := hn.blk
      refine ⟨lb, fun j => lb < j ∧ j < w2.heap.size, rfl, ⟨by omega, by omega⟩, ⟨cs, (k2F.block lb hhi (by rintro (e | e | e) <;> omega)).trans hb, hsz⟩, fun j hj => ⟨⟨by omega, by omega⟩, by omega, fun e => ?_⟩, ?_⟩
      · by_cases h0 : 0 < ks.length
        · obtain ⟨kb, e', g1, g2, -⟩ := hk.2 h0
          rw [e'] at e
          injection e with e
          injection e with e
          omega
        · rw [hk.1 (by omega)] at e
          cases e
      · exact VT.OwnL.keeps k2F (fun i _ => k2F.cell (p := ⟨lb, i, none⟩) hhi (by rintro (e | e | e) <;> (simp at e; omega))) hn.own (fun j hj => ⟨hj.2, by rintro (e | e | e) <;> omega⟩)
  · have h1 := hn.cost
    show m + 1 ≤ m2 + 2 * VT.partsL l
    omega
set_option maxRecDepth 100000 in
set_option maxHeartbeats 2000000 in
theorem copied_k0 (R B : Nat) (k : Int) (b : Bool) (n : Int) (s : ByteArray) (ks : List ByteArray) (pl pk : Option Addr) (cl ck nk d m : Nat) (w : World) (hR : Reach w R d m) (hks : VT.KeysIn w B pk ks) (hB : B ≤ w.heap.size) (hnk : ks.length = nk) (hk0 : 0 < nk) (hk9 : nk ≤ 4194304) :
    Calls Tryd.prog 44 #[.pointer (some ⟨R, 0, none⟩), .agg #[.int .i64 k, .bool b, .int .i64 n, .string s, .slice pl 0 cl, .slice pk nk ck]] w (CopPost R (.mk k b n s [] ks) d m w) := by
  have hRlt := hR.lt
  obtain ⟨ti, hi, hz0, hz1, hz2⟩ := info_parts info9
  have hmk : ∀ V, (Instr.makeSlice 23 (.int .i64 (nk : Int)) (.int .i64 (nk : Int))).run Tryd.prog V = .ok (.slice (some ⟨V.heap.size, 0, none⟩) nk nk) (V.alloc (.cells (madeCells #[.string ⟨#[]⟩] nk) 9)) := fun V => by
    have := run_make (P := Tryd.prog) V 23 9 ti _ Tryd.underlying23 hi hz0 .i64 .i64 (nk : Int) (nk : Int) (by omega) (Int.le_refl _) (by rw [hz2]; omega) (by omega)
    rw [hz1] at this
    simpa [Value.cells] using this
  have hmid4 : Mid R d m #[.int .i64 k, .bool b, .int .i64 n, .string s, .slice pl 0 cl, .slice pk nk ck] #[.int .i64 k, .bool b, .int .i64 n, .string s, .slice none 0 0, .slice (some ⟨w.heap.size + 1 + 1 + 1, 0, none⟩) nk nk] w ((((w.alloc (.cells #[.int .i64 k, .bool b, .int .i64 n, .string s, .slice pl 0 cl, .slice pk nk ck] 25)).alloc (.cells #[.int .i64 0, .bool false, .int .i64 0, .string ⟨#[]⟩, .slice none 0 0, .slice none 0 0] 25)).alloc (.cells #[.int .i64 k, .bool b, .int .i64 n, .string s, .slice none 0 0, .slice (some ⟨w.heap.size + 1 + 1 + 1, 0, none⟩) nk nk] 25)).alloc (.cells (madeCells #[.string ⟨#[]⟩] nk) 9)) :=
    ⟨((((Below.refl _ w).alloc (Nat.le_refl _) _).alloc (by simp) _).alloc (by simp; omega) _).alloc (by simp; omega) _, (((Box.new w _).alloc _).alloc _).alloc _, (by
      have := ((Box.new (w.alloc (.cells #[.int .i64 k, .bool b, .int .i64 n, .string s, .slice pl 0 cl, .slice pk nk ck] 25)) #[.int .i64 0, .bool false, .int .i64 0, .string ⟨#[]⟩, .slice none 0 0, .slice none 0 0]).alloc (.cells #[.int .i64 k, .bool b, .int .i64 n, .string s, .slice none 0 0, .slice (some ⟨w.heap.size + 1 + 1 + 1, 0, none⟩) nk nk] 25)).alloc (.cells (madeCells #[.string ⟨#[]⟩] nk) 9)
      rwa [World.size_alloc] at this), (by
      have := (Box.new ((w.alloc (.cells #[.int .i64 k, .bool b, .int .i64 n, .string s, .slice pl 0 cl, .slice pk nk ck] 25)).alloc (.cells #[.int .i64 0, .bool false, .int .i64 0, .string ⟨#[]⟩, .slice none 0 0, .slice none 0 0] 25)) #[.int .i64 k, .bool b, .int .i64 n, .string s, .slice none 0 0, .slice (some ⟨w.heap.size + 1 + 1 + 1, 0, none⟩) nk nk]).alloc (.cells (madeCells #[.string ⟨#[]⟩] nk) 9)
      rwa [World.size_alloc, World.size_alloc] at this), (((hR.alloc _).alloc _).alloc _).alloc _⟩
  have hblk4 : ((((w.alloc (.cells #[.int .i64 k, .bool b, .int .i64 n, .string s, .slice pl 0 cl, .slice pk nk ck] 25)).alloc (.cells #[.int .i64 0, .bool false, .int .i64 0, .string ⟨#[]⟩, .slice none 0 0, .slice none 0 0] 25)).alloc (.cells #[.int .i64 k, .bool b, .int .i64 n, .string s, .slice none 0 0, .slice (some ⟨w.heap.size + 1 + 1 + 1, 0, none⟩) nk nk] 25)).alloc (.cells (madeCells #[.string ⟨#[]⟩] nk) 9)).heap[w.heap.size + 1 + 1 + 1]? = some (.cells (madeCells #[.string ⟨#[]⟩] nk).toList.toArray 9 (0, 0)) := by
    have := World.alloc_heap_new (((w.alloc (.cells #[.int .i64 k, .bool b, .int .i64 n, .string s, .slice pl 0 cl, .slice pk nk ck] 25)).alloc (.cells #[.int .i64 0, .bool false, .int .i64 0, .string ⟨#[]⟩, .slice none 0 0, .slice none 0 0] 25)).alloc (.cells #[.int .i64 k, .bool b, .int .i64 n, .string s, .slice none 0 0, .slice (some ⟨w.heap.size + 1 + 1 + 1, 0, none⟩) nk nk] 25)) (.cells (madeCells #[.string ⟨#[]⟩] nk) 9)
    rw [World.size_alloc, World.size_alloc, World.size_alloc] at this
    simpa using this
  have hcur : (madeCells #[.string ⟨#[]⟩] nk).toList.length = nk := by rw [Array.length_toList, size_madeCells]
  have hsrc : 0 < (ks.map Value.string).length → (some ⟨w.heap.size + 1 + 1 + 1, 0, none⟩ : Option Addr) = some ⟨w.heap.size + 1 + 1 + 1, 0, none⟩ ∧ ∃ ad, pk = some ad ∧ ∀ j v, (ks.map Value.string)[j]? = some v → ((((w.alloc (.cells #[.int .i64 k, .bool b, .int .i64 n, .string s, .slice pl 0 cl, .slice pk nk ck] 25)).alloc (.cells #[.int .i64 0, .bool false, .int .i64 0, .string ⟨#[]⟩, .slice none 0 0, .slice none 0 0] 25)).alloc (.cells #[.int .i64 k, .bool b, .int .i64 n, .string s, .slice none 0 0, .slice (some ⟨w.heap.size + 1 + 1 + 1, 0, none⟩) nk nk] 25)).alloc (.cells (madeCells #[.string ⟨#[]⟩] nk) 9)).cell? (ad.add j) = some v := fun h => by
    obtain ⟨bb, oo, e, hbb, hc⟩ := hks (by simpa using h)
    refine ⟨rfl, _, e, fun j v hv => ?_⟩
    rw [List.getElem?_map] at hv
    obtain ⟨kx, hkx, rfl⟩ := Option.map_eq_some_iff.1 hv
    have hj := (List.getElem?_eq_some_iff.1 hkx).1
    rw [Go.WideShapes.add_plain]
    have h1 := (hmid4.low.cell (p := ⟨bb, oo + j, none⟩) (Nat.lt_of_lt_of_le hbb hB)).trans (hc j hj)
    rw [h1, List.getD_eq_getElem?_getD, hkx]
    rfl
  have hone : ∀ v ∈ ks.map Value.string, v.oneCell' = true := fun v hv => by
    obtain ⟨kx, -, rfl⟩ := List.mem_map.1 hv
    rfl
  have HML := Lib.hid (And.intro (by rw [List.length_map, hnk]; simp : (ks.map Value.string).length = Nat.min nk nk) (by rw [List.length_map, hnk, hcur]; omega : 0 + (ks.map Value.string).length ≤ (madeCells #[.string ⟨#[]⟩] nk).toList.length))
  have HM4 := Lib.hid hmid4
  have HB4 := Lib.hid hblk4
  have HSR := Lib.hid hsrc
  have HON := Lib.hid hone
  have HNK := Lib.hid hnk
  have hdk : decide (0 < nk) = true := by simpa using hk0
  clear hmid4 hblk4 hsrc hone hcur hi hz0 hz1 hz2 ti hnk hR
  go_enter Tryd.func44, Tryd.ntmps44
  go_upto_region 5 with (fail)
  obtain ⟨a0, a1, a2, a3, a4, a5⟩ := HM4.out.bA.cell
  obtain ⟨o0, o1, o2, o3, o4, o5⟩ := HM4.out.bO.cell
  generalize ((((w.alloc (.cells #[.int .i64 k, .bool b, .int .i64 n, .string s, .slice pl 0 cl, .slice pk nk ck] 25)).alloc (.cells #[.int .i64 0, .bool false, .int .i64 0, .string ⟨#[]⟩, .slice none 0 0, .slice none 0 0] 25)).alloc (.cells #[.int .i64 k, .bool b, .int .i64 n, .string s, .slice none 0 0, .slice (some ⟨w.heap.size + 1 + 1 + 1, 0, none⟩) nk nk] 25)).alloc (.cells (madeCells #[.string ⟨#[]⟩] nk) 9)) = W4 at *
  go_upto_region 6 with (refine wpList_copy_splice rfl (.tmp 19) (.tmp 21) 23 23 rfl 9 Tryd.underlying23 (by kernel_rfl) (some ⟨w.heap.size + 1 + 1 + 1, 0, none⟩) pk nk nk nk ck rfl rfl (w.heap.size + 1 + 1 + 1) 0 _ 9 HB4.out (ks.map Value.string) HML.out.1 HSR.out HML.out.2 HON.out (w.heap.size + 1 + 1 + 1) W4 (Below.refl _ _) (Nat.le_refl _) ?_; intro wk hg5 hb5)
  have hmid : Mid R d m #[.int .i64 k, .bool b, .int .i64 n, .string s, .slice pl 0 cl, .slice pk nk ck] #[.int .i64 k, .bool b, .int .i64 n, .string s, .slice none 0 0, .slice (some ⟨w.heap.size + 1 + 1 + 1, 0, none⟩) nk nk] w wk := ⟨HM4.out.low.trans (hb5.mono (by omega)), (hb5.block _ (by omega)).trans HM4.out.bA, (hb5.block _ (by omega)).trans HM4.out.bR, (hb5.block _ (by omega)).trans HM4.out.bO, (hb5.block _ (by omega)).trans HM4.out.reach⟩
  have hkey : KeyOwn w wk (some ⟨w.heap.size + 1 + 1 + 1, 0, none⟩) ks := ⟨fun h => by rw [HNK.out] at h; omega, fun _ => ⟨_, rfl, by omega, (Array.getElem?_eq_some_iff.1 hg5.out).1, strs_splice hg5.out⟩⟩
  clear hb5 hg5 a0 a1 a2 a3 a4 a5 o0 o1 o2 o3 o4 o5 hmk HML HSR HON HB4
  rw [← HNK.out] at hmid
  have HP0 := Lib.hid (cop_flat (ck := ks.length) ⟨Nat.le_refl _, by rw [HNK.out]; unfold maxLen; omega⟩ hmid hkey hRlt)
  rw [HNK.out] at hmid HP0
  have HP := HP0
  obtain ⟨a0, a1, a2, a3, a4, a5⟩ := hmid.bA.cell
  obtain ⟨r0, r1, r2, r3, r4, r5⟩ := hmid.bR.cell
  obtain ⟨o0, o1, o2, o3, o4, o5⟩ := hmid.bO.cell
  have z0 := box_free hmid.bR 0
  have z1 := box_free hmid.bR 1
  have z2 := box_free hmid.bR 2
  have z3 := box_free hmid.bR 3
  have z4 := box_free hmid.bR 4
  have z5 := box_free hmid.bR 5
  have hend := box_six (v0 := .int .i64 k) (v1 := .bool b) (v2 := .int .i64 n) (v3 := .string s) (v4 := .slice none 0 0) (v5 := .slice (some ⟨w.heap.size + 1 + 1 + 1, 0, none⟩) nk nk) hmid.bR
  obtain ⟨q0, q1, q2, q3, q4, q5⟩ := hend.cell
  unfold six at q0 q1 q2 q3 q4 q5
  simp only [Nat.zero_add] at q0 q1 q2 q3 q4 q5
  have HQ := Lib.hid (And.intro q0 (And.intro q1 (And.intro q2 (And.intro q3 (And.intro q4 q5)))))
  clear q0 q1 q2 q3 q4 q5 hend hmid
  go_wp2_with fail
  obtain ⟨q0, q1, q2, q3, q4, q5⟩ := HQ.out
  exact bodyPost_ret (v := .agg #[.int .i64 k, .bool b, .int .i64 n, .string s, .slice none 0 0, .slice (some ⟨w.heap.size + 1 + 1 + 1, 0, none⟩) nk nk]) (by simp [results, Tryd.results44, go_sem, q0, q1, q2, q3, q4, q5]) rfl HP.out
end Val
end Go.Proofs.YtiphegccaijbgaaDoor
