/- rising: the places of the names, in the order of the names. -/
import Derived.Test.YtiphegccaijbgaaDoorRows
import Derived.Test.YtiphegccaijbgaaDoorValBase
import Derived.Test.YtiphegccaijbgaaDoorVal
import Derived.Test.YtiphegccaijbgaaDoorValCmp
import Derived.Test.YtiphegccaijbgaaDoorValOrd
import Derived.Test.YtiphegccaijbgaaDoorValRise
import Derived.Test.YtiphegccaijbgaaDoorValSort
import Derived.WalkKit
import Derived.Lib.Hide
import Derived.WalkSpells
import Derived.WalkLawsBesides
import Derived.Laws.MakeOwn
import Derived.OwnWalk
import Derived.Outline
import Derived.Lib.OwnBridge
namespace Go.Proofs.YtiphegccaijbgaaDoor
open Go.RowKit Go.Shelf Go.Lib Go.Sort
set_option linter.unusedVariables false
set_option linter.unusedSimpArgs false
namespace Val
theorem infoInt : (Tryd.prog.info? 3).map (fun i => (i.zero, i.size, i.bytes)) = some (some (.int .i64 0), 1, 8) := by kernel_rfl
/-- The first j places are written. -/
structure RowAt (n j A : Nat) (w wr : World) (bx : Value) : Prop where
  low : Below w.heap.size w wr
  size : wr.heap.size = w.heap.size + 1 + 1
  box : wr.heap[w.heap.size]? = some (.cells #[bx] 23 (0, 0))
  row : ∃ cs, wr.heap[w.heap.size + 1]? = some (.cells cs 3 (0, 0)) ∧ cs.size = n ∧ ∀ i, i < j → cs[i]? = some (.int .i64 (i : Int))
theorem RowAt.step {n j A : Nat} {w wr : World} {bx : Value} (h : RowAt n j A w wr bx) (hj : j < n) : RowAt n (j + 1) A w (wr.setCell ⟨w.heap.size + 1, j, none⟩ (.int .i64 (j : Int))) bx := by
  obtain ⟨cs, hb, hs, hc⟩ := h.row
  have hk : Keeps (· = w.heap.size + 1) wr (wr.setCell ⟨w.heap.size + 1, j, none⟩ (.int .i64 (j : Int))) := (Keeps.refl (· = w.heap.size + 1) wr).setCell (p := ⟨w.heap.size + 1, j, none⟩) (.inl rfl) _
  refine ⟨h.low.trans (hk.below (fun k e => by omega) h.low.size), by simpa [World.setCell] using h.size, (hk.block _ (by rw [h.size]; omega) (by show ¬ _ = _; omega)).trans h.box, cs.setIfInBounds j (.int .i64 (j : Int)), by simp [World.setCell, Array.getElem?_modify, hb], by simpa using hs, fun i hi => ?_⟩
  by_cases e : i = j
  · subst e
    simp [hs, hj]
  · rw [Array.getElem?_setIfInBounds_ne (by omega)]
    exact hc i (by omega)
theorem sortWorld_below {α : Type} [Inhabited α] (enc : α → Value) (w : World) (blk m : Nat) (dk : Array α) (os : Array Obj) {B : Nat} (h : B ≤ blk) (hB : B ≤ w.heap.size) : Go.RowKit.Below B w (sortWorld enc w blk 0 m dk os) := by
  have h1 : Go.RowKit.Below B w (putRow enc (Sort.ahead w m) blk 0 dk) := Lib.below_putRow (Go.RowKit.Below.refl B w) h
  refine ⟨h1.os, h1.tape, h1.output, ?_, fun k hk => ?_⟩
  · have := h1.size
    unfold sortWorld
    simp only [grow, Array.size_append]
    omega
  · unfold sortWorld
    rw [Go.Sort.heap_grow_old _ _ (by rw [size_putRow]; exact Nat.lt_of_lt_of_le hk hB)]
    exact h1.block k hk
def SortPost (ks : List ByteArray) (n A : Nat) (wr : World) (e : Ending) (w' : World) : Prop := e = .returned (.tuple #[]) ∧ ∃ (d' : Array (Fin (n + 1))) (m : Nat) (os : Array Obj), PermIn 0 (n + 1) (Array.ofFn (n := n + 1) id) d' ∧ SortedIn (ltOf (nameCmp ks n)) 0 (n + 1) d' ∧ w' = sortWorld (encP n) wr A 0 m d' os
theorem RowAt.holds {n : Nat} {w wr : World} {bx : Value} (h : RowAt (n + 1) (n + 1) 0 w wr bx) : Go.Sort.Holds (encP n) wr (w.heap.size + 1) 0 (Array.ofFn (n := n + 1) id) := by
  obtain ⟨cs, hb, hs, hc⟩ := h.row
  intro j hj
  have hj' : j < n + 1 := by simpa using hj
  have e : (Array.ofFn (n := n + 1) id)[j]! = ⟨j, hj'⟩ := by
    rw [getElem!_pos _ j hj]
    simp
  rw [e, Nat.zero_add]
  exact ⟨cell_at hb (hc j hj'), by simp [World.frozen?, hb]⟩
theorem RowAt.sorts {ks : List ByteArray} {n kb ko c : Nat} {w wr : World} (h : RowAt (n + 1) (n + 1) 0 w wr (.slice (some ⟨kb, ko, none⟩) (n + 1) c)) (hkb : kb < w.heap.size) (hc : ∀ i, i < n + 1 → w.cell? ⟨kb, ko + i, none⟩ = some (.string (ks.getD i default))) (hn : n + 1 ≤ 4194304) (hO : SWO (ltOf (nameCmp ks n))) :
    Calls Tryd.prog 49 #[.slice (some ⟨w.heap.size + 1, 0, none⟩) (n + 1) (n + 1), .func (.func 50) #[] #[.pointer (some ⟨w.heap.size, 0, none⟩)]] wr (SortPost ks n (w.heap.size + 1) wr) := by
  have hs := h.size
  have := sort_names ks n w.heap.size kb ko c (w.heap.size + 1) (n + 1) (Array.ofFn (n := n + 1) id) wr (cell_at h.box rfl) (fun i hi => (h.low.cell (p := ⟨kb, ko + i, none⟩) hkb).trans (hc i hi)) (by omega) (by omega) (by omega) (by omega) (by omega) hn (by simp) h.holds hO
  refine this.mono ?_
  rintro e w' ⟨rfl, d', m, os, h1, h2, rfl⟩
  rw [Array.size_ofFn] at h1 h2
  exact ⟨rfl, d', m, os, h1, h2, rfl⟩
def RisePost (ks : List ByteArray) (n : Nat) (w : World) (e : Ending) (w' : World) : Prop := ∃ (A : Nat) (d' : Array (Fin (n + 1))), e = .returned (.slice (some ⟨A, 0, none⟩) (n + 1) (n + 1)) ∧ w.heap.size ≤ A ∧ A < w'.heap.size ∧ PermIn 0 (n + 1) (Array.ofFn (n := n + 1) id) d' ∧ SortedIn (ltOf (nameCmp ks n)) 0 (n + 1) d' ∧ (∀ j, j < n + 1 → w'.cell? ⟨A, j, none⟩ = some (encP n d'[j]!)) ∧ Below w.heap.size w w'
set_option maxRecDepth 100000 in
set_option maxHeartbeats 2000000 in
theorem rising_any (ks : List ByteArray) (n kb ko c : Nat) (w : World) (hkb : kb < w.heap.size) (hc : ∀ i, i < n + 1 → w.cell? ⟨kb, ko + i, none⟩ = some (.string (ks.getD i default))) (hn : n + 1 ≤ 4194304) (hO : SWO (ltOf (nameCmp ks n))) :
    Calls Tryd.prog 36 #[.slice (some ⟨kb, ko, none⟩) (n + 1) c] w (RisePost ks n w) := by
  obtain ⟨ti, hi, hz0, hz1, hz2⟩ := info_parts infoInt
  obtain ⟨N, hN⟩ : ∃ N, n + 1 = N := ⟨_, rfl⟩
  have hmk : ∀ V, (Instr.makeSlice 49 (.int .i64 (N : Int)) (.int .i64 (N : Int))).run Tryd.prog V = .ok (.slice (some ⟨V.heap.size, 0, none⟩) N N) (V.alloc (.cells (madeCells #[.int .i64 0] N) 3)) := fun V => by
    have := run_make (P := Tryd.prog) V 49 3 ti _ Tryd.underlying49 hi hz0 .i64 .i64 (N : Int) (N : Int) (by omega) (Int.le_refl _) (by rw [hz2]; omega) (by omega)
    rw [hz1] at this
    simpa [Value.cells] using this
  have hrow : RowAt N 0 0 w ((w.alloc (.cells #[.slice (some ⟨kb, ko, none⟩) N c] 23)).alloc (.cells (madeCells #[.int .i64 0] N) 3)) (.slice (some ⟨kb, ko, none⟩) N c) := by
    refine ⟨((Below.refl _ w).alloc (Nat.le_refl _) _).alloc (by simp) _, by simp, ?_, madeCells #[.int .i64 0] N, ?_, size_madeCells _ _, fun i hi => by omega⟩
    · exact (Below.heap_alloc _ _ _ (by simp)).trans (World.alloc_heap_new w _)
    · have := World.alloc_heap_new (w.alloc (.cells #[.slice (some ⟨kb, ko, none⟩) N c] 23)) (.cells (madeCells #[.int .i64 0] N) 3)
      rwa [World.size_alloc] at this
  have HROW := Lib.hid hrow
  have HMK := Lib.hid hmk
  have hb9 : N ≤ 4194304 := by omega
  have HC := Lib.hid hc
  have HO := Lib.hid hO
  have HN := Lib.hid hN
  have HK := Lib.hid hkb
  rw [hN]
  clear hrow hc hO hi hz0 hz1 hz2 ti hn hN hkb
  go_enter Tryd.func36, Tryd.ntmps36
  go_wp2_with fail
  go_loopw [10] (fun i wr => ∃ j : Nat, j ≤ N ∧ i = .int .i64 j ∧ Hid (RowAt N j 0 w wr (.slice (some ⟨kb, ko, none⟩) N c))) (fun i _ => N - (intOf i).toNat)
  case atStart => exact ⟨0, Nat.zero_le _, rfl, HROW⟩
  case round =>
    rename_i wr
    obtain ⟨j, hj, rfl, HW⟩ := hrel
    clear HROW
    by_cases hlt : j < N
    · obtain ⟨cs, hcs, hsz, -⟩ := HW.out.row
      have g0 : wr.cell? ⟨w.heap.size + 1, j, none⟩ = some (cs[j]!) := by
        simp [World.cell?, hcs, hsz, hlt]
      have u0 : wr.frozen? ⟨w.heap.size + 1, j, none⟩ = false := by simp [World.frozen?, hcs]
      have HNEW := Lib.hid (HW.out.step hlt)
      clear hcs hsz
      go_wp2_with fail
      go_roundw
      case rel => exact ⟨j + 1, by omega, by go_num, HNEW⟩
      case measure => simp [intOf]; omega
    · obtain rfl : N = j := by omega
      have hS : Calls Tryd.prog 49 #[.slice (some ⟨w.heap.size + 1, 0, none⟩) N N, .func (.func 50) #[] #[.pointer (some ⟨w.heap.size, 0, none⟩)]] wr (SortPost ks n (w.heap.size + 1) wr) := by
        have hh := HW.out
        have h1 := HN.out
        subst h1
        exact hh.sorts HK.out HC.out hb9 HO.out
      go_wp2_with fail
      refine hS.mono ?_
      rintro e w' ⟨rfl, d', m, os, hp, hs, rfl⟩
      have HP : Hid (RisePost ks n w (.returned (.slice (some ⟨w.heap.size + 1, 0, none⟩) N N)) (sortWorld (encP n) wr (w.heap.size + 1) 0 m d' os)) := by
        have hh := HW.out
        have h1 := HN.out
        subst h1
        have hsw : SW (encP n) wr (w.heap.size + 1) 0 d' (sortWorld (encP n) wr (w.heap.size + 1) 0 m d' os) := ⟨m, os, rfl⟩
        have hz := hh.size
        have hd : d'.size = (Array.ofFn (n := n + 1) id).size := hp.1
        have hH := hsw.holds (by omega) hh.holds hd
        have hle := hsw.le
        refine Lib.hid ⟨_, d', rfl, by omega, by omega, hp, hs, fun j hj => ?_, ?_⟩
        · have := (hH j (by rw [hd]; simpa using hj)).1
          rwa [Nat.zero_add] at this
        · exact hh.low.trans (sortWorld_below _ _ _ _ _ _ (by omega) (by omega))
      clear hp hs
      generalize sortWorld (encP n) wr (w.heap.size + 1) 0 m d' os = w3 at *
      go_wp2_with fail
      go_ret
      exact HP.out
end Val
end Go.Proofs.YtiphegccaijbgaaDoor
