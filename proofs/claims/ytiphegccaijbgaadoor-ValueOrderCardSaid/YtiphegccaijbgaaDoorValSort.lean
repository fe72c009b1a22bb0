/- How rising sorts: slices.SortFunc with its comparison. -/
import Derived.Test.YtiphegccaijbgaaDoorRows
import Derived.Test.YtiphegccaijbgaaDoorSortL
import Derived.Test.YtiphegccaijbgaaDoorValBase
import Derived.Test.YtiphegccaijbgaaDoorValCmp
import Derived.Test.YtiphegccaijbgaaDoorValOrd
import Derived.Test.YtiphegccaijbgaaDoorValRise
import Derived.Shelf.SlSortCmp.Whole1
import Derived.WalkKit
import Derived.Lib.Hide
namespace Go.Proofs.YtiphegccaijbgaaDoor
open Go.RowKit Go.Shelf Go.Lib Go.Sort
set_option linter.unusedVariables false
set_option linter.unusedSimpArgs false
namespace Val
/-- A place in a list, as an int. -/
def encP (n : Nat) (i : Fin (n + 1)) : Value := .int .i64 ((i.val : Nat) : Int)
/-- By the name first, then by the place. -/
def nameCmp (ks : List ByteArray) (n : Nat) (i j : Fin (n + 1)) : Int := orE (Lib.compareBytes (ks.getD i.val default).data.toList (ks.getD j.val default).data.toList) (cmpV (i.val : Int) (j.val : Int))
theorem enters_rise : ∀ args w, (callFunc 50 args).run Tryd.prog w = .ok (.enter 50 args) w := enters_of Tryd.func50 (by kernel_rfl) rfl
theorem sortWorld_other {α : Type} [Inhabited α] (enc : α → Value) (w : World) (blk off m : Nat) (dk : Array α) (os : Array Obj) (a : Addr) (h : a.block ≠ blk) (hlt : a.block < w.heap.size) : (sortWorld enc w blk off m dk os).cell? a = w.cell? a := by
  have h1 : (sortWorld enc w blk off m dk os).cell? a = (putRow enc (Sort.ahead w m) blk off dk).cell? a := by
    unfold sortWorld
    have hs : a.block < (putRow enc (Sort.ahead w m) blk off dk).heap.size := by rw [size_putRow]; exact hlt
    unfold World.cell?
    rw [Go.Sort.heap_grow_old _ _ hs]
  rw [h1, cell?_putRow_other enc _ blk off dk a (Or.inl h)]
  rfl
theorem sort_names (ks : List ByteArray) (n P kb ko c blk cap : Nat) (d : Array (Fin (n + 1))) (w : World) (hP : w.cell? ⟨P, 0, none⟩ = some (.slice (some ⟨kb, ko, none⟩) (n + 1) c)) (hc : ∀ i, i < n + 1 → w.cell? ⟨kb, ko + i, none⟩ = some (.string (ks.getD i default)))
    (hPb : P ≠ blk) (hkb : kb ≠ blk) (hPl : P < w.heap.size) (hkl : kb < w.heap.size) (hbl : blk < w.heap.size) (hn : n + 1 ≤ 4194304) (hd : d.size = n + 1) (hH : Go.Sort.Holds (encP n) w blk 0 d) (hO : SWO (ltOf (nameCmp ks n))) :
    Calls Tryd.prog 49 #[.slice (some ⟨blk, 0, none⟩) (n + 1) cap, .func (.func 50) #[] #[.pointer (some ⟨P, 0, none⟩)]] w fun e w' => e = .returned (.tuple #[]) ∧ ∃ d' m os, PermIn 0 d.size d d' ∧ SortedIn (ltOf (nameCmp ks n)) 0 d.size d' ∧ w' = sortWorld (encP n) w blk 0 m d' os := by
  have hcmp : CmpLays1 Tryd.prog 50 #[.pointer (some ⟨P, 0, none⟩)] (encP n) (nameCmp ks n) blk 0 d.size w := by
    intro m os dk hs x y
    refine (rising_cmp x.val y.val P kb ko (n + 1) c (ks.getD x.val default) (ks.getD y.val default) _ ?_ x.isLt y.isLt hn ?_ ?_).mono ?_
    · rw [sortWorld_other _ _ _ _ _ _ _ _ hPb hPl]; exact hP
    · rw [sortWorld_other _ _ _ _ _ _ _ _ hkb hkl]; exact hc _ x.isLt
    · rw [sortWorld_other _ _ _ _ _ _ _ _ hkb hkl]; exact hc _ y.isLt
    · rintro e w' ⟨rfl, o, rfl⟩
      exact ⟨rfl, 1, #[o], by rw [Go.Sort.alloc_eq_grow]; rfl⟩
  have hcon := Any.slices_SortFunc Tryd.sortL (encP n) (fun _ => rfl) (nameCmp ks n) hO 50 #[.pointer (some ⟨P, 0, none⟩)] blk 0 cap d w enters_rise hcmp hH hbl (by omega)
  change Calls Tryd.prog 49 _ _ _ at hcon
  rw [hd] at hcon ⊢
  exact hcon
end Val
end Go.Proofs.YtiphegccaijbgaaDoor
