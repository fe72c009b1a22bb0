/- Frame: the frames of loads, one behind the other; small laws for the walks of the statements. -/
import Derived.Test.YtbejacmbbkdbnaaFrWorks
import Derived.Test.YtbejacmbbkdbnaaFrOpen2
namespace Go.Proofs.Ytbejacmbbkdbnaa
open Go.RowKit
set_option linter.unusedVariables false
set_option linter.unusedSimpArgs false
namespace Fr
def okL (l : List UInt8) : Bool := okN l.length
def goods (ls : List (List UInt8)) : List (List UInt8) := ls.filter okL
def catB (ls : List (List UInt8)) : List UInt8 := (ls.map frameB).flatten
/-- The first i of what came in. -/
def firstB (LS : List Ar) (i : Nat) : List (List UInt8) := (LS.take i).map (·.2.2)
theorem firstB_succ (LS : List Ar) (i : Nat) (e : Ar) (he : LS[i]? = some e) : firstB LS (i + 1) = firstB LS i ++ [e.2.2] := by
  unfold firstB
  rw [List.take_add_one, he, List.map_append]
  rfl
theorem goods_snoc (ls : List (List UInt8)) (l : List UInt8) : goods (ls ++ [l]) = goods ls ++ (if okL l then [l] else []) := by
  unfold goods
  rw [List.filter_append]
  congr 1
  cases h : okL l <;> simp [h]
theorem catB_append (a b : List (List UInt8)) : catB (a ++ b) = catB a ++ catB b := by
  unfold catB
  rw [List.map_append, List.flatten_append]
theorem catB_one (l : List UInt8) : catB [l] = frameB l := by simp [catB]
theorem parse_cat : ∀ (ls : List (List UInt8)) (t : List UInt8), (∀ l ∈ ls, okL l = true) → parse (catB ls ++ t) = (ls ++ (parse t).1, (parse t).2)
  | [], t, _ => by simp [catB]
  | l :: ls, t, h => by
    have e : catB (l :: ls) ++ t = frameB l ++ (catB ls ++ t) := by simp [catB]
    rw [e, parse_frame l _ (h l (List.mem_cons_self)), parse_cat ls t (fun x hx => h x (List.mem_cons_of_mem _ hx))]
    rfl
theorem goods_ok (ls : List (List UInt8)) : ∀ l ∈ goods ls, okL l = true := fun l hl => (List.mem_filter.1 hl).2
theorem goods_len (ls : List (List UInt8)) : (catB (goods ls)).length ≤ 5 * (ls.map fun l => l.length + 1).sum ∧ (goods ls).length ≤ (ls.map fun l => l.length + 1).sum := by
  induction ls with
  | nil => simp [goods, catB]
  | cons l ls ih =>
    have e : goods (l :: ls) = (if okL l then [l] else []) ++ goods ls := by
      unfold goods
      cases h : okL l <;> simp [h]
    rw [e, catB_append, List.length_append, List.length_append, List.map_cons, List.sum_cons]
    cases h : okL l
    · simp [catB] at ih ⊢
      omega
    · rw [if_pos rfl, catB_one, frameB_len]
      simp only [List.length_cons, List.length_nil]
      omega
theorem firstB_total (LS : List Ar) (i : Nat) : ((firstB LS i).map fun l => l.length + 1).sum ≤ total LS := by
  unfold firstB total
  rw [List.map_map]
  have h : (LS.map fun e => e.2.2.length + 1) = ((LS.take i).map fun e => e.2.2.length + 1) ++ ((LS.drop i).map fun e => e.2.2.length + 1) := by
    rw [← List.map_append, List.take_append_drop]
  rw [h, List.sum_append]
  exact Nat.le_add_right _ _
theorem first_small (LS : List Ar) (i : Nat) : (catB (goods (firstB LS i))).length ≤ 5 * total LS ∧ (goods (firstB LS i)).length ≤ total LS := by
  have h1 := goods_len (firstB LS i)
  have h2 := firstB_total LS i
  omega
theorem item_small (LS : List Ar) (i : Nat) (e : Ar) (he : LS[i]? = some e) : e.2.2.length ≤ total LS := by
  have h : ∀ (LS : List Ar) (i : Nat), LS[i]? = some e → e.2.2.length ≤ total LS := by
    intro LS
    induction LS with
    | nil => intro i h; simp at h
    | cons x LS ih =>
      intro i h
      unfold total
      rw [List.map_cons, List.sum_cons]
      cases i with
      | zero => simp at h; subst h; omega
      | succ i =>
        have := ih i (by simpa using h)
        unfold total at this
        omega
  exact h LS i he
theorem len_small (LS : List Ar) : LS.length ≤ total LS := by
  induction LS with
  | nil => simp [total]
  | cons x LS ih =>
    unfold total at ih ⊢
    rw [List.map_cons, List.sum_cons, List.length_cons]
    omega
theorem enc_ok {l : List UInt8} (h : okL l = true) : encB l = frameB l ∧ encE l = 0 := by
  have h' : okN l.length = true := h
  unfold encB encE
  rw [h']
  exact ⟨rfl, rfl⟩
theorem enc_bad {l : List UInt8} (h : okL l = false) : encB l = [] ∧ encE l = 21 := by
  have h' : okN l.length = false := h
  unfold encB encE
  rw [h']
  exact ⟨rfl, rfl⟩
/-- Where a reader's own blocks lie. -/
theorem Rdr.ft_ge {b R : Nat} {w : World} {hv : Value} {held : List UInt8} {br : Bool} (h : Rdr b w R hv held br) : ∀ k, Ft R hv k → b ≤ k := fun k hk => hk.elim (fun e => e ▸ h.ge) (fun e => (h.buf.lt k e).1)
theorem Rdr.ft_lt {b R : Nat} {w : World} {hv : Value} {held : List UInt8} {br : Bool} (h : Rdr b w R hv held br) : ∀ k, Ft R hv k → k < w.heap.size := fun k hk => hk.elim (fun e => e ▸ h.lt) (fun e => (h.buf.lt k e).2)
/-- What came in is no block of the reader's. -/
theorem Good.for_rdr {B R : Nat} {w : World} {hv : Value} {held : List UInt8} {br : Bool} {e : Ar} (h : Good B w e) (hR : Rdr B w R hv held br) : Src w (Ft R hv) e.1 e.2.2 := h.src.keeps (Keeps.refl (fun _ => False) w) (fun _ f _ => f.elim) (fun k hk _ => hR.ft_ge k hk)
end Fr
end Go.Proofs.Ytbejacmbbkdbnaa
