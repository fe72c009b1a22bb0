/- Show, plain: a value's text, how long it is, and what is so of a value that may be. -/
import Derived.Test.YtoaliaohbpdibaaDoorTreeOpen
import Derived.Test.YtoaliaohbpdibaaDoorValMay
import Derived.Test.YtoaliaohbpdibaaDoorValMay4
import Derived.Test.YtoaliaohbpdibaaDoorValWalk
import Derived.Test.YtoaliaohbpdibaaDoorNumParsePlain
import Derived.Test.YtoaliaohbpdibaaDoorNumRefText
import Derived.Test.YtoaliaohbpdibaaDoorShRefName
namespace Go.Proofs.YtoaliaohbpdibaaDoor
open Go.RowKit
set_option linter.unusedVariables false
set_option linter.unusedSimpArgs false
namespace Sh
open Val (VT okN okNL szV szL szK mayV mayL mayB mayHere)
mutual
/-- A value's text. -/
def showB : VT → List UInt8
  | .mk k b n s l ks =>
    if k = 0 then [110, 117, 108, 108] else if k = 1 then (if b then [116, 114, 117, 101] else [102, 97, 108, 115, 101]) else if k = 2 then Num.textU n else if k = 3 then quoteL s.data.toList
    else if k = 4 then 91 :: (partsB l false true [] ++ [93]) else if k = 5 then 123 :: (partsB l true true ks ++ [125]) else if k = 6 then 35 :: 110 :: Num.textU n else if k = 7 then 35 :: 101 :: Num.textU n else []
/-- Those of its parts, behind their keys (m), with commas between. -/
def partsB : List VT → Bool → Bool → List ByteArray → List UInt8
  | [], _, _, _ => []
  | t :: ts, m, first, ks => (if first then [] else [44, 32]) ++ ((if m then keyL (ks.headD default).data.toList ++ [58, 32] else []) ++ (showB t ++ partsB ts m false ks.tail))
end
theorem digs_len : ∀ (j k : Nat), k < 10 ^ (j + 1) → (Num.digs k).length ≤ j + 1
  | 0, k, h => by rw [Num.digs_lt (by simpa using h)]; simp
  | j + 1, k, h => by
    by_cases hk : k < 10
    · rw [Num.digs_lt hk]; simp
    · rw [Num.digs_ge (by omega), List.length_append, List.length_singleton]
      have := digs_len j (k / 10) (by rw [Nat.pow_succ] at h; omega)
      omega
theorem textU_len (n : Int) (h : -9223372036854775808 ≤ n ∧ n ≤ 9223372036854775807) : (Num.textU n).length ≤ 20 := by
  have h1 : (Num.digs (Num.absN n)).length ≤ 19 := digs_len 18 _ (by unfold Num.absN; omega)
  unfold Num.textU Num.textN
  rw [List.length_map]
  split
  · rw [List.length_cons]; omega
  · omega
theorem keyL_len (l : List UInt8) : (keyL l).length ≤ 4 * l.length + 2 := by
  unfold keyL
  split
  · omega
  · exact quoteL_len l
theorem ba_len (s : ByteArray) : s.data.toList.length = s.size := by simp
mutual
/-- What is so of a value that may be: its kind, and that a map has a key for each value. -/
def goodV : VT → Prop
  | .mk k _ _ _ l ks => (0 ≤ k ∧ k ≤ 7) ∧ (k = 5 → l.length ≤ ks.length) ∧ goodL l
def goodL : List VT → Prop
  | [] => True
  | t :: ts => goodV t ∧ goodL ts
end
theorem goodL_at : ∀ {l : List VT} {i : Nat} {t : VT}, goodL l → l[i]? = some t → goodV t
  | [], _, _, _, h => by cases h
  | x :: l, 0, t, hl, h => by
    unfold goodL at hl
    obtain rfl : x = t := by simpa using h
    exact hl.1
  | x :: l, i + 1, t, hl, h => by
    unfold goodL at hl
    exact goodL_at hl.2 (i := i) (by simpa using h)
mutual
theorem may_good : ∀ (t : VT) (d p p' : Nat), mayV t d p = some p' → goodV t ∧ p' = p + t.parts
  | .mk k b n s l ks, d, p, p', h => by
    unfold mayV at h
    split at h
    · rename_i hh
      obtain ⟨g1, g2⟩ := may_goodL l _ _ _ h
      unfold mayHere at hh
      simp only [Bool.and_eq_true, decide_eq_true_eq] at hh
      obtain ⟨_, _, h3, h4, _, _, h7⟩ := hh
      refine ⟨?_, by rw [VT.parts]; omega⟩
      unfold goodV
      refine ⟨⟨h3, h4⟩, fun h5 => ?_, g1⟩
      subst h5
      simp at h7
      omega
    · cases h
theorem may_goodL : ∀ (l : List VT) (d p p' : Nat), mayL l d p = some p' → goodL l ∧ p' = p + VT.partsL l
  | [], d, p, p', h => by
    unfold mayL at h
    simp only [Option.some.injEq] at h
    exact ⟨by unfold goodL; trivial, by rw [VT.partsL]; omega⟩
  | t :: ts, d, p, p', h => by
    unfold mayL at h
    cases hv : mayV t d p with
    | none => rw [hv] at h; cases h
    | some p1 =>
      rw [hv] at h
      obtain ⟨a1, a2⟩ := may_good t _ _ _ hv
      obtain ⟨b1, b2⟩ := may_goodL ts _ _ _ h
      exact ⟨by unfold goodL; exact ⟨a1, b1⟩, by rw [VT.partsL]; omega⟩
end
theorem mayB_good (t : VT) (h : mayB t = true) : goodV t ∧ t.parts ≤ 4096 := by
  unfold Val.mayB at h
  cases hv : mayV t 32 0 with
  | none => rw [hv] at h; cases h
  | some p =>
    obtain ⟨g1, g2⟩ := may_good t _ _ _ hv
    have := Val.mayV_le t _ _ _ hv
    exact ⟨g1, by omega⟩
mutual
theorem showB_len : ∀ (t : VT), okN t → goodV t → (showB t).length + 10 ≤ szV t
  | .mk k b n s l ks, h, g => by
    unfold okN at h
    unfold goodV at g
    have h1 := textU_len n h.1
    have h2 := quoteL_len s.data.toList
    rw [ba_len] at h2
    have h3 := partsB_len l false true [] h.2 g.2.2 (by simp)
    have h4 : k = 5 → (partsB l true true ks).length ≤ szL l + szK ks := fun hk => partsB_len l true true ks h.2 g.2.2 (fun _ => g.2.1 hk)
    unfold showB szV
    simp only [szK] at h3
    by_cases k0 : k = 0
    · rw [if_pos k0]; simp; omega
    rw [if_neg k0]
    by_cases k1 : k = 1
    · rw [if_pos k1]; cases b <;> simp <;> omega
    rw [if_neg k1]
    by_cases k2 : k = 2
    · rw [if_pos k2]; omega
    rw [if_neg k2]
    by_cases k3 : k = 3
    · rw [if_pos k3]; omega
    rw [if_neg k3]
    by_cases k4 : k = 4
    · rw [if_pos k4]; simp only [List.length_cons, List.length_append, List.length_nil]; omega
    rw [if_neg k4]
    by_cases k5 : k = 5
    · have := h4 k5; rw [if_pos k5]; simp only [List.length_cons, List.length_append, List.length_nil]; omega
    rw [if_neg k5]
    by_cases k6 : k = 6
    · rw [if_pos k6]; simp only [List.length_cons]; omega
    rw [if_neg k6]
    by_cases k7 : k = 7
    · rw [if_pos k7]; simp only [List.length_cons]; omega
    rw [if_neg k7]
    simp; omega
theorem partsB_len : ∀ (l : List VT) (m first : Bool) (ks : List ByteArray), okNL l → goodL l → (m = true → l.length ≤ ks.length) → (partsB l m first ks).length ≤ szL l + szK ks
  | [], m, first, ks, _, _, _ => by simp [partsB]
  | t :: ts, m, first, ks, h, g, hm => by
    unfold okNL at h
    unfold goodL at g
    have h1 := showB_len t h.1 g.1
    have h5 : (if first = true then ([] : List UInt8) else [44, 32]).length ≤ 2 := by split <;> simp
    unfold partsB szL
    simp only [List.length_append]
    cases m with
    | false =>
      have h2 := partsB_len ts false false ks.tail h.2 g.2 (by simp)
      have h6 : szK ks.tail ≤ szK ks := by
        cases ks with
        | nil => simp
        | cons x ks => rw [List.tail_cons, szK]; omega
      simp
      omega
    | true =>
      have h3 := hm rfl
      cases ks with
      | nil => simp at h3
      | cons x ks =>
        have h2 := partsB_len ts true false ks h.2 g.2 (fun _ => by simp at h3; omega)
        have h4 := keyL_len x.data.toList
        rw [ba_len] at h4
        simp only [List.headD_cons, List.tail_cons, if_true, szK, List.length_append, List.length_cons, List.length_nil]
        omega
end
/-- From a place on. -/
theorem parts_at (l : List VT) (j : Nat) (t : VT) (m : Bool) (ks : List ByteArray) (h : l[j]? = some t) : partsB (l.drop j) m (decide (j = 0)) (ks.drop j) = (if j = 0 then [] else [44, 32]) ++ ((if m then keyL (ks.getD j default).data.toList ++ [58, 32] else []) ++ (showB t ++ partsB (l.drop (j + 1)) m (decide (j + 1 = 0)) (ks.drop (j + 1)))) := by
  rw [Val.drop_at h, partsB]
  have h1 : (ks.drop j).headD default = ks.getD j default := by
    rw [List.headD_eq_head?_getD, List.head?_drop, List.getD_eq_getElem?_getD]
  have h2 : (ks.drop j).tail = ks.drop (j + 1) := by rw [List.tail_drop]
  have h3 : decide (j + 1 = 0) = false := by simp
  rw [h1, h2, h3]
  simp only [decide_eq_true_eq]
end Sh
end Go.Proofs.YtoaliaohbpdibaaDoor
