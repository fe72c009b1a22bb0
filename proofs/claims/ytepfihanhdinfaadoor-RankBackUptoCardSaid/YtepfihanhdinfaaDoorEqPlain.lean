/- EQUAL as a plain function of two trees, and what holds of it. Nothing of the program. -/
import Derived.Test.YtepfihanhdinfaaDoorRows
import Derived.Test.YtepfihanhdinfaaDoorLogicPlain
import Derived.Test.YtepfihanhdinfaaDoorVal
import Derived.Test.YtepfihanhdinfaaDoorValBase
import Derived.Test.YtepfihanhdinfaaDoorValOrd
import Derived.Test.YtepfihanhdinfaaDoorValForm2
import Derived.Test.YtepfihanhdinfaaDoorValWalk
import Derived.Test.YtepfihanhdinfaaDoorValMay4
import Derived.Test.YtepfihanhdinfaaDoorValPlain
import Derived.Test.YtepfihanhdinfaaDoorValSame
import Derived.WalkKit
namespace Go.Proofs.YtepfihanhdinfaaDoor
open Go.RowKit
set_option linter.unusedVariables false
set_option linter.unusedSimpArgs false
namespace Val
theorem cmpV_swap (a b : Int) : cmpV b a = - cmpV a b := by
  unfold cmpV
  split <;> split <;> omega
theorem cmpV_zero (a b : Int) : cmpV a b = 0 ↔ a = b := by
  unfold cmpV
  split
  · omega
  · split <;> omega
theorem cmpB_swap : ∀ a b : List UInt8, Lib.compareBytes b a = - Lib.compareBytes a b
  | [], [] => rfl
  | [], _ :: _ => rfl
  | _ :: _, [] => rfl
  | x :: a, y :: b => by
    unfold Lib.compareBytes
    by_cases h1 : x < y
    · have h2 : ¬ y < x := fun h => UInt8.lt_irrefl x (UInt8.lt_trans h1 h)
      rw [if_neg h2, if_pos h1, if_pos h1]
      rfl
    · rw [if_neg h1, if_neg h1]
      by_cases h2 : y < x
      · rw [if_pos h2, if_pos h2]
      · rw [if_neg h2, if_neg h2]
        exact cmpB_swap a b
theorem cmpB_zero : ∀ a b : List UInt8, Lib.compareBytes a b = 0 ↔ a = b
  | [], [] => by simp [Lib.compareBytes]
  | [], _ :: _ => by simp [Lib.compareBytes]
  | _ :: _, [] => by simp [Lib.compareBytes]
  | x :: a, y :: b => by
    unfold Lib.compareBytes
    by_cases h1 : x < y
    · have : x ≠ y := fun e => UInt8.lt_irrefl x (e ▸ h1)
      simp [h1, this]
    · by_cases h2 : y < x
      · have : x ≠ y := fun e => UInt8.lt_irrefl x (e ▸ h2)
        simp [h1, h2, this]
      · have e : x = y := UInt8.le_antisymm (UInt8.not_lt.1 h2) (UInt8.not_lt.1 h1)
        subst e
        simp [cmpB_zero a b]
theorem orE_zero (x y : Int) : orE x y = 0 ↔ x = 0 ∧ y = 0 := by
  unfold orE
  split <;> omega
theorem orE_swap (x y x' y' : Int) (h1 : x' = - x) (h2 : y' = - y) : orE x' y' = - orE x y := by
  unfold orE
  split <;> split <;> omega
theorem flat_swap (ka na kb nb : Int) (ba bb : Bool) (sa sb : ByteArray) : flatV kb nb ka na bb ba sb sa = - flatV ka na kb nb ba bb sa sb := by
  unfold flatV
  exact orE_swap _ _ _ _ (cmpV_swap _ _) (orE_swap _ _ _ _ (cmpV_swap _ _) (orE_swap _ _ _ _ (cmpV_swap _ _) (cmpB_swap _ _)))
theorem bytes_eq {a b : ByteArray} : a.data.toList = b.data.toList ↔ a = b := ⟨fun h => by cases a; cases b; simp at h; rw [h], fun h => by rw [h]⟩
theorem ofV_inj (a b : Bool) : ofV a = ofV b ↔ a = b := by cases a <;> cases b <;> decide
theorem flat_zero (ka na kb nb : Int) (ba bb : Bool) (sa sb : ByteArray) : flatV ka na kb nb ba bb sa sb = 0 ↔ placeV ka = placeV kb ∧ ba = bb ∧ na = nb ∧ sa = sb := by
  unfold flatV
  rw [orE_zero, orE_zero, orE_zero, cmpV_zero, cmpV_zero, cmpV_zero, cmpB_zero, ofV_inj, bytes_eq]
theorem bytes_len {a b : ByteArray} (h : (a.toList == b.toList) = true) : a = b := by
  rw [ByteArray.toList_eq, ByteArray.toList_eq] at h
  exact bytes_eq.1 (by simpa using h)
theorem names_comm : ∀ a b : List ByteArray, namesV a b = namesV b a
  | [], [] => rfl
  | [], _ :: _ => rfl
  | _ :: _, [] => rfl
  | x :: a, y :: b => by
    unfold namesV
    rw [names_comm a b, Bool.beq_comm (a := x.toList)]
theorem names_same : ∀ ks : List ByteArray, namesV ks ks = true
  | [] => rfl
  | k :: ks => by
    unfold namesV
    simp [names_same ks]
mutual
/-- Are they equal? 0, 1, or 2 where it is not known. -/
def eqV : VT → VT → Int
  | .mk k b n s l ks, .mk k' b' n' s' l' ks' =>
    if k = 0 ∨ k' = 0 then 2 else if k ≠ k' then 0 else if k ≠ 4 ∧ k ≠ 5 then (if flatV k n k' n' b b' s s' = 0 then 1 else 0)
    else if l.length ≠ l'.length ∨ namesV ks ks' = false then 0 else Logic.allV (eqsV l l')
/-- One by one, up to the first that are not. -/
def eqsV : List VT → List VT → List Int
  | t :: ts, u :: us => if eqV t u = 0 then [0] else eqV t u :: eqsV ts us
  | _, _ => []
end
mutual
theorem eqV_comm : ∀ t u : VT, eqV t u = eqV u t
  | .mk k b n s l ks, .mk k' b' n' s' l' ks' => by
    unfold eqV
    by_cases h0 : k = 0 ∨ k' = 0
    · rw [if_pos h0, if_pos (Or.comm.1 h0)]
    · rw [if_neg h0, if_neg (fun h => h0 (Or.comm.1 h))]
      by_cases h1 : k = k'
      · subst h1
        rw [if_neg (show ¬ (k ≠ k) from fun h => h rfl), if_neg (show ¬ (k ≠ k) from fun h => h rfl)]
        by_cases h4 : k ≠ 4 ∧ k ≠ 5
        · rw [if_pos h4, if_pos h4, flat_swap k n k n' b b' s s']
          by_cases hz : flatV k n k n' b b' s s' = 0
          · rw [if_pos hz, if_pos (by omega)]
          · rw [if_neg hz, if_neg (by omega)]
        · rw [if_neg h4, if_neg h4, names_comm ks ks']
          by_cases h5 : l.length ≠ l'.length ∨ namesV ks' ks = false
          · rw [if_pos h5, if_pos (h5.imp (fun h e => h e.symm) id)]
          · rw [if_neg h5, if_neg (fun h => h5 (h.imp (fun h e => h e.symm) id)), eqsV_comm l l']
      · rw [if_pos h1, if_pos (fun e => h1 e.symm)]
theorem eqsV_comm : ∀ l l' : List VT, eqsV l l' = eqsV l' l
  | [], [] => rfl
  | [], _ :: _ => by unfold eqsV; rfl
  | _ :: _, [] => by unfold eqsV; rfl
  | t :: ts, u :: us => by
    unfold eqsV
    rw [eqV_comm t u, eqsV_comm ts us]
end
theorem and_ne {a b : Int} (ha : a ≠ 0) (hb : b ≠ 0) : Logic.andV a b ≠ 0 := by
  unfold Logic.andV
  rw [if_neg ha, if_neg hb]
  split <;> omega
theorem fold_ne : ∀ (l : List Int) (z : Int), z ≠ 0 → (∀ x ∈ l, x ≠ 0) → l.foldl Logic.andV z ≠ 0
  | [], z, hz, _ => hz
  | x :: l, z, hz, h => by
    rw [List.foldl_cons]
    exact fold_ne l _ (and_ne hz (h x (List.mem_cons_self ..))) (fun y hy => h y (List.mem_cons_of_mem _ hy))
mutual
theorem eqV_refl : ∀ t : VT, eqV t t ≠ 0
  | .mk k b n s l ks => by
    unfold eqV
    by_cases h0 : k = 0 ∨ k = 0
    · rw [if_pos h0]; omega
    · rw [if_neg h0, if_neg (by simp)]
      by_cases h4 : k ≠ 4 ∧ k ≠ 5
      · rw [if_pos h4, if_pos ((flat_zero _ _ _ _ _ _ _ _).2 ⟨rfl, rfl, rfl, rfl⟩)]; omega
      · rw [if_neg h4, if_neg (by rw [names_same]; simp)]
        exact fold_ne _ 1 (by omega) (eqsV_refl l)
theorem eqsV_refl : ∀ l : List VT, ∀ x ∈ eqsV l l, x ≠ 0
  | [] => by unfold eqsV; intro x hx; cases hx
  | t :: ts => by
    unfold eqsV
    rw [if_neg (eqV_refl t)]
    intro x hx
    rcases List.mem_cons.1 hx with rfl | hx
    · exact eqV_refl t
    · exact eqsV_refl ts x hx
end
/-- Where all are known to be true each is. -/
theorem fold_one : ∀ (l : List Int) (z : Int), (z = 0 ∨ z = 1 ∨ z = 2) → l.foldl Logic.andV z = 1 → z = 1 ∧ ∀ x ∈ l, x = 1
  | [], z, _, h => ⟨h, fun _ hx => by cases hx⟩
  | x :: l, z, hz, h => by
    rw [List.foldl_cons] at h
    obtain ⟨h1, h2⟩ := fold_one l _ (Logic.andV_range z x) h
    unfold Logic.andV at h1
    split at h1
    · omega
    · split at h1
      · omega
      · split at h1
        · rename_i h3
          exact ⟨h3.1, fun y hy => by rcases List.mem_cons.1 hy with rfl | hy; exact h3.2; exact h2 y hy⟩
        · omega
/-- Two of one place are of one kind. -/
theorem place_inj {k k' : Int} (h0 : 0 ≤ k) (h1 : k ≤ 7) (h0' : 0 ≤ k') (h1' : k' ≤ 7) (h : placeV k = placeV k') : k = k' := by
  have hk : k = 0 ∨ k = 1 ∨ k = 2 ∨ k = 3 ∨ k = 4 ∨ k = 5 ∨ k = 6 ∨ k = 7 := by omega
  have hk' : k' = 0 ∨ k' = 1 ∨ k' = 2 ∨ k' = 3 ∨ k' = 4 ∨ k' = 5 ∨ k' = 6 ∨ k' = 7 := by omega
  rcases hk with rfl | rfl | rfl | rfl | rfl | rfl | rfl | rfl <;> rcases hk' with rfl | rfl | rfl | rfl | rfl | rfl | rfl | rfl <;> first | rfl | (exfalso; revert h; decide)
mutual
theorem walk_allOf {p : VT → Bool} : ∀ (t : VT) (d m m' : Nat), walkV p t d m = some m' → allV p t = true
  | .mk k b n s l ks, d, m, m', h => by
    unfold walkV at h
    split at h
    · cases h
    · split at h
      · cases h
      · split at h
        · rename_i hp
          rw [allV, hp, walk_allOfL l _ _ _ h]
          rfl
        · cases h
theorem walk_allOfL {p : VT → Bool} : ∀ (l : List VT) (d m m' : Nat), walkL p l d m = some m' → allL p l = true
  | [], d, m, m', h => by rw [allL]
  | t :: ts, d, m, m', h => by
    unfold walkL at h
    split at h
    · cases h
    · rename_i h1
      rw [allL, walk_allOf t _ _ _ h1, walk_allOfL ts _ _ _ h]
      rfl
end
theorem may_formed {t : VT} (h : mayB t = true) : allV formedV t = true := by
  rw [← may_walk] at h
  obtain ⟨m, hm⟩ := Option.isSome_iff_exists.1 h
  exact walk_allOf t _ _ _ hm
theorem allL_mem {p : VT → Bool} : ∀ {l : List VT} {x : VT}, allL p l = true → x ∈ l → allV p x = true
  | [], _, _, h => by cases h
  | t :: ts, x, hs, h => by
    rw [allL, Bool.and_eq_true] at hs
    rcases List.mem_cons.1 h with rfl | h
    · exact hs.1
    · exact allL_mem hs.2 h
/-- What the fields of a value that is formed are. -/
theorem formed_fields {k n : Int} {b : Bool} {s : ByteArray} {l : List VT} {ks : List ByteArray} (h : formedV (.mk k b n s l ks) = true) :
    0 ≤ k ∧ k ≤ 7 ∧ (k ≠ 4 → k ≠ 5 → l = [] ∧ ks = []) ∧ (k ≠ 5 → ks = []) ∧ (k ≠ 1 → b = false) ∧ (k ≠ 2 → k ≠ 6 → k ≠ 7 → n = 0) ∧ (k ≠ 3 → s.toList = []) := by
  replace h : formedF k b n s l.length ks.length (keysTo ks ks.length) = true := h
  unfold formedF at h
  have hnil : ∀ {α : Type} {l : List α}, (l.length == 0) = true → l = [] := fun h => List.eq_nil_of_length_eq_zero (by simpa using h)
  split at h
  · subst_vars
    simp only [Bool.and_eq_true, Bool.not_eq_true', beq_iff_eq, List.isEmpty_iff] at h
    obtain ⟨h1, h2, h3, h4, h5⟩ := h
    exact ⟨by omega, by omega, fun _ _ => ⟨List.eq_nil_of_length_eq_zero h4, List.eq_nil_of_length_eq_zero h5⟩, fun _ => List.eq_nil_of_length_eq_zero h5, fun _ => h1, fun _ _ _ => h2, fun _ => h3⟩
  · split at h
    · subst_vars
      simp only [Bool.and_eq_true, Bool.not_eq_true', beq_iff_eq, List.isEmpty_iff] at h
      obtain ⟨h2, h3, h4, h5⟩ := h
      exact ⟨by omega, by omega, fun _ _ => ⟨List.eq_nil_of_length_eq_zero h4, List.eq_nil_of_length_eq_zero h5⟩, fun _ => List.eq_nil_of_length_eq_zero h5, fun h => absurd rfl h, fun _ _ _ => h2, fun _ => h3⟩
    · split at h
      · subst_vars
        simp only [Bool.and_eq_true, Bool.not_eq_true', beq_iff_eq, List.isEmpty_iff] at h
        obtain ⟨h1, h3, h4, h5⟩ := h
        exact ⟨by omega, by omega, fun _ _ => ⟨List.eq_nil_of_length_eq_zero h4, List.eq_nil_of_length_eq_zero h5⟩, fun _ => List.eq_nil_of_length_eq_zero h5, fun _ => h1, fun h => absurd rfl h, fun _ => h3⟩
      · split at h
        · rename_i hk
          simp only [Bool.and_eq_true, Bool.not_eq_true', beq_iff_eq, List.isEmpty_iff] at h
          obtain ⟨-, h1, h3, h4, h5⟩ := h
          exact ⟨by omega, by omega, fun _ _ => ⟨List.eq_nil_of_length_eq_zero h4, List.eq_nil_of_length_eq_zero h5⟩, fun _ => List.eq_nil_of_length_eq_zero h5, fun _ => h1, fun _ h6 h7 => by omega, fun _ => h3⟩
        · split at h
          · subst_vars
            simp only [Bool.and_eq_true, Bool.not_eq_true', beq_iff_eq, List.isEmpty_iff] at h
            obtain ⟨h1, h2, h4, h5⟩ := h
            exact ⟨by omega, by omega, fun _ _ => ⟨List.eq_nil_of_length_eq_zero h4, List.eq_nil_of_length_eq_zero h5⟩, fun _ => List.eq_nil_of_length_eq_zero h5, fun _ => h1, fun _ _ _ => h2, fun h => absurd rfl h⟩
          · split at h
            · subst_vars
              simp only [Bool.and_eq_true, Bool.not_eq_true', beq_iff_eq, List.isEmpty_iff] at h
              obtain ⟨h1, h2, h3, h5⟩ := h
              exact ⟨by omega, by omega, fun h => absurd rfl h, fun _ => List.eq_nil_of_length_eq_zero h5, fun _ => h1, fun _ _ _ => h2, fun _ => h3⟩
            · split at h
              · subst_vars
                simp only [Bool.and_eq_true, Bool.not_eq_true', beq_iff_eq, List.isEmpty_iff] at h
                obtain ⟨-, -, h1, h2, h3⟩ := h
                exact ⟨by omega, by omega, fun _ h => absurd rfl h, fun h => absurd rfl h, fun _ => h1, fun _ _ _ => h2, fun _ => h3⟩
              · cases h
mutual
/-- What is equal is the same. -/
theorem eq_same : ∀ t u : VT, allV formedV t = true → allV formedV u = true → eqV t u = 1 → sameV t u = true
  | .mk k b n s l ks, .mk k' b' n' s' l' ks', ht, hu, h => by
    rw [allV, Bool.and_eq_true] at ht hu
    obtain ⟨f0, f1, f2, f3, f4, f5, f6⟩ := formed_fields ht.1
    obtain ⟨g0, g1, g2, g3, g4, g5, g6⟩ := formed_fields hu.1
    unfold eqV at h
    split at h
    · omega
    · split at h
      · omega
      · rename_i hk
        have hk : k = k' := by omega
        subst hk
        unfold sameV
        split at h
        · rename_i h4
          split at h
          · rename_i hz
            obtain ⟨-, rfl, rfl, rfl⟩ := (flat_zero _ _ _ _ _ _ _ _).1 hz
            obtain ⟨rfl, rfl⟩ := f2 h4.1 h4.2
            obtain ⟨rfl, rfl⟩ := g2 h4.1 h4.2
            simp [namesV, sameL]
          · omega
        · rename_i h4
          have h45 : k = 4 ∨ k = 5 := by omega
          split at h
          · omega
          · rename_i h5
            have hn : namesV ks ks' = true := by
              cases hv : namesV ks ks'
              · exact absurd (.inr hv) h5
              · rfl
            have hl : l.length = l'.length := by
              rcases Nat.lt_trichotomy l.length l'.length with hh | hh | hh
              · exact absurd (.inl (by omega)) h5
              · exact hh
              · exact absurd (.inl (by omega)) h5
            have hs := eq_sameL l l' ht.2 hu.2 hl (fold_one _ _ (by omega) h).2
            rw [f4 (by omega), g4 (by omega), f5 (by omega) (by omega) (by omega), g5 (by omega) (by omega) (by omega), f6 (by omega), g6 (by omega), hn, hs]
            simp
theorem eq_sameL : ∀ l l' : List VT, allL formedV l = true → allL formedV l' = true → l.length = l'.length → (∀ x ∈ eqsV l l', x = 1) → sameL l l' = true
  | [], [], _, _, _, _ => by unfold sameL; rfl
  | [], _ :: _, _, _, h, _ => by simp at h
  | _ :: _, [], _, _, h, _ => by simp at h
  | t :: ts, u :: us, ht, hu, hl, h => by
    rw [allL, Bool.and_eq_true] at ht hu
    unfold eqsV at h
    split at h
    · have := h 0 (List.mem_singleton.2 rfl)
      omega
    · have h1 := h _ (List.mem_cons_self ..)
      unfold sameL
      rw [eq_same t u ht.1 hu.1 h1, eq_sameL ts us ht.2 hu.2 (by simpa using hl) (fun x hx => h x (List.mem_cons_of_mem _ hx))]
      rfl
end
/-- Is it less? 0, 1, or 2 where it is not known. -/
def lessV : VT → VT → Int
  | .mk k b n s l ks, .mk k' b' n' s' l' ks' => if k ≠ k' then 2 else if k = 1 ∨ k = 2 ∨ k = 3 then (if flatV k n k' n' b b' s s' < 0 then 1 else 0) else 2
end Val
end Go.Proofs.YtepfihanhdinfaaDoor
