/- Show, plain: values that may be and are told as the same text are the same. -/
import Derived.Test.YtoaliaohbpdibaaDoorShTells
import Derived.Test.YtoaliaohbpdibaaDoorShRefQuote
import Derived.Test.YtoaliaohbpdibaaDoorValSame
import Derived.Test.YtoaliaohbpdibaaDoorValMay4
namespace Go.Proofs.YtoaliaohbpdibaaDoor
set_option linter.unusedVariables false
set_option linter.unusedSimpArgs false
namespace Sh
open Val (VT mayV mayL mayB mayHere sameV sameL)
mutual
theorem show_prefix : ∀ (t u : VT) (r r' : List UInt8), cleanV t → cleanV u → Stops r → Stops r' → showB t ++ r = showB u ++ r' → t = u ∧ r = r'
  | .mk k b n s l ks, .mk k' b' n' s' l' ks', r, r', ht, hu, hr, hr', h => by
    unfold cleanV at ht hu
    obtain ⟨tk, tb, tn, ts, tl, tks, tkl, tcl⟩ := ht
    obtain ⟨uk, ub, un, us, ul, uks, ukl, ucl⟩ := hu
    have e1 := kindB_show k b n s l ks r tk.1 tk.2
    have e2 := kindB_show k' b' n' s' l' ks' r' uk.1 uk.2
    rw [h, e2] at e1
    subst e1
    have h8 : k' = 0 ∨ k' = 1 ∨ k' = 2 ∨ k' = 3 ∨ k' = 4 ∨ k' = 5 ∨ k' = 6 ∨ k' = 7 := by omega
    have str : k' ≠ 3 → s = s' := fun h3 => ba_ext (by rw [ts h3, us h3])
    unfold showB at h
    rcases h8 with rfl | rfl | rfl | rfl | rfl | rfl | rfl | rfl
    · obtain rfl := tb (by decide)
      obtain rfl := ub (by decide)
      obtain rfl := tn (by decide) (by decide) (by decide)
      obtain rfl := un (by decide) (by decide) (by decide)
      obtain rfl := str (by decide)
      obtain rfl := tl (by decide) (by decide)
      obtain rfl := ul (by decide) (by decide)
      obtain rfl := tks (by decide)
      obtain rfl := uks (by decide)
      exact ⟨rfl, List.append_cancel_left h⟩
    · obtain rfl := tn (by decide) (by decide) (by decide)
      obtain rfl := un (by decide) (by decide) (by decide)
      obtain rfl := str (by decide)
      obtain rfl := tl (by decide) (by decide)
      obtain rfl := ul (by decide) (by decide)
      obtain rfl := tks (by decide)
      obtain rfl := uks (by decide)
      have hb : b = b' := by
        cases b <;> cases b' <;> first | rfl | (simp at h; done)
      subst hb
      exact ⟨rfl, List.append_cancel_left h⟩
    · obtain rfl := tb (by decide)
      obtain rfl := ub (by decide)
      obtain rfl := str (by decide)
      obtain rfl := tl (by decide) (by decide)
      obtain rfl := ul (by decide) (by decide)
      obtain rfl := tks (by decide)
      obtain rfl := uks (by decide)
      obtain ⟨i1, i2⟩ := textU_prefix n n' r r' hr.num hr'.num h
      exact ⟨by rw [i1], i2⟩
    · obtain rfl := tb (by decide)
      obtain rfl := ub (by decide)
      obtain rfl := tn (by decide) (by decide) (by decide)
      obtain rfl := un (by decide) (by decide) (by decide)
      obtain rfl := tl (by decide) (by decide)
      obtain rfl := ul (by decide) (by decide)
      obtain rfl := tks (by decide)
      obtain rfl := uks (by decide)
      obtain ⟨i1, i2⟩ := quoteL_prefix s.data.toList s'.data.toList r r' h
      exact ⟨by rw [ba_ext i1], i2⟩
    · obtain rfl := tb (by decide)
      obtain rfl := ub (by decide)
      obtain rfl := tn (by decide) (by decide) (by decide)
      obtain rfl := un (by decide) (by decide) (by decide)
      obtain rfl := str (by decide)
      obtain rfl := tks (by decide)
      obtain rfl := uks (by decide)
      have h' : partsB l false true [] ++ 93 :: r = partsB l' false true [] ++ 93 :: r' := by
        have h2 : 91 :: (partsB l false true [] ++ [93]) ++ r = 91 :: (partsB l' false true [] ++ [93]) ++ r' := h
        simpa using h2
      obtain ⟨i1, _, i3⟩ := parts_prefix l l' false true [] [] 93 r r' (.inl rfl) tcl ucl (by simp) (by simp) h'
      exact ⟨by rw [i1], i3⟩
    · obtain rfl := tb (by decide)
      obtain rfl := ub (by decide)
      obtain rfl := tn (by decide) (by decide) (by decide)
      obtain rfl := un (by decide) (by decide) (by decide)
      obtain rfl := str (by decide)
      have h' : partsB l true true ks ++ 125 :: r = partsB l' true true ks' ++ 125 :: r' := by
        have h2 : 123 :: (partsB l true true ks ++ [125]) ++ r = 123 :: (partsB l' true true ks' ++ [125]) ++ r' := h
        simpa using h2
      obtain ⟨i1, i2, i3⟩ := parts_prefix l l' true true ks ks' 125 r r' (.inr rfl) tcl ucl (by intro _; exact ⟨tkl rfl, ukl rfl⟩) (by simp) h'
      exact ⟨by rw [i1, i2], i3⟩
    · obtain rfl := tb (by decide)
      obtain rfl := ub (by decide)
      obtain rfl := str (by decide)
      obtain rfl := tl (by decide) (by decide)
      obtain rfl := ul (by decide) (by decide)
      obtain rfl := tks (by decide)
      obtain rfl := uks (by decide)
      have h' : Num.textU n ++ r = Num.textU n' ++ r' := by
        have h2 : 35 :: 110 :: Num.textU n ++ r = 35 :: 110 :: Num.textU n' ++ r' := h
        simpa using h2
      obtain ⟨i1, i2⟩ := textU_prefix n n' r r' hr.num hr'.num h'
      exact ⟨by rw [i1], i2⟩
    · obtain rfl := tb (by decide)
      obtain rfl := ub (by decide)
      obtain rfl := str (by decide)
      obtain rfl := tl (by decide) (by decide)
      obtain rfl := ul (by decide) (by decide)
      obtain rfl := tks (by decide)
      obtain rfl := uks (by decide)
      have h' : Num.textU n ++ r = Num.textU n' ++ r' := by
        have h2 : 35 :: 101 :: Num.textU n ++ r = 35 :: 101 :: Num.textU n' ++ r' := h
        simpa using h2
      obtain ⟨i1, i2⟩ := textU_prefix n n' r r' hr.num hr'.num h'
      exact ⟨by rw [i1], i2⟩
theorem parts_prefix : ∀ (l l' : List VT) (m first : Bool) (ks ks' : List ByteArray) (c : UInt8) (r r' : List UInt8), (c = 93 ∨ c = 125) → cleanL l → cleanL l' → (m = true → ks.length = l.length ∧ ks'.length = l'.length) → (m = false → ks = [] ∧ ks' = []) → partsB l m first ks ++ c :: r = partsB l' m first ks' ++ c :: r' → l = l' ∧ ks = ks' ∧ r = r'
  | [], [], m, first, ks, ks', c, r, r', hc, _, _, hm, hf, h => by
    unfold partsB at h
    have hk : ks = ks' := by
      cases m with
      | true =>
        obtain ⟨a1, a2⟩ := hm rfl
        rw [List.length_eq_zero_iff.1 a1, List.length_eq_zero_iff.1 a2]
      | false => obtain ⟨rfl, rfl⟩ := hf rfl; rfl
    exact ⟨rfl, hk, by injection h⟩
  | [], u :: us, m, first, ks, ks', c, r, r', hc, _, hu, hm, hf, h => by
    unfold cleanL at hu
    have h2 : partsB (u :: us) m first ks' ++ c :: r' = c :: r := by rw [← h, partsB]; rfl
    exact (parts_none u us m first ks' c r' r hc hu.1 h2).elim
  | t :: ts, [], m, first, ks, ks', c, r, r', hc, ht, _, hm, hf, h => by
    unfold cleanL at ht
    have h2 : partsB (t :: ts) m first ks ++ c :: r = c :: r' := by rw [h, partsB]; rfl
    exact (parts_none t ts m first ks c r r' hc ht.1 h2).elim
  | t :: ts, u :: us, m, first, ks, ks', c, r, r', hc, ht, hu, hm, hf, h => by
    unfold cleanL at ht hu
    unfold partsB at h
    simp only [List.append_assoc] at h
    have h := List.append_cancel_left h
    cases m with
    | false =>
      obtain ⟨rfl, rfl⟩ := hf rfl
      simp only [Bool.false_eq_true, if_false, List.nil_append, List.append_assoc, List.tail_nil] at h
      obtain ⟨i1, i2⟩ := show_prefix t u _ _ ht.1 hu.1 (parts_stop ts false [] c r hc) (parts_stop us false [] c r' hc) h
      obtain ⟨j1, _, j3⟩ := parts_prefix ts us false false [] [] c r r' hc ht.2 hu.2 (by simp) (by simp) i2
      exact ⟨by rw [i1, j1], rfl, j3⟩
    | true =>
      obtain ⟨a1, a2⟩ := hm rfl
      rcases ks with _ | ⟨x, ks⟩
      · simp at a1
      · rcases ks' with _ | ⟨y, ks'⟩
        · simp at a2
        · simp only [if_true, List.append_assoc, List.headD_cons, List.tail_cons, List.cons_append, List.nil_append] at h
          obtain ⟨k1, k2⟩ := key_prefix x.data.toList y.data.toList _ _ h
          have k3 : showB t ++ (partsB ts true false ks ++ c :: r) = showB u ++ (partsB us true false ks' ++ c :: r') := by injection k2
          obtain ⟨i1, i2⟩ := show_prefix t u _ _ ht.1 hu.1 (parts_stop ts true ks c r hc) (parts_stop us true ks' c r' hc) k3
          obtain ⟨j1, j2, j3⟩ := parts_prefix ts us true false ks ks' c r r' hc ht.2 hu.2 (by intro _; simp at a1 a2; exact ⟨a1, a2⟩) (by simp) i2
          exact ⟨by rw [i1, j1], by rw [ba_ext k1, j2], j3⟩
end
theorem show_apart (t u : VT) (ht : cleanV t) (hu : cleanV u) (h : showB t = showB u) : t = u :=
  (show_prefix t u [] [] ht hu (.inl rfl) (.inl rfl) (by rw [h])).1
open Val (VT mayV mayL mayB mayHere sameV sameL namesV)
theorem toList_nil {s : ByteArray} (h : s.toList.isEmpty = true) : s.data.toList = [] := by
  rw [Num.toList_data] at h
  simpa using h
mutual
theorem may_clean : ∀ (t : VT) (d p p' : Nat), mayV t d p = some p' → cleanV t
  | .mk k b n s l ks, d, p, p', h => by
    unfold mayV at h
    split at h
    · rename_i hh
      have hc := may_cleanL l _ _ _ h
      unfold mayHere at hh
      simp only [Bool.and_eq_true, decide_eq_true_eq] at hh
      obtain ⟨_, _, h3, h4, h5, _, h7⟩ := hh
      unfold Val.unusedF at h5
      unfold cleanV
      split at h5
      · cases h5
      · rename_i q1
        split at h5
        · cases h5
        · rename_i q2
          split at h5
          · cases h5
          · rename_i q3
            split at h5
            · cases h5
            · rename_i q4
              simp at q1 q2 q4 h5
              refine ⟨⟨h3, h4⟩, q1, fun a1 a2 a3 => q2 a1 a2 a3, fun a1 => ?_, fun a1 a2 => q4 a1 a2, fun a1 => ?_, fun a1 => ?_, hc⟩
              · apply toList_nil
                by_cases hs : s.toList.isEmpty = true
                · exact hs
                · exfalso
                  apply q3
                  simp only [Bool.and_eq_true, Bool.not_eq_true', beq_eq_false_iff_ne]
                  exact ⟨a1, by simpa using hs⟩
              · rcases h5 with h5 | h5
                · exact absurd h5 a1
                · exact h5
              · subst a1
                simp at h7
                omega
    · cases h
theorem may_cleanL : ∀ (l : List VT) (d p p' : Nat), mayL l d p = some p' → cleanL l
  | [], d, p, p', h => by unfold cleanL; trivial
  | t :: ts, d, p, p', h => by
    unfold mayL at h
    cases hv : mayV t d p with
    | none => rw [hv] at h; cases h
    | some p1 =>
      rw [hv] at h
      unfold cleanL
      exact ⟨may_clean t _ _ _ hv, may_cleanL ts _ _ _ h⟩
end
theorem mayB_clean (t : VT) (h : mayB t = true) : cleanV t := by
  unfold Val.mayB at h
  cases hv : mayV t 32 0 with
  | none => rw [hv] at h; cases h
  | some p => exact may_clean t _ _ _ hv
theorem names_refl : ∀ l : List ByteArray, namesV l l = true
  | [] => rfl
  | a :: l => by unfold namesV; simp [names_refl l]
theorem names_eq : ∀ {a b : List ByteArray}, namesV a b = true → a = b
  | [], [], _ => rfl
  | a :: as', b :: bs, h => by
    unfold namesV at h
    simp only [Bool.and_eq_true, beq_iff_eq] at h
    rw [names_eq h.2, ba_ext (a := a) (b := b) (by rw [← Num.toList_data, ← Num.toList_data, h.1])]
  | [], _ :: _, h => by simp [namesV] at h
  | _ :: _, [], h => by simp [namesV] at h
mutual
theorem same_refl : ∀ t : VT, sameV t t = true
  | .mk k b n s l ks => by rw [sameV]; simp [names_refl, same_reflL l]
theorem same_reflL : ∀ l : List VT, sameL l l = true
  | [] => by rw [sameL]
  | t :: ts => by rw [sameL]; simp [same_refl t, same_reflL ts]
end
mutual
theorem same_eq2 : ∀ (t u : VT), sameV t u = true → t = u
  | .mk k b n s l ks, .mk k' b' n' s' l' ks', h => by
    rw [sameV] at h
    simp only [Bool.and_eq_true, beq_iff_eq] at h
    obtain ⟨h1, h2, h3, h4, h5, h6⟩ := h
    rw [h1, h2, h3, ba_ext (a := s) (b := s') (by rw [← Num.toList_data, ← Num.toList_data, h4]), names_eq h5, same_eqL2 l l' h6]
theorem same_eqL2 : ∀ (l m : List VT), sameL l m = true → l = m
  | [], [], _ => rfl
  | t :: ts, u :: us, h => by
    rw [sameL] at h
    simp only [Bool.and_eq_true] at h
    rw [same_eq2 t u h.1, same_eqL2 ts us h.2]
  | [], _ :: _, h => by rw [sameL] at h; cases h
  | _ :: _, [], h => by rw [sameL] at h; cases h
end
/-- Two values that may be: their texts are the same just if they are. -/
theorem texts_same (t u : VT) (ht : mayB t = true) (hu : mayB u = true) (q q' : ByteArray) (hq : (⟨(showB t).toArray⟩ : ByteArray) = q) (hq' : (⟨(showB u).toArray⟩ : ByteArray) = q') : decide (q = q') = sameV t u := by
  by_cases h : sameV t u = true
  · rw [h]
    have := same_eq2 t u h
    subst this
    simp [← hq, ← hq']
  · have h : sameV t u = false := by simpa using h
    rw [h]
    apply decide_eq_false
    intro e
    subst e
    have e2 : showB t = showB u := by
      have := hq.trans hq'.symm
      injection this with e3
      injection e3
    have := show_apart t u (mayB_clean t ht) (mayB_clean u hu) e2
    subst this
    rw [same_refl] at h
    cases h
end Sh
end Go.Proofs.YtoaliaohbpdibaaDoor
