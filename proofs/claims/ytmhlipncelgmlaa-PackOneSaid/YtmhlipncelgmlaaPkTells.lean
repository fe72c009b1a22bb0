/- Values as bytes, plain: values that may be and have the same bytes are the same. -/
import Derived.Test.YtmhlipncelgmlaaPkPutA
import Derived.Test.YtmhlipncelgmlaaValSame
import Derived.Test.YtmhlipncelgmlaaValMay4
namespace Go.Proofs.Ytmhlipncelgmlaa
open Go.RowKit
set_option linter.unusedVariables false
set_option linter.unusedSimpArgs false
namespace Pk
open Val (VT mayV mayL mayB mayHere sameV sameL namesV)
open Rk (goodV goodL ba_len)
theorem byte_inj {a b : Nat} (ha : a < 256) (hb : b < 256) (h : UInt8.ofNat a = UInt8.ofNat b) : a = b := by
  have := congrArg UInt8.toNat h
  simp at this
  omega
theorem sevL_prefix : ∀ (N n m : Nat) (r r' : List UInt8), n ≤ N → sevL n ++ r = sevL m ++ r' → n = m ∧ r = r' := fun N => by
  induction N using Nat.strongRecOn with
  | ind N ih =>
    intro n m r r' hN h
    by_cases hn : n < 128
    · by_cases hm : m < 128
      · rw [sevL_lt hn, sevL_lt hm] at h
        simp only [List.cons_append, List.nil_append, List.cons.injEq] at h
        exact ⟨byte_inj (by omega) (by omega) h.1, h.2⟩
      · rw [sevL_lt hn, sevL_ge hm] at h
        simp only [List.cons_append, List.nil_append, List.cons.injEq] at h
        have := byte_inj (by omega) (by omega) h.1
        omega
    · by_cases hm : m < 128
      · rw [sevL_ge hn, sevL_lt hm] at h
        simp only [List.cons_append, List.nil_append, List.cons.injEq] at h
        have := byte_inj (by omega) (by omega) h.1
        omega
      · rw [sevL_ge hn, sevL_ge hm] at h
        simp only [List.cons_append, List.cons.injEq] at h
        have h1 := byte_inj (by omega) (by omega) h.1
        obtain ⟨h2, h3⟩ := ih (n / 128) (by omega) (n / 128) (m / 128) r r' (Nat.le_refl _) h.2
        exact ⟨by omega, h3⟩
theorem sev_prefix {n m : Nat} {r r' : List UInt8} (h : sevL n ++ r = sevL m ++ r') : n = m ∧ r = r' := sevL_prefix n n m r r' (Nat.le_refl _) h
theorem ba_ext {a b : ByteArray} (h : a.data.toList = b.data.toList) : a = b := by
  cases a; cases b
  simpa using h
theorem text_prefix {a b : ByteArray} {r r' : List UInt8} (h : textB a ++ r = textB b ++ r') : a = b ∧ r = r' := by
  unfold textB at h
  rw [List.append_assoc, List.append_assoc] at h
  obtain ⟨h1, h2⟩ := sev_prefix h
  obtain ⟨h3, h4⟩ := List.append_inj h2 (by rw [ba_len, ba_len, h1])
  exact ⟨ba_ext h3, h4⟩
mutual
/-- What a value has no use for is empty. -/
def cleanV : VT → Prop
  | .mk k b n s l ks => (0 ≤ k ∧ k ≤ 7) ∧ (k ≠ 1 → b = false) ∧ (k ≠ 2 → k ≠ 6 → k ≠ 7 → n = 0) ∧ (k ≠ 3 → s.data.toList = []) ∧ (k ≠ 4 → k ≠ 5 → l = []) ∧ (k ≠ 5 → ks = []) ∧ (k = 5 → ks.length = l.length) ∧ cleanL l
def cleanL : List VT → Prop
  | [] => True
  | t :: ts => cleanV t ∧ cleanL ts
end
/-- The kind that a first byte tells. -/
def kindT (c : UInt8) : Int := if c = 0 then 0 else if c = 1 then 1 else if c = 2 then 1 else if c = 3 then 2 else if c = 4 then 3 else if c = 5 then 4 else if c = 6 then 5 else if c = 7 then 6 else 7
theorem kind_head (k : Int) (b : Bool) (n : Int) (s : ByteArray) (l : List VT) (ks : List ByteArray) (r : List UInt8) (h : 0 ≤ k ∧ k ≤ 7) : kindT ((packB (.mk k b n s l ks) ++ r).getD 0 0) = k := by
  have hk : k = 0 ∨ k = 1 ∨ k = 2 ∨ k = 3 ∨ k = 4 ∨ k = 5 ∨ k = 6 ∨ k = 7 := by omega
  unfold packB
  rcases hk with rfl | rfl | rfl | rfl | rfl | rfl | rfl | rfl
  · simp [kindT]
  · cases b <;> simp [kindT]
  all_goals simp [kindT]
mutual
theorem pack_prefix : ∀ (t u : VT) (r r' : List UInt8), cleanV t → goodV t → cleanV u → goodV u → packB t ++ r = packB u ++ r' → t = u ∧ r = r'
  | .mk k b n s l ks, .mk k' b' n' s' l' ks', r, r', ht, gt, hu, gu, h => by
    unfold cleanV at ht hu
    unfold goodV at gt gu
    obtain ⟨tk, tb, tn, ts, tl, tks, tkl, tcl⟩ := ht
    obtain ⟨uk, ub, un, us, ul, uks, ukl, ucl⟩ := hu
    have e : k = k' := by
      have := congrArg (fun x => kindT (x.getD 0 0)) h
      simp only [kind_head k b n s l ks r tk, kind_head k' b' n' s' l' ks' r' uk] at this
      exact this
    subst e
    unfold packB at h
    have hS : k ≠ 3 → s = s' := fun h3 => ba_ext (by rw [ts h3, us h3])
    have hN : k ≠ 2 → k ≠ 6 → k ≠ 7 → n = n' := fun h1 h2 h3 => by rw [tn h1 h2 h3, un h1 h2 h3]
    have hB : k ≠ 1 → b = b' := fun h1 => by rw [tb h1, ub h1]
    have hL : k ≠ 4 → k ≠ 5 → l = l' := fun h1 h2 => by rw [tl h1 h2, ul h1 h2]
    have hK : k ≠ 5 → ks = ks' := fun h1 => by rw [tks h1, uks h1]
    by_cases k5 : k = 5
    · rw [if_pos k5, if_pos k5] at h
      simp only [List.cons_append, List.cons.injEq, true_and, List.append_assoc] at h
      obtain ⟨h1, h2⟩ := sev_prefix h
      obtain ⟨i1, i2, i3⟩ := parts_prefix l l' true ks ks' r r' tcl gt.2 ucl gu.2 (by rw [← tkl k5, ← ukl k5, h1]) (fun _ => ⟨tkl k5, ukl k5⟩) h2
      exact ⟨by rw [hS (by omega), hN (by omega) (by omega) (by omega), hB (by omega), i1, i2 rfl], i3⟩
    rw [if_neg k5, if_neg k5] at h
    by_cases k6 : k = 6
    · rw [if_pos k6, if_pos k6] at h
      simp only [List.cons_append, List.cons.injEq, true_and] at h
      obtain ⟨h1, h2⟩ := sev_prefix h
      have g1 := gt.1.2.2 (.inl k6)
      have g2 := gu.1.2.2 (.inl k6)
      exact ⟨by rw [hS (by omega), show n = n' by omega, hB (by omega), hL (by omega) (by omega), hK (by omega)], h2⟩
    rw [if_neg k6, if_neg k6] at h
    by_cases k7 : k = 7
    · rw [if_pos k7, if_pos k7] at h
      simp only [List.cons_append, List.cons.injEq, true_and] at h
      obtain ⟨h1, h2⟩ := sev_prefix h
      have g1 := gt.1.2.2 (.inr k7)
      have g2 := gu.1.2.2 (.inr k7)
      exact ⟨by rw [hS (by omega), show n = n' by omega, hB (by omega), hL (by omega) (by omega), hK (by omega)], h2⟩
    rw [if_neg k7, if_neg k7] at h
    by_cases k4 : k = 4
    · rw [if_pos k4, if_pos k4] at h
      simp only [List.cons_append, List.cons.injEq, true_and, List.append_assoc] at h
      obtain ⟨h1, h2⟩ := sev_prefix h
      obtain ⟨i1, i2, i3⟩ := parts_prefix l l' false [] [] r r' tcl gt.2 ucl gu.2 h1 (by simp) h2
      exact ⟨by rw [hS (by omega), hN (by omega) (by omega) (by omega), hB (by omega), i1, hK (by omega)], i3⟩
    rw [if_neg k4, if_neg k4] at h
    by_cases k3 : k = 3
    · rw [if_pos k3, if_pos k3] at h
      simp only [List.cons_append, List.cons.injEq, true_and] at h
      obtain ⟨h1, h2⟩ := text_prefix h
      exact ⟨by rw [h1, hN (by omega) (by omega) (by omega), hB (by omega), hL (by omega) (by omega), hK (by omega)], h2⟩
    rw [if_neg k3, if_neg k3] at h
    by_cases k1 : k = 1
    · rw [if_pos k1, if_pos k1] at h
      simp only [List.cons_append, List.nil_append, List.cons.injEq] at h
      have hb : b = b' := by
        have := h.1
        cases b <;> cases b' <;> simp at this ⊢
      exact ⟨by rw [hS (by omega), hN (by omega) (by omega) (by omega), hb, hL (by omega) (by omega), hK (by omega)], h.2⟩
    rw [if_neg k1, if_neg k1] at h
    by_cases k2 : k = 2
    · rw [if_pos k2, if_pos k2] at h
      simp only [List.cons_append, List.cons.injEq, true_and] at h
      obtain ⟨h1, h2⟩ := sev_prefix h
      exact ⟨by rw [hS (by omega), foldN_inj h1, hB (by omega), hL (by omega) (by omega), hK (by omega)], h2⟩
    rw [if_neg k2, if_neg k2] at h
    simp only [List.cons_append, List.nil_append, List.cons.injEq, true_and] at h
    exact ⟨by rw [hS (by omega), hN (by omega) (by omega) (by omega), hB (by omega), hL (by omega) (by omega), hK (by omega)], h⟩
theorem parts_prefix : ∀ (l l' : List VT) (m : Bool) (ks ks' : List ByteArray) (r r' : List UInt8), cleanL l → goodL l → cleanL l' → goodL l' → l.length = l'.length → (m = true → ks.length = l.length ∧ ks'.length = l'.length) → partsP l m ks ++ r = partsP l' m ks' ++ r' → l = l' ∧ (m = true → ks = ks') ∧ r = r'
  | [], [], m, ks, ks', r, r', _, _, _, _, _, hk, h => by
    unfold partsP at h
    exact ⟨rfl, fun hm => by obtain ⟨a1, a2⟩ := hk hm; rw [List.eq_nil_of_length_eq_zero a1, List.eq_nil_of_length_eq_zero a2], by simpa using h⟩
  | [], _ :: _, m, ks, ks', r, r', _, _, _, _, hl, hk, h => by simp at hl
  | _ :: _, [], m, ks, ks', r, r', _, _, _, _, hl, hk, h => by simp at hl
  | t :: ts, u :: us, m, ks, ks', r, r', ht, gt, hu, gu, hl, hk, h => by
    unfold cleanL at ht hu
    unfold goodL at gt gu
    unfold partsP at h
    have hl' : ts.length = us.length := by simpa using hl
    cases m with
    | false =>
      simp only [Bool.false_eq_true, if_false, List.nil_append, List.append_assoc] at h
      obtain ⟨i1, i2⟩ := pack_prefix t u _ _ ht.1 gt.1 hu.1 gu.1 h
      obtain ⟨j1, _, j3⟩ := parts_prefix ts us false ks.tail ks'.tail r r' ht.2 gt.2 hu.2 gu.2 hl' (by simp) i2
      exact ⟨by rw [i1, j1], by simp, j3⟩
    | true =>
      obtain ⟨a1, a2⟩ := hk rfl
      cases ks with
      | nil => simp at a1
      | cons x ks =>
        cases ks' with
        | nil => simp at a2
        | cons y ks' =>
          simp only [if_true, List.append_assoc, List.headD_cons, List.tail_cons] at h
          obtain ⟨k1, k2⟩ := text_prefix h
          obtain ⟨i1, i2⟩ := pack_prefix t u _ _ ht.1 gt.1 hu.1 gu.1 k2
          obtain ⟨j1, j2, j3⟩ := parts_prefix ts us true ks ks' r r' ht.2 gt.2 hu.2 gu.2 hl' (fun _ => by simp at a1 a2; exact ⟨a1, a2⟩) i2
          exact ⟨by rw [i1, j1], fun _ => by rw [k1, j2 rfl], j3⟩
end
theorem toList_nil {s : ByteArray} (h : s.toList.isEmpty = true) : s.data.toList = [] := by
  rw [ByteArray.toList_eq] at h
  simpa using h
mutual
theorem may_clean : ∀ (t : VT) (d p p' : Nat), mayV t d p = some p' → cleanV t
  | .mk k b n s l ks, d, p, p', h => by
    unfold mayV at h
    split at h
    · rename_i hh
      have hc := may_cleanL l _ _ _ h
      unfold mayHere at hh
      simp only [Bool.and_eq_true, decide_eq_true_eq] at hh
      obtain ⟨_, _, h3, h4, h5, _, h7⟩ := hh
      unfold Val.unusedF at h5
      unfold cleanV
      split at h5
      · cases h5
      · rename_i q1
        split at h5
        · cases h5
        · rename_i q2
          split at h5
          · cases h5
          · rename_i q3
            split at h5
            · cases h5
            · rename_i q4
              simp at q1 q2 q4 h5
              refine ⟨⟨h3, h4⟩, q1, fun a1 a2 a3 => q2 a1 a2 a3, fun a1 => ?_, fun a1 a2 => q4 a1 a2, fun a1 => ?_, fun a1 => ?_, hc⟩
              · apply toList_nil
                by_cases hs : s.toList.isEmpty = true
                · exact hs
                · exfalso
                  apply q3
                  simp only [Bool.and_eq_true, Bool.not_eq_true', beq_eq_false_iff_ne]
                  exact ⟨a1, by simpa using hs⟩
              · rcases h5 with h5 | h5
                · exact absurd h5 a1
                · exact h5
              · subst a1
                simp at h7
                omega
    · cases h
theorem may_cleanL : ∀ (l : List VT) (d p p' : Nat), mayL l d p = some p' → cleanL l
  | [], d, p, p', h => by unfold cleanL; trivial
  | t :: ts, d, p, p', h => by
    unfold mayL at h
    cases hv : mayV t d p with
    | none => rw [hv] at h; cases h
    | some p1 =>
      rw [hv] at h
      unfold cleanL
      exact ⟨may_clean t _ _ _ hv, may_cleanL ts _ _ _ h⟩
end
theorem mayB_clean (t : VT) (h : mayB t = true) : cleanV t := by
  unfold Val.mayB at h
  cases hv : mayV t 32 0 with
  | none => rw [hv] at h; cases h
  | some p => exact may_clean t _ _ _ hv
theorem names_refl : ∀ l : List ByteArray, namesV l l = true
  | [] => rfl
  | a :: l => by unfold namesV; simp [names_refl l]
theorem names_eq : ∀ {a b : List ByteArray}, namesV a b = true → a = b
  | [], [], _ => rfl
  | a :: as', b :: bs, h => by
    unfold namesV at h
    simp only [Bool.and_eq_true, beq_iff_eq] at h
    rw [names_eq h.2, ba_ext (a := a) (b := b) (by rw [← ByteArray.toList_eq, ← ByteArray.toList_eq, h.1])]
  | [], _ :: _, h => by simp [namesV] at h
  | _ :: _, [], h => by simp [namesV] at h
mutual
theorem same_refl : ∀ t : VT, sameV t t = true
  | .mk k b n s l ks => by rw [sameV]; simp [names_refl, same_reflL l]
theorem same_reflL : ∀ l : List VT, sameL l l = true
  | [] => by rw [sameL]
  | t :: ts => by rw [sameL]; simp [same_refl t, same_reflL ts]
end
mutual
theorem same_eq2 : ∀ (t u : VT), sameV t u = true → t = u
  | .mk k b n s l ks, .mk k' b' n' s' l' ks', h => by
    rw [sameV] at h
    simp only [Bool.and_eq_true, beq_iff_eq] at h
    obtain ⟨h1, h2, h3, h4, h5, h6⟩ := h
    rw [h1, h2, h3, ba_ext (a := s) (b := s') (by rw [← ByteArray.toList_eq, ← ByteArray.toList_eq, h4]), names_eq h5, same_eqL2 l l' h6]
theorem same_eqL2 : ∀ (l m : List VT), sameL l m = true → l = m
  | [], [], _ => rfl
  | t :: ts, u :: us, h => by
    rw [sameL] at h
    simp only [Bool.and_eq_true] at h
    rw [same_eq2 t u h.1, same_eqL2 ts us h.2]
  | [], _ :: _, h => by rw [sameL] at h; cases h
  | _ :: _, [], h => by rw [sameL] at h; cases h
end
/-- Two values that may be: their bytes are the same just if they are. -/
theorem bytes_same (t u : VT) (ht : mayB t = true) (hu : mayB u = true) (q q' : ByteArray) (hq : (⟨(packB t).toArray⟩ : ByteArray) = q) (hq' : (⟨(packB u).toArray⟩ : ByteArray) = q') : decide (q = q') = sameV t u := by
  by_cases h : sameV t u = true
  · rw [h]
    have := same_eq2 t u h
    subst this
    simp [← hq, ← hq']
  · have h : sameV t u = false := by simpa using h
    rw [h]
    apply decide_eq_false
    intro e
    subst e
    have e2 : packB t = packB u := by
      have := hq.trans hq'.symm
      have := congrArg (fun x : ByteArray => x.data.toList) this
      simpa using this
    have e3 := (pack_prefix t u [] [] (mayB_clean t ht) (Rk.mayB_good t ht).1 (mayB_clean u hu) (Rk.mayB_good u hu).1 (by rw [e2])).1
    rw [e3, same_refl] at h
    cases h
end Pk
end Go.Proofs.Ytmhlipncelgmlaa
