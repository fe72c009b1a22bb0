/- Show, plain: what is put in quotes is read as it was; it has no quote within, no control byte, and is whole signs. -/
import Derived.Test.YtoaliaohbpdibaaDoorShUnqPlain
namespace Go.Proofs.YtoaliaohbpdibaaDoor
open Go.RowKit
set_option linter.unusedVariables false
set_option linter.unusedSimpArgs false
namespace Sh
theorem bareL_iff (l : List UInt8) : bareL l = true ↔ 0 < sgL l ∧ 32 ≤ (l.getD 0 0).toNat ∧ (l.getD 0 0) ≠ 127 ∧ (l.getD 0 0) ≠ 92 ∧ (l.getD 0 0) ≠ 39 := by
  unfold bareL
  simp [and_assoc]
theorem head_take (l r : List UInt8) (n : Nat) (hn : 0 < n) (hl : n ≤ l.length) : (l.take n ++ r).getD 0 0 = l.getD 0 0 := by
  rcases l with _ | ⟨a, l⟩
  · simp at hl; omega
  · obtain ⟨m, rfl⟩ : ∃ m, n = m + 1 := ⟨n - 1, by omega⟩
    simp
theorem bareL_more (l r : List UInt8) (h : bareL l = true) : bareL (l.take (sgL l) ++ r) = true := by
  rw [bareL_iff] at h ⊢
  have hle := sgL_le l
  rw [sgL_more l r h.1, head_take l r _ h.1 hle.1]
  exact h
theorem take_drop_more (l r : List UInt8) (n : Nat) (hl : n ≤ l.length) : (l.take n ++ r).take n = l.take n ∧ (l.take n ++ r).drop n = r := by
  have hn : (l.take n).length = n := by rw [List.length_take]; omega
  exact ⟨by rw [List.take_append_of_le_length (by omega), List.take_of_length_le (by omega)], by rw [List.drop_append_of_le_length (by omega), List.drop_of_length_le (by omega)]; rfl⟩
/-- Where a sign does not stand bare it is one byte. -/
theorem st_one (l : List UInt8) (hl : l ≠ []) (h : bareL l = false) : stL l = 1 := by
  unfold stL
  by_cases h0 : sgL l = 0
  · rw [if_pos h0]
  · rw [if_neg h0]
    by_cases hb : (l.getD 0 0).toNat < 128
    · exact (decodeL_one l hb hl).2
    · exfalso
      have : bareL l = true := by
        rw [bareL_iff]
        refine ⟨by omega, by omega, ?_, ?_, ?_⟩
        all_goals
          intro h
          rw [h] at hb
          revert hb
          decide
      rw [this] at h
      cases h
theorem hexv_hx (n : Nat) (hn : n < 16) : hexv (hx n).toNat = n ∧ 48 ≤ (hx n).toNat ∧ (hx n).toNat < 127 ∧ (hx n).toNat ≠ 92 := by
  have h16 : n = 0 ∨ n = 1 ∨ n = 2 ∨ n = 3 ∨ n = 4 ∨ n = 5 ∨ n = 6 ∨ n = 7 ∨ n = 8 ∨ n = 9 ∨ n = 10 ∨ n = 11 ∨ n = 12 ∨ n = 13 ∨ n = 14 ∨ n = 15 := by omega
  rcases h16 with rfl | rfl | rfl | rfl | rfl | rfl | rfl | rfl | rfl | rfl | rfl | rfl | rfl | rfl | rfl | rfl <;> decide
theorem escL_cases (c : UInt8) : (∃ x : UInt8, escL c = [92, x] ∧ ∀ r, escR ([92, x] ++ r) = (c, 2)) ∨ (escL c = [92, 120, hx (c.toNat / 16), hx (c.toNat % 16)] ∧ ∀ r, escR ([92, 120, hx (c.toNat / 16), hx (c.toNat % 16)] ++ r) = (c, 4)) := by
  unfold escL
  by_cases h1 : c = 92
  · subst h1; exact .inl ⟨92, rfl, fun r => rfl⟩
  rw [if_neg h1]
  by_cases h2 : c = 39
  · subst h2; exact .inl ⟨39, rfl, fun r => rfl⟩
  rw [if_neg h2]
  by_cases h3 : c = 10
  · subst h3; exact .inl ⟨110, rfl, fun r => rfl⟩
  rw [if_neg h3]
  by_cases h4 : c = 9
  · subst h4; exact .inl ⟨116, rfl, fun r => rfl⟩
  rw [if_neg h4]
  by_cases h5 : c = 13
  · subst h5; exact .inl ⟨114, rfl, fun r => rfl⟩
  rw [if_neg h5]
  refine .inr ⟨rfl, fun r => ?_⟩
  have hc := u8_lt c
  obtain ⟨a1, _⟩ := hexv_hx (c.toNat / 16) (by omega)
  obtain ⟨a2, _⟩ := hexv_hx (c.toNat % 16) (by omega)
  have hq : hexF 0 [hx (c.toNat / 16), hx (c.toNat % 16)] = some c.toNat := by
    rw [hexF, a1, if_pos (by omega), hexF, a2, if_pos (by omega), hexF]
    congr 1
    omega
  simp only [List.cons_append, List.nil_append]
  unfold escR
  simp only
  rw [if_neg (by decide), if_neg (by decide), if_neg (by decide), if_neg (by decide), if_neg (by decide), if_neg (by decide), if_neg (by decide), hq]
  simp
theorem escL_bare (c : UInt8) (r : List UInt8) : bareL (escL c ++ r) = false := by
  have : (escL c ++ r).getD 0 0 = 92 := by
    rcases escL_cases c with ⟨x, h, _⟩ | ⟨h, _⟩ <;> rw [h] <;> rfl
  rw [Bool.eq_false_iff]
  intro h
  rw [bareL_iff, this] at h
  exact h.2.2.2.1 rfl
theorem escL_ne (c : UInt8) (r : List UInt8) : escL c ++ r ≠ [] := by
  rcases escL_cases c with ⟨x, h, _⟩ | ⟨h, _⟩ <;> rw [h] <;> simp
theorem escR_escL (c : UInt8) (r : List UInt8) : escR (escL c ++ r) = (c, (escL c).length) := by
  rcases escL_cases c with ⟨x, h, h2⟩ | ⟨h, h2⟩
  · rw [h, h2]; rfl
  · rw [h, h2]; rfl
/-- What was put in quotes is read as it was. -/
theorem unq_quote : ∀ (f : Nat) (l : List UInt8), l.length ≤ f → ∀ F, (quoteF f l).length ≤ F → unqF F (quoteF f l) = some l
  | 0, l, h, F, _ => by
    have : l = [] := List.length_eq_zero_iff.1 (by omega)
    subst this
    rw [quoteF_nil, unqF_nil]
  | f + 1, l, h, F, hF => by
    by_cases hl : l = []
    · subst hl; rw [quoteF_nil, unqF_nil]
    · have hq : quoteF (f + 1) l = (if bareL l then l.take (sgL l) else escL (l.getD 0 0)) ++ quoteF f (l.drop (stL l)) := by rw [quoteF, if_neg hl]
      have hle := sgL_le l
      have hst := stL_pos l
      have hst2 := stL_le l hl
      rw [hq] at hF ⊢
      by_cases hb : bareL l = true
      · rw [if_pos hb] at hF ⊢
        have h0 := (bareL_iff l).1 hb
        have hs : stL l = sgL l := by unfold stL; rw [if_neg (by omega)]
        rw [hs] at hF ⊢
        rw [List.length_append, List.length_take] at hF
        obtain ⟨F', rfl⟩ : ∃ F', F = F' + 1 := ⟨F - 1, by omega⟩
        have hne : l.take (sgL l) ++ quoteF f (l.drop (sgL l)) ≠ [] := by
          intro h
          have := congrArg List.length h
          have hm : min (sgL l) l.length = sgL l := by omega
          rw [List.length_append, List.length_take, hm, List.length_nil] at this
          omega
        rw [unqF_bare _ _ hne (bareL_more l _ hb), sgL_more l _ h0.1]
        obtain ⟨t1, t2⟩ := take_drop_more l (quoteF f (l.drop (sgL l))) (sgL l) hle.1
        rw [t1, t2, unq_quote f _ (by rw [List.length_drop]; omega) F' (by omega)]
        simp
      · have hb : bareL l = false := by simpa using hb
        rw [hb, if_neg (by simp), st_one l hl hb] at hF ⊢
        have he := escR_escL (l.getD 0 0) (quoteF f (l.drop 1))
        have hlen : 2 ≤ (escL (l.getD 0 0)).length := by
          rcases escL_cases (l.getD 0 0) with ⟨x, h, _⟩ | ⟨h, _⟩ <;> rw [h] <;> simp
        rw [List.length_append] at hF
        obtain ⟨F', rfl⟩ : ∃ F', F = F' + 1 := ⟨F - 1, by omega⟩
        rw [unqF_esc _ _ (escL_ne _ _) (escL_bare _ _) (by rw [he]; simp only; omega), he]
        simp only
        rw [List.drop_append_of_le_length (by omega), List.drop_of_length_le (by omega), List.nil_append, unq_quote f _ (by rw [List.length_drop]; omega) F' (by omega)]
        rcases l with _ | ⟨a, l⟩
        · exact absurd rfl hl
        · simp
theorem unqL_quoteL (l : List UInt8) : unqL (quoteL l) = some l := by
  unfold unqL quoteL
  have h1 : (39 :: (quoteF l.length l ++ [39])).length = (quoteF l.length l).length + 2 := by simp
  rw [h1, if_neg]
  · have h2 : (quoteF l.length l).length + 2 - 2 = (quoteF l.length l).length := by omega
    rw [h2]
    have h3 : ((39 :: (quoteF l.length l ++ [39])).drop 1).take (quoteF l.length l).length = quoteF l.length l := by simp
    rw [h3]
    exact unq_quote _ _ (Nat.le_refl _) _ (Nat.le_refl _)
  · intro h
    rcases h with h | h | h
    · omega
    · simp at h
    · apply h
      have : (quoteF l.length l).length + 2 - 1 = (quoteF l.length l).length + 1 := by omega
      rw [this]
      simp [List.getD]
/-- The document's look at what stands in quotes: from a place on. -/
def plainS : Nat → List UInt8 → Bool
  | 0, l => decide (l.length ≤ 1)
  | f + 1, l => if l.length ≤ 1 then true else if sgL l = 0 ∨ (l.getD 0 0).toNat < 32 ∨ (l.getD 0 0).toNat = 127 ∨ (l.getD 0 0).toNat = 39 then false else plainS f (l.drop (if (l.getD 0 0).toNat = 92 then 2 else sgL l))
theorem plainS_short (F : Nat) (l : List UInt8) (h : l.length ≤ 1) : plainS F l = true := by
  cases F <;> simp [plainS, h]
theorem plainS_go (F : Nat) (l : List UInt8) (n : Nat) (h : 1 < l.length) (h1 : 0 < sgL l) (h2 : 32 ≤ (l.getD 0 0).toNat) (h3 : (l.getD 0 0).toNat ≠ 127) (h4 : (l.getD 0 0).toNat ≠ 39) (hn : (if (l.getD 0 0).toNat = 92 then 2 else sgL l) = n) : plainS (F + 1) l = plainS F (l.drop n) := by
  rw [plainS, if_neg (by omega), if_neg (by omega), hn]
theorem sgL_low (c : UInt8) (r : List UInt8) (h : c.toNat < 128) : sgL (c :: r) = 1 := (decodeL_one (c :: r) (by simpa using h) (by simp)).2
theorem plain_quote : ∀ (f : Nat) (l : List UInt8), l.length ≤ f → ∀ F, (quoteF f l ++ [39]).length ≤ F → plainS F (quoteF f l ++ [39]) = true
  | 0, l, h, F, _ => by
    have : l = [] := List.length_eq_zero_iff.1 (by omega)
    subst this
    rw [quoteF_nil]
    exact plainS_short _ _ (by simp)
  | f + 1, l, h, F, hF => by
    by_cases hl : l = []
    · subst hl; rw [quoteF_nil]; exact plainS_short _ _ (by simp)
    · have hq : quoteF (f + 1) l = (if bareL l then l.take (sgL l) else escL (l.getD 0 0)) ++ quoteF f (l.drop (stL l)) := by rw [quoteF, if_neg hl]
      have hle := sgL_le l
      have hst := stL_pos l
      have hst2 := stL_le l hl
      rw [hq, List.append_assoc] at hF ⊢
      by_cases hb : bareL l = true
      · rw [if_pos hb] at hF ⊢
        have h0 := (bareL_iff l).1 hb
        have hs : stL l = sgL l := by unfold stL; rw [if_neg (by omega)]
        rw [hs] at hF ⊢
        rw [List.length_append, List.length_take] at hF
        obtain ⟨F', rfl⟩ : ∃ F', F = F' + 1 := ⟨F - 1, by omega⟩
        have hR : (quoteF f (l.drop (sgL l)) ++ [39]).length = (quoteF f (l.drop (sgL l))).length + 1 := by simp
        have hh := head_take l (quoteF f (l.drop (sgL l)) ++ [39]) _ h0.1 hle.1
        have hsg := sgL_more l (quoteF f (l.drop (sgL l)) ++ [39]) h0.1
        have n92 : (l.getD 0 0).toNat ≠ 92 := fun e => h0.2.2.2.1 (UInt8.toNat_inj.1 (by rw [e]; rfl))
        have n39 : (l.getD 0 0).toNat ≠ 39 := fun e => h0.2.2.2.2 (UInt8.toNat_inj.1 (by rw [e]; rfl))
        have n127 : (l.getD 0 0).toNat ≠ 127 := fun e => h0.2.2.1 (UInt8.toNat_inj.1 (by rw [e]; rfl))
        rw [plainS_go F' _ (sgL l) (by rw [List.length_append, List.length_take]; omega) (by rw [hsg]; exact h0.1) (by rw [hh]; exact h0.2.1) (by rw [hh]; exact n127) (by rw [hh]; exact n39) (by rw [hh, if_neg n92, hsg])]
        rw [(take_drop_more l _ (sgL l) hle.1).2]
        exact plain_quote f _ (by rw [List.length_drop]; omega) F' (by omega)
      · have hb : bareL l = false := by simpa using hb
        rw [hb, if_neg (by simp), st_one l hl hb] at hF ⊢
        generalize hR : quoteF f (l.drop 1) ++ [39] = R at hF ⊢
        have hR1 : 1 ≤ R.length := by rw [← hR]; simp
        have ih : ∀ F', R.length ≤ F' → plainS F' R = true := fun F' h' => by
          rw [← hR] at h' ⊢
          exact plain_quote f _ (by rw [List.length_drop]; omega) F' h'
        rw [List.length_append] at hF
        rcases escL_cases (l.getD 0 0) with ⟨x, hex, _⟩ | ⟨hex, _⟩
        · rw [hex] at hF ⊢
          simp only [List.length_cons, List.length_nil] at hF
          obtain ⟨F', rfl⟩ : ∃ F', F = F' + 1 := ⟨F - 1, by omega⟩
          rw [plainS_go F' _ 2 (by simp) (by rw [List.cons_append, sgL_low _ _ (by decide)]; omega) (by show 32 ≤ (92 : UInt8).toNat; decide) (by show (92 : UInt8).toNat ≠ 127; decide) (by show (92 : UInt8).toNat ≠ 39; decide) (by rfl)]
          exact ih F' (by omega)
        · rw [hex] at hF ⊢
          simp only [List.length_cons, List.length_nil] at hF
          obtain ⟨F', rfl⟩ : ∃ F', F = F' + 1 + 1 + 1 := ⟨F - 3, by omega⟩
          have hc := u8_lt (l.getD 0 0)
          obtain ⟨_, a1, a2, a3⟩ := hexv_hx ((l.getD 0 0).toNat / 16) (by omega)
          obtain ⟨_, b1, b2, b3⟩ := hexv_hx ((l.getD 0 0).toNat % 16) (by omega)
          generalize hx ((l.getD 0 0).toNat / 16) = p at a1 a2 a3 ⊢
          generalize hx ((l.getD 0 0).toNat % 16) = q at b1 b2 b3 ⊢
          rw [plainS_go _ _ 2 (by simp) (by rw [List.cons_append, sgL_low _ _ (by decide)]; omega) (by show 32 ≤ (92 : UInt8).toNat; decide) (by show (92 : UInt8).toNat ≠ 127; decide) (by show (92 : UInt8).toNat ≠ 39; decide) (by rfl)]
          have e1 : ([92, 120, p, q] ++ R).drop 2 = p :: q :: R := rfl
          have s1 := sgL_low p (q :: R) (by omega)
          have s2 := sgL_low q R (by omega)
          rw [e1, plainS_go _ _ 1 (by simp) (by rw [s1]; omega) (by simp; omega) (by simp; omega) (by simp; omega) (by rw [s1]; simp [a3])]
          have e2 : (p :: q :: R).drop 1 = q :: R := rfl
          rw [e2, plainS_go _ _ 1 (by simp; omega) (by rw [s2]; omega) (by simp; omega) (by simp; omega) (by simp; omega) (by rw [s2]; simp [b3])]
          exact ih F' (by omega)
end Sh
end Go.Proofs.YtoaliaohbpdibaaDoor
