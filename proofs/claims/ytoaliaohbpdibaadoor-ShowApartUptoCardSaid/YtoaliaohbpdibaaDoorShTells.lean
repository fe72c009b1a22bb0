/- Show, plain: a text tells its value, whatever stands behind it: the parts. -/
import Derived.Test.YtoaliaohbpdibaaDoorShLawPlain
import Derived.Test.YtoaliaohbpdibaaDoorShTree
namespace Go.Proofs.YtoaliaohbpdibaaDoor
set_option linter.unusedVariables false
set_option linter.unusedSimpArgs false
namespace Sh
theorem head_esc (c : UInt8) (r : List UInt8) : (escL c ++ r).getD 0 0 = 92 := by
  rcases escL_cases c with ⟨x, h, _⟩ | ⟨h, _⟩ <;> rw [h] <;> rfl
theorem quoteF_more (f : Nat) (l : List UInt8) (hl : l ≠ []) : quoteF (f + 1) l = (if bareL l then l.take (sgL l) else escL (l.getD 0 0)) ++ quoteF f (l.drop (stL l)) := by rw [quoteF, if_neg hl]
/-- Of a text in quotes with more behind it: where it does not end its first byte is no quote; whether a sign stands bare, and which, the bytes tell. -/
theorem quote_first (f : Nat) (l r : List UInt8) (hl : l ≠ []) (h : l.length ≤ f + 1) : (quoteF (f + 1) l ++ 39 :: r).getD 0 0 ≠ 39 := by
  rw [quoteF_more f l hl, List.append_assoc]
  by_cases hb : bareL l = true
  · rw [if_pos hb]
    have h0 := (bareL_iff l).1 hb
    rw [head_take l _ _ h0.1 (sgL_le l).1]
    exact h0.2.2.2.2
  · rw [if_neg hb, head_esc]
    decide
theorem quote_prefix : ∀ (f g : Nat) (l m r r' : List UInt8), l.length ≤ f → m.length ≤ g → quoteF f l ++ 39 :: r = quoteF g m ++ 39 :: r' → l = m ∧ r = r' := by
  intro f
  induction f with
  | zero =>
    intro g l m r r' h1 h2 he
    have : l = [] := List.length_eq_zero_iff.1 (by omega)
    subst this
    rw [quoteF_nil, List.nil_append] at he
    by_cases hm : m = []
    · subst hm
      rw [quoteF_nil, List.nil_append] at he
      exact ⟨rfl, by injection he⟩
    · obtain ⟨g', rfl⟩ : ∃ g', g = g' + 1 := ⟨g - 1, by have := List.length_pos_iff.2 hm; omega⟩
      exact absurd (by rw [← he]; rfl) (quote_first g' m r' hm h2)
  | succ f ih =>
    intro g l m r r' h1 h2 he
    by_cases hl : l = []
    · subst hl
      rw [quoteF_nil, List.nil_append] at he
      by_cases hm : m = []
      · subst hm
        rw [quoteF_nil, List.nil_append] at he
        exact ⟨rfl, by injection he⟩
      · obtain ⟨g', rfl⟩ : ∃ g', g = g' + 1 := ⟨g - 1, by have := List.length_pos_iff.2 hm; omega⟩
        exact absurd (by rw [← he]; rfl) (quote_first g' m r' hm h2)
    · by_cases hm : m = []
      · subst hm
        rw [quoteF_nil, List.nil_append] at he
        exact absurd (by rw [he]; rfl) (quote_first f l r hl h1)
      · obtain ⟨g', rfl⟩ : ∃ g', g = g' + 1 := ⟨g - 1, by have := List.length_pos_iff.2 hm; omega⟩
        rw [quoteF_more f l hl, quoteF_more g' m hm, List.append_assoc, List.append_assoc] at he
        have d1 := sgL_le l
        have d2 := sgL_le m
        have p1 := stL_pos l
        have p2 := stL_pos m
        by_cases hb : bareL l = true
        · have hbm : bareL m = true := by
            by_cases hbm : bareL m = true
            · exact hbm
            · rw [if_pos hb, if_neg hbm] at he
              have e1 := bareL_more l (quoteF f (l.drop (stL l)) ++ 39 :: r) hb
              rw [he, escL_bare] at e1
              cases e1
          rw [if_pos hb, if_pos hbm] at he
          have b1 := ((bareL_iff l).1 hb).1
          have b2 := ((bareL_iff m).1 hbm).1
          have s1 := sgL_more l (quoteF f (l.drop (stL l)) ++ 39 :: r) b1
          have s2 := sgL_more m (quoteF g' (m.drop (stL m)) ++ 39 :: r') b2
          rw [he, s2] at s1
          obtain ⟨t1, t2⟩ := take_drop_more l (quoteF f (l.drop (stL l)) ++ 39 :: r) (sgL l) d1.1
          obtain ⟨t3, t4⟩ := take_drop_more m (quoteF g' (m.drop (stL m)) ++ 39 :: r') (sgL m) d2.1
          have k1 : stL l = sgL l := by unfold stL; rw [if_neg (by omega)]
          have k2 : stL m = sgL m := by unfold stL; rw [if_neg (by omega)]
          rw [he, ← s1] at t1 t2
          rw [t3] at t1
          rw [t4] at t2
          obtain ⟨i1, i2⟩ := ih g' (l.drop (stL l)) (m.drop (stL m)) r r' (by rw [List.length_drop]; omega) (by rw [List.length_drop]; omega) t2.symm
          refine ⟨?_, i2⟩
          rw [k1, k2] at i1
          rw [← List.take_append_drop (sgL l) l, ← List.take_append_drop (sgL m) m, i1, ← s1, ← t1, s1]
        · have hb : bareL l = false := by simpa using hb
          have hbm : bareL m = false := by
            by_cases hbm : bareL m = true
            · rw [if_neg (by rw [hb]; simp), if_pos hbm] at he
              have e1 := bareL_more m (quoteF g' (m.drop (stL m)) ++ 39 :: r') hbm
              rw [← he, escL_bare] at e1
              cases e1
            · simpa using hbm
          rw [hb, hbm, if_neg (by simp), if_neg (by simp)] at he
          have e1 := escR_escL (l.getD 0 0) (quoteF f (l.drop (stL l)) ++ 39 :: r)
          rw [he, escR_escL] at e1
          injection e1 with e2 e3
          rw [e2] at he
          have he2 := List.append_cancel_left he
          obtain ⟨i1, i2⟩ := ih g' (l.drop (stL l)) (m.drop (stL m)) r r' (by rw [List.length_drop]; omega) (by rw [List.length_drop]; omega) he2
          refine ⟨?_, i2⟩
          rw [st_one l hl hb, st_one m hm hbm] at i1
          rcases l with _ | ⟨a, l⟩
          · exact absurd rfl hl
          · rcases m with _ | ⟨c, m⟩
            · exact absurd rfl hm
            · simp at e2 i1
              rw [e2, i1]
theorem quoteL_prefix (l m r r' : List UInt8) (h : quoteL l ++ r = quoteL m ++ r') : l = m ∧ r = r' := by
  unfold quoteL at h
  simp only [List.cons_append, List.append_assoc, List.cons.injEq, true_and, List.singleton_append, List.nil_append] at h
  exact quote_prefix l.length m.length l m r r' (Nat.le_refl _) (Nat.le_refl _) h
/-- Where all bytes ahead meet p and the next one does not, the bytes ahead are told. -/
theorem span_eq (p : UInt8 → Bool) : ∀ (a b r r' : List UInt8), (∀ x ∈ a, p x = true) → (∀ x ∈ b, p x = true) → (r = [] ∨ p (r.getD 0 0) = false) → (r' = [] ∨ p (r'.getD 0 0) = false) → a ++ r = b ++ r' → a = b ∧ r = r'
  | [], [], r, r', _, _, _, _, h => ⟨rfl, h⟩
  | [], y :: b, r, r', _, hb, hr, _, h => by
    exfalso
    rw [List.nil_append] at h
    subst h
    rcases hr with hr | hr
    · cases hr
    · simp at hr
      rw [hb y (by simp)] at hr
      cases hr
  | x :: a, [], r, r', ha, _, _, hr, h => by
    exfalso
    rw [List.nil_append] at h
    subst h
    rcases hr with hr | hr
    · cases hr
    · simp at hr
      rw [ha x (by simp)] at hr
      cases hr
  | x :: a, y :: b, r, r', ha, hb, hr, hr', h => by
    rw [List.cons_append, List.cons_append, List.cons.injEq] at h
    obtain ⟨i1, i2⟩ := span_eq p a b r r' (fun z hz => ha z (by simp [hz])) (fun z hz => hb z (by simp [hz])) hr hr' h.2
    exact ⟨by rw [h.1, i1], i2⟩
open Val (VT)
def isNum (c : UInt8) : Bool := c == 45 || (decide (48 ≤ c.toNat) && decide (c.toNat ≤ 57))
theorem digs_in : ∀ (N k : Nat), k ≤ N → ∀ z ∈ Num.digs k, 48 ≤ z ∧ z ≤ 57
  | 0, k, hk, z, hz => by
    rw [Num.digs_lt (by omega)] at hz
    simp at hz
    omega
  | N + 1, k, hk, z, hz => by
    by_cases h : k < 10
    · rw [Num.digs_lt h] at hz
      simp at hz
      omega
    · rw [Num.digs_ge (by omega)] at hz
      rcases List.mem_append.1 hz with hz | hz
      · exact digs_in N (k / 10) (by omega) z hz
      · simp at hz
        omega
theorem num_of {z : Int} (h : z = 45 ∨ (48 ≤ z ∧ z ≤ 57)) : isNum (UInt8.ofNat z.toNat) = true := by
  have h11 : z = 45 ∨ z = 48 ∨ z = 49 ∨ z = 50 ∨ z = 51 ∨ z = 52 ∨ z = 53 ∨ z = 54 ∨ z = 55 ∨ z = 56 ∨ z = 57 := by omega
  rcases h11 with rfl | rfl | rfl | rfl | rfl | rfl | rfl | rfl | rfl | rfl | rfl <;> decide
theorem textU_num (n : Int) : ∀ x ∈ Num.textU n, isNum x = true := by
  intro x hx
  unfold Num.textU at hx
  obtain ⟨z, hz, rfl⟩ := List.mem_map.1 hx
  apply num_of
  unfold Num.textN at hz
  split at hz
  · rcases List.mem_cons.1 hz with rfl | hz
    · exact .inl rfl
    · exact .inr (digs_in _ _ (Nat.le_refl _) z hz)
  · exact .inr (digs_in _ _ (Nat.le_refl _) z hz)
/-- A number with what cannot be of it behind. -/
theorem textU_prefix (n m : Int) (r r' : List UInt8) (h1 : r = [] ∨ isNum (r.getD 0 0) = false) (h2 : r' = [] ∨ isNum (r'.getD 0 0) = false) (h : Num.textU n ++ r = Num.textU m ++ r') : n = m ∧ r = r' := by
  obtain ⟨e, hr⟩ := span_eq isNum _ _ r r' (textU_num n) (textU_num m) h1 h2 h
  refine ⟨?_, hr⟩
  rw [← (Num.parse_textU n).2, ← (Num.parse_textU m).2, e]
theorem key_prefix (a b r r' : List UInt8) (h : keyL a ++ 58 :: r = keyL b ++ 58 :: r') : a = b ∧ r = r' := by
  have nm : ∀ l : List UInt8, nameL l = true → (∀ x ∈ l, (letB x.toNat || digB x.toNat) = true) ∧ letB (l.getD 0 0).toNat = true ∧ 1 ≤ l.length := fun l hl => by
    unfold nameL at hl
    simp only [Bool.and_eq_true, decide_eq_true_eq, List.all_eq_true] at hl
    exact ⟨hl.2, hl.1.2, hl.1.1.1⟩
  have p58 : ∀ x : List UInt8, ((58 :: x) = [] ∨ (fun c : UInt8 => letB c.toNat || digB c.toNat) ((58 :: x).getD 0 0) = false) := fun x => .inr (by show (letB (58 : UInt8).toNat || digB (58 : UInt8).toNat) = false; decide)
  have mix : ∀ (x y s t : List UInt8), nameL x = true → x ++ s = quoteL y ++ t → False := fun x y s t hx he => by
    obtain ⟨_, n2, n3⟩ := nm x hx
    rcases x with _ | ⟨c, x⟩
    · simp at n3
    · unfold quoteL at he
      rw [List.cons_append, List.cons_append, List.cons.injEq] at he
      rw [List.getD_cons_zero, he.1] at n2
      revert n2
      decide
  unfold keyL at h
  by_cases ha : nameL a = true
  · by_cases hb : nameL b = true
    · rw [if_pos ha, if_pos hb] at h
      obtain ⟨i1, i2⟩ := span_eq (fun c => letB c.toNat || digB c.toNat) a b _ _ (nm a ha).1 (nm b hb).1 (p58 r) (p58 r') h
      exact ⟨i1, by injection i2⟩
    · rw [if_pos ha, if_neg hb] at h
      exact (mix _ _ _ _ ha h).elim
  · by_cases hb : nameL b = true
    · rw [if_neg ha, if_pos hb] at h
      exact (mix _ _ _ _ hb h.symm).elim
    · rw [if_neg ha, if_neg hb] at h
      obtain ⟨i1, i2⟩ := quoteL_prefix a b _ _ h
      exact ⟨i1, by injection i2⟩
open Val (VT)
mutual
/-- What a value has no use for is empty. -/
def cleanV : VT → Prop
  | .mk k b n s l ks => (0 ≤ k ∧ k ≤ 7) ∧ (k ≠ 1 → b = false) ∧ (k ≠ 2 → k ≠ 6 → k ≠ 7 → n = 0) ∧ (k ≠ 3 → s.data.toList = []) ∧ (k ≠ 4 → k ≠ 5 → l = []) ∧ (k ≠ 5 → ks = []) ∧ (k = 5 → ks.length = l.length) ∧ cleanL l
def cleanL : List VT → Prop
  | [] => True
  | t :: ts => cleanV t ∧ cleanL ts
end
/-- The kind that a text tells. -/
def kindB (l : List UInt8) : Int :=
  if l.getD 0 0 = 110 then 0 else if l.getD 0 0 = 116 ∨ l.getD 0 0 = 102 then 1 else if l.getD 0 0 = 39 then 3 else if l.getD 0 0 = 91 then 4 else if l.getD 0 0 = 123 then 5 else if l.getD 0 0 = 35 then (if l.getD 1 0 = 110 then 6 else 7) else if isNum (l.getD 0 0) then 2 else 8
theorem textU_head (n : Int) (r : List UInt8) : isNum ((Num.textU n ++ r).getD 0 0) = true := by
  have h1 := textU_num n
  have h2 : 1 ≤ (Num.textU n).length := by
    unfold Num.textU Num.textN
    rw [List.length_map]
    have : ∀ k, 1 ≤ (Num.digs k).length := fun k => by
      by_cases h : k < 10
      · rw [Num.digs_lt h]; simp
      · rw [Num.digs_ge (by omega)]; simp
    split
    · simp
    · exact this _
  rcases hq : Num.textU n with _ | ⟨c, tl⟩
  · rw [hq] at h2; simp at h2
  · rw [hq] at h1
    exact h1 c (by simp)
theorem kindB_num (l : List UInt8) (h : isNum (l.getD 0 0) = true) : kindB l = 2 := by
  unfold kindB
  generalize l.getD 0 0 = c at *
  rw [if_neg (by rintro rfl; revert h; decide), if_neg (by rintro (rfl | rfl) <;> (revert h; decide)), if_neg (by rintro rfl; revert h; decide), if_neg (by rintro rfl; revert h; decide), if_neg (by rintro rfl; revert h; decide), if_neg (by rintro rfl; revert h; decide), if_pos h]
theorem kindB_show (k : Int) (b : Bool) (n : Int) (s : ByteArray) (l : List VT) (ks : List ByteArray) (r : List UInt8) (h0 : 0 ≤ k) (h7 : k ≤ 7) : kindB (showB (.mk k b n s l ks) ++ r) = k := by
  have h8 : k = 0 ∨ k = 1 ∨ k = 2 ∨ k = 3 ∨ k = 4 ∨ k = 5 ∨ k = 6 ∨ k = 7 := by omega
  unfold showB
  rcases h8 with rfl | rfl | rfl | rfl | rfl | rfl | rfl | rfl
  · rfl
  · cases b <;> rfl
  · exact kindB_num _ (textU_head n r)
  · rfl
  · rfl
  · rfl
  · rfl
  · rfl
/-- No value's text begins as a list or a map ends, or goes on. -/
theorem kindB_end (c : UInt8) (r : List UInt8) (hc : c = 44 ∨ c = 93 ∨ c = 125) : kindB (c :: r) = 8 := by
  rcases hc with rfl | rfl | rfl <;> rfl
theorem key_head (a r : List UInt8) (c : UInt8) (hc : c = 44 ∨ c = 93 ∨ c = 125) (x : List UInt8) : keyL a ++ r ≠ c :: x := by
  intro h
  unfold keyL at h
  split at h
  · rename_i hn
    unfold nameL at hn
    simp only [Bool.and_eq_true, decide_eq_true_eq, List.all_eq_true] at hn
    rcases a with _ | ⟨y, a⟩
    · simp at hn
    · rw [List.cons_append, List.cons.injEq] at h
      have h2 := hn.1.2
      rw [List.getD_cons_zero, h.1] at h2
      rcases hc with rfl | rfl | rfl <;> (revert h2; decide)
  · unfold quoteL at h
    rw [List.cons_append, List.cons.injEq] at h
    rcases hc with rfl | rfl | rfl <;> (revert h; simp)
/-- What may stand behind a value's text. -/
def Stops (r : List UInt8) : Prop := r = [] ∨ ∃ c x, r = c :: x ∧ (c = 44 ∨ c = 93 ∨ c = 125)
theorem Stops.num {r : List UInt8} (h : Stops r) : r = [] ∨ isNum (r.getD 0 0) = false := by
  rcases h with h | ⟨c, x, rfl, hc⟩
  · exact .inl h
  · refine .inr ?_
    rcases hc with rfl | rfl | rfl <;> rfl
theorem parts_stop (ts : List VT) (m : Bool) (ks : List ByteArray) (c : UInt8) (r : List UInt8) (hc : c = 93 ∨ c = 125) : Stops (partsB ts m false ks ++ c :: r) := by
  cases ts with
  | nil => exact .inr ⟨c, r, by rw [partsB]; rfl, .inr hc⟩
  | cons t ts => exact .inr ⟨44, _, by rw [partsB]; rfl, .inl rfl⟩
/-- Parts that are told begin otherwise than where there are none. -/
theorem parts_none (t : VT) (ts : List VT) (m first : Bool) (ks : List ByteArray) (c : UInt8) (r r' : List UInt8) (hc : c = 93 ∨ c = 125) (ht : cleanV t) (h : partsB (t :: ts) m first ks ++ c :: r = c :: r') : False := by
  unfold partsB at h
  cases first with
  | false =>
    simp only [Bool.false_eq_true, if_false, List.cons_append, List.cons.injEq] at h
    rcases hc with rfl | rfl <;> (revert h; simp)
  | true =>
    simp only [if_true, List.nil_append, List.append_assoc] at h
    cases m with
    | true =>
      simp only [if_true, List.append_assoc] at h
      exact key_head _ _ c (.inr hc) _ h
    | false =>
      simp only [Bool.false_eq_true, if_false, List.nil_append] at h
      obtain ⟨k, b, n, s, l, ks'⟩ := t
      unfold cleanV at ht
      have e := kindB_show k b n s l ks' (partsB ts false false ks.tail ++ c :: r) ht.1.1 ht.1.2
      rw [h, kindB_end c _ (.inr hc)] at e
      omega
end Sh
end Go.Proofs.YtoaliaohbpdibaaDoor
