/- Keys, plain: byte by byte they stand as the values do. -/
import Derived.Test.YtlmebeiopnfmdaaDoorRkPlain
import Derived.Test.YtlmebeiopnfmdaaDoorOrdPlain
namespace Go.Proofs.YtlmebeiopnfmdaaDoor
open Go.RowKit
set_option linter.unusedVariables false
set_option linter.unusedSimpArgs false
namespace Rk
open Val (VT okN okNL mayB orE cmpV ofV placeV flatV ordV lexP Mode allV allL formedV orE_assoc cmpV_zero cmpB_zero)
theorem cmp_cons (x y : UInt8) (a b : List UInt8) : Lib.compareBytes (x :: a) (y :: b) = orE (cmpV (x.toNat : Int) (y.toNat : Int)) (Lib.compareBytes a b) := by
  rw [Lib.compareBytes]
  unfold Val.orE Val.cmpV
  by_cases h1 : x < y
  · have h1' : (x.toNat : Int) < (y.toNat : Int) := by have := UInt8.lt_iff_toNat_lt.1 h1; omega
    rw [if_pos h1, if_pos h1']; rfl
  · have h1' : ¬ (x.toNat : Int) < (y.toNat : Int) := fun h => h1 (UInt8.lt_iff_toNat_lt.2 (by omega))
    rw [if_neg h1, if_neg h1']
    by_cases h2 : y < x
    · have h2' : (y.toNat : Int) < (x.toNat : Int) := by have := UInt8.lt_iff_toNat_lt.1 h2; omega
      rw [if_pos h2, if_pos h2']; rfl
    · have h2' : ¬ (y.toNat : Int) < (x.toNat : Int) := fun h => h2 (UInt8.lt_iff_toNat_lt.2 (by omega))
      rw [if_neg h2, if_neg h2']; rfl
theorem orE_z (x : Int) : orE 0 x = x := rfl
theorem orE_nz {x : Int} (h : x ≠ 0) (y z : Int) : orE x y = orE x z := by unfold Val.orE; rw [if_neg h, if_neg h]
theorem cmpV_self (x : Int) : cmpV x x = 0 := (cmpV_zero x x).2 rfl
/-! ### Numbers -/
theorem cmp_step (x y : Nat) : cmpV (x : Int) (y : Int) = orE (cmpV ((x / 256 : Nat) : Int) ((y / 256 : Nat) : Int)) (cmpV ((x % 256 : Nat) : Int) ((y % 256 : Nat) : Int)) := by
  unfold Val.orE Val.cmpV
  have hx := Nat.div_add_mod x 256
  have hy := Nat.div_add_mod y 256
  have h1 := Nat.mod_lt x (show 0 < 256 by decide)
  have h2 := Nat.mod_lt y (show 0 < 256 by decide)
  generalize x / 256 = p at *
  generalize x % 256 = q at *
  generalize y / 256 = p' at *
  generalize y % 256 = q' at *
  subst hx hy
  by_cases a1 : p < p'
  · rw [if_pos (by omega), if_pos (show (p : Int) < p' by omega)]; rfl
  · by_cases a2 : p' < p
    · rw [if_neg (by omega), if_pos (by omega), if_neg (show ¬ (p : Int) < p' by omega), if_pos (show (p' : Int) < p by omega)]; rfl
    · obtain rfl : p = p' := by omega
      rw [if_neg (show ¬ (p : Int) < p by omega), if_neg (show ¬ (p : Int) < p by omega), if_pos rfl]
      by_cases b1 : q < q'
      · rw [if_pos (by omega), if_pos (by omega)]
      · by_cases b2 : q' < q
        · rw [if_neg (by omega), if_pos (by omega), if_neg (show ¬ (q : Int) < q' by omega), if_pos (show (q' : Int) < q by omega)]
        · rw [if_neg (by omega), if_neg (by omega), if_neg (show ¬ (q : Int) < q' by omega), if_neg (show ¬ (q' : Int) < q by omega)]
theorem cmp_dig (a b k : Nat) (r : Int) : orE (cmpV ((a / 256 ^ (k + 1) : Nat) : Int) ((b / 256 ^ (k + 1) : Nat) : Int)) (orE (cmpV ((dig a k).toNat : Int) ((dig b k).toNat : Int)) r) = orE (cmpV ((a / 256 ^ k : Nat) : Int) ((b / 256 ^ k : Nat) : Int)) r := by
  have hd : ∀ n, (dig n k).toNat = n / 256 ^ k % 256 := fun n => by unfold dig; simp
  rw [hd, hd, ← orE_assoc, cmp_step (a / 256 ^ k), Nat.div_div_eq_div_mul, Nat.div_div_eq_div_mul, ← Nat.pow_succ]
theorem be8_cmp (a b : Nat) (ha : a < 18446744073709551616) (hb : b < 18446744073709551616) (r r' : List UInt8) : Lib.compareBytes (be8 a ++ r) (be8 b ++ r') = orE (cmpV (a : Int) (b : Int)) (Lib.compareBytes r r') := by
  unfold be8
  simp only [List.cons_append, List.nil_append, cmp_cons]
  have h8 : ∀ x : Int, x = orE (cmpV ((a / 256 ^ (7 + 1) : Nat) : Int) ((b / 256 ^ (7 + 1) : Nat) : Int)) x := fun x => by
    rw [Nat.div_eq_of_lt (show a < 256 ^ (7 + 1) by omega), Nat.div_eq_of_lt (show b < 256 ^ (7 + 1) by omega)]; rfl
  rw [h8 (orE (cmpV ((dig a 7).toNat : Int) _) _), cmp_dig a b 7, cmp_dig a b 6, cmp_dig a b 5, cmp_dig a b 4, cmp_dig a b 3, cmp_dig a b 2, cmp_dig a b 1, cmp_dig a b 0]
  simp
/-! ### Ended texts -/
theorem u8_pos {c : UInt8} (h : c ≠ 0) : 0 < c.toNat := by
  rcases Nat.eq_zero_or_pos c.toNat with h0 | h0
  · exact absurd (UInt8.toNat_inj.1 (by simpa using h0)) h
  · exact h0
theorem cmp_lt {a b : Int} (h : a < b) : cmpV a b = -1 := by unfold Val.cmpV; rw [if_pos h]
theorem cmp_gt {a b : Int} (h : b < a) : cmpV a b = 1 := by unfold Val.cmpV; rw [if_neg (by omega), if_pos h]
theorem orE_m (x : Int) : orE (-1) x = -1 := rfl
theorem orE_p (x : Int) : orE 1 x = 1 := rfl
theorem zz : ((0 : UInt8).toNat : Int) = 0 := rfl
theorem ff : ((255 : UInt8).toNat : Int) = 255 := rfl
theorem end_cmp : ∀ (s s' r r' : List UInt8), Lib.compareBytes (escZ s ++ (0 :: 0 :: r)) (escZ s' ++ (0 :: 0 :: r')) = orE (Lib.compareBytes s s') (Lib.compareBytes r r')
  | [], [], r, r' => by
    show Lib.compareBytes (0 :: 0 :: r) (0 :: 0 :: r') = _
    rw [cmp_cons, cmp_cons, cmpV_self]
    rfl
  | [], c :: t, r, r' => by
    rw [escZ, List.nil_append]
    show _ = orE (-1) _
    rw [orE_m, escZ]
    split
    · simp only [List.cons_append, List.nil_append, cmp_cons, cmpV_self, orE_z, zz, ff]
      rw [cmp_lt (by omega), orE_m]
    · rename_i hc
      have := u8_pos hc
      simp only [List.cons_append, List.nil_append, cmp_cons, zz]
      rw [cmp_lt (by omega), orE_m]
  | c :: t, [], r, r' => by
    rw [show escZ ([] : List UInt8) = [] from rfl, List.nil_append]
    show _ = orE 1 _
    rw [orE_p, escZ]
    split
    · simp only [List.cons_append, List.nil_append, cmp_cons, cmpV_self, orE_z, zz, ff]
      rw [cmp_gt (by omega), orE_p]
    · rename_i hc
      have := u8_pos hc
      simp only [List.cons_append, List.nil_append, cmp_cons, zz]
      rw [cmp_gt (by omega), orE_p]
  | c :: t, d :: u, r, r' => by
    have ih := end_cmp t u r r'
    rw [escZ, escZ, cmp_cons c d t u]
    by_cases hc : c = 0
    · by_cases hd : d = 0
      · subst hc hd
        simp only [if_true, List.cons_append, List.nil_append, cmp_cons, cmpV_self, orE_z]
        exact ih
      · have := u8_pos hd
        subst hc
        simp only [if_true, if_neg hd, List.cons_append, List.nil_append, cmp_cons, zz]
        rw [cmp_lt (by omega), orE_m, orE_m, orE_m]
    · by_cases hd : d = 0
      · have := u8_pos hc
        subst hd
        simp only [if_true, if_neg hc, List.cons_append, List.nil_append, cmp_cons, zz]
        rw [cmp_gt (by omega), orE_p, orE_p, orE_p]
      · simp only [if_neg hc, if_neg hd, List.cons_append, List.nil_append, cmp_cons]
        rw [ih, orE_assoc]
theorem endB_cmp (s s' r r' : List UInt8) : Lib.compareBytes (endB s ++ r) (endB s' ++ r') = orE (Lib.compareBytes s s') (Lib.compareBytes r r') := by
  unfold endB
  rw [List.append_assoc, List.append_assoc]
  exact end_cmp s s' r r'
/-! ### Keys -/
theorem keyB_head (t : VT) (h0 : 0 ≤ t.kind) (h7 : t.kind ≤ 7) : ∃ c l, keyB t = c :: l ∧ (c.toNat : Int) = placeV t.kind + 1 := by
  obtain ⟨k, b, n, s, l, ks⟩ := t
  change 0 ≤ k at h0
  change k ≤ 7 at h7
  show ∃ c l', keyB (.mk k b n s l ks) = c :: l' ∧ (c.toNat : Int) = placeV k + 1
  have h8 : k = 0 ∨ k = 1 ∨ k = 2 ∨ k = 3 ∨ k = 4 ∨ k = 5 ∨ k = 6 ∨ k = 7 := by omega
  rcases h8 with rfl | rfl | rfl | rfl | rfl | rfl | rfl | rfl <;> exact ⟨_, _, rfl, rfl⟩
theorem cmpV_succI (a b : Int) : cmpV (a + 1) (b + 1) = cmpV a b := by
  unfold Val.cmpV
  by_cases h1 : a < b
  · rw [if_pos h1, if_pos (by omega)]
  · rw [if_neg h1, if_neg (by omega)]
    by_cases h2 : b < a
    · rw [if_pos h2, if_pos (by omega)]
    · rw [if_neg h2, if_neg (by omega)]
theorem cmpV_add (a b c : Int) : cmpV (a + c) (b + c) = cmpV a b := by
  unfold Val.cmpV
  by_cases h1 : a < b
  · rw [if_pos h1, if_pos (by omega)]
  · rw [if_neg h1, if_neg (by omega)]
    by_cases h2 : b < a
    · rw [if_pos h2, if_pos (by omega)]
    · rw [if_neg h2, if_neg (by omega)]
theorem str_nil {s : ByteArray} (h : s.toList = []) : s.data.toList = [] := by rw [ByteArray.toList_eq] at h; exact h
mutual
theorem key_cmp : ∀ (t u : VT) (r r' : List UInt8), allV formedV t = true → allV formedV u = true → goodV t → goodV u → okN t → okN u → Lib.compareBytes (keyB t ++ r) (keyB u ++ r') = orE (ordV t u) (Lib.compareBytes r r')
  | .mk k b n s l ks, .mk k' b' n' s' l' ks', r, r', ht, hu, gt, gu, ot, ou => by
    rw [allV, Bool.and_eq_true] at ht hu
    obtain ⟨f0, f1, f2, f3, f4, f5, f6⟩ := Val.formed_fields ht.1
    obtain ⟨g0, g1, g2, g3, g4, g5, g6⟩ := Val.formed_fields hu.1
    unfold ordV
    by_cases hk : k = k'
    · subst hk
      rw [Val.lex_of _ _ _ _ (Val.mode_of ht.1 hu.1)]
      have hm := Val.mode_of ht.1 hu.1
      unfold okN at ot ou
      unfold goodV at gt gu
      have h8 : k = 0 ∨ k = 1 ∨ k = 2 ∨ k = 3 ∨ k = 4 ∨ k = 5 ∨ k = 6 ∨ k = 7 := by omega
      rcases h8 with rfl | rfl | rfl | rfl | rfl | rfl | rfl | rfl
      · obtain ⟨rfl, rfl⟩ := f2 (by decide) (by decide)
        obtain ⟨rfl, rfl⟩ := g2 (by decide) (by decide)
        obtain rfl := f4 (by decide)
        obtain rfl := g4 (by decide)
        obtain rfl := f5 (by decide) (by decide) (by decide)
        obtain rfl := g5 (by decide) (by decide) (by decide)
        have hs := str_nil (f6 (by decide))
        have hs' := str_nil (g6 (by decide))
        unfold flatV lexP
        rw [hs, hs']
        simp only [cmpV_self, orE_z]
        show Lib.compareBytes (8 :: r) (8 :: r') = _
        rw [cmp_cons, cmpV_self]; rfl
      · obtain ⟨rfl, rfl⟩ := f2 (by decide) (by decide)
        obtain ⟨rfl, rfl⟩ := g2 (by decide) (by decide)
        obtain rfl := f5 (by decide) (by decide) (by decide)
        obtain rfl := g5 (by decide) (by decide) (by decide)
        have hs := str_nil (f6 (by decide))
        have hs' := str_nil (g6 (by decide))
        unfold flatV lexP
        rw [hs, hs']
        simp only [cmpV_self, orE_z]
        show Lib.compareBytes (6 :: (if b then 1 else 0) :: r) (6 :: (if b' then 1 else 0) :: r') = _
        rw [cmp_cons, cmp_cons, cmpV_self]
        cases b <;> cases b' <;> rfl
      · obtain ⟨rfl, rfl⟩ := f2 (by decide) (by decide)
        obtain ⟨rfl, rfl⟩ := g2 (by decide) (by decide)
        obtain rfl := f4 (by decide)
        obtain rfl := g4 (by decide)
        have hs := str_nil (f6 (by decide))
        have hs' := str_nil (g6 (by decide))
        unfold flatV lexP
        rw [hs, hs']
        simp only [cmpV_self, orE_z]
        show Lib.compareBytes (7 :: (be8 (n + 9223372036854775808).toNat ++ r)) (7 :: (be8 (n' + 9223372036854775808).toNat ++ r')) = _
        rw [cmp_cons, cmpV_self, orE_z, be8_cmp _ _ (by omega) (by omega)]
        rw [show (((n + 9223372036854775808).toNat : Nat) : Int) = n + 9223372036854775808 by omega, show (((n' + 9223372036854775808).toNat : Nat) : Int) = n' + 9223372036854775808 by omega, cmpV_add]
        simp only [orE_assoc]
        rfl
      · obtain ⟨rfl, rfl⟩ := f2 (by decide) (by decide)
        obtain ⟨rfl, rfl⟩ := g2 (by decide) (by decide)
        obtain rfl := f4 (by decide)
        obtain rfl := g4 (by decide)
        obtain rfl := f5 (by decide) (by decide) (by decide)
        obtain rfl := g5 (by decide) (by decide) (by decide)
        unfold flatV lexP
        simp only [cmpV_self, orE_z]
        show Lib.compareBytes (5 :: (endB s.data.toList ++ r)) (5 :: (endB s'.data.toList ++ r')) = _
        rw [cmp_cons, cmpV_self, orE_z, endB_cmp]
        simp only [orE_assoc]
        rfl
      · obtain rfl := f3 (by decide)
        obtain rfl := g3 (by decide)
        obtain rfl := f4 (by decide)
        obtain rfl := g4 (by decide)
        obtain rfl := f5 (by decide) (by decide) (by decide)
        obtain rfl := g5 (by decide) (by decide) (by decide)
        have hs := str_nil (f6 (by decide))
        have hs' := str_nil (g6 (by decide))
        unfold flatV
        rw [hs, hs']
        simp only [cmpV_self, orE_z]
        show Lib.compareBytes (4 :: (partsK l false [] ++ [0] ++ r)) (4 :: (partsK l' false [] ++ [0] ++ r')) = _
        rw [cmp_cons, cmpV_self, orE_z, List.append_assoc, List.append_assoc]
        exact parts_cmp l l' false [] [] r r' ht.2 hu.2 gt.2 gu.2 ot.2 ou.2 (by simp) (by simp)
      · obtain rfl := f4 (by decide)
        obtain rfl := g4 (by decide)
        obtain rfl := f5 (by decide) (by decide) (by decide)
        obtain rfl := g5 (by decide) (by decide) (by decide)
        have hs := str_nil (f6 (by decide))
        have hs' := str_nil (g6 (by decide))
        unfold flatV
        rw [hs, hs']
        simp only [cmpV_self, orE_z]
        show Lib.compareBytes (1 :: (partsK l true ks ++ [0] ++ r)) (1 :: (partsK l' true ks' ++ [0] ++ r')) = _
        rw [cmp_cons, cmpV_self, orE_z, List.append_assoc, List.append_assoc]
        exact parts_cmp l l' true ks ks' r r' ht.2 hu.2 gt.2 gu.2 ot.2 ou.2 (by simp) (fun _ => ⟨gt.1.2.1 rfl, gu.1.2.1 rfl⟩)
      · obtain ⟨rfl, rfl⟩ := f2 (by decide) (by decide)
        obtain ⟨rfl, rfl⟩ := g2 (by decide) (by decide)
        obtain rfl := f4 (by decide)
        obtain rfl := g4 (by decide)
        have hs := str_nil (f6 (by decide))
        have hs' := str_nil (g6 (by decide))
        have hn := gt.1.2.2 (.inl rfl)
        have hn' := gu.1.2.2 (.inl rfl)
        unfold flatV lexP
        rw [hs, hs']
        simp only [cmpV_self, orE_z]
        show Lib.compareBytes (2 :: (be8 n.toNat ++ r)) (2 :: (be8 n'.toNat ++ r')) = _
        rw [cmp_cons, cmpV_self, orE_z, be8_cmp _ _ (by omega) (by omega)]
        rw [show ((n.toNat : Nat) : Int) = n by omega, show ((n'.toNat : Nat) : Int) = n' by omega]
        simp only [orE_assoc]
        rfl
      · obtain ⟨rfl, rfl⟩ := f2 (by decide) (by decide)
        obtain ⟨rfl, rfl⟩ := g2 (by decide) (by decide)
        obtain rfl := f4 (by decide)
        obtain rfl := g4 (by decide)
        have hs := str_nil (f6 (by decide))
        have hs' := str_nil (g6 (by decide))
        have hn := gt.1.2.2 (.inr rfl)
        have hn' := gu.1.2.2 (.inr rfl)
        unfold flatV lexP
        rw [hs, hs']
        simp only [cmpV_self, orE_z]
        show Lib.compareBytes (3 :: (be8 n.toNat ++ r)) (3 :: (be8 n'.toNat ++ r')) = _
        rw [cmp_cons, cmpV_self, orE_z, be8_cmp _ _ (by omega) (by omega)]
        rw [show ((n.toNat : Nat) : Int) = n by omega, show ((n'.toNat : Nat) : Int) = n' by omega]
        simp only [orE_assoc]
        rfl
    · obtain ⟨c, x, e1, e2⟩ := keyB_head (.mk k b n s l ks) f0 f1
      obtain ⟨c', x', e3, e4⟩ := keyB_head (.mk k' b' n' s' l' ks') g0 g1
      rw [e1, e3, List.cons_append, List.cons_append, cmp_cons, e2, e4, cmpV_succI]
      have hne : cmpV (placeV k) (placeV k') ≠ 0 := fun h => hk (Val.place_inj f0 f1 g0 g1 ((cmpV_zero _ _).1 h))
      show orE (cmpV (placeV k) (placeV k')) _ = _
      unfold flatV
      rw [orE_assoc, orE_assoc]
      exact orE_nz hne _ _
theorem parts_cmp : ∀ (l l' : List VT) (m : Bool) (ks ks' : List ByteArray) (r r' : List UInt8), allL formedV l = true → allL formedV l' = true → goodL l → goodL l' → okNL l → okNL l' → (m = false → ks = [] ∧ ks' = []) → (m = true → ks.length = l.length ∧ ks'.length = l'.length) → Lib.compareBytes (partsK l m ks ++ ([0] ++ r)) (partsK l' m ks' ++ ([0] ++ r')) = orE (lexP l l' ks ks') (Lib.compareBytes r r')
  | [], [], m, ks, ks', r, r', _, _, _, _, _, _, _, _ => by
    unfold partsK lexP
    show Lib.compareBytes (0 :: r) (0 :: r') = _
    rw [cmp_cons, cmpV_self]
  | [], u :: us, m, ks, ks', r, r', _, hu, _, gu, _, _, _, _ => by
    unfold goodL at gu
    unfold lexP
    rw [orE_m]
    rw [allL, Bool.and_eq_true] at hu
    have hf : 0 ≤ u.kind ∧ u.kind ≤ 7 := by obtain ⟨k, b, n, s, l, ks⟩ := u; unfold goodV at gu; exact gu.1.1.1
    obtain ⟨c, x, e1, e2⟩ := keyB_head u hf.1 hf.2
    have hp : 0 ≤ placeV u.kind := by
      have := hf.1; have := hf.2
      have h8 : u.kind = 0 ∨ u.kind = 1 ∨ u.kind = 2 ∨ u.kind = 3 ∨ u.kind = 4 ∨ u.kind = 5 ∨ u.kind = 6 ∨ u.kind = 7 := by omega
      rcases h8 with h | h | h | h | h | h | h | h <;> rw [h] <;> decide
    rw [show partsK [] m ks = [] by unfold partsK; rfl]
    unfold partsK
    cases m
    · rw [e1]
      simp only [Bool.false_eq_true, if_false, List.nil_append, List.cons_append, cmp_cons, zz]
      rw [cmp_lt (by omega), orE_m]
    · simp only [if_true, List.nil_append, List.cons_append, cmp_cons, zz]
      rfl
  | t :: ts, [], m, ks, ks', r, r', ht, _, gt, _, _, _, _, _ => by
    unfold goodL at gt
    unfold lexP
    rw [orE_p]
    have hf : 0 ≤ t.kind ∧ t.kind ≤ 7 := by obtain ⟨k, b, n, s, l, ks⟩ := t; unfold goodV at gt; exact gt.1.1.1
    obtain ⟨c, x, e1, e2⟩ := keyB_head t hf.1 hf.2
    have hp : 0 ≤ placeV t.kind := by
      have := hf.1; have := hf.2
      have h8 : t.kind = 0 ∨ t.kind = 1 ∨ t.kind = 2 ∨ t.kind = 3 ∨ t.kind = 4 ∨ t.kind = 5 ∨ t.kind = 6 ∨ t.kind = 7 := by omega
      rcases h8 with h | h | h | h | h | h | h | h <;> rw [h] <;> decide
    rw [show partsK [] m ks' = [] by unfold partsK; rfl]
    unfold partsK
    cases m
    · rw [e1]
      simp only [Bool.false_eq_true, if_false, List.nil_append, List.cons_append, cmp_cons, zz]
      rw [cmp_gt (by omega), orE_p]
    · simp only [if_true, List.nil_append, List.cons_append, cmp_cons, zz]
      rfl
  | t :: ts, u :: us, m, ks, ks', r, r', ht, hu, gt, gu, ot, ou, h0, h1 => by
    rw [allL, Bool.and_eq_true] at ht hu
    unfold goodL at gt gu
    unfold okNL at ot ou
    unfold lexP partsK
    cases m
    · obtain ⟨rfl, rfl⟩ := h0 rfl
      have ih := parts_cmp ts us false [] [] r r' ht.2 hu.2 gt.2 gu.2 ot.2 ou.2 (by simp) (by simp)
      simp only [Bool.false_eq_true, if_false, List.nil_append, List.append_assoc, List.tail_nil]
      rw [key_cmp t u _ _ ht.1 hu.1 gt.1 gu.1 ot.1 ou.1]
      have ih' : Lib.compareBytes (partsK ts false [] ++ 0 :: r) (partsK us false [] ++ 0 :: r') = orE (lexP ts us [] []) (Lib.compareBytes r r') := ih
      rw [show ([0] : List UInt8) ++ r = 0 :: r from rfl, show ([0] : List UInt8) ++ r' = 0 :: r' from rfl, ih', ← orE_assoc]
      rfl
    · obtain ⟨e1, e2⟩ := h1 rfl
      match ks, ks', e1, e2 with
      | k :: ks, k' :: ks', e1, e2 =>
        have ih := parts_cmp ts us true ks ks' r r' ht.2 hu.2 gt.2 gu.2 ot.2 ou.2 (by simp) (fun _ => ⟨by simpa using e1, by simpa using e2⟩)
        simp only [if_true, List.headD_cons, List.tail_cons, List.cons_append, List.append_assoc, cmp_cons, cmpV_self, orE_z]
        rw [endB_cmp, key_cmp t u _ _ ht.1 hu.1 gt.1 gu.1 ot.1 ou.1]
        have ih' : Lib.compareBytes (partsK ts true ks ++ 0 :: r) (partsK us true ks' ++ 0 :: r') = orE (lexP ts us ks ks') (Lib.compareBytes r r') := ih
        rw [if_pos (by simp)]
        simp only [List.nil_append]
        rw [ih', orE_assoc, orE_assoc]
        rfl
end
end Rk
end Go.Proofs.YtlmebeiopnfmdaaDoor
