/- Keys, plain: of which value a text is the key: read off its front in one way alone. -/
import Derived.Test.YtepfihanhdinfaaDoorRkPlain
import Derived.Test.YtepfihanhdinfaaDoorEqPlain
namespace Go.Proofs.YtepfihanhdinfaaDoor
open Go.RowKit
set_option linter.unusedVariables false
set_option linter.unusedSimpArgs false
namespace Rk
open Val (VT okN okNL mayB allV allL formedV)
/-! ### Ended texts -/
/-- The ended text at the front, and what stands behind it. -/
def txt : List UInt8 → Option (List UInt8 × List UInt8)
  | [] => none
  | [_] => none
  | c :: d :: l => if c = 0 then (if d = 0 then some ([], l) else if d = 255 then (txt l).map (fun x => (0 :: x.1, x.2)) else none) else (txt (d :: l)).map (fun x => (c :: x.1, x.2))
theorem txt_end : ∀ (x r : List UInt8), txt (endB x ++ r) = some (x, r)
  | [], r => by simp [endB, escZ, txt]
  | c :: x, r => by
    have ih := txt_end x r
    unfold endB at ih ⊢
    rw [escZ]
    by_cases hc : c = 0
    · subst hc
      simp only [if_true, List.cons_append, List.nil_append]
      rw [txt, if_pos rfl, if_neg (by decide), if_pos rfl, ih]
      rfl
    · rw [if_neg hc]
      simp only [List.cons_append, List.nil_append]
      cases hl : escZ x ++ [0, 0] ++ r with
      | nil => simp at hl
      | cons d l =>
        rw [txt, if_neg hc, ← hl, ih]
        rfl
theorem txt_sound : ∀ (s x r : List UInt8), txt s = some (x, r) → s = endB x ++ r
  | [], x, r, h => by simp [txt] at h
  | [_], x, r, h => by simp [txt] at h
  | c :: d :: l, x, r, h => by
    rw [txt] at h
    by_cases hc : c = 0
    · subst hc
      rw [if_pos rfl] at h
      by_cases hd : d = 0
      · subst hd
        rw [if_pos rfl] at h
        injection h with h
        injection h with h1 h2
        subst h1 h2
        rfl
      · rw [if_neg hd] at h
        by_cases hf : d = 255
        · subst hf
          rw [if_pos rfl, Option.map_eq_some_iff] at h
          obtain ⟨⟨y, q⟩, hy, e⟩ := h
          injection e with e1 e2
          subst e1 e2
          rw [txt_sound l y q hy]
          simp [endB, escZ]
        · rw [if_neg hf] at h; cases h
    · rw [if_neg hc, Option.map_eq_some_iff] at h
      obtain ⟨⟨y, q⟩, hy, e⟩ := h
      injection e with e1 e2
      subst e1 e2
      rw [txt_sound (d :: l) y q hy]
      simp [endB, escZ, hc]
theorem end_inj {x y r r' : List UInt8} (h : endB x ++ r = endB y ++ r') : x = y ∧ r = r' := by
  have h1 := txt_end x r
  rw [h, txt_end] at h1
  injection h1 with h1
  injection h1 with h1 h2
  exact ⟨h1.symm, h2.symm⟩
/-! ### Numbers -/
def numL (l : List UInt8) : Nat := l.foldl (fun a c => a * 256 + c.toNat) 0
theorem dig_nat (n k : Nat) : (dig n k).toNat = n / 256 ^ k % 256 := by unfold dig; simp
theorem num_be8 (n : Nat) (h : n < 18446744073709551616) : numL (be8 n) = n := by
  unfold numL be8
  simp only [List.foldl_cons, List.foldl_nil, dig_nat]
  omega
theorem be8_num : ∀ l : List UInt8, l.length = 8 → be8 (numL l) = l ∧ numL l < 18446744073709551616
  | [a, b, c, d, e, f, g, i], _ => by
    have ha := a.toNat_lt; have hb := b.toNat_lt; have hc := c.toNat_lt; have hd := d.toNat_lt
    have he := e.toNat_lt; have hf := f.toNat_lt; have hg := g.toNat_lt; have hi := i.toNat_lt
    have hn : numL [a, b, c, d, e, f, g, i] = ((((((a.toNat * 256 + b.toNat) * 256 + c.toNat) * 256 + d.toNat) * 256 + e.toNat) * 256 + f.toNat) * 256 + g.toNat) * 256 + i.toNat := by
      unfold numL; simp only [List.foldl_cons, List.foldl_nil]; omega
    rw [hn]
    refine ⟨?_, by omega⟩
    have hdig : ∀ (n k : Nat) (x : UInt8), n / 256 ^ k % 256 = x.toNat → dig n k = x := fun n k x h => UInt8.toNat_inj.1 (by rw [dig_nat, h])
    unfold be8
    rw [hdig _ 7 a (by omega), hdig _ 6 b (by omega), hdig _ 5 c (by omega), hdig _ 4 d (by omega), hdig _ 3 e (by omega), hdig _ 2 f (by omega), hdig _ 1 g (by omega), hdig _ 0 i (by omega)]
theorem be8_len (n : Nat) : (be8 n).length = 8 := rfl
theorem be8_inj {a b : Nat} {r r' : List UInt8} (ha : a < 18446744073709551616) (hb : b < 18446744073709551616) (h : be8 a ++ r = be8 b ++ r') : a = b ∧ r = r' := by
  obtain ⟨h1, h2⟩ := List.append_inj h rfl
  exact ⟨by rw [← num_be8 a ha, h1, num_be8 b hb], h2⟩
/-! ### Values as they are read -/
mutual
/-- A value's key, whatever the numbers of its nodes. -/
def keyR : VT → List UInt8
  | .mk k b n s l ks =>
    if k = 5 then 1 :: (partsR l true ks ++ [0]) else if k = 6 then 2 :: be8 (n % 18446744073709551616).toNat else if k = 7 then 3 :: be8 (n % 18446744073709551616).toNat else if k = 4 then 4 :: (partsR l false [] ++ [0])
    else if k = 3 then 5 :: endB s.data.toList else if k = 1 then [6, if b then 1 else 0] else if k = 2 then 7 :: be8 (n + 9223372036854775808).toNat else [8]
def partsR : List VT → Bool → List ByteArray → List UInt8
  | [], _, _ => []
  | t :: ts, m, ks => (if m then 1 :: endB (ks.headD default).data.toList else []) ++ (keyR t ++ partsR ts m ks.tail)
end
mutual
theorem key_raw : ∀ t : VT, goodV t → okN t → keyR t = keyB t
  | .mk k b n s l ks, h, ho => by
    unfold goodV at h
    unfold okN at ho
    unfold keyR keyB
    rw [parts_raw l true ks h.2 ho.2, parts_raw l false [] h.2 ho.2]
    by_cases k5 : k = 5
    · rw [if_pos k5, if_pos k5]
    rw [if_neg k5, if_neg k5]
    by_cases k6 : k = 6
    · rw [if_pos k6, if_pos k6, show n % 18446744073709551616 = n by have := h.1.2.2 (.inl k6); omega]
    rw [if_neg k6, if_neg k6]
    by_cases k7 : k = 7
    · rw [if_pos k7, if_pos k7, show n % 18446744073709551616 = n by have := h.1.2.2 (.inr k7); omega]
    rw [if_neg k7, if_neg k7]
theorem parts_raw : ∀ (l : List VT) (m : Bool) (ks : List ByteArray), goodL l → okNL l → partsR l m ks = partsK l m ks
  | [], _, _, _, _ => by unfold partsR partsK; rfl
  | t :: ts, m, ks, h, ho => by
    unfold goodL at h
    unfold okNL at ho
    unfold partsR partsK
    rw [key_raw t h.1 ho.1, parts_raw ts m ks.tail h.2 ho.2]
end
mutual
/-- What is so of whatever is read. -/
def rawV : VT → Prop
  | .mk k b n s l ks => ((0 ≤ k ∧ k ≤ 7) ∧ (-9223372036854775808 ≤ n ∧ n ≤ 9223372036854775807) ∧ (k ≠ 1 → b = false) ∧ (k ≠ 2 → k ≠ 6 → k ≠ 7 → n = 0) ∧ (k ≠ 3 → s.data.toList = []) ∧ (k ≠ 4 → k ≠ 5 → l = []) ∧ (k ≠ 5 → ks = []) ∧ (k = 5 → ks.length = l.length)) ∧ rawL l
def rawL : List VT → Prop
  | [] => True
  | t :: ts => rawV t ∧ rawL ts
end
theorem rawL_append : ∀ {a b : List VT}, rawL (a ++ b) ↔ rawL a ∧ rawL b
  | [], b => by simp [rawL]
  | t :: a, b => by rw [List.cons_append, rawL, rawL, rawL_append]; exact and_assoc.symm
mutual
theorem formed_raw : ∀ t : VT, allV formedV t = true → okN t → rawV t
  | .mk k b n s l ks, h, ho => by
    rw [allV, Bool.and_eq_true] at h
    obtain ⟨f0, f1, f2, f3, f4, f5, f6⟩ := Val.formed_fields h.1
    unfold okN at ho
    unfold rawV
    refine ⟨⟨⟨f0, f1⟩, ho.1, f4, f5, fun h3 => ?_, fun h4 h5 => (f2 h4 h5).1, f3, fun h5 => ?_⟩, formed_rawL l h.2 ho.2⟩
    · have := f6 h3
      rw [ByteArray.toList_eq] at this
      exact this
    · subst h5
      have h1 : Val.formedF 5 b n s l.length ks.length (Val.keysTo ks ks.length) = true := h.1
      unfold Val.formedF at h1
      simp at h1
      exact h1.1
theorem formed_rawL : ∀ l : List VT, allL formedV l = true → okNL l → rawL l
  | [], _, _ => by unfold rawL; trivial
  | t :: ts, h, ho => by
    rw [allL, Bool.and_eq_true] at h
    unfold okNL at ho
    unfold rawL
    exact ⟨formed_raw t h.1 ho.1, formed_rawL ts h.2 ho.2⟩
end
theorem bytes_eq {a b : ByteArray} (h : a.data.toList = b.data.toList) : a = b := ByteArray.ext (Array.ext' h)
theorem tagR (t : VT) (h : rawV t) : ∃ c l, keyR t = c :: l ∧ c ≠ 0 := by
  obtain ⟨k, b, n, s, l, ks⟩ := t
  unfold rawV at h
  have h8 : k = 0 ∨ k = 1 ∨ k = 2 ∨ k = 3 ∨ k = 4 ∨ k = 5 ∨ k = 6 ∨ k = 7 := by have := h.1.1; omega
  rcases h8 with rfl | rfl | rfl | rfl | rfl | rfl | rfl | rfl <;> exact ⟨_, _, rfl, by decide⟩
/-- The first byte. -/
def tagOf (k : Int) : UInt8 := if k = 5 then 1 else if k = 6 then 2 else if k = 7 then 3 else if k = 4 then 4 else if k = 3 then 5 else if k = 1 then 6 else if k = 2 then 7 else 8
theorem tag_head (k : Int) (b : Bool) (n : Int) (s : ByteArray) (l : List VT) (ks : List ByteArray) : ∃ r, keyR (.mk k b n s l ks) = tagOf k :: r := by
  unfold keyR tagOf
  by_cases k5 : k = 5
  · rw [if_pos k5, if_pos k5]; exact ⟨_, rfl⟩
  rw [if_neg k5, if_neg k5]
  by_cases k6 : k = 6
  · rw [if_pos k6, if_pos k6]; exact ⟨_, rfl⟩
  rw [if_neg k6, if_neg k6]
  by_cases k7 : k = 7
  · rw [if_pos k7, if_pos k7]; exact ⟨_, rfl⟩
  rw [if_neg k7, if_neg k7]
  by_cases k4 : k = 4
  · rw [if_pos k4, if_pos k4]; exact ⟨_, rfl⟩
  rw [if_neg k4, if_neg k4]
  by_cases k3 : k = 3
  · rw [if_pos k3, if_pos k3]; exact ⟨_, rfl⟩
  rw [if_neg k3, if_neg k3]
  by_cases k1 : k = 1
  · rw [if_pos k1, if_pos k1]; exact ⟨_, rfl⟩
  rw [if_neg k1, if_neg k1]
  by_cases k2 : k = 2
  · rw [if_pos k2, if_pos k2]; exact ⟨_, rfl⟩
  rw [if_neg k2, if_neg k2]
  exact ⟨_, rfl⟩
theorem tag_inj {k k' : Int} (h0 : 0 ≤ k ∧ k ≤ 7) (h1 : 0 ≤ k' ∧ k' ≤ 7) (h : tagOf k = tagOf k') : k = k' := by
  have h8 : k = 0 ∨ k = 1 ∨ k = 2 ∨ k = 3 ∨ k = 4 ∨ k = 5 ∨ k = 6 ∨ k = 7 := by omega
  have h9 : k' = 0 ∨ k' = 1 ∨ k' = 2 ∨ k' = 3 ∨ k' = 4 ∨ k' = 5 ∨ k' = 6 ∨ k' = 7 := by omega
  rcases h8 with rfl | rfl | rfl | rfl | rfl | rfl | rfl | rfl <;> rcases h9 with rfl | rfl | rfl | rfl | rfl | rfl | rfl | rfl <;> first | rfl | (revert h; decide)
mutual
/-- A key is read in one way alone, whatever stands behind it. -/
theorem keyR_inj : ∀ (t u : VT) (r r' : List UInt8), rawV t → rawV u → keyR t ++ r = keyR u ++ r' → t = u ∧ r = r'
  | .mk k b n s l ks, .mk k' b' n' s' l' ks', r, r', ht, hu, h => by
    unfold rawV at ht hu
    obtain ⟨⟨hk, hn, hb0, hn0, hs0, hl0, hks0, hm0⟩, hrl⟩ := ht
    obtain ⟨⟨hk', hn', hb0', hn0', hs0', hl0', hks0', hm0'⟩, hrl'⟩ := hu
    obtain ⟨x, e1⟩ := tag_head k b n s l ks
    obtain ⟨x', e2⟩ := tag_head k' b' n' s' l' ks'
    have hh := h
    rw [e1, e2, List.cons_append, List.cons_append] at hh
    injection hh with hh _
    obtain rfl := tag_inj hk hk' hh
    clear e1 e2
    have h8 : k = 0 ∨ k = 1 ∨ k = 2 ∨ k = 3 ∨ k = 4 ∨ k = 5 ∨ k = 6 ∨ k = 7 := by omega
    rcases h8 with rfl | rfl | rfl | rfl | rfl | rfl | rfl | rfl
    · obtain rfl := hb0 (by decide); obtain rfl := hb0' (by decide)
      obtain rfl := hn0 (by decide) (by decide) (by decide); obtain rfl := hn0' (by decide) (by decide) (by decide)
      obtain rfl := bytes_eq ((hs0 (by decide)).trans (hs0' (by decide)).symm)
      obtain rfl := hl0 (by decide) (by decide); obtain rfl := hl0' (by decide) (by decide)
      obtain rfl := hks0 (by decide); obtain rfl := hks0' (by decide)
      change (8 : UInt8) :: r = 8 :: r' at h
      injection h with _ h
      exact ⟨rfl, h⟩
    · obtain rfl := hn0 (by decide) (by decide) (by decide); obtain rfl := hn0' (by decide) (by decide) (by decide)
      obtain rfl := bytes_eq ((hs0 (by decide)).trans (hs0' (by decide)).symm)
      obtain rfl := hl0 (by decide) (by decide); obtain rfl := hl0' (by decide) (by decide)
      obtain rfl := hks0 (by decide); obtain rfl := hks0' (by decide)
      change (6 : UInt8) :: (if b then 1 else 0) :: r = 6 :: (if b' then 1 else 0) :: r' at h
      injection h with _ h
      injection h with h1 h
      refine ⟨?_, h⟩
      cases b <;> cases b' <;> first | rfl | (exact absurd h1 (by decide))
    · obtain rfl := hb0 (by decide); obtain rfl := hb0' (by decide)
      obtain rfl := bytes_eq ((hs0 (by decide)).trans (hs0' (by decide)).symm)
      obtain rfl := hl0 (by decide) (by decide); obtain rfl := hl0' (by decide) (by decide)
      obtain rfl := hks0 (by decide); obtain rfl := hks0' (by decide)
      change (7 : UInt8) :: (be8 (n + 9223372036854775808).toNat ++ r) = 7 :: (be8 (n' + 9223372036854775808).toNat ++ r') at h
      injection h with _ h
      obtain ⟨h1, h2⟩ := be8_inj (by omega) (by omega) h
      obtain rfl : n = n' := by omega
      exact ⟨rfl, h2⟩
    · obtain rfl := hb0 (by decide); obtain rfl := hb0' (by decide)
      obtain rfl := hn0 (by decide) (by decide) (by decide); obtain rfl := hn0' (by decide) (by decide) (by decide)
      obtain rfl := hl0 (by decide) (by decide); obtain rfl := hl0' (by decide) (by decide)
      obtain rfl := hks0 (by decide); obtain rfl := hks0' (by decide)
      change (5 : UInt8) :: (endB s.data.toList ++ r) = 5 :: (endB s'.data.toList ++ r') at h
      injection h with _ h
      obtain ⟨h1, h2⟩ := end_inj h
      obtain rfl := bytes_eq h1
      exact ⟨rfl, h2⟩
    · obtain rfl := hb0 (by decide); obtain rfl := hb0' (by decide)
      obtain rfl := hn0 (by decide) (by decide) (by decide); obtain rfl := hn0' (by decide) (by decide) (by decide)
      obtain rfl := bytes_eq ((hs0 (by decide)).trans (hs0' (by decide)).symm)
      obtain rfl := hks0 (by decide); obtain rfl := hks0' (by decide)
      change (4 : UInt8) :: (partsR l false [] ++ [0] ++ r) = 4 :: (partsR l' false [] ++ [0] ++ r') at h
      injection h with _ h
      rw [List.append_assoc, List.append_assoc] at h
      obtain ⟨rfl, _, h2⟩ := partsR_inj l l' false [] [] r r' hrl hrl' (by simp) (by simp) h
      exact ⟨rfl, h2⟩
    · obtain rfl := hb0 (by decide); obtain rfl := hb0' (by decide)
      obtain rfl := hn0 (by decide) (by decide) (by decide); obtain rfl := hn0' (by decide) (by decide) (by decide)
      obtain rfl := bytes_eq ((hs0 (by decide)).trans (hs0' (by decide)).symm)
      change (1 : UInt8) :: (partsR l true ks ++ [0] ++ r) = 1 :: (partsR l' true ks' ++ [0] ++ r') at h
      injection h with _ h
      rw [List.append_assoc, List.append_assoc] at h
      obtain ⟨rfl, rfl, h2⟩ := partsR_inj l l' true ks ks' r r' hrl hrl' (by simp) (fun _ => ⟨hm0 rfl, hm0' rfl⟩) h
      exact ⟨rfl, h2⟩
    · obtain rfl := hb0 (by decide); obtain rfl := hb0' (by decide)
      obtain rfl := bytes_eq ((hs0 (by decide)).trans (hs0' (by decide)).symm)
      obtain rfl := hl0 (by decide) (by decide); obtain rfl := hl0' (by decide) (by decide)
      obtain rfl := hks0 (by decide); obtain rfl := hks0' (by decide)
      change (2 : UInt8) :: (be8 (n % 18446744073709551616).toNat ++ r) = 2 :: (be8 (n' % 18446744073709551616).toNat ++ r') at h
      injection h with _ h
      obtain ⟨h1, h2⟩ := be8_inj (by omega) (by omega) h
      obtain rfl : n = n' := by omega
      exact ⟨rfl, h2⟩
    · obtain rfl := hb0 (by decide); obtain rfl := hb0' (by decide)
      obtain rfl := bytes_eq ((hs0 (by decide)).trans (hs0' (by decide)).symm)
      obtain rfl := hl0 (by decide) (by decide); obtain rfl := hl0' (by decide) (by decide)
      obtain rfl := hks0 (by decide); obtain rfl := hks0' (by decide)
      change (3 : UInt8) :: (be8 (n % 18446744073709551616).toNat ++ r) = 3 :: (be8 (n' % 18446744073709551616).toNat ++ r') at h
      injection h with _ h
      obtain ⟨h1, h2⟩ := be8_inj (by omega) (by omega) h
      obtain rfl : n = n' := by omega
      exact ⟨rfl, h2⟩
theorem partsR_inj : ∀ (l l' : List VT) (m : Bool) (ks ks' : List ByteArray) (r r' : List UInt8), rawL l → rawL l' → (m = false → ks = [] ∧ ks' = []) → (m = true → ks.length = l.length ∧ ks'.length = l'.length) → partsR l m ks ++ ([0] ++ r) = partsR l' m ks' ++ ([0] ++ r') → l = l' ∧ ks = ks' ∧ r = r'
  | [], [], m, ks, ks', r, r', _, _, h0, h1, h => by
    unfold partsR at h
    injection h with _ h
    refine ⟨rfl, ?_, h⟩
    cases m
    · rw [(h0 rfl).1, (h0 rfl).2]
    · rw [List.eq_nil_of_length_eq_zero (h1 rfl).1, List.eq_nil_of_length_eq_zero (h1 rfl).2]
  | [], u :: us, m, ks, ks', r, r', _, hu, h0, h1, h => by
    unfold rawL at hu
    obtain ⟨c, x, e, hc⟩ := tagR u hu.1
    exfalso
    rw [show partsR [] m ks = [] by unfold partsR; rfl] at h
    unfold partsR at h
    rw [e] at h
    cases m
    · simp at h; exact hc h.1.symm
    · simp at h
  | t :: ts, [], m, ks, ks', r, r', ht, _, h0, h1, h => by
    unfold rawL at ht
    obtain ⟨c, x, e, hc⟩ := tagR t ht.1
    exfalso
    rw [show partsR [] m ks' = [] by unfold partsR; rfl] at h
    unfold partsR at h
    rw [e] at h
    cases m
    · simp at h; exact hc h.1
    · simp at h
  | t :: ts, u :: us, m, ks, ks', r, r', ht, hu, h0, h1, h => by
    unfold rawL at ht hu
    unfold partsR at h
    cases m
    · obtain ⟨rfl, rfl⟩ := h0 rfl
      simp only [Bool.false_eq_true, if_false, List.nil_append, List.append_assoc, List.tail_nil] at h
      obtain ⟨rfl, h2⟩ := keyR_inj t u _ _ ht.1 hu.1 h
      obtain ⟨rfl, _, h3⟩ := partsR_inj ts us false [] [] r r' ht.2 hu.2 (by simp) (by simp) h2
      exact ⟨rfl, rfl, h3⟩
    · obtain ⟨e1, e2⟩ := h1 rfl
      match ks, ks', e1, e2, h with
      | k :: ks, k' :: ks', e1, e2, h =>
        simp only [if_true, List.headD_cons, List.tail_cons, List.cons_append, List.append_assoc] at h
        injection h with _ h
        obtain ⟨hk, h2⟩ := end_inj h
        obtain rfl := bytes_eq hk
        obtain ⟨rfl, h3⟩ := keyR_inj t u _ _ ht.1 hu.1 h2
        obtain ⟨rfl, rfl, h4⟩ := partsR_inj ts us true ks ks' r r' ht.2 hu.2 (by simp) (fun _ => ⟨by simpa using e1, by simpa using e2⟩) h3
        exact ⟨rfl, rfl, h4⟩
end
end Rk
end Go.Proofs.YtepfihanhdinfaaDoor
