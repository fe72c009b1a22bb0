/- Keys, plain: a value's key, how long it is, and what is so of a value that may be. -/
import Derived.Test.YtmhlipncelgmlaaTreeOpen
import Derived.Test.YtmhlipncelgmlaaValMay
import Derived.Test.YtmhlipncelgmlaaValMay4
import Derived.Test.YtmhlipncelgmlaaValWalk
import Derived.Lib.Replace
namespace Go.Proofs.Ytmhlipncelgmlaa
open Go.RowKit
set_option linter.unusedVariables false
set_option linter.unusedSimpArgs false
namespace Rk
open Val (VT okN okNL szV szL szK mayV mayL mayB mayHere)
/-- Each byte 00 with a byte FF behind it. -/
def escZ : List UInt8 → List UInt8
  | [] => []
  | c :: l => (if c = 0 then [0, 255] else [c]) ++ escZ l
def endB (l : List UInt8) : List UInt8 := escZ l ++ [0, 0]
/-- The byte at a place of a number. -/
def dig (n k : Nat) : UInt8 := UInt8.ofNat (n / 256 ^ k % 256)
def be8 (n : Nat) : List UInt8 := [dig n 7, dig n 6, dig n 5, dig n 4, dig n 3, dig n 2, dig n 1, dig n 0]
mutual
/-- A value's key. -/
def keyB : VT → List UInt8
  | .mk k b n s l ks =>
    if k = 5 then 1 :: (partsK l true ks ++ [0]) else if k = 6 then 2 :: be8 n.toNat else if k = 7 then 3 :: be8 n.toNat else if k = 4 then 4 :: (partsK l false [] ++ [0])
    else if k = 3 then 5 :: endB s.data.toList else if k = 1 then [6, if b then 1 else 0] else if k = 2 then 7 :: be8 (n + 9223372036854775808).toNat else [8]
/-- Those of its parts, behind their names (m). -/
def partsK : List VT → Bool → List ByteArray → List UInt8
  | [], _, _ => []
  | t :: ts, m, ks => (if m then 1 :: endB (ks.headD default).data.toList else []) ++ (keyB t ++ partsK ts m ks.tail)
end
theorem escZ_len : ∀ l : List UInt8, l.length ≤ (escZ l).length ∧ (escZ l).length ≤ 2 * l.length
  | [] => by simp [escZ]
  | c :: l => by
    have := escZ_len l
    unfold escZ
    split <;> simp <;> omega
theorem endB_len (l : List UInt8) : (endB l).length ≤ 2 * l.length + 2 := by
  have := escZ_len l
  unfold endB
  simp; omega
theorem ba_len (s : ByteArray) : s.data.toList.length = s.size := by simp
/-! ### The library's ReplaceAll is that -/
theorem index_one_zero (l : List UInt8) : Lib.index (0 :: l) [0] = 0 := by simp [Lib.index]
theorem index_one_ne {c : UInt8} (h : c ≠ 0) (l : List UInt8) : Lib.index (c :: l) [0] = if Lib.index l [0] == -1 then -1 else Lib.index l [0] + 1 := by
  rw [Lib.index]
  have h' : ([0] : List UInt8).isPrefixOf (c :: l) = false := by
    simp [List.isPrefixOf]
    exact fun e => h e.symm
  rw [h']
  simp
theorem replaceK_esc : ∀ (l : List UInt8) (k : Nat), l.count 0 ≤ k → Lib.replaceK [0] [0, 255] k l = escZ l
  | [], k, _ => by cases k <;> simp [Lib.replaceK, Lib.index, escZ]
  | c :: l, k, h => by
    by_cases hc : c = 0
    · subst hc
      obtain ⟨k, rfl⟩ : ∃ k', k = k' + 1 := ⟨k - 1, by simp at h; omega⟩
      rw [Lib.replaceK_hit _ _ _ _ 0 (index_one_zero l), escZ, if_pos rfl]
      have := replaceK_esc l k (by simp at h; omega)
      simp [this]
    · have h0 : (c :: l).count 0 = l.count 0 := by simp [List.count_cons, hc]
      have ih := replaceK_esc l k (by omega)
      rw [escZ, if_neg hc, ← ih]
      cases k with
      | zero => simp [Lib.replaceK]
      | succ k =>
        rw [Lib.replaceK, Lib.replaceK, index_one_ne hc]
        have hge := Lib.index_ge l [0]
        by_cases hi : Lib.index l [0] = -1
        · simp [hi]
        · have e1 : (Lib.index l [0] == -1) = false := by simp [hi]
          have e2 : (Lib.index l [0] + 1 == -1) = false := by simp; omega
          obtain ⟨i, hi2⟩ : ∃ i : Nat, Lib.index l [0] = i := ⟨(Lib.index l [0]).toNat, by omega⟩
          rw [hi2] at e1 e2 ⊢
          rw [e1]
          simp only [Bool.false_eq_true, if_false]
          rw [e2]
          simp only [Bool.false_eq_true, if_false]
          have e3 : ((i : Int) + 1).toNat = i + 1 := by omega
          rw [e3]
          simp
theorem countFrom_zero : ∀ (l : List UInt8) (f : Nat), l.length < f → Lib.countFrom [0] f l = l.count 0
  | [], f, h => by
    obtain ⟨f, rfl⟩ : ∃ f', f = f' + 1 := ⟨f - 1, by omega⟩
    simp [Lib.countFrom, Lib.index]
  | c :: l, f, h => by
    obtain ⟨f, rfl⟩ : ∃ f', f = f' + 1 := ⟨f - 1, by omega⟩
    simp at h
    by_cases hc : c = 0
    · subst hc
      rw [Lib.countFrom, index_one_zero]
      have := countFrom_zero l f (by omega)
      simp [this]; omega
    · have ih := countFrom_zero l (f + 1) (by omega)
      have h0 : (c :: l).count 0 = l.count 0 := by simp [List.count_cons, hc]
      rw [h0, ← ih, Lib.countFrom, Lib.countFrom, index_one_ne hc]
      have hge := Lib.index_ge l [0]
      by_cases hi : Lib.index l [0] = -1
      · simp [hi]
      · have e1 : (Lib.index l [0] == -1) = false := by simp [hi]
        obtain ⟨i, hi2⟩ : ∃ i : Nat, Lib.index l [0] = i := ⟨(Lib.index l [0]).toNat, by omega⟩
        rw [hi2] at e1 ⊢
        have e2 : ((i : Int) + 1 == -1) = false := by simp; omega
        rw [e1]
        simp only [Bool.false_eq_true, if_false]
        rw [e2]
        simp only [Bool.false_eq_true, if_false]
        have e3 : ((i : Int) + 1).toNat = i + 1 := by omega
        rw [e3]
        simp
theorem replaceAll_esc (l : List UInt8) : Lib.replaceAll l [0] [0, 255] = escZ l := by
  have hc : Lib.count l [0] = l.count 0 := by unfold Lib.count; exact countFrom_zero l _ (by omega)
  unfold Lib.replaceAll Lib.replace
  rw [if_neg (by decide)]
  apply replaceK_esc
  unfold Lib.replaceNum
  rw [if_pos (.inl (by decide)), hc]
  exact Nat.le_refl _
theorem count_le (l : List UInt8) : Lib.count l [0] ≤ l.length := by
  have hc : Lib.count l [0] = l.count 0 := by unfold Lib.count; exact countFrom_zero l _ (by omega)
  rw [hc]; exact List.count_le_length
/-! ### What is so of a value that may be -/
mutual
def goodV : VT → Prop
  | .mk k b n s l ks => ((0 ≤ k ∧ k ≤ 7) ∧ (k = 5 → ks.length = l.length) ∧ (k = 6 ∨ k = 7 → 1 ≤ n)) ∧ goodL l
def goodL : List VT → Prop
  | [] => True
  | t :: ts => goodV t ∧ goodL ts
end
theorem goodL_at : ∀ {l : List VT} {i : Nat} {t : VT}, goodL l → l[i]? = some t → goodV t
  | [], _, _, _, h => by cases h
  | x :: l, 0, t, hl, h => by
    unfold goodL at hl
    obtain rfl : x = t := by simpa using h
    exact hl.1
  | x :: l, i + 1, t, hl, h => by
    unfold goodL at hl
    exact goodL_at hl.2 (i := i) (by simpa using h)
mutual
theorem may_good : ∀ (t : VT) (d p p' : Nat), mayV t d p = some p' → goodV t ∧ p' = p + t.parts
  | .mk k b n s l ks, d, p, p', h => by
    unfold mayV at h
    split at h
    · rename_i hh
      obtain ⟨g1, g2⟩ := may_goodL l _ _ _ h
      unfold mayHere at hh
      simp only [Bool.and_eq_true, decide_eq_true_eq] at hh
      obtain ⟨_, _, h3, h4, _, h6, h7⟩ := hh
      refine ⟨?_, by rw [VT.parts]; omega⟩
      unfold goodV
      refine ⟨⟨⟨h3, h4⟩, fun h5 => ?_, fun h67 => ?_⟩, g1⟩
      · subst h5
        simp at h7
        omega
      · rcases h67 with rfl | rfl <;> simp at h6 <;> omega
    · cases h
theorem may_goodL : ∀ (l : List VT) (d p p' : Nat), mayL l d p = some p' → goodL l ∧ p' = p + VT.partsL l
  | [], d, p, p', h => by
    unfold mayL at h
    simp only [Option.some.injEq] at h
    exact ⟨by unfold goodL; trivial, by rw [VT.partsL]; omega⟩
  | t :: ts, d, p, p', h => by
    unfold mayL at h
    cases hv : mayV t d p with
    | none => rw [hv] at h; cases h
    | some p1 =>
      rw [hv] at h
      obtain ⟨a1, a2⟩ := may_good t _ _ _ hv
      obtain ⟨b1, b2⟩ := may_goodL ts _ _ _ h
      exact ⟨by unfold goodL; exact ⟨a1, b1⟩, by rw [VT.partsL]; omega⟩
end
theorem mayB_good (t : VT) (h : mayB t = true) : goodV t ∧ t.parts ≤ 4096 := by
  unfold Val.mayB at h
  cases hv : mayV t 32 0 with
  | none => rw [hv] at h; cases h
  | some p =>
    obtain ⟨g1, g2⟩ := may_good t _ _ _ hv
    have := Val.mayV_le t _ _ _ hv
    exact ⟨g1, by omega⟩
mutual
theorem keyB_len : ∀ (t : VT), goodV t → (keyB t).length + 10 ≤ szV t
  | .mk k b n s l ks, g => by
    unfold goodV at g
    have h2 := endB_len s.data.toList
    rw [ba_len] at h2
    have h3 := partsK_len l false [] g.2 (by simp)
    have h4 : k = 5 → (partsK l true ks).length ≤ szL l + szK ks := fun hk => partsK_len l true ks g.2 (fun _ => by have := g.1.2.1 hk; omega)
    unfold keyB szV
    simp only [szK] at h3
    by_cases k5 : k = 5
    · have := h4 k5; rw [if_pos k5]; simp only [List.length_cons, List.length_append, List.length_nil]; omega
    rw [if_neg k5]
    by_cases k6 : k = 6
    · rw [if_pos k6]; simp [be8]; omega
    rw [if_neg k6]
    by_cases k7 : k = 7
    · rw [if_pos k7]; simp [be8]; omega
    rw [if_neg k7]
    by_cases k4 : k = 4
    · rw [if_pos k4]; simp only [List.length_cons, List.length_append, List.length_nil]; omega
    rw [if_neg k4]
    by_cases k3 : k = 3
    · rw [if_pos k3]; simp only [List.length_cons]; omega
    rw [if_neg k3]
    by_cases k1 : k = 1
    · rw [if_pos k1]; simp; omega
    rw [if_neg k1]
    by_cases k2 : k = 2
    · rw [if_pos k2]; simp [be8]; omega
    rw [if_neg k2]
    simp; omega
theorem partsK_len : ∀ (l : List VT) (m : Bool) (ks : List ByteArray), goodL l → (m = true → l.length ≤ ks.length) → (partsK l m ks).length ≤ szL l + szK ks
  | [], m, ks, _, _ => by simp [partsK]
  | t :: ts, m, ks, g, hm => by
    unfold goodL at g
    have h1 := keyB_len t g.1
    unfold partsK szL
    simp only [List.length_append]
    cases m with
    | false =>
      have h2 := partsK_len ts false ks.tail g.2 (by simp)
      have h6 : szK ks.tail ≤ szK ks := by
        cases ks with
        | nil => simp
        | cons x ks => rw [List.tail_cons, szK]; omega
      simp
      omega
    | true =>
      have h3 := hm rfl
      cases ks with
      | nil => simp at h3
      | cons x ks =>
        have h2 := partsK_len ts true ks g.2 (fun _ => by simp at h3; omega)
        have h4 := endB_len x.data.toList
        rw [ba_len] at h4
        simp only [List.headD_cons, List.tail_cons, if_true, szK, List.length_cons]
        omega
end
theorem partsK_nokeys : ∀ (l : List VT) (ks : List ByteArray), partsK l false ks = partsK l false []
  | [], _ => by simp [partsK]
  | t :: ts, ks => by
    unfold partsK
    rw [partsK_nokeys ts ks.tail, partsK_nokeys ts [].tail]
    simp
/-- From a place on. -/
theorem parts_at (l : List VT) (j : Nat) (t : VT) (m : Bool) (ks : List ByteArray) (h : l[j]? = some t) : partsK (l.drop j) m (ks.drop j) = (if m then 1 :: endB (ks.getD j default).data.toList else []) ++ (keyB t ++ partsK (l.drop (j + 1)) m (ks.drop (j + 1))) := by
  rw [Val.drop_at h, partsK]
  have h1 : (ks.drop j).headD default = ks.getD j default := by
    rw [List.headD_eq_head?_getD, List.head?_drop, List.getD_eq_getElem?_getD]
  have h2 : (ks.drop j).tail = ks.drop (j + 1) := by rw [List.tail_drop]
  rw [h1, h2]
end Rk
end Go.Proofs.Ytmhlipncelgmlaa
