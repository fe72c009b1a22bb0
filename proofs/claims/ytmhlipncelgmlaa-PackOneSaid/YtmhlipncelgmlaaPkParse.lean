/- Bytes as values, plain: what a reader makes of any bytes; there and back; what is cut off. -/
import Derived.Test.YtmhlipncelgmlaaPkTells
namespace Go.Proofs.Ytmhlipncelgmlaa
open Go.RowKit
set_option linter.unusedVariables false
set_option linter.unusedSimpArgs false
namespace Pk
open Val (VT mayV mayL mayB mayHere okN okNL szV szL szK keysTo keyOk)
open Rk (goodV goodL ba_len)
/-- The one, and then the other, if the one is no fault. -/
def thenP {α β : Type} (x : Except Int α) (f : α → Except Int β) : Except Int β := match x with | .error c => .error c | .ok a => f a
theorem thenP_ok {α β : Type} (a : α) (f : α → Except Int β) : thenP (.ok a) f = f a := rfl
theorem thenP_error {α β : Type} (c : Int) (f : α → Except Int β) : thenP (.error c) f = .error c := rfl
theorem thenP_inv {α β : Type} {x : Except Int α} {f : α → Except Int β} {b : β} (h : thenP x f = .ok b) : ∃ a, x = .ok a ∧ f a = .ok b := by
  cases x with
  | error c => cases h
  | ok a => exact ⟨a, rfl, h⟩
/-- A number in sevens: f bytes may still come, acc stands. -/
def numA : Nat → Nat → List UInt8 → Except Int (Nat × List UInt8)
  | 0, _, _ => .error 1
  | _ + 1, _, [] => .error 22
  | f + 1, acc, c :: r =>
    if f = 0 ∧ c.toNat ≠ 1 then .error 1
    else if c.toNat < 128 then (if c.toNat = 0 ∧ f ≠ 9 then .error 1 else .ok (acc + c.toNat * 128 ^ (9 - f), r))
    else numA f (acc + (c.toNat - 128) * 128 ^ (9 - f)) r
def numP (l : List UInt8) : Except Int (Nat × List UInt8) := numA 10 0 l
def takeP (n : Nat) (l : List UInt8) : Except Int (List UInt8 × List UInt8) := if l.length < n then .error 22 else .ok (l.take n, l.drop n)
def baOf (l : List UInt8) : ByteArray := ⟨l.toArray⟩
def textP (l : List UInt8) : Except Int (ByteArray × List UInt8) := thenP (numP l) fun x => thenP (takeP x.1 x.2) fun y => .ok (baOf y.1, y.2)
def idP (l : List UInt8) : Except Int (Nat × List UInt8) := thenP (numP l) fun x => if 1 ≤ x.1 ∧ x.1 ≤ 9223372036854775807 then .ok x else .error 1
def keyP (l : List UInt8) : Except Int (ByteArray × List UInt8) := thenP (numP l) fun x => if 1 ≤ x.1 ∧ x.1 ≤ 64 then thenP (takeP x.1 x.2) fun y => .ok (baOf y.1, y.2) else .error 1
def nextP (ks : List ByteArray) (l : List UInt8) : Except Int (List ByteArray × List UInt8) :=
  thenP (keyP l) fun x => if Op.bytesLess (ks.getLastD ByteArray.empty).toList x.1.toList then .ok (ks ++ [x.1], x.2) else .error 1
/-- So many values, of a map behind its names. -/
def rowsA (pv : Nat → List UInt8 → Except Int (VT × Nat × List UInt8)) (m : Bool) : Nat → Nat → List VT → List ByteArray → List UInt8 → Except Int ((List VT × List ByteArray) × Nat × List UInt8)
  | 0, p, ts, ks, l => .ok ((ts, ks), p, l)
  | n + 1, p, ts, ks, l => thenP (if m then nextP ks l else .ok (ks, l)) fun x => thenP (pv p x.2) fun y => rowsA pv m n y.2.1 (ts ++ [y.1]) x.1 y.2.2
def unfoldN (n : Nat) : Int := if n % 2 = 1 then -((n / 2 : Nat) : Int) - 1 else ((n / 2 : Nat) : Int)
def E0 : ByteArray := ByteArray.empty
/-- What is behind a tag. -/
def bodyP (pv : Nat → List UInt8 → Except Int (VT × Nat × List UInt8)) (c p : Nat) (r : List UInt8) : Except Int (VT × Nat × List UInt8) :=
  if c = 1 then .ok (.mk 1 false 0 E0 [] [], p, r)
  else if c = 2 then .ok (.mk 1 true 0 E0 [] [], p, r)
  else if c = 3 then thenP (numP r) fun x => .ok (.mk 2 false (unfoldN x.1) E0 [] [], p, x.2)
  else if c = 4 then thenP (textP r) fun x => .ok (.mk 3 false 0 x.1 [] [], p, x.2)
  else if c = 5 then thenP (numP r) fun x => thenP (rowsA pv false x.1 p [] [] x.2) fun y => .ok (.mk 4 false 0 E0 y.1.1 [], y.2)
  else if c = 6 then thenP (numP r) fun x => thenP (rowsA pv true x.1 p [] [] x.2) fun y => .ok (.mk 5 false 0 E0 y.1.1 y.1.2, y.2)
  else if c = 7 then thenP (idP r) fun x => .ok (.mk 6 false x.1 E0 [] [], p, x.2)
  else if c = 8 then thenP (idP r) fun x => .ok (.mk 7 false x.1 E0 [] [], p, x.2)
  else .ok (.mk 0 false 0 E0 [] [], p, r)
/-- The value at the front, d levels deep at most, behind p parts. -/
def parseV : Nat → Nat → List UInt8 → Except Int (VT × Nat × List UInt8)
  | 0 => fun _ l => match l with | [] => .error 22 | _ :: _ => .error 1
  | d + 1 => fun p l => match l with
    | [] => .error 22
    | c :: r => if c.toNat ≤ 8 ∧ p + 1 ≤ 4096 then bodyP (parseV d) c.toNat (p + 1) r else .error 1
/-! ### There -/
theorem numA_sev : ∀ (f n acc : Nat) (r : List UInt8), f ≤ 9 → n * 128 ^ (9 - f) < 18446744073709551616 → (n = 0 → f = 9) → numA (f + 1) acc (sevL n ++ r) = .ok (acc + n * 128 ^ (9 - f), r) := fun f => by
  induction f with
  | zero =>
    intro n acc r _ hn h0
    have hn : n * 128 ^ 9 < 18446744073709551616 := hn
    have h1 : n < 2 := by omega
    have h2 : n ≠ 0 := fun e => by have := h0 e; omega
    obtain rfl : n = 1 := by omega
    rw [sevL_lt (by decide)]
    rfl
  | succ f ih =>
    intro n acc r hf hn h0
    by_cases hs : n < 128
    · rw [sevL_lt hs]
      have hc : (UInt8.ofNat n).toNat = n := by simp; omega
      show numA (f + 1 + 1) acc (UInt8.ofNat n :: r) = _
      unfold numA
      rw [hc, if_neg (by omega), if_pos hs, if_neg (fun h => h.2 (h0 h.1))]
    · rw [sevL_ge hs]
      have hc : (UInt8.ofNat (n % 128 + 128)).toNat = n % 128 + 128 := by simp; omega
      show numA (f + 1 + 1) acc (UInt8.ofNat (n % 128 + 128) :: (sevL (n / 128) ++ r)) = _
      unfold numA
      rw [hc, if_neg (by omega), if_neg (by omega)]
      have hp : (128 : Nat) ^ (9 - f) = 128 * 128 ^ (9 - (f + 1)) := by
        rw [show 9 - f = 9 - (f + 1) + 1 by omega, Nat.pow_succ, Nat.mul_comm]
      obtain ⟨P, hP⟩ : ∃ P, (128 : Nat) ^ (9 - (f + 1)) = P := ⟨_, rfl⟩
      rw [hP] at hp hn ⊢
      have hd : n / 128 * (128 * P) + n % 128 * P = n * P := by
        rw [← Nat.mul_assoc, ← Nat.add_mul, Nat.div_add_mod' n 128]
      have := ih (n / 128) (acc + (n % 128 + 128 - 128) * P) r (by omega) (by rw [hp]; omega) (fun h => by omega)
      rw [this, hp, Nat.add_sub_cancel]
      congr 2
      omega
theorem numP_sev {n : Nat} (r : List UInt8) (h : n < 18446744073709551616) : numP (sevL n ++ r) = .ok (n, r) := by
  have := numA_sev 9 n 0 r (Nat.le_refl _) (by simpa using h) (fun _ => rfl)
  unfold numP
  simpa using this
theorem takeP_app (a r : List UInt8) : takeP a.length (a ++ r) = .ok (a, r) := by
  unfold takeP
  rw [if_neg (by simp), List.take_left, List.drop_left]
theorem baOf_data (s : ByteArray) : baOf s.data.toList = s := by unfold baOf; cases s; simp
theorem textP_text {s : ByteArray} (r : List UInt8) (h : s.size < 18446744073709551616) : textP (textB s ++ r) = .ok (s, r) := by
  unfold textP textB
  rw [List.append_assoc, numP_sev _ h, thenP_ok]
  have := takeP_app s.data.toList r
  rw [ba_len] at this
  rw [this, thenP_ok, baOf_data]
theorem keyP_text {s : ByteArray} (r : List UInt8) (h : 1 ≤ s.size) (h2 : s.size ≤ 64) : keyP (textB s ++ r) = .ok (s, r) := by
  unfold keyP textB
  rw [List.append_assoc, numP_sev _ (by omega), thenP_ok, if_pos ⟨h, h2⟩]
  have := takeP_app s.data.toList r
  rw [ba_len] at this
  rw [this, thenP_ok, baOf_data]
theorem idP_sev {n : Nat} (r : List UInt8) (h : 1 ≤ n) (h2 : n ≤ 9223372036854775807) : idP (sevL n ++ r) = .ok (n, r) := by
  unfold idP
  rw [numP_sev _ (by omega), thenP_ok, if_pos ⟨h, h2⟩]
theorem unfold_fold (n : Int) : unfoldN (foldN n) = n := by
  unfold unfoldN foldN
  split <;> split <;> omega
theorem ks_last (ks : List ByteArray) (d : ByteArray) (j : Nat) (h : ks.length = j + 1) : ks.getLastD d = ks.getD j default := by
  rw [List.getLastD_eq_getLast?, List.getLast?_eq_getElem?, h, List.getD_eq_getElem?_getD, Nat.add_sub_cancel, List.getElem?_eq_getElem (by omega)]
  rfl
theorem less_empty {x : ByteArray} (h : 0 < x.size) : Op.bytesLess ByteArray.empty.toList x.toList = true := by
  rw [ByteArray.toList_eq, ByteArray.toList_eq]
  have hl : 0 < x.data.toList.length := by rw [ba_len]; exact h
  cases hx : x.data.toList with
  | nil => rw [hx] at hl; simp at hl
  | cons a l => rfl
theorem keyOk_app (ks qs : List ByteArray) {i : Nat} (h : i < ks.length) : keyOk (ks ++ qs) i = keyOk ks i := by
  have e : ∀ j, j < ks.length → (ks ++ qs).getD j default = ks.getD j default := fun j hj => by
    rw [List.getD_eq_getElem?_getD, List.getD_eq_getElem?_getD, List.getElem?_append_left hj]
  unfold keyOk
  rw [e i h, e (i - 1) (by omega)]
theorem keysTo_app (ks qs : List ByteArray) : ∀ i, i ≤ ks.length → keysTo (ks ++ qs) i = keysTo ks i
  | 0, _ => rfl
  | i + 1, h => by
    unfold keysTo
    rw [keysTo_app ks qs i (by omega), keyOk_app ks qs (by omega)]
theorem keysTo_le {ks : List ByteArray} {i : Nat} : ∀ {n : Nat}, i < n → keysTo ks n = true → keyOk ks i = true
  | 0, h, _ => by omega
  | n + 1, h, hk => by
    unfold keysTo at hk
    rw [Bool.and_eq_true] at hk
    rcases Nat.lt_or_ge i n with h' | h'
    · exact keysTo_le h' hk.1
    · obtain rfl : i = n := by omega
      exact hk.2
/-- The next name of such a row. -/
theorem keyOk_next (ks : List ByteArray) (k : ByteArray) : keyOk (ks ++ [k]) ks.length = (decide (0 < k.size) && (decide (k.size ≤ 64) && Op.bytesLess (ks.getLastD ByteArray.empty).toList k.toList)) := by
  have e : (ks ++ [k]).getD ks.length default = k := by simp [List.getD_eq_getElem?_getD]
  unfold keyOk
  rw [e]
  cases hl : ks.length with
  | zero =>
    obtain rfl := List.eq_nil_of_length_eq_zero hl
    by_cases h0 : 0 < k.size
    · have h1 := less_empty h0
      rw [List.getLastD_nil, h1]
      simp
    · simp [h0]
  | succ j =>
    have e2 : (ks ++ [k]).getD (j + 1 - 1) default = ks.getD j default := by
      rw [Nat.add_sub_cancel, List.getD_eq_getElem?_getD, List.getD_eq_getElem?_getD, List.getElem?_append_left (by omega)]
    rw [e2, ks_last ks ByteArray.empty j hl]
    simp
theorem nextP_text {ks : List ByteArray} {k : ByteArray} (r : List UInt8) (h : keyOk (ks ++ [k]) ks.length = true) : nextP ks (textB k ++ r) = .ok (ks ++ [k], r) := by
  rw [keyOk_next] at h
  simp only [Bool.and_eq_true, decide_eq_true_eq] at h
  unfold nextP
  rw [keyP_text r h.1 h.2.1, thenP_ok, if_pos h.2.2]
theorem parts_ge2 : ∀ l : List VT, l.length ≤ VT.partsL l
  | [] => Nat.zero_le _
  | t :: ts => by
    have := parts_ge2 ts
    have := t.parts_pos
    rw [VT.partsL, List.length_cons]
    omega
theorem ba_nil {s : ByteArray} (h : s.data.toList = []) : s = E0 := ba_ext (by rw [h]; rfl)
mutual
theorem parse_pack : ∀ (t : VT) (d p p' : Nat) (r : List UInt8), mayV t d p = some p' → okN t → szV t ≤ 17592186044416 → parseV d p (packB t ++ r) = .ok (t, p', r)
  | .mk k b n s l ks, d, p, p', r, h, ho, hz => by
    have hc := may_clean _ _ _ _ h
    unfold cleanV at hc
    obtain ⟨ck, cb, cn, cs, cl, cks, ckl, -⟩ := hc
    unfold mayV at h
    split at h
    case isFalse => cases h
    rename_i hh
    unfold mayHere at hh
    simp only [Bool.and_eq_true, decide_eq_true_eq] at hh
    obtain ⟨h1, h2, -, -, -, h6, h7⟩ := hh
    obtain ⟨d, rfl⟩ : ∃ q, d = q + 1 := ⟨d - 1, by omega⟩
    rw [Nat.add_sub_cancel] at h
    unfold okN at ho
    unfold szV at hz
    have hll := Val.mayL_le l _ _ _ h1 h
    have hpl := (Rk.may_goodL l _ _ _ h).2
    have hlen : l.length ≤ VT.partsL l := parts_ge2 l
    have step : ∀ (c : Nat) (x : List UInt8), c ≤ 8 → parseV (d + 1) p (UInt8.ofNat c :: x) = bodyP (parseV d) c (p + 1) x := fun c x hc => by
      have e : (UInt8.ofNat c).toNat = c := by simp; omega
      show (if (UInt8.ofNat c).toNat ≤ 8 ∧ p + 1 ≤ 4096 then bodyP (parseV d) (UInt8.ofNat c).toNat (p + 1) x else .error 1) = _
      rw [e, if_pos ⟨hc, h1⟩]
    have hs3 : k ≠ 3 → s = E0 := fun h3 => ba_nil (cs h3)
    unfold packB
    have hk : k = 0 ∨ k = 1 ∨ k = 2 ∨ k = 3 ∨ k = 4 ∨ k = 5 ∨ k = 6 ∨ k = 7 := by omega
    rcases hk with rfl | rfl | rfl | rfl | rfl | rfl | rfl | rfl
    · obtain rfl := cb (by decide)
      obtain rfl := cn (by decide) (by decide) (by decide)
      obtain rfl := hs3 (by decide)
      obtain rfl := cl (by decide) (by decide)
      obtain rfl := cks (by decide)
      unfold mayL at h
      injection h with h
      subst h
      exact step 0 r (by decide)
    · obtain rfl := cn (by decide) (by decide) (by decide)
      obtain rfl := hs3 (by decide)
      obtain rfl := cl (by decide) (by decide)
      obtain rfl := cks (by decide)
      unfold mayL at h
      injection h with h
      subst h
      cases b with
      | false => exact step 1 r (by decide)
      | true => exact step 2 r (by decide)
    · obtain rfl := cb (by decide)
      obtain rfl := hs3 (by decide)
      obtain rfl := cl (by decide) (by decide)
      obtain rfl := cks (by decide)
      unfold mayL at h
      injection h with h
      subst h
      refine (step 3 _ (by decide)).trans ?_
      unfold bodyP
      rw [if_neg (by decide), if_neg (by decide), if_pos rfl]
      show thenP (numP (sevL (foldN n) ++ r)) _ = _
      rw [numP_sev _ (by have := foldN_le ho.1; omega), thenP_ok]
      simp only [unfold_fold]
    · obtain rfl := cb (by decide)
      obtain rfl := cn (by decide) (by decide) (by decide)
      obtain rfl := cl (by decide) (by decide)
      obtain rfl := cks (by decide)
      unfold mayL at h
      injection h with h
      subst h
      refine (step 4 _ (by decide)).trans ?_
      unfold bodyP
      rw [if_neg (by decide), if_neg (by decide), if_neg (by decide), if_pos rfl]
      show thenP (textP (textB s ++ r)) _ = _
      rw [textP_text r (by omega), thenP_ok]
    · obtain rfl := cb (by decide)
      obtain rfl := cn (by decide) (by decide) (by decide)
      obtain rfl := hs3 (by decide)
      obtain rfl := cks (by decide)
      refine (step 5 _ (by decide)).trans ?_
      unfold bodyP
      rw [if_neg (by decide), if_neg (by decide), if_neg (by decide), if_neg (by decide), if_pos rfl]
      show thenP (numP ((sevL l.length ++ partsP l false []) ++ r)) _ = _
      rw [List.append_assoc, numP_sev _ (by omega), thenP_ok, parts_parse l d (p + 1) p' false [] [] [] r h ho.2 (by omega) (by simp) (by simp), thenP_ok]
      simp
    · obtain rfl := cb (by decide)
      obtain rfl := cn (by decide) (by decide) (by decide)
      obtain rfl := hs3 (by decide)
      have hkl := ckl rfl
      simp at h7
      refine (step 6 _ (by decide)).trans ?_
      unfold bodyP
      rw [if_neg (by decide), if_neg (by decide), if_neg (by decide), if_neg (by decide), if_neg (by decide), if_pos rfl]
      show thenP (numP ((sevL ks.length ++ partsP l true ks) ++ r)) _ = _
      rw [List.append_assoc, numP_sev _ (by omega), thenP_ok]
      simp only [hkl]
      rw [parts_parse l d (p + 1) p' true [] [] ks r h ho.2 (by omega) (fun _ => hkl) (fun _ => by rw [List.nil_append]; exact h7.2), thenP_ok]
      simp
    · obtain rfl := cb (by decide)
      obtain rfl := hs3 (by decide)
      obtain rfl := cl (by decide) (by decide)
      obtain rfl := cks (by decide)
      unfold mayL at h
      injection h with h
      subst h
      simp at h6
      refine (step 7 _ (by decide)).trans ?_
      unfold bodyP
      rw [if_neg (by decide), if_neg (by decide), if_neg (by decide), if_neg (by decide), if_neg (by decide), if_neg (by decide), if_pos rfl]
      show thenP (idP (sevL n.toNat ++ r)) _ = _
      rw [idP_sev _ (by omega) (by omega), thenP_ok]
      rw [show ((n.toNat : Nat) : Int) = n by omega]
    · obtain rfl := cb (by decide)
      obtain rfl := hs3 (by decide)
      obtain rfl := cl (by decide) (by decide)
      obtain rfl := cks (by decide)
      unfold mayL at h
      injection h with h
      subst h
      simp at h6
      refine (step 8 _ (by decide)).trans ?_
      unfold bodyP
      rw [if_neg (by decide), if_neg (by decide), if_neg (by decide), if_neg (by decide), if_neg (by decide), if_neg (by decide), if_neg (by decide), if_pos rfl]
      show thenP (idP (sevL n.toNat ++ r)) _ = _
      rw [idP_sev _ (by omega) (by omega), thenP_ok]
      rw [show ((n.toNat : Nat) : Int) = n by omega]
theorem parts_parse : ∀ (us : List VT) (d p p' : Nat) (m : Bool) (ts : List VT) (ks qs : List ByteArray) (r : List UInt8), mayL us d p = some p' → okNL us → szL us ≤ 17592186044416 → (m = true → qs.length = us.length) → (m = true → keysTo (ks ++ qs) (ks ++ qs).length = true) →
    rowsA (parseV d) m us.length p ts ks (partsP us m qs ++ r) = .ok ((ts ++ us, if m then ks ++ qs else ks), p', r)
  | [], d, p, p', m, ts, ks, qs, r, h, ho, hz, hq, hk => by
    unfold mayL at h
    injection h with h
    subst h
    unfold rowsA partsP
    cases m with
    | false => simp
    | true => rw [List.eq_nil_of_length_eq_zero (hq rfl)]; simp
  | u :: us, d, p, p', m, ts, ks, qs, r, h, ho, hz, hq, hk => by
    unfold mayL at h
    cases hv : mayV u d p with
    | none => rw [hv] at h; cases h
    | some p1 =>
      rw [hv] at h
      unfold okNL at ho
      unfold szL at hz
      rw [List.length_cons]
      unfold rowsA partsP
      cases m with
      | false =>
        simp only [Bool.false_eq_true, if_false, List.nil_append, List.append_assoc]
        rw [thenP_ok]
        simp only
        rw [parse_pack u d p p1 _ hv ho.1 (by omega), thenP_ok]
        simp only
        rw [parts_parse us d p1 p' false (ts ++ [u]) ks qs.tail r h ho.2 (by omega) (by simp) (by simp)]
        simp
      | true =>
        have hq := hq rfl
        have hk := hk rfl
        cases qs with
        | nil => simp at hq
        | cons q qs =>
          have e : ks ++ q :: qs = (ks ++ [q]) ++ qs := by simp
          have hko : keyOk (ks ++ [q]) ks.length = true := by
            rw [← keyOk_app (ks ++ [q]) qs (by simp), ← e]
            exact keysTo_le (by simp) hk
          simp only [if_true, List.append_assoc, List.headD_cons, List.tail_cons]
          rw [nextP_text _ hko, thenP_ok]
          simp only
          rw [parse_pack u d p p1 _ hv ho.1 (by omega), thenP_ok]
          simp only
          rw [parts_parse us d p1 p' true (ts ++ [u]) (ks ++ [q]) qs r h ho.2 (by omega) (fun _ => by simpa using hq) (fun _ => by rw [← e]; exact hk)]
          simp
end
/-! ### And back -/
theorem numA_fit (f n P x : Nat) (hn : n ≠ 0) (hx : x < 128) (hP : (128 : Nat) ^ (9 - (f + 1)) = P) (hf : f ≤ 8) (h : n * (128 * P) < 18446744073709551616) (e : (128 * n + x) * P = n * (128 * P) + x * P) : (128 * n + x) * P < 18446744073709551616 := by
  have hK : 2 * 128 ^ f * (128 * P) = 18446744073709551616 := by
    have h1 : 128 * P = 128 ^ (9 - f) := by rw [← hP, show 9 - f = 9 - (f + 1) + 1 by omega, Nat.pow_succ, Nat.mul_comm]
    rw [h1, Nat.mul_assoc, ← Nat.pow_add, show f + (9 - f) = 9 by omega]
  have hP0 : 0 < P := by rw [← hP]; exact Nat.pow_pos (by decide)
  rw [← hK] at h ⊢
  have hlt : n < 2 * 128 ^ f := Nat.lt_of_mul_lt_mul_right h
  have h2 : (n + 1) * (128 * P) ≤ 2 * 128 ^ f * (128 * P) := Nat.mul_le_mul_right _ hlt
  refine Nat.lt_of_lt_of_le ?_ h2
  rw [← Nat.mul_assoc]
  exact Nat.mul_lt_mul_of_pos_right (by omega) hP0
theorem numA_ok : ∀ (f acc v : Nat) (l r : List UInt8), f ≤ 9 → numA (f + 1) acc l = .ok (v, r) → ∃ n, l = sevL n ++ r ∧ v = acc + n * 128 ^ (9 - f) ∧ (n = 0 → f = 9) ∧ n * 128 ^ (9 - f) < 18446744073709551616 := fun f => by
  induction f with
  | zero =>
    intro acc v l r _ h
    cases l with
    | nil => cases h
    | cons c l =>
      unfold numA at h
      split at h
      · cases h
      · rename_i h1
        have h1 : c.toNat = 1 := by
          rcases Nat.decEq c.toNat 1 with h2 | h2
          · exact absurd ⟨rfl, h2⟩ h1
          · exact h2
        rw [h1, if_pos (by decide), if_neg (by decide)] at h
        injection h with h
        injection h with h2 h3
        have hc : c = UInt8.ofNat 1 := UInt8.toNat_inj.1 (by rw [h1]; rfl)
        exact ⟨1, by rw [sevL_lt (by decide), hc, h3]; rfl, h2.symm, by simp, by decide⟩
  | succ f ih =>
    intro acc v l r hf h
    cases l with
    | nil => cases h
    | cons c l =>
      unfold numA at h
      rw [if_neg (by omega)] at h
      have hcl : c.toNat < 256 := c.toNat_lt
      have hpw : (128 : Nat) ^ (9 - (f + 1)) ≤ 128 ^ 8 := Nat.pow_le_pow_right (by decide) (by omega)
      have hpc : (128 : Nat) ^ 8 = 72057594037927936 := by decide
      split at h
      · rename_i hs
        split at h
        · cases h
        · rename_i h0
          injection h with h
          injection h with h2 h3
          have hc : c = UInt8.ofNat c.toNat := by simp
          refine ⟨c.toNat, by rw [sevL_lt hs, ← hc, h3]; rfl, h2.symm, fun e => ?_, ?_⟩
          · rcases Nat.decEq (f + 1) 9 with h4 | h4
            · exact absurd ⟨e, h4⟩ h0
            · exact h4
          · have : c.toNat * 128 ^ (9 - (f + 1)) ≤ 127 * 72057594037927936 := Nat.mul_le_mul (by omega) (by omega)
            omega
      · rename_i hs
        have hp : (128 : Nat) ^ (9 - f) = 128 * 128 ^ (9 - (f + 1)) := by
          rw [show 9 - f = 9 - (f + 1) + 1 by omega, Nat.pow_succ, Nat.mul_comm]
        obtain ⟨n, e1, e2, e3, e4⟩ := ih _ v l r (by omega) h
        obtain ⟨P, hP⟩ : ∃ P, (128 : Nat) ^ (9 - (f + 1)) = P := ⟨_, rfl⟩
        rw [hP] at hp e2 hpw ⊢
        have hn0 : n ≠ 0 := fun e => by have := e3 e; omega
        have hm : (128 * n + (c.toNat - 128)) % 128 = c.toNat - 128 := by omega
        have hd : (128 * n + (c.toNat - 128)) / 128 = n := by omega
        have hx : (128 * n + (c.toNat - 128)) * P = n * (128 * P) + (c.toNat - 128) * P := by
          rw [Nat.add_mul, ← Nat.mul_assoc, Nat.mul_comm 128 n]
        refine ⟨128 * n + (c.toNat - 128), ?_, by rw [e2, hx, hp]; omega, by omega, ?_⟩
        · rw [sevL_ge (by omega), hm, hd, e1, show c.toNat - 128 + 128 = c.toNat by omega]
          simp
        · rw [hp] at e4
          exact numA_fit f n P (c.toNat - 128) hn0 (by omega) hP (by omega) e4 hx
theorem numP_ok {v : Nat} {l r : List UInt8} (h : numP l = .ok (v, r)) : l = sevL v ++ r ∧ v < 18446744073709551616 := by
  unfold numP at h
  obtain ⟨n, e1, e2, -, e4⟩ := numA_ok 9 0 v l r (Nat.le_refl _) h
  have e4 : n * 1 < 18446744073709551616 := e4
  have e2 : v = 0 + n * 1 := e2
  obtain rfl : v = n := by omega
  exact ⟨e1, by omega⟩
theorem takeP_ok {n : Nat} {l a r : List UInt8} (h : takeP n l = .ok (a, r)) : l = a ++ r ∧ a.length = n := by
  unfold takeP at h
  split at h
  · cases h
  · injection h with h
    injection h with h1 h2
    rw [← h1, ← h2, List.take_append_drop, List.length_take]
    exact ⟨rfl, by omega⟩
theorem baOf_list (l : List UInt8) : (baOf l).data.toList = l := by unfold baOf; simp
theorem baOf_size (l : List UInt8) : (baOf l).size = l.length := by rw [← ba_len, baOf_list]
theorem textP_ok {s : ByteArray} {l r : List UInt8} (h : textP l = .ok (s, r)) : l = textB s ++ r := by
  unfold textP at h
  obtain ⟨⟨n, r1⟩, e1, h⟩ := thenP_inv h
  obtain ⟨⟨a, r2⟩, e2, h⟩ := thenP_inv h
  injection h with h
  injection h with h1 h2
  have e3 := numP_ok e1
  have e4 := takeP_ok e2
  dsimp only at *
  rw [← h1, ← h2, e3.1, e4.1]
  unfold textB
  rw [baOf_list, baOf_size, e4.2, List.append_assoc]
theorem idP_ok {v : Nat} {l r : List UInt8} (h : idP l = .ok (v, r)) : l = sevL v ++ r ∧ 1 ≤ v ∧ v ≤ 9223372036854775807 := by
  unfold idP at h
  obtain ⟨⟨n, r1⟩, e1, h⟩ := thenP_inv h
  split at h
  · rename_i hb
    injection h with h
    injection h with h1 h2
    subst h1 h2
    exact ⟨(numP_ok e1).1, hb⟩
  · cases h
theorem nextP_ok {ks ks' : List ByteArray} {l r : List UInt8} (h : nextP ks l = .ok (ks', r)) : ∃ k, ks' = ks ++ [k] ∧ l = textB k ++ r ∧ keyOk (ks ++ [k]) ks.length = true := by
  unfold nextP at h
  obtain ⟨⟨k, r1⟩, e1, h⟩ := thenP_inv h
  split at h
  · rename_i hl
    injection h with h
    injection h with h1 h2
    subst h1 h2
    unfold keyP at e1
    obtain ⟨⟨n, r2⟩, e2, e1⟩ := thenP_inv e1
    split at e1
    · rename_i hn
      obtain ⟨⟨a, r3⟩, e3, e1⟩ := thenP_inv e1
      injection e1 with e1
      injection e1 with e4 e5
      have e6 := numP_ok e2
      have e7 := takeP_ok e3
      dsimp only at *
      refine ⟨k, rfl, ?_, ?_⟩
      · rw [e6.1, e7.1]
        show _ = textB k ++ r1
        rw [← e4, ← e5]
        unfold textB
        rw [baOf_list, baOf_size, e7.2, List.append_assoc]
      · have hs : k.size = n := by rw [← e4, baOf_size, e7.2]
        rw [keyOk_next]
        simp only [Bool.and_eq_true, decide_eq_true_eq]
        exact ⟨by rw [hs]; exact hn.1, by rw [hs]; exact hn.2, hl⟩
    · cases e1
  · cases h
/-- What a reader of values tells is so. -/
def Right (pv : Nat → List UInt8 → Except Int (VT × Nat × List UInt8)) (d : Nat) : Prop := ∀ p l t p' r, pv p l = .ok (t, p', r) → mayV t d p = some p' ∧ okN t ∧ l = packB t ++ r
theorem rowsA_ok {pv : Nat → List UInt8 → Except Int (VT × Nat × List UInt8)} {d : Nat} (H : Right pv d) (m : Bool) : ∀ (n p : Nat) (ts ts' : List VT) (ks ks' : List ByteArray) (l r : List UInt8) (p' : Nat), rowsA pv m n p ts ks l = .ok ((ts', ks'), p', r) → (m = true → keysTo ks ks.length = true) →
    ∃ us qs, ts' = ts ++ us ∧ ks' = ks ++ qs ∧ us.length = n ∧ (m = true → qs.length = n) ∧ (m = false → qs = []) ∧ mayL us d p = some p' ∧ okNL us ∧ l = partsP us m qs ++ r ∧ (m = true → keysTo ks' ks'.length = true)
  | 0, p, ts, ts', ks, ks', l, r, p', h, hk => by
    unfold rowsA at h
    injection h with h
    injection h with h1 h2
    injection h1 with h3 h4
    injection h2 with h5 h6
    subst h3 h4 h5 h6
    exact ⟨[], [], by simp, by simp, rfl, fun _ => rfl, fun _ => rfl, by unfold mayL; rfl, by unfold okNL; trivial, by unfold partsP; rfl, hk⟩
  | n + 1, p, ts, ts', ks, ks', l, r, p', h, hk => by
    unfold rowsA at h
    obtain ⟨⟨ks1, l1⟩, e1, h⟩ := thenP_inv h
    obtain ⟨⟨t, p1, l2⟩, e2, h⟩ := thenP_inv h
    obtain ⟨a1, a2, a3⟩ := H _ _ _ _ _ e2
    simp only at a3
    cases m with
    | false =>
      simp only [Bool.false_eq_true, if_false] at e1
      injection e1 with e1
      injection e1 with e3 e4
      subst e3 e4
      obtain ⟨us, qs, b1, b2, b3, b4, b5, b6, b7, b8, b9⟩ := rowsA_ok H false n p1 _ ts' _ ks' l2 r p' h (by simp)
      obtain rfl := b5 rfl
      refine ⟨t :: us, [], by rw [b1]; simp, b2, by simp [b3], by simp, fun _ => rfl, ?_, ?_, ?_, by simp⟩
      · unfold mayL; rw [a1]; exact b6
      · unfold okNL; exact ⟨a2, b7⟩
      · rw [a3, b8, partsP]; simp
    | true =>
      simp only [if_true] at e1
      obtain ⟨k, c1, c2, c3⟩ := nextP_ok e1
      subst c1
      obtain ⟨us, qs, b1, b2, b3, b4, b5, b6, b7, b8, b9⟩ := rowsA_ok H true n p1 _ ts' _ ks' l2 r p' h (fun _ => by
        rw [List.length_append, List.length_singleton]
        unfold keysTo
        rw [keysTo_app ks [k] _ (Nat.le_refl _), hk rfl, c3]
        rfl)
      refine ⟨t :: us, k :: qs, by rw [b1]; simp, by rw [b2]; simp, by simp [b3], fun _ => by simp [b4 rfl], by simp, ?_, ?_, ?_, b9⟩
      · unfold mayL; rw [a1]; exact b6
      · unfold okNL; exact ⟨a2, b7⟩
      · rw [c2, a3, b8, partsP]; simp
theorem unfoldN_fold {n : Nat} : foldN (unfoldN n) = n := by
  unfold unfoldN foldN
  split <;> split <;> omega
theorem unfoldN_le {n : Nat} (h : n < 18446744073709551616) : -9223372036854775808 ≤ unfoldN n ∧ unfoldN n ≤ 9223372036854775807 := by
  unfold unfoldN
  split <;> omega
theorem e0_list : E0.data.toList = [] := rfl
theorem e0_toList : E0.toList = [] := by rw [ByteArray.toList_eq]; rfl
theorem may_leaf {k : Int} {b : Bool} {n : Int} {s : ByteArray} {d p : Nat} (h : mayHere k b n s 0 0 true (d + 1) p = true) : mayV (.mk k b n s [] []) (d + 1) p = some (p + 1) := by
  unfold mayV
  have h : mayHere k b n s ([] : List VT).length ([] : List ByteArray).length (keysTo ([] : List ByteArray) ([] : List ByteArray).length) (d + 1) p = true := h
  rw [if_pos h]
  unfold mayL
  rfl
theorem parse_right : ∀ d, Right (parseV d) d
  | 0 => fun p l t p' r h => by cases l <;> cases h
  | d + 1 => fun p l t p' r h => by
    have IH := parse_right d
    cases l with
    | nil => cases h
    | cons c l =>
      have h0 := h
      clear h
      have h : (if c.toNat ≤ 8 ∧ p + 1 ≤ 4096 then bodyP (parseV d) c.toNat (p + 1) l else .error 1) = .ok (t, p', r) := h0
      clear h0
      split at h
      case isFalse => cases h
      rename_i hc
      obtain ⟨hc8, hp⟩ := hc
      have ec : c = UInt8.ofNat c.toNat := by simp
      obtain ⟨q, hq⟩ : ∃ q, c.toNat = q := ⟨_, rfl⟩
      rw [hq] at ec h hc8
      subst ec
      clear hq
      unfold bodyP at h
      split at h
      · rename_i e; subst e
        injection h with h; injection h with h1 h2; injection h2 with h2 h3; subst h1 h2 h3
        exact ⟨may_leaf (by simp [mayHere, Val.unusedF, e0_toList, hp]), by unfold okN okNL; exact ⟨by omega, trivial⟩, by unfold packB; rfl⟩
      split at h
      · rename_i e; subst e
        injection h with h; injection h with h1 h2; injection h2 with h2 h3; subst h1 h2 h3
        exact ⟨may_leaf (by simp [mayHere, Val.unusedF, e0_toList, hp]), by unfold okN okNL; exact ⟨by omega, trivial⟩, by unfold packB; rfl⟩
      split at h
      · rename_i e; subst e
        obtain ⟨⟨n, r1⟩, e1, h⟩ := thenP_inv h
        injection h with h; injection h with h1 h2; injection h2 with h2 h3; subst h1 h2 h3
        have e2 := numP_ok e1
        exact ⟨may_leaf (by simp [mayHere, Val.unusedF, e0_toList, hp]), by unfold okN okNL; exact ⟨unfoldN_le e2.2, trivial⟩, by
          rw [e2.1]; unfold packB; simp only [unfoldN_fold]; rfl⟩
      split at h
      · rename_i e; subst e
        obtain ⟨⟨s, r1⟩, e1, h⟩ := thenP_inv h
        injection h with h; injection h with h1 h2; injection h2 with h2 h3; subst h1 h2 h3
        have e2 := textP_ok e1
        exact ⟨may_leaf (by simp [mayHere, Val.unusedF, e0_toList, hp]), by unfold okN okNL; exact ⟨by omega, trivial⟩, by
          rw [e2]; unfold packB; rfl⟩
      split at h
      · rename_i e; subst e
        obtain ⟨⟨n, r1⟩, e1, h⟩ := thenP_inv h
        obtain ⟨⟨⟨us, qs⟩, p2, r2⟩, e2, h⟩ := thenP_inv h
        injection h with h; injection h with h1 h2; injection h2 with h2 h3; subst h1 h2 h3
        have e3 := numP_ok e1
        obtain ⟨us2, qs2, b1, b2, b3, b4, b5, b6, b7, b8, b9⟩ := rowsA_ok IH false _ _ _ _ _ _ _ _ _ e2 (by simp)
        dsimp only at b3 e2 h
        simp only [List.nil_append] at b1 b8
        subst b1
        have hq := b5 rfl
        subst hq
        refine ⟨?_, ?_, ?_⟩
        · unfold mayV
          rw [if_pos (by simp [mayHere, Val.unusedF, e0_toList, hp])]
          exact b6
        · unfold okN; exact ⟨by omega, b7⟩
        · rw [e3.1, b8, ← b3]
          unfold packB
          simp
      split at h
      · rename_i e; subst e
        obtain ⟨⟨n, r1⟩, e1, h⟩ := thenP_inv h
        obtain ⟨⟨⟨us, qs⟩, p2, r2⟩, e2, h⟩ := thenP_inv h
        injection h with h; injection h with h1 h2; injection h2 with h2 h3; subst h1 h2 h3
        have e3 := numP_ok e1
        obtain ⟨us2, qs2, b1, b2, b3, b4, b5, b6, b7, b8, b9⟩ := rowsA_ok IH true _ _ _ _ _ _ _ _ _ e2 (fun _ => rfl)
        dsimp only at b3 b4 e2 h
        simp only [List.nil_append] at b1 b2 b8
        subst b1 b2
        have h4 := b4 rfl
        have h9 := b9 rfl
        refine ⟨?_, ?_, ?_⟩
        · unfold mayV
          rw [h9, if_pos (by simp [mayHere, Val.unusedF, e0_toList, hp, b3, h4])]
          exact b6
        · unfold okN; exact ⟨by omega, b7⟩
        · rw [e3.1, b8]
          simp only
          rw [← h4]
          unfold packB
          simp
      split at h
      · rename_i e; subst e
        obtain ⟨⟨n, r1⟩, e1, h⟩ := thenP_inv h
        injection h with h; injection h with h1 h2; injection h2 with h2 h3; subst h1 h2 h3
        have e2 := idP_ok e1
        exact ⟨may_leaf (by simp [mayHere, Val.unusedF, e0_toList, hp]; omega), by unfold okN okNL; exact ⟨by simp only; omega, trivial⟩, by
          rw [e2.1]; unfold packB; simp⟩
      split at h
      · rename_i e; subst e
        obtain ⟨⟨n, r1⟩, e1, h⟩ := thenP_inv h
        injection h with h; injection h with h1 h2; injection h2 with h2 h3; subst h1 h2 h3
        have e2 := idP_ok e1
        exact ⟨may_leaf (by simp [mayHere, Val.unusedF, e0_toList, hp]; omega), by unfold okN okNL; exact ⟨by simp only; omega, trivial⟩, by
          rw [e2.1]; unfold packB; simp⟩
      · rename_i a1 a2 a3 a4 a5 a6 a7 a8
        obtain rfl : q = 0 := by omega
        injection h with h; injection h with h1 h2; injection h2 with h2 h3; subst h1 h2 h3
        exact ⟨may_leaf (by simp [mayHere, Val.unusedF, e0_toList, hp]), by unfold okN okNL; exact ⟨by omega, trivial⟩, by unfold packB; rfl⟩
/-! ### What is cut off -/
/-- The same, with more behind. -/
def behindP {α : Type} (x : Except Int (α × List UInt8)) (y : List UInt8) : Except Int (α × List UInt8) := match x with | .error c => .error c | .ok a => .ok (a.1, a.2 ++ y)
def behindV (x : Except Int (VT × Nat × List UInt8)) (y : List UInt8) : Except Int (VT × Nat × List UInt8) := match x with | .error c => .error c | .ok a => .ok (a.1, a.2.1, a.2.2 ++ y)
def behindR (x : Except Int ((List VT × List ByteArray) × Nat × List UInt8)) (y : List UInt8) : Except Int ((List VT × List ByteArray) × Nat × List UInt8) := match x with | .error c => .error c | .ok a => .ok (a.1, a.2.1, a.2.2 ++ y)
theorem numA_more : ∀ (f acc : Nat) (l y : List UInt8), numA f acc l ≠ .error 22 → numA f acc (l ++ y) = behindP (numA f acc l) y
  | 0, _, _, _, _ => rfl
  | f + 1, _, [], _, h => absurd rfl h
  | f + 1, acc, c :: r, y, h => by
    rw [List.cons_append]
    unfold numA at h ⊢
    split at h
    · rename_i h1; rw [if_pos h1, if_pos h1]; rfl
    · rename_i h1
      rw [if_neg h1, if_neg h1]
      split at h
      · rename_i h2
        rw [if_pos h2, if_pos h2]
        split at h
        · rename_i h3; rw [if_pos h3, if_pos h3]; rfl
        · rename_i h3; rw [if_neg h3, if_neg h3]; rfl
      · rename_i h2
        rw [if_neg h2, if_neg h2]
        exact numA_more f _ r y h
theorem takeP_more {n : Nat} {l y : List UInt8} (h : takeP n l ≠ .error 22) : takeP n (l ++ y) = behindP (takeP n l) y := by
  unfold takeP at h ⊢
  split at h
  · exact absurd rfl h
  · rename_i h1
    rw [if_neg h1, if_neg (by rw [List.length_append]; omega)]
    unfold behindP
    simp only
    rw [List.take_append_of_le_length (by omega), List.drop_append_of_le_length (by omega)]
theorem then_ne {α β : Type} {x : Except Int α} {f : α → Except Int β} (h : thenP x f ≠ .error 22) : x ≠ .error 22 := fun e => h (by rw [e]; rfl)
theorem textP_more {l y : List UInt8} (h : textP l ≠ .error 22) : textP (l ++ y) = behindP (textP l) y := by
  unfold textP at h ⊢
  have h1 := numA_more 10 0 l y (then_ne h)
  unfold numP at h ⊢
  rw [h1]
  cases e : numA 10 0 l with
  | error c => rfl
  | ok a =>
    rw [e] at h
    simp only [thenP_ok, behindP] at h ⊢
    rw [takeP_more (then_ne h)]
    cases e2 : takeP a.1 a.2 with
    | error c => rfl
    | ok b => rfl
theorem idP_more {l y : List UInt8} (h : idP l ≠ .error 22) : idP (l ++ y) = behindP (idP l) y := by
  unfold idP at h ⊢
  have h1 := numA_more 10 0 l y (then_ne h)
  unfold numP at h ⊢
  rw [h1]
  cases e : numA 10 0 l with
  | error c => rfl
  | ok a =>
    simp only [thenP_ok, behindP]
    split <;> rfl
theorem keyP_more {l y : List UInt8} (h : keyP l ≠ .error 22) : keyP (l ++ y) = behindP (keyP l) y := by
  unfold keyP at h ⊢
  have h1 := numA_more 10 0 l y (then_ne h)
  unfold numP at h ⊢
  rw [h1]
  cases e : numA 10 0 l with
  | error c => rfl
  | ok a =>
    rw [e] at h
    simp only [thenP_ok, behindP] at h ⊢
    split at h
    · rename_i hb
      rw [if_pos hb, if_pos hb, takeP_more (then_ne h)]
      cases e2 : takeP a.1 a.2 with
      | error c => rfl
      | ok b => rfl
    · rename_i hb
      rw [if_neg hb, if_neg hb]
theorem nextP_more {ks : List ByteArray} {l y : List UInt8} (h : nextP ks l ≠ .error 22) : nextP ks (l ++ y) = behindP (nextP ks l) y := by
  unfold nextP at h ⊢
  rw [keyP_more (then_ne h)]
  cases e : keyP l with
  | error c => rfl
  | ok a =>
    simp only [thenP_ok, behindP]
    split <;> rfl
def More (pv : Nat → List UInt8 → Except Int (VT × Nat × List UInt8)) : Prop := ∀ p l y, pv p l ≠ .error 22 → pv p (l ++ y) = behindV (pv p l) y
theorem rowsA_more {pv : Nat → List UInt8 → Except Int (VT × Nat × List UInt8)} (H : More pv) (m : Bool) : ∀ (n p : Nat) (ts : List VT) (ks : List ByteArray) (l y : List UInt8), rowsA pv m n p ts ks l ≠ .error 22 → rowsA pv m n p ts ks (l ++ y) = behindR (rowsA pv m n p ts ks l) y
  | 0, _, _, _, _, _, _ => rfl
  | n + 1, p, ts, ks, l, y, h => by
    unfold rowsA at h ⊢
    have h0 := then_ne h
    have e0 : (if m then nextP ks (l ++ y) else .ok (ks, l ++ y)) = behindP (if m then nextP ks l else .ok (ks, l)) y := by
      cases m with
      | false => rfl
      | true => simp only [if_true] at h0 ⊢; exact nextP_more h0
    rw [e0]
    cases e : (if m then nextP ks l else .ok (ks, l)) with
    | error c => rfl
    | ok a =>
      rw [e] at h
      simp only [thenP_ok, behindP] at h ⊢
      rw [H _ _ _ (then_ne h)]
      cases e2 : pv p a.2 with
      | error c => rfl
      | ok b =>
        rw [e2] at h
        simp only [thenP_ok, behindV] at h ⊢
        exact rowsA_more H m n _ _ _ _ y h
theorem bodyP_more {pv : Nat → List UInt8 → Except Int (VT × Nat × List UInt8)} (H : More pv) (c p : Nat) (r y : List UInt8) (h : bodyP pv c p r ≠ .error 22) : bodyP pv c p (r ++ y) = behindV (bodyP pv c p r) y := by
  unfold bodyP at h ⊢
  have num : ∀ {β : Type} (f : Nat × List UInt8 → Except Int β), thenP (numP r) f ≠ .error 22 → numP (r ++ y) = behindP (numP r) y := fun f h => by
    unfold numP at h ⊢
    exact numA_more 10 0 r y (then_ne h)
  split at h
  · rename_i e; rw [if_pos e, if_pos e]; rfl
  rename_i e; rw [if_neg e, if_neg e]; clear e
  split at h
  · rename_i e; rw [if_pos e, if_pos e]; rfl
  rename_i e; rw [if_neg e, if_neg e]; clear e
  split at h
  · rename_i e; rw [if_pos e, if_pos e, num _ h]
    cases numP r <;> rfl
  rename_i e; rw [if_neg e, if_neg e]; clear e
  split at h
  · rename_i e; rw [if_pos e, if_pos e, textP_more (then_ne h)]
    cases textP r <;> rfl
  rename_i e; rw [if_neg e, if_neg e]; clear e
  split at h
  · rename_i e; rw [if_pos e, if_pos e, num _ h]
    cases en : numP r with
    | error c => rfl
    | ok a =>
      rw [en] at h
      simp only [thenP_ok, behindP] at h ⊢
      rw [rowsA_more H false _ _ _ _ _ y (then_ne h)]
      cases rowsA pv false a.1 p [] [] a.2 <;> rfl
  rename_i e; rw [if_neg e, if_neg e]; clear e
  split at h
  · rename_i e; rw [if_pos e, if_pos e, num _ h]
    cases en : numP r with
    | error c => rfl
    | ok a =>
      rw [en] at h
      simp only [thenP_ok, behindP] at h ⊢
      rw [rowsA_more H true _ _ _ _ _ y (then_ne h)]
      cases rowsA pv true a.1 p [] [] a.2 <;> rfl
  rename_i e; rw [if_neg e, if_neg e]; clear e
  split at h
  · rename_i e; rw [if_pos e, if_pos e, idP_more (then_ne h)]
    cases idP r <;> rfl
  rename_i e; rw [if_neg e, if_neg e]; clear e
  split at h
  · rename_i e; rw [if_pos e, if_pos e, idP_more (then_ne h)]
    cases idP r <;> rfl
  rename_i e; rw [if_neg e, if_neg e]; rfl
theorem parse_more : ∀ d, More (parseV d)
  | 0 => fun p l y h => by
    cases l with
    | nil => exact absurd rfl h
    | cons c l => rfl
  | d + 1 => fun p l y h => by
    cases l with
    | nil => exact absurd rfl h
    | cons c l =>
      have e : ∀ x, parseV (d + 1) p (c :: x) = if c.toNat ≤ 8 ∧ p + 1 ≤ 4096 then bodyP (parseV d) c.toNat (p + 1) x else .error 1 := fun _ => rfl
      rw [List.cons_append, e, e]
      rw [e] at h
      split at h
      · rename_i hc
        rw [if_pos hc, if_pos hc]
        exact bodyP_more (parse_more d) _ _ _ _ h
      · rename_i hc
        rw [if_neg hc, if_neg hc]
        rfl
/-- Bytes of a value that are cut off anywhere end too early. -/
theorem parse_cut {t : VT} {d p p' k : Nat} (h : mayV t d p = some p') (ho : okN t) (hz : szV t ≤ 17592186044416) (hk : k < (packB t).length) : parseV d p ((packB t).take k) = .error 22 := by
  by_cases he : parseV d p ((packB t).take k) = .error 22
  · exact he
  · exfalso
    have h1 := parse_more d p _ ((packB t).drop k) he
    rw [List.take_append_drop] at h1
    have h2 := parse_pack t d p p' [] h ho hz
    rw [List.append_nil, h1] at h2
    cases hr : parseV d p ((packB t).take k) with
    | error c => rw [hr] at h2; cases h2
    | ok a =>
      rw [hr] at h2
      unfold behindV at h2
      simp only [Except.ok.injEq, Prod.mk.injEq, List.append_eq_nil_iff, List.drop_eq_nil_iff] at h2
      omega
/-- A value's bytes, whatever stands behind. -/
theorem parse_back {t : VT} (h : mayB t = true) (ho : okN t) (hz : szV t ≤ 17592186044416) (r : List UInt8) : ∃ p', parseV 32 0 (packB t ++ r) = .ok (t, p', r) := by
  unfold mayB at h
  cases hv : mayV t 32 0 with
  | none => rw [hv] at h; cases h
  | some p' => exact ⟨p', parse_pack t 32 0 p' r hv ho hz⟩
theorem parse_may {l r : List UInt8} {t : VT} {p' : Nat} (h : parseV 32 0 l = .ok (t, p', r)) : mayB t = true ∧ okN t ∧ l = packB t ++ r := by
  obtain ⟨h1, h2, h3⟩ := parse_right 32 _ _ _ _ _ h
  exact ⟨by unfold mayB; rw [h1]; rfl, h2, h3⟩
end Pk
end Go.Proofs.Ytmhlipncelgmlaa
