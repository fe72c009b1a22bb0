/- PLAIN: texts as numbers. -/
import Derived.WalkKit
import Derived.Laws.BytesArg
import Derived.Test.YtoaliaohbpdibaaDoorNumPlain
import Derived.Test.YtoaliaohbpdibaaDoorNumTextPlain
namespace Go.Proofs.YtoaliaohbpdibaaDoor
set_option linter.unusedVariables false
set_option linter.unusedSimpArgs false
namespace Num
def isDig (c : UInt8) : Bool := decide (48 ≤ c.toNat) && decide (c.toNat ≤ 57)
theorem toList_data (s : ByteArray) : s.toList = s.data.toList := ByteArray.toList_eq _
theorem toList_ne (s : ByteArray) (h : 0 < s.size) : s.toList.isEmpty = false := by
  rw [toList_data]
  have : s.data.toList.length = s.size := by simp
  cases hl : s.data.toList with
  | nil => rw [hl] at this; simp at this; omega
  | cons a l => rfl
theorem all_dig_at {s : ByteArray} {k : Nat} (hk : k < s.size) (h : isDig s[k] = false) : s.data.toList.all isDig = false := by
  rw [List.all_eq_false]
  exact ⟨s[k], by simp [ByteArray.getElem_eq_getElem_data], by simp [h]⟩
theorem all_dig_upto {s : ByteArray} (h : ∀ j (hj : j < s.size), isDig s[j] = true) : s.data.toList.all isDig = true := by
  rw [List.all_eq_true]
  intro x hx
  obtain ⟨j, hj, rfl⟩ := List.getElem_of_mem hx
  exact h j (by simpa using hj)
theorem extract_bytes (s : ByteArray) (a b : Nat) : (s.extract a b).data = s.data.extract a b := by simp
/-- Is a text the digits of a number, a minus apart? -/
def wr (l : List UInt8) : Bool := !l.isEmpty && !(decide (1 < l.length) && l.head? == some 48) && l.all isDig
theorem wr_all {l : List UInt8} (h : wr l = true) : l.all isDig = true := by
  unfold wr at h
  simp only [Bool.and_eq_true] at h
  exact h.2
/-- The number that digits tell. -/
def valU (l : List UInt8) : Nat := l.foldl (fun n c => n * 10 + (c.toNat - 48)) 0
theorem valU_snoc (l : List UInt8) (c : UInt8) : valU (l ++ [c]) = valU l * 10 + (c.toNat - 48) := by simp [valU]
theorem foldl_mono (l : List UInt8) : ∀ n : Nat, n ≤ l.foldl (fun n c => n * 10 + (c.toNat - 48)) n := by
  induction l with
  | nil => intro n; exact Nat.le_refl _
  | cons c l ih => intro n; exact Nat.le_trans (show n ≤ n * 10 + (c.toNat - 48) by omega) (ih _)
theorem valU_append_le (a b : List UInt8) : valU a ≤ valU (a ++ b) := by
  unfold valU; rw [List.foldl_append]; exact foldl_mono b _
theorem valU_take_le (l : List UInt8) (k : Nat) : valU (l.take k) ≤ valU l := by
  have := valU_append_le (l.take k) (l.drop k)
  rwa [List.take_append_drop] at this
theorem valU_take_succ {s : ByteArray} {k : Nat} (h : k < s.size) : valU (s.data.toList.take (k + 1)) = valU (s.data.toList.take k) * 10 + (s[k].toNat - 48) := by
  rw [List.take_succ_eq_append_getElem (by simpa using h), valU_snoc]; rfl
def belowU (l : List UInt8) : Bool := l.head? == some 45
def restU (l : List UInt8) : List UInt8 := if belowU l then l.tail else l
def okP (l : List UInt8) : Bool := wr (restU l) && !(belowU l && restU l == [48])
def parseI (l : List UInt8) : Int := if belowU l then -(valU (restU l) : Int) else (valU (restU l) : Int)
def parseV (l : List UInt8) : Int := if okP l then fitV (parseI l) else 0
def parseE (l : List UInt8) : Int := if okP l then fitE (parseI l) else 1
def digU (k : Nat) : List UInt8 := (digs k).map fun z => UInt8.ofNat z.toNat
def textU (n : Int) : List UInt8 := (textN n).map fun z => UInt8.ofNat z.toNat
theorem ch_toNat (d : Nat) (h : d < 10) : (UInt8.ofNat ((48 + (d : Int)).toNat)).toNat = 48 + d := by
  rw [show (48 + (d : Int)).toNat = 48 + d by omega, UInt8.toNat_ofNat']; omega
theorem digU_lt {k : Nat} (h : k < 10) : digU k = [UInt8.ofNat ((48 + (k : Int)).toNat)] := by unfold digU; rw [digs_lt h]; rfl
theorem digU_ge {k : Nat} (h : 10 ≤ k) : digU k = digU (k / 10) ++ [UInt8.ofNat ((48 + ((k % 10 : Nat) : Int)).toNat)] := by
  unfold digU; rw [digs_ge h]; simp
theorem digU_facts (k : Nat) : (digU k).all isDig = true ∧ valU (digU k) = k ∧ ∃ c l, digU k = c :: l ∧ (c.toNat = 48 → l = []) := by
  induction k using Nat.strongRecOn with
  | ind k ih =>
    by_cases h : k < 10
    · rw [digU_lt h]
      have e := ch_toNat k h
      refine ⟨?_, ?_, _, _, rfl, fun _ => rfl⟩
      · simp [isDig, e]; omega
      · simp only [valU, List.foldl_cons, List.foldl_nil, e]; omega
    · obtain ⟨h1, h2, c, l, h3, h4⟩ := ih (k / 10) (by omega)
      rw [digU_ge (by omega)]
      have e := ch_toNat (k % 10) (Nat.mod_lt _ (by omega))
      refine ⟨?_, ?_, c, l ++ [_], by rw [h3]; rfl, fun hc => ?_⟩
      · rw [List.all_append, h1]; simp [isDig, e]; omega
      · rw [valU_snoc, h2, e]; omega
      · exfalso
        have := h4 hc
        subst this
        rw [h3] at h2
        simp [valU] at h2
        omega
theorem wr_of {l : List UInt8} (h1 : l.all isDig = true) (h2 : ∃ c t, l = c :: t ∧ (c.toNat = 48 → t = [])) : wr l = true := by
  obtain ⟨c, t, rfl, h3⟩ := h2
  unfold wr
  rw [h1]
  simp only [List.isEmpty_cons, Bool.not_false, List.head?_cons, List.length_cons, Bool.true_and, Bool.and_true, Bool.not_eq_true']
  by_cases hc : c = 48
  · have := h3 (by rw [hc]; rfl)
    subst this; rfl
  · simp [hc]
theorem belowU_digU (k : Nat) : belowU (digU k) = false := by
  obtain ⟨h1, _, c, l, h3, _⟩ := digU_facts k
  rw [h3] at h1 ⊢
  simp only [List.all_cons, Bool.and_eq_true] at h1
  have : c ≠ 45 := fun h => by rw [h] at h1; simp [isDig] at h1
  simp [belowU, this]
theorem parse_textU (n : Int) : okP (textU n) = true ∧ parseI (textU n) = n := by
  by_cases h : n < 0
  · have e : textU n = 45 :: digU (absN n) := by unfold textU; rw [textN_neg h]; rfl
    have hb : belowU (textU n) = true := by rw [e]; rfl
    have hr : restU (textU n) = digU (absN n) := by unfold restU; rw [hb, e]; rfl
    obtain ⟨h1, h2, h3⟩ := digU_facts (absN n)
    constructor
    · unfold okP
      rw [hr, wr_of h1 h3]
      have : (digU (absN n) == [48]) = false := by
        rw [beq_eq_false_iff_ne]
        intro hh
        rw [hh] at h2
        have : valU [48] = 0 := rfl
        rw [this] at h2
        unfold absN at h2; omega
      rw [this]; simp
    · unfold parseI; rw [hb, if_pos rfl, hr, h2]; unfold absN; omega
  · have e : textU n = digU (absN n) := by unfold textU; rw [textN_pos h]; rfl
    obtain ⟨h1, h2, h3⟩ := digU_facts (absN n)
    have hb : belowU (textU n) = false := by rw [e]; exact belowU_digU _
    have hr : restU (textU n) = digU (absN n) := by unfold restU; rw [hb, e]; rfl
    constructor
    · unfold okP
      rw [hr, wr_of h1 h3, hb]; rfl
    · unfold parseI; rw [hb, hr, h2]; unfold absN; simp; omega
theorem parseVE_textU {n : Int} (h : -9223372036854775808 ≤ n ∧ n ≤ 9223372036854775807) : parseV (textU n) = n ∧ parseE (textU n) = 0 := by
  obtain ⟨h1, h2⟩ := parse_textU n
  unfold parseV parseE
  rw [h1, h2, if_pos rfl, if_pos rfl]
  exact fit_in h
theorem wr_facts {l : List UInt8} (h : wr l = true) : l.all isDig = true ∧ ∃ c t, l = c :: t ∧ (c.toNat = 48 → t = []) := by
  refine ⟨wr_all h, ?_⟩
  cases l with
  | nil => simp [wr] at h
  | cons c t =>
    refine ⟨c, t, rfl, fun hc => ?_⟩
    have : c = 48 := UInt8.toNat_inj.1 hc
    subst this
    cases t with
    | nil => rfl
    | cons d t => simp [wr] at h
theorem valU_pos {c : UInt8} {t : List UInt8} (hc : 48 < c.toNat) : 1 ≤ valU (c :: t) := by
  unfold valU
  rw [List.foldl_cons]
  exact Nat.le_trans (show 1 ≤ 0 * 10 + (c.toNat - 48) by omega) (foldl_mono _ _)
theorem ch_ofNat (c : UInt8) (h1 : 48 ≤ c.toNat) : UInt8.ofNat ((48 + ((c.toNat - 48 : Nat) : Int)).toNat) = c := by
  rw [show (48 + ((c.toNat - 48 : Nat) : Int)).toNat = c.toNat by omega]; simp
theorem digU_valU : ∀ (n : Nat) (l : List UInt8), l.length = n → l.all isDig = true → (∃ c t, l = c :: t ∧ (c.toNat = 48 → t = [])) → digU (valU l) = l
  | 0, l, hn, _, ⟨c, t, e, _⟩ => by subst e; simp at hn
  | n + 1, l, hn, h1, ⟨c, t, e, h3⟩ => by
    have hne : l ≠ [] := by rw [e]; simp
    have hl := List.dropLast_concat_getLast hne
    generalize hd : l.dropLast = d at hl
    generalize l.getLast hne = x at hl
    rw [← hl, List.all_append] at h1
    simp only [Bool.and_eq_true, List.all_cons, List.all_nil, Bool.and_true] at h1
    obtain ⟨h1, hx⟩ := h1
    have hx' : 48 ≤ x.toNat ∧ x.toNat ≤ 57 := by simpa [isDig] using hx
    rw [← hl, valU_snoc]
    cases hdd : d with
    | nil =>
      have : valU [] = 0 := rfl
      rw [this, show 0 * 10 + (x.toNat - 48) = x.toNat - 48 by omega, digU_lt (by omega), ch_ofNat x hx'.1]; rfl
    | cons c' t' =>
      rw [hdd] at hl h1
      have hc' : c' = c := by rw [e] at hl; simp at hl; exact hl.1
      subst hc'
      have hct : 48 < c'.toNat := by
        simp only [List.all_cons, Bool.and_eq_true] at h1
        have : 48 ≤ c'.toNat := by have := h1.1; simp [isDig] at this; exact this.1
        rcases (show c'.toNat = 48 ∨ 48 < c'.toNat by omega) with h | h
        · have := h3 h
          rw [e, this] at hl
          simp at hl
        · exact h
      have hv := valU_pos (t := t') hct
      have ih := digU_valU n (c' :: t') (by rw [← hl] at hn; simpa using hn) h1 ⟨c', t', rfl, fun h => by omega⟩
      have hm : (valU (c' :: t') * 10 + (x.toNat - 48)) / 10 = valU (c' :: t') := by omega
      have hm2 : (valU (c' :: t') * 10 + (x.toNat - 48)) % 10 = x.toNat - 48 := by omega
      rw [digU_ge (by omega), hm, hm2, ih, ch_ofNat x hx'.1]
theorem text_parse {l : List UInt8} (h : parseE l = 0) : textU (parseV l) = l ∧ (-9223372036854775808 ≤ parseV l ∧ parseV l ≤ 9223372036854775807) := by
  unfold parseE at h
  unfold parseV
  cases hok : okP l with
  | false => rw [hok] at h; simp at h
  | true =>
    rw [hok, if_pos rfl] at h
    rw [if_pos rfl]
    by_cases hin : -9223372036854775808 ≤ parseI l ∧ parseI l ≤ 9223372036854775807
    · rw [(fit_in hin).1]
      refine ⟨?_, hin⟩
      unfold okP at hok
      simp only [Bool.and_eq_true] at hok
      obtain ⟨hw, hz⟩ := hok
      obtain ⟨g1, g2⟩ := wr_facts hw
      have hg := digU_valU _ _ rfl g1 g2
      unfold parseI
      cases hb : belowU l with
      | true =>
        rw [hb] at hz
        have hl : l = 45 :: restU l := by
          unfold restU; rw [hb, if_pos rfl]
          unfold belowU at hb
          cases l with
          | nil => simp at hb
          | cons a t => simp at hb; rw [hb]; rfl
        have hpos : 1 ≤ valU (restU l) := by
          obtain ⟨c, t, e, h3⟩ := g2
          rw [e]
          rw [e] at g1 hz
          simp only [List.all_cons, Bool.and_eq_true] at g1
          have : 48 ≤ c.toNat := by have := g1.1; simp [isDig] at this; exact this.1
          rcases (show c.toNat = 48 ∨ 48 < c.toNat by omega) with h | h
          · have h4 := h3 h
            have h5 : c = 48 := UInt8.toNat_inj.1 h
            rw [h4, h5] at hz
            simp at hz
          · exact valU_pos h
        rw [if_pos rfl]
        unfold textU
        rw [textN_neg (by omega)]
        have : absN (-(valU (restU l) : Int)) = valU (restU l) := by unfold absN; omega
        rw [this, List.map_cons]
        show _ :: digU (valU (restU l)) = l
        rw [hg]
        exact hl.symm
      | false =>
        have hl : restU l = l := by unfold restU; rw [hb]; rfl
        rw [hl] at hg ⊢
        simp only [Bool.false_eq_true, if_false]
        unfold textU
        rw [textN_pos (by omega)]
        have : absN (valU l : Int) = valU l := by unfold absN; omega
        rw [this]
        exact hg
    · rw [(fit_out hin).2] at h
      simp at h
theorem parse_fails {l : List UInt8} (h : parseE l ≠ 0) : parseV l = 0 := by
  unfold parseE at h
  unfold parseV
  cases hok : okP l with
  | false => rfl
  | true =>
    rw [hok, if_pos rfl] at h
    rw [if_pos rfl]
    by_cases hin : -9223372036854775808 ≤ parseI l ∧ parseI l ≤ 9223372036854775807
    · exact absurd (fit_in hin).2 h
    · exact (fit_out hin).1
theorem text_bytes (n : Int) : (strOfNums (textN n)).data.toList = textU n := strOfNums_data _
theorem digs_length (k : Nat) : (digs k).length ≤ k + 1 := by
  induction k using Nat.strongRecOn with
  | ind k ih =>
    by_cases h : k < 10
    · rw [digs_lt h]; simp
    · rw [digs_ge (by omega), List.length_append]
      have := ih (k / 10) (by omega)
      simp; omega
theorem text_size (n : Int) (h1 : -9223372036854775808 ≤ n) (h2 : n ≤ 9223372036854775807) : (strOfNums (textN n)).size ≤ maxLen := by
  rw [strOfNums_size]
  unfold maxLen
  have hN := absN_le h1 h2
  have hl : (digs (absN n)).length ≤ absN n / 10 + 2 := by
    by_cases h : absN n < 10
    · rw [digs_lt h]; simp
    · rw [digs_ge (by omega), List.length_append]
      have := digs_length (absN n / 10)
      simp; omega
  unfold textN
  split <;> simp <;> omega
theorem step_p (s : ByteArray) (k : Nat) (hk : k < s.size) (ha : s.data.toList.all isDig = true) :
    ∃ d : Nat, s[k].toNat = 48 + d ∧ d ≤ 9 ∧ valU (s.data.toList.take (k + 1)) = valU (s.data.toList.take k) * 10 + d := by
  have hdig : isDig s[k] = true := List.all_eq_true.1 ha s[k] (by simp [ByteArray.getElem_eq_getElem_data])
  have hx := valU_take_succ hk
  refine ⟨s[k].toNat - 48, ?_, ?_, hx⟩ <;> (simp [isDig] at hdig; omega)
theorem step_m (s : ByteArray) (k : Nat) (h1 : 1 < s.size) (hk : k < s.size - 1) (ha : (s.extract 1 s.size).data.toList.all isDig = true) :
    ∃ d : Nat, ((s.extract 1 s.size)[k]'(by simp; omega)).toNat = 48 + d ∧ d ≤ 9 ∧ valU ((s.extract 1 s.size).data.toList.take (k + 1)) = valU ((s.extract 1 s.size).data.toList.take k) * 10 + d :=
  step_p (s.extract 1 s.size) k (by simp; omega) ha
end Num
end Go.Proofs.YtoaliaohbpdibaaDoor
