/- Frame: frames of loads, and what a stream tells, as plain functions of lists of bytes. Of no program. -/
import Derived.Test.YtbejacmbbkdbnaaRows
namespace Go.Proofs.Ytbejacmbbkdbnaa
set_option linter.unusedVariables false
namespace Fr
/-- The number that the first four bytes tell. -/
def num4 (s : List UInt8) : Nat := (((s.getD 0 0).toNat * 256 + (s.getD 1 0).toNat) * 256 + (s.getD 2 0).toNat) * 256 + (s.getD 3 0).toNat
/-- May a load have so many bytes? -/
def okN (n : Nat) : Bool := decide (1 ≤ n) && decide (n ≤ 32768)
theorem okN_true {n : Nat} : okN n = true ↔ 1 ≤ n ∧ n ≤ 32768 := by simp [okN]
theorem okN_false {n : Nat} : okN n = false ↔ n = 0 ∨ 32768 < n := by
  unfold okN
  rw [Bool.and_eq_false_iff, decide_eq_false_iff_not, decide_eq_false_iff_not]
  omega
/-- What a stream tells: its whole loads, whether it is broken, what is left. -/
def parseF : Nat → List UInt8 → List (List UInt8) × Bool × List UInt8
  | 0, s => ([], false, s)
  | f + 1, s =>
    if s.length < 4 then ([], false, s)
    else if okN (num4 s) = false then ([], true, [])
    else if s.length < 4 + num4 s then ([], false, s)
    else ((s.drop 4).take (num4 s) :: (parseF f (s.drop (4 + num4 s))).1, (parseF f (s.drop (4 + num4 s))).2)
def parse (s : List UInt8) : List (List UInt8) × Bool × List UInt8 := parseF s.length s
theorem parseF_fuel : ∀ (f g : Nat) (s : List UInt8), s.length ≤ f → s.length ≤ g → parseF f s = parseF g s
  | 0, 0, s, _, _ => rfl
  | 0, g + 1, s, h, _ => by
    have : s.length < 4 := by omega
    simp [parseF, this]
  | f + 1, 0, s, _, h => by
    have : s.length < 4 := by omega
    simp [parseF, this]
  | f + 1, g + 1, s, h1, h2 => by
    unfold parseF
    by_cases a : s.length < 4
    · rw [if_pos a, if_pos a]
    · rw [if_neg a, if_neg a, parseF_fuel f g (s.drop (4 + num4 s)) (by rw [List.length_drop]; omega) (by rw [List.length_drop]; omega)]
theorem parse_short {s : List UInt8} (h : s.length < 4) : parse s = ([], false, s) := by
  unfold parse
  cases hs : s.length with
  | zero => rfl
  | succ n => unfold parseF; rw [if_pos h]
theorem parse_bad {s : List UInt8} (h : 4 ≤ s.length) (hb : okN (num4 s) = false) : parse s = ([], true, []) := by
  unfold parse
  cases hs : s.length with
  | zero => omega
  | succ n => unfold parseF; rw [if_neg (by omega), if_pos hb]
theorem parse_part {s : List UInt8} (h : 4 ≤ s.length) (hb : okN (num4 s) = true) (hl : s.length < 4 + num4 s) : parse s = ([], false, s) := by
  unfold parse
  cases hs : s.length with
  | zero => rfl
  | succ n => unfold parseF; rw [if_neg (by omega), if_neg (by rw [hb]; decide), if_pos hl]
theorem parse_whole {s : List UInt8} (h : 4 ≤ s.length) (hb : okN (num4 s) = true) (hl : 4 + num4 s ≤ s.length) :
    parse s = ((s.drop 4).take (num4 s) :: (parse (s.drop (4 + num4 s))).1, (parse (s.drop (4 + num4 s))).2) := by
  have hd : (s.drop (4 + num4 s)).length = s.length - (4 + num4 s) := List.length_drop
  have e : parseF (s.length - 1) (s.drop (4 + num4 s)) = parse (s.drop (4 + num4 s)) := parseF_fuel _ _ _ (by rw [hd]; omega) (Nat.le_refl _)
  rw [← e]
  unfold parse
  cases hs : s.length with
  | zero => omega
  | succ n =>
    rw [Nat.add_sub_cancel]
    show parseF (n + 1) s = _
    rw [parseF]
    rw [if_neg (by omega), if_neg (by rw [hb]; decide), if_neg (by omega)]
/-- It is not yet known whether a frame is whole, or may not be. -/
def Part (h : List UInt8) : Prop := h.length < 4 ∨ (okN (num4 h) = true ∧ h.length < 4 + num4 h)
theorem Part.nil : Part [] := .inl (by decide)
theorem num4_take (s : List UInt8) {m : Nat} (h : 4 ≤ m) : num4 (s.take m) = num4 s := by
  unfold num4
  simp only [List.getD, List.getElem?_take]
  rw [if_pos (by omega), if_pos (by omega), if_pos (by omega), if_pos (by omega)]
theorem num4_append {s t : List UInt8} (h : 4 ≤ s.length) : num4 (s ++ t) = num4 s := by
  rw [← num4_take (s ++ t) h, List.take_left]
/-- What is left is a part. -/
theorem parse_rest : ∀ (n : Nat) (s : List UInt8), s.length ≤ n → Part (parse s).2.2 ∧ ((parse s).2.1 = true → (parse s).2.2 = []) := by
  intro n
  induction n with
  | zero =>
    intro s h
    rw [parse_short (by omega)]
    exact ⟨.inl (by show s.length < 4; omega), fun h => by cases h⟩
  | succ n ih =>
    intro s h
    by_cases a : s.length < 4
    · rw [parse_short a]; exact ⟨.inl a, fun h => by cases h⟩
    · cases hb : okN (num4 s) with
      | false => rw [parse_bad (by omega) hb]; exact ⟨.nil, fun _ => rfl⟩
      | true =>
        by_cases hl : s.length < 4 + num4 s
        · rw [parse_part (by omega) hb hl]; exact ⟨.inr ⟨hb, hl⟩, fun h => by cases h⟩
        · rw [parse_whole (by omega) hb (by omega)]
          exact ih _ (by rw [List.length_drop]; omega)
theorem parse_of_part {h : List UInt8} (hp : Part h) : parse h = ([], false, h) := by
  by_cases a : h.length < 4
  · exact parse_short a
  · rcases hp with hp | hp
    · exact absurd hp a
    · exact parse_part (by omega) hp.1 hp.2
/-- **IT DOES NOT MATTER HOW A STREAM IS CUT.** -/
theorem parse_append : ∀ (n : Nat) (s t : List UInt8), s.length ≤ n → parse (s ++ t) = if (parse s).2.1 then parse s else ((parse s).1 ++ (parse ((parse s).2.2 ++ t)).1, (parse ((parse s).2.2 ++ t)).2) := by
  intro n
  induction n with
  | zero =>
    intro s t h
    obtain rfl := List.eq_nil_of_length_eq_zero (Nat.le_zero.1 h)
    rw [parse_short (s := []) (by decide)]
    simp
  | succ n ih =>
    intro s t h
    by_cases a : s.length < 4
    · rw [parse_short a]; simp
    · have h4 : 4 ≤ s.length := by omega
      have h4' : 4 ≤ (s ++ t).length := by rw [List.length_append]; omega
      have hn := num4_append (t := t) h4
      cases hb : okN (num4 s) with
      | false => rw [parse_bad h4 hb, parse_bad h4' (by rw [hn]; exact hb)]; simp
      | true =>
        by_cases hl : s.length < 4 + num4 s
        · rw [parse_part h4 hb hl]; simp
        · have hl' : 4 + num4 (s ++ t) ≤ (s ++ t).length := by rw [hn, List.length_append]; omega
          rw [parse_whole h4 hb (by omega), parse_whole h4' (by rw [hn]; exact hb) hl', hn]
          have hd : (s ++ t).drop (4 + num4 s) = s.drop (4 + num4 s) ++ t := List.drop_append_of_le_length (by omega)
          have ht : ((s ++ t).drop 4).take (num4 s) = (s.drop 4).take (num4 s) := by
            rw [List.drop_append_of_le_length h4, List.take_append_of_le_length (by rw [List.length_drop]; omega)]
          rw [hd, ht, ih (s.drop (4 + num4 s)) t (by rw [List.length_drop]; omega)]
          cases hB : (parse (s.drop (4 + num4 s))).2.1 with
          | true => simp
          | false => simp
theorem parse_cut (s t : List UInt8) : parse (s ++ t) = if (parse s).2.1 then parse s else ((parse s).1 ++ (parse ((parse s).2.2 ++ t)).1, (parse ((parse s).2.2 ++ t)).2) := parse_append s.length s t (Nat.le_refl _)
/-- A load's frame. -/
def head4 (n : Nat) : List UInt8 := [UInt8.ofNat (n / 16777216), UInt8.ofNat (n / 65536), UInt8.ofNat (n / 256), UInt8.ofNat n]
def frameB (l : List UInt8) : List UInt8 := head4 l.length ++ l
theorem num4_frame (l t : List UInt8) (h : okN l.length = true) : num4 (frameB l ++ t) = l.length := by
  have hl := okN_true.1 h
  unfold frameB head4 num4
  simp
  omega
theorem frameB_len (l : List UInt8) : (frameB l).length = 4 + l.length := by
  unfold frameB head4
  simp
  omega
theorem parse_frame (l t : List UInt8) (h : okN l.length = true) : parse (frameB l ++ t) = (l :: (parse t).1, (parse t).2) := by
  have hn := num4_frame l t h
  have hlen : (frameB l ++ t).length = 4 + l.length + t.length := by rw [List.length_append, frameB_len]
  rw [parse_whole (by omega) (by rw [hn]; exact h) (by rw [hn]; omega), hn]
  have hd : (frameB l ++ t).drop (4 + l.length) = t := by
    rw [← frameB_len l]
    exact List.drop_left
  have ht : ((frameB l ++ t).drop 4).take l.length = l := by
    rw [show frameB l ++ t = head4 l.length ++ (l ++ t) by unfold frameB; rw [List.append_assoc], show (4 : Nat) = (head4 l.length).length from rfl, List.drop_left]
    exact List.take_left
  rw [hd, ht]
end Fr
end Go.Proofs.Ytbejacmbbkdbnaa
