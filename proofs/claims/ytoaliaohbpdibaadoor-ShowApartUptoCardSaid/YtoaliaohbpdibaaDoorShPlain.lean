/- Show, plain: signs of Unicode, texts in quotes and back; no program in this text. -/
import Derived.Lib.TrimUEq
import Derived.Lib.RuneBytes
import Derived.Lib.Bytealg
set_option linter.unusedVariables false
set_option linter.unusedSimpArgs false
namespace Go.Proofs.YtoaliaohbpdibaaDoor.Sh
open Go.Lib

/-- How many bytes the sign at the front has (0: there is none), of n bytes that begin so. -/
def sgN (n b0 b1 b2 b3 : Nat) : Nat :=
  if n = 0 then 0
  else if b0 < 128 then 1
  else if b0 < 194 ∨ 244 < b0 ∨ ¬ (1 < n ∧ 128 ≤ b1 ∧ b1 < 192) then 0
  else if b0 < 224 then 2
  else if ¬ (2 < n ∧ 128 ≤ b2 ∧ b2 < 192) ∨ (b0 = 224 ∧ b1 < 160) ∨ (b0 = 237 ∧ 160 ≤ b1) then 0
  else if b0 < 240 then 3
  else if ¬ (3 < n ∧ 128 ≤ b3 ∧ b3 < 192) ∨ (b0 = 240 ∧ b1 < 144) ∨ (b0 = 244 ∧ 144 ≤ b1) then 0
  else 4

theorem sgN_le (n b0 b1 b2 b3 : Nat) : sgN n b0 b1 b2 b3 ≤ n ∧ sgN n b0 b1 b2 b3 ≤ 4 := by
  unfold sgN
  repeat' split
  all_goals omega

set_option maxHeartbeats 2000000 in
theorem decodeN_bad (n b0 b1 b2 b3 : Nat) (hn : 1 ≤ n) (h0 : b0 < 256) (h1 : b1 < 256) (h2 : b2 < 256) (h3 : b3 < 256) (h : sgN n b0 b1 b2 b3 = 0) : decodeN n b0 b1 b2 b3 = (65533, 1) := by
  revert h
  unfold sgN decodeN
  repeat' split
  all_goals first | (intro h; rfl) | (intro h; exfalso; omega) | (exfalso; omega) | (intro h; simp only [Prod.mk.injEq]; omega)

set_option maxHeartbeats 2000000 in
theorem decodeN_one (n b0 b1 b2 b3 : Nat) (h : sgN n b0 b1 b2 b3 = 1) : decodeN n b0 b1 b2 b3 = (b0, 1) ∧ b0 < 128 := by
  revert h
  unfold sgN decodeN
  repeat' split
  all_goals first | (intro h; exfalso; omega) | (exfalso; omega) | (intro h; exact ⟨rfl, by omega⟩)

set_option maxHeartbeats 2000000 in
theorem decodeN_two (n b0 b1 b2 b3 : Nat) (h0 : b0 < 256) (h1 : b1 < 256) (h2 : b2 < 256) (h3 : b3 < 256) (h : sgN n b0 b1 b2 b3 = 2) : decodeN n b0 b1 b2 b3 = (b0 % 32 * 64 + b1 % 64, 2) ∧ 194 ≤ b0 ∧ b0 < 224 ∧ 128 ≤ b1 ∧ b1 < 192 := by
  revert h
  unfold sgN decodeN
  repeat' split
  all_goals first | (intro h; exfalso; omega) | (exfalso; omega) | (intro h; exact ⟨rfl, by omega⟩)

set_option maxHeartbeats 2000000 in
theorem decodeN_three (n b0 b1 b2 b3 : Nat) (h0 : b0 < 256) (h1 : b1 < 256) (h2 : b2 < 256) (h3 : b3 < 256) (h : sgN n b0 b1 b2 b3 = 3) :
    decodeN n b0 b1 b2 b3 = (b0 % 16 * 4096 + b1 % 64 * 64 + b2 % 64, 3) ∧ 224 ≤ b0 ∧ b0 < 240 ∧ 128 ≤ b1 ∧ b1 < 192 ∧ 128 ≤ b2 ∧ b2 < 192 ∧ ¬ (b0 = 224 ∧ b1 < 160) ∧ ¬ (b0 = 237 ∧ 160 ≤ b1) := by
  revert h
  unfold sgN decodeN
  repeat' split
  all_goals first | (intro h; exfalso; omega) | (exfalso; omega) | (intro h; exact ⟨rfl, by omega⟩)

set_option maxHeartbeats 2000000 in
theorem decodeN_four (n b0 b1 b2 b3 : Nat) (h0 : b0 < 256) (h1 : b1 < 256) (h2 : b2 < 256) (h3 : b3 < 256) (h : sgN n b0 b1 b2 b3 = 4) :
    decodeN n b0 b1 b2 b3 = (b0 % 8 * 262144 + b1 % 64 * 4096 + b2 % 64 * 64 + b3 % 64, 4) ∧ 240 ≤ b0 ∧ b0 ≤ 244 ∧ 128 ≤ b1 ∧ b1 < 192 ∧ 128 ≤ b2 ∧ b2 < 192 ∧ 128 ≤ b3 ∧ b3 < 192 ∧ ¬ (b0 = 240 ∧ b1 < 144) ∧ ¬ (b0 = 244 ∧ 144 ≤ b1) := by
  revert h
  unfold sgN decodeN
  repeat' split
  all_goals first | (intro h; exfalso; omega) | (exfalso; omega) | (intro h; exact ⟨rfl, by omega⟩)

/-- The sign at the front of a row of bytes. -/
def sgL (l : List UInt8) : Nat := sgN l.length (l.getD 0 0).toNat (l.getD 1 0).toNat (l.getD 2 0).toNat (l.getD 3 0).toNat

theorem u8_lt (c : UInt8) : c.toNat < 256 := c.toNat_lt

theorem sgL_le (l : List UInt8) : sgL l ≤ l.length ∧ sgL l ≤ 4 := sgN_le _ _ _ _ _

/-- How far a range goes on. -/
def stL (l : List UInt8) : Nat := if sgL l = 0 then 1 else sgL l

theorem stL_pos (l : List UInt8) : 1 ≤ stL l ∧ stL l ≤ 4 := by
  have := sgL_le l
  unfold stL
  split <;> omega
theorem stL_le (l : List UInt8) (h : l ≠ []) : stL l ≤ l.length := by
  have := sgL_le l
  have : 0 < l.length := List.length_pos_iff.2 h
  unfold stL
  split <;> omega

theorem enc_aux (l : List UInt8) (k : Nat) (hk : k ≤ l.length) (zs : List Int) (h : zs = (l.take k).map fun c => (c.toNat : Int)) : zs.map (fun x => x.toNat.toUInt8) = l.take k := by
  subst h
  rw [List.map_map]
  conv => rhs; rw [← List.map_id (l.take k)]
  apply List.map_congr_left
  intro c _
  simp [Function.comp]

theorem takes (l : List UInt8) : (1 ≤ l.length → l.take 1 = [l.getD 0 0]) ∧ (2 ≤ l.length → l.take 2 = [l.getD 0 0, l.getD 1 0]) ∧ (3 ≤ l.length → l.take 3 = [l.getD 0 0, l.getD 1 0, l.getD 2 0]) ∧ (4 ≤ l.length → l.take 4 = [l.getD 0 0, l.getD 1 0, l.getD 2 0, l.getD 3 0]) := by
  rcases l with _ | ⟨a, _ | ⟨b, _ | ⟨c, _ | ⟨d, l⟩⟩⟩⟩ <;> simp

/-- What a range tells of the front. -/
theorem decodeL_step (l : List UInt8) (hl : l ≠ []) : (decodeL l).2 = stL l := by
  have hn : 1 ≤ l.length := List.length_pos_iff.2 hl
  rw [decodeL_N]
  have hle := sgL_le l
  unfold stL
  have hs : sgL l = 0 ∨ sgL l = 1 ∨ sgL l = 2 ∨ sgL l = 3 ∨ sgL l = 4 := by omega
  rcases hs with h | h | h | h | h
  · rw [h, if_pos rfl, decodeN_bad _ _ _ _ _ hn (u8_lt _) (u8_lt _) (u8_lt _) (u8_lt _) h]
  · rw [h, (decodeN_one _ _ _ _ _ h).1]; rfl
  · rw [h, (decodeN_two _ _ _ _ _ (u8_lt _) (u8_lt _) (u8_lt _) (u8_lt _) h).1]; rfl
  · rw [h, (decodeN_three _ _ _ _ _ (u8_lt _) (u8_lt _) (u8_lt _) (u8_lt _) h).1]; rfl
  · rw [h, (decodeN_four _ _ _ _ _ (u8_lt _) (u8_lt _) (u8_lt _) (u8_lt _) h).1]; rfl

theorem decodeL_bad (l : List UInt8) (hl : l ≠ []) (h : sgL l = 0) : (decodeL l).1 = 65533 := by
  rw [decodeL_N, decodeN_bad _ _ _ _ _ (List.length_pos_iff.2 hl) (u8_lt _) (u8_lt _) (u8_lt _) (u8_lt _) h]

theorem decodeL_one (l : List UInt8) (h : (l.getD 0 0).toNat < 128) (hl : l ≠ []) : (decodeL l).1 = (l.getD 0 0).toNat ∧ sgL l = 1 := by
  have hn : 1 ≤ l.length := List.length_pos_iff.2 hl
  have hs : sgL l = 1 := by unfold sgL sgN; rw [if_neg (by omega), if_pos h]
  exact ⟨by rw [decodeL_N, (decodeN_one _ _ _ _ _ hs).1], hs⟩

theorem decodeL_big (l : List UInt8) (h : 128 ≤ (l.getD 0 0).toNat) (hl : l ≠ []) : 128 ≤ (decodeL l).1 := by
  have hn : 1 ≤ l.length := List.length_pos_iff.2 hl
  have hle := sgL_le l
  rw [decodeL_N]
  have hs : sgL l = 0 ∨ sgL l = 1 ∨ sgL l = 2 ∨ sgL l = 3 ∨ sgL l = 4 := by omega
  rcases hs with g | g | g | g | g
  · rw [decodeN_bad _ _ _ _ _ hn (u8_lt _) (u8_lt _) (u8_lt _) (u8_lt _) g]; simp
  · have := (decodeN_one _ _ _ _ _ g).2; omega
  · have := decodeN_two _ _ _ _ _ (u8_lt _) (u8_lt _) (u8_lt _) (u8_lt _) g
    rw [this.1]; simp only; omega
  · have := decodeN_three _ _ _ _ _ (u8_lt _) (u8_lt _) (u8_lt _) (u8_lt _) g
    rw [this.1]; simp only; omega
  · have := decodeN_four _ _ _ _ _ (u8_lt _) (u8_lt _) (u8_lt _) (u8_lt _) g
    rw [this.1]; simp only; omega

/-- A sign is told as what it is. -/
theorem decodeL_enc (l : List UInt8) (h : 0 < sgL l) : encodeRune (decodeL l).1 = l.take (sgL l) := by
  have hle := sgL_le l
  have tk := takes l
  rw [decodeL_N]
  have hs : sgL l = 1 ∨ sgL l = 2 ∨ sgL l = 3 ∨ sgL l = 4 := by omega
  rcases hs with g | g | g | g
  · have q := decodeN_one _ _ _ _ _ g
    rw [q.1, g]
    refine enc_aux l 1 (by omega) _ ?_
    rw [tk.1 (by omega)]
    simp only [List.map_cons, List.map_nil]
    exact encodeRuneZ_one (by omega) (by omega)
  · have q := decodeN_two _ _ _ _ _ (u8_lt _) (u8_lt _) (u8_lt _) (u8_lt _) g
    rw [q.1, g]
    refine enc_aux l 2 (by omega) _ ?_
    rw [tk.2.1 (by omega)]
    simp only [List.map_cons, List.map_nil]
    rw [encodeRuneZ_two (by omega) (by omega)]
    simp only [List.cons.injEq, and_true]
    omega
  · have q := decodeN_three _ _ _ _ _ (u8_lt _) (u8_lt _) (u8_lt _) (u8_lt _) g
    rw [q.1, g]
    refine enc_aux l 3 (by omega) _ ?_
    rw [tk.2.2.1 (by omega)]
    simp only [List.map_cons, List.map_nil]
    rw [encodeRuneZ_three (by omega)]
    simp only [List.cons.injEq, and_true]
    omega
  · have q := decodeN_four _ _ _ _ _ (u8_lt _) (u8_lt _) (u8_lt _) (u8_lt _) g
    rw [q.1, g]
    refine enc_aux l 4 (by omega) _ ?_
    rw [tk.2.2.2 (by omega)]
    simp only [List.map_cons, List.map_nil]
    rw [encodeRuneZ_four (by omega) (by omega)]
    simp only [List.cons.injEq, and_true]
    omega

theorem decodeL_fffd (l : List UInt8) (hl : l ≠ []) (h : (decodeL l).1 = 65533) (h2 : 0 < sgL l) : sgL l = 3 ∧ (l.getD 0 0).toNat = 239 ∧ (l.getD 1 0).toNat = 191 ∧ (l.getD 2 0).toNat = 189 := by
  have hle := sgL_le l
  rw [decodeL_N] at h
  have hs : sgL l = 1 ∨ sgL l = 2 ∨ sgL l = 3 ∨ sgL l = 4 := by omega
  have l0 := u8_lt (l.getD 0 0); have l1 := u8_lt (l.getD 1 0); have l2 := u8_lt (l.getD 2 0); have l3 := u8_lt (l.getD 3 0)
  rcases hs with g | g | g | g
  · have q := decodeN_one _ _ _ _ _ g
    rw [q.1] at h; simp only at h; omega
  · have q := decodeN_two _ _ _ _ _ (u8_lt _) (u8_lt _) (u8_lt _) (u8_lt _) g
    rw [q.1] at h; simp only at h; omega
  · have q := decodeN_three _ _ _ _ _ (u8_lt _) (u8_lt _) (u8_lt _) (u8_lt _) g
    rw [q.1] at h; simp only at h; omega
  · have q := decodeN_four _ _ _ _ _ (u8_lt _) (u8_lt _) (u8_lt _) (u8_lt _) g
    rw [q.1] at h; simp only at h; omega

/-- A sign stands at the front whatever is behind it. -/
theorem sgL_more (l r : List UInt8) (h : 0 < sgL l) : sgL (l.take (sgL l) ++ r) = sgL l := by
  have hle := sgL_le l
  have tk := takes l
  have hs : sgL l = 1 ∨ sgL l = 2 ∨ sgL l = 3 ∨ sgL l = 4 := by omega
  rcases hs with g | g | g | g
  · rw [g, tk.1 (by omega)]
    have q := decodeN_one _ _ _ _ _ g
    unfold sgL sgN
    simp only [List.cons_append, List.nil_append, List.length_cons, List.getD_cons_zero]
    rw [if_neg (by omega), if_pos (by omega)]
  · rw [g, tk.2.1 (by omega)]
    have q := decodeN_two _ _ _ _ _ (u8_lt _) (u8_lt _) (u8_lt _) (u8_lt _) g
    unfold sgL sgN
    simp only [List.cons_append, List.nil_append, List.length_cons, List.getD_cons_zero, List.getD_cons_succ]
    rw [if_neg (by omega), if_neg (by omega), if_neg (by omega), if_pos (by omega)]
  · rw [g, tk.2.2.1 (by omega)]
    have q := decodeN_three _ _ _ _ _ (u8_lt _) (u8_lt _) (u8_lt _) (u8_lt _) g
    unfold sgL sgN
    simp only [List.cons_append, List.nil_append, List.length_cons, List.getD_cons_zero, List.getD_cons_succ]
    rw [if_neg (by omega), if_neg (by omega), if_neg (by omega), if_neg (by omega), if_neg (by omega), if_pos (by omega)]
  · rw [g, tk.2.2.2 (by omega)]
    have q := decodeN_four _ _ _ _ _ (u8_lt _) (u8_lt _) (u8_lt _) (u8_lt _) g
    unfold sgL sgN
    simp only [List.cons_append, List.nil_append, List.length_cons, List.getD_cons_zero, List.getD_cons_succ]
    rw [if_neg (by omega), if_neg (by omega), if_neg (by omega), if_neg (by omega), if_neg (by omega), if_neg (by omega), if_neg (by omega)]

/-- Does the sign at the front stand in quotes as it is? -/
def bareL (l : List UInt8) : Bool := decide (0 < sgL l) && decide (32 ≤ (l.getD 0 0).toNat) && !(l.getD 0 0 == 127) && !(l.getD 0 0 == 92) && !(l.getD 0 0 == 39)
/-- The same, by the sign that a range tells. -/
def bareR (r : Nat) (l : List UInt8) : Bool :=
  if r < 32 ∨ r = 127 ∨ r = 92 ∨ r = 39 then false else if r = 65533 then hasPrefix l [239, 191, 189] else true

theorem u8_eq (c : UInt8) (k : Nat) (hk : k < 256) : (c == k.toUInt8) = decide (c.toNat = k) := by
  rw [Bool.eq_iff_iff]
  simp only [beq_iff_eq, decide_eq_true_eq]
  constructor
  · rintro rfl; simp; omega
  · intro h; apply UInt8.toNat_inj.1; rw [h]; simp; omega

theorem bare_eq (l : List UInt8) (hl : l ≠ []) : bareR (decodeL l).1 l = bareL l := by
  have e127 := u8_eq (l.getD 0 0) 127 (by omega)
  have e92 := u8_eq (l.getD 0 0) 92 (by omega)
  have e39 := u8_eq (l.getD 0 0) 39 (by omega)
  simp only [show Nat.toUInt8 127 = (127 : UInt8) from rfl, show Nat.toUInt8 92 = (92 : UInt8) from rfl, show Nat.toUInt8 39 = (39 : UInt8) from rfl] at e127 e92 e39
  unfold bareR bareL
  rw [e127, e92, e39]
  by_cases hb : (l.getD 0 0).toNat < 128
  · obtain ⟨h1, h2⟩ := decodeL_one l hb hl
    rw [h1, h2]
    by_cases c : (l.getD 0 0).toNat < 32 ∨ (l.getD 0 0).toNat = 127 ∨ (l.getD 0 0).toNat = 92 ∨ (l.getD 0 0).toNat = 39
    · rw [if_pos c]
      symm
      simp only [Bool.and_eq_false_iff, Bool.not_eq_eq_eq_not, Bool.not_false, decide_eq_true_eq, decide_eq_false_iff_not]
      omega
    · rw [if_neg c, if_neg (by omega)]
      symm
      simp only [Bool.and_eq_true, Bool.not_eq_eq_eq_not, Bool.not_true, decide_eq_true_eq, decide_eq_false_iff_not]
      omega
  · have hbig := decodeL_big l (by omega) hl
    by_cases h0 : sgL l = 0
    · rw [decodeL_bad l hl h0, h0]
      rw [if_neg (by omega), if_pos rfl]
      simp only [Nat.lt_irrefl, decide_false, Bool.false_and]
      unfold hasPrefix
      rw [Bool.eq_false_iff]
      intro hp
      unfold sgL at h0
      rcases l with _ | ⟨a, _ | ⟨b, _ | ⟨c, l⟩⟩⟩
      · exact hl rfl
      · simp [List.isPrefixOf] at hp
      · simp [List.isPrefixOf] at hp
      · simp [List.isPrefixOf] at hp
        obtain ⟨rfl, rfl, rfl⟩ := hp
        simp [sgN] at h0
    · rw [if_neg (by omega)]
      have : (decide (0 < sgL l) && decide (32 ≤ (l.getD 0 0).toNat) && !decide ((l.getD 0 0).toNat = 127) && !decide ((l.getD 0 0).toNat = 92) && !decide ((l.getD 0 0).toNat = 39)) = true := by
        simp only [Bool.and_eq_true, Bool.not_eq_eq_eq_not, Bool.not_true, decide_eq_true_eq, decide_eq_false_iff_not]
        omega
      rw [this]
      by_cases hf : (decodeL l).1 = 65533
      · rw [if_pos hf]
        obtain ⟨g3, g0, g1, g2⟩ := decodeL_fffd l hl hf (by omega)
        have hle := sgL_le l
        rcases l with _ | ⟨a, _ | ⟨b, _ | ⟨c, l⟩⟩⟩
        · exact absurd rfl hl
        · simp at hle; omega
        · simp at hle; omega
        · simp at g0 g1 g2
          obtain rfl : a = 239 := UInt8.toNat_inj.1 (by rw [g0]; rfl)
          obtain rfl : b = 191 := UInt8.toNat_inj.1 (by rw [g1]; rfl)
          obtain rfl : c = 189 := UInt8.toNat_inj.1 (by rw [g2]; rfl)
          simp [hasPrefix, List.isPrefixOf]
      · rw [if_neg hf]

/-- A hexadecimal digit. -/
def hx (n : Nat) : UInt8 := ([48, 49, 50, 51, 52, 53, 54, 55, 56, 57, 97, 98, 99, 100, 101, 102] : List UInt8).getD n 0
/-- A byte's escape. -/
def escL (c : UInt8) : List UInt8 :=
  if c = 92 then [92, 92] else if c = 39 then [92, 39] else if c = 10 then [92, 110] else if c = 9 then [92, 116] else if c = 13 then [92, 114] else [92, 120, hx (c.toNat / 16), hx (c.toNat % 16)]
/-- What stands in quotes. -/
def quoteF : Nat → List UInt8 → List UInt8
  | 0, _ => []
  | f + 1, l => if l = [] then [] else (if bareL l then l.take (sgL l) else escL (l.getD 0 0)) ++ quoteF f (l.drop (stL l))
def quoteL (l : List UInt8) : List UInt8 := 39 :: (quoteF l.length l ++ [39])

theorem escL_len (c : UInt8) : (escL c).length ≤ 4 := by
  unfold escL
  repeat' split
  all_goals simp
theorem quoteF_len : ∀ (f : Nat) (l : List UInt8), (quoteF f l).length ≤ 4 * l.length
  | 0, _ => by simp [quoteF]
  | f + 1, l => by
    unfold quoteF
    split
    · simp
    · rename_i hl
      have h1 := quoteF_len f (l.drop (stL l))
      have h2 := stL_pos l
      have h3 := stL_le l hl
      have h4 := escL_len (l.getD 0 0)
      rw [List.length_drop] at h1
      rw [List.length_append]
      have h5 := sgL_le l
      split
      · rw [List.length_take]; omega
      · omega
theorem quoteL_len (l : List UInt8) : (quoteL l).length ≤ 4 * l.length + 2 := by
  have := quoteF_len l.length l
  simp [quoteL]; omega
theorem quoteF_nil (f : Nat) : quoteF f [] = [] := by cases f <;> simp [quoteF]
end Go.Proofs.YtoaliaohbpdibaaDoor.Sh
