/- PLAIN: a number's digits, as bytes. -/
import Derived.WalkKit
import Derived.Test.YtoaliaohbpdibaaDoorNumPlain
namespace Go.Proofs.YtoaliaohbpdibaaDoor
set_option linter.unusedVariables false
namespace Num
/-- What the twenty cells hold when all from place k on have been written. -/
def cellsAt (N k : Nat) : Array Value := Array.ofFn fun i : Fin 20 => if i.val < k then Value.int .u8 0 else Value.int .u8 (48 + ((N / 10 ^ (19 - i.val) % 10 : Nat) : Int))
theorem cellsAt_size (N k : Nat) : (cellsAt N k).size = 20 := by simp [cellsAt]
theorem cellsAt_start (N : Nat) : cellsAt N 20 = #[Value.int .u8 0, Value.int .u8 0, Value.int .u8 0, Value.int .u8 0, Value.int .u8 0, Value.int .u8 0, Value.int .u8 0, Value.int .u8 0, Value.int .u8 0, Value.int .u8 0,
    Value.int .u8 0, Value.int .u8 0, Value.int .u8 0, Value.int .u8 0, Value.int .u8 0, Value.int .u8 0, Value.int .u8 0, Value.int .u8 0, Value.int .u8 0, Value.int .u8 0] := by
  apply Array.ext
  · simp [cellsAt]
  · intro i h1 h2
    have h3 : i < 20 := by simpa [cellsAt] using h1
    simp only [cellsAt, Array.getElem_ofFn, h3, if_true]
    rcases i with _ | _ | _ | _ | _ | _ | _ | _ | _ | _ | _ | _ | _ | _ | _ | _ | _ | _ | _ | _ | i <;> first | rfl | omega
theorem cellsAt_set (N c : Nat) (hc : c ≤ 19) : (cellsAt N (c + 1)).setIfInBounds c (.int .u8 (48 + ((N / 10 ^ (19 - c) % 10 : Nat) : Int))) = cellsAt N c := by
  apply Array.ext
  · simp [cellsAt]
  · intro i h1 h2
    simp only [cellsAt, Array.size_setIfInBounds, Array.size_ofFn] at h1 h2
    rw [Array.getElem_setIfInBounds (by simp [cellsAt]; omega)]
    simp only [cellsAt, Array.getElem_ofFn]
    by_cases e : c = i
    · subst e; simp
    · rw [if_neg e]
      by_cases l : i < c
      · rw [if_pos (by omega), if_pos l]
      · rw [if_neg (by omega), if_neg l]
theorem cellsAt_old (N c : Nat) (hc : c ≤ 19) : (cellsAt N (c + 1))[c]? = some (.int .u8 0) := by
  rw [Array.getElem?_eq_getElem (by simp [cellsAt]; omega)]
  simp [cellsAt]
theorem cellsAt_older (N d : Nat) (hc : d ≤ 19) : (cellsAt N (d + 1 + 1))[d]? = some (.int .u8 0) := by
  rw [Array.getElem?_eq_getElem (by simp [cellsAt]; omega)]
  simp [cellsAt]; omega
/-- A number's digits, as bytes. -/
def digs (k : Nat) : List Int := if h : k < 10 then [48 + (k : Int)] else digs (k / 10) ++ [48 + ((k % 10 : Nat) : Int)]
theorem digs_lt {k : Nat} (h : k < 10) : digs k = [48 + (k : Int)] := by rw [digs, dif_pos h]
theorem digs_ge {k : Nat} (h : 10 ≤ k) : digs k = digs (k / 10) ++ [48 + ((k % 10 : Nat) : Int)] := by rw [digs, dif_neg (by omega)]
/-- The last j digits. -/
def lows (N : Nat) : Nat → List Int
  | 0 => []
  | j + 1 => (48 + ((N / 10 ^ j % 10 : Nat) : Int)) :: lows N j
theorem lows_length (N : Nat) : ∀ j, (lows N j).length = j
  | 0 => rfl
  | j + 1 => by simp [lows, lows_length N j]
theorem lows_get (N : Nat) : ∀ j i, i < j → (lows N j).getD i 0 = 48 + ((N / 10 ^ (j - 1 - i) % 10 : Nat) : Int)
  | 0, i, h => by omega
  | j + 1, 0, h => by simp [lows]
  | j + 1, i + 1, h => by
    have := lows_get N j i (by omega)
    simp only [lows, List.getD_cons_succ, this]
    rw [show j + 1 - 1 - (i + 1) = j - 1 - i by omega]
theorem digs_split (N : Nat) : ∀ j, (j = 0 ∨ 1 ≤ N / 10 ^ j) → digs N = digs (N / 10 ^ j) ++ lows N j
  | 0, _ => by simp [lows]
  | j + 1, h => by
    have h1 : 1 ≤ N / 10 ^ (j + 1) := by omega
    rw [Nat.pow_succ, ← Nat.div_div_eq_div_mul] at h1 ⊢
    have h2 : 10 ≤ N / 10 ^ j := by omega
    rw [digs_split N j (.inr (by omega)), digs_ge h2]
    simp [lows]
/-- A number's text, as numbers of bytes. -/
def textN (n : Int) : List Int := if n < 0 then 45 :: digs (absN n) else digs (absN n)
theorem textN_neg {n : Int} (h : n < 0) : textN n = 45 :: digs (absN n) := by unfold textN; rw [if_pos h]
theorem textN_pos {n : Int} (h : ¬ n < 0) : textN n = digs (absN n) := by unfold textN; rw [if_neg h]
theorem digs_at {N c f : Nat} (hc : c ≤ 19) (hf : N / 10 ^ (19 - c) = f) (h : c = 19 ∨ 1 ≤ f) (hl : f < 10) : digs N = lows N (20 - c) := by
  rw [digs_split N (19 - c) (by rw [hf]; omega), hf, digs_lt hl, show 20 - c = 19 - c + 1 by omega, lows, hf, Nat.mod_eq_of_lt hl]
  rfl
theorem cellsAt_get (N c i : Nat) (h : c + i < 20) : (cellsAt N c)[c + i]? = some (.int .u8 ((lows N (20 - c)).getD i 0)) := by
  rw [Array.getElem?_eq_getElem (by simp [cellsAt]; omega), lows_get _ _ _ (by omega)]
  simp only [cellsAt, Array.getElem_ofFn]
  rw [if_neg (by omega), show 19 - (c + i) = 20 - c - 1 - i by omega]
theorem minus_get (N d i : Nat) (h : d + i < 20) : ((cellsAt N (d + 1)).setIfInBounds d (.int .u8 45))[d + i]? = some (.int .u8 ((45 :: lows N (20 - (d + 1))).getD i 0)) := by
  cases i with
  | zero => simp [cellsAt, show d < 20 by omega]
  | succ i =>
    rw [Array.getElem?_setIfInBounds_ne (by omega), show d + (i + 1) = d + 1 + i by omega, cellsAt_get _ _ _ (by omega)]
    rfl
end Num
end Go.Proofs.YtoaliaohbpdibaaDoor
