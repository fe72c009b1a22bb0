/- PLAIN NUMBERS for layer num: what a sum, a product, a quotient is, or told too great. Nothing of the program. -/
import Derived.WalkKit
namespace Go.Proofs.YtoaliaohbpdibaaDoor
namespace Num
/-- The number, or 0 where it is none of 64 bits. -/
def fitV (x : Int) : Int := if -9223372036854775808 ≤ x ∧ x ≤ 9223372036854775807 then x else 0
/-- The error's number: 0, or 4 where it is none of 64 bits. -/
def fitE (x : Int) : Int := if -9223372036854775808 ≤ x ∧ x ≤ 9223372036854775807 then 0 else 4
theorem fit_in {x : Int} (h : -9223372036854775808 ≤ x ∧ x ≤ 9223372036854775807) : fitV x = x ∧ fitE x = 0 := by
  unfold fitV fitE; rw [if_pos h, if_pos h]; exact ⟨rfl, rfl⟩
theorem fit_out {x : Int} (h : ¬ (-9223372036854775808 ≤ x ∧ x ≤ 9223372036854775807)) : fitV x = 0 ∧ fitE x = 4 := by
  unfold fitV fitE; rw [if_neg h, if_neg h]; exact ⟨rfl, rfl⟩
theorem ret_int {k : IntKind} {a b : Int} (h : a = b) : Ending.returned (.int k a) = .returned (.int k b) := by rw [h]
theorem neg_wrap (n : Nat) (h : n ≤ 9223372036854775808) : RowKit.wrap64 (IntKind.u64.wrap (-(n : Int))) = -(n : Int) := by
  rw [IntKind.wrap_u64]; unfold RowKit.wrap64; omega
/-- How far a number is from 0. -/
def absN (a : Int) : Nat := a.natAbs
theorem absN_lt {a : Int} (h1 : -9223372036854775808 ≤ a) (h2 : a ≤ 9223372036854775807) : absN a < 18446744073709551616 := by unfold absN; omega
theorem cast_nn (x y : Nat) : 0 ≤ (x : Int) * (y : Int) := by rw [← Int.natCast_mul]; omega
theorem cast_lt {x y : Nat} (h : x * y < 18446744073709551616) : (x : Int) * (y : Int) < 18446744073709551616 := by rw [← Int.natCast_mul]; omega
theorem mul_pos {a b : Int} (h : (a < 0 ∧ b < 0) ∨ (¬ a < 0 ∧ ¬ b < 0)) : a * b = (absN a : Int) * (absN b : Int) := by
  have h1 : 0 ≤ a * b := by
    rcases h with h | h
    · have := Int.mul_nonneg (a := -a) (b := -b) (by omega) (by omega)
      rwa [Int.neg_mul_neg] at this
    · exact Int.mul_nonneg (by omega) (by omega)
  rw [← Int.natCast_mul]; unfold absN; rw [← Int.natAbs_mul]; omega
theorem mul_neg {a b : Int} (h : (a < 0 ∧ ¬ b < 0) ∨ (¬ a < 0 ∧ b < 0)) : a * b = -((absN a : Int) * (absN b : Int)) := by
  have h1 : 0 ≤ -(a * b) := by
    rcases h with h | h
    · have := Int.mul_nonneg (a := -a) (b := b) (by omega) (by omega)
      rwa [Int.neg_mul] at this
    · have := Int.mul_nonneg (a := a) (b := -b) (by omega) (by omega)
      rwa [Int.mul_neg] at this
  rw [← Int.natCast_mul]; unfold absN; rw [← Int.natAbs_mul]; omega
theorem absN_le {a : Int} (h1 : -9223372036854775808 ≤ a) (h2 : a ≤ 9223372036854775807) : absN a ≤ 9223372036854775808 := by unfold absN; omega
theorem absN_pos {b : Int} (h : (b == 0) = false) : 1 ≤ absN b := by
  have : b ≠ 0 := by simpa using h
  unfold absN; omega
theorem quo_nn (x y : Nat) : 0 ≤ (x : Int) / (y : Int) := Int.ediv_nonneg (by omega) (by omega)
theorem quo_lt {x y : Nat} (h : x < 18446744073709551616) : (x : Int) / (y : Int) < 18446744073709551616 := by
  have := Int.ediv_le_self (a := (x : Int)) (y : Int) (by omega); omega
theorem rem_nn (x y : Nat) : 0 ≤ (x : Int) % (y : Int) := by rw [← Int.natCast_emod]; exact Int.natCast_nonneg _
theorem rem_lt {x y : Nat} (h : x < 18446744073709551616) : (x : Int) % (y : Int) < 18446744073709551616 := by
  rw [← Int.natCast_emod]; have := Nat.mod_le x y; generalize x % y = z at *; omega
theorem div_pos {a b : Int} (h : (a < 0 ∧ b < 0) ∨ (¬ a < 0 ∧ ¬ b < 0)) : a.tdiv b = (absN a : Int) / (absN b : Int) := by
  unfold absN
  rcases h with h | h
  · obtain ⟨n, rfl⟩ : ∃ n : Nat, a = -(n : Int) := ⟨a.natAbs, by omega⟩
    obtain ⟨m, rfl⟩ : ∃ n : Nat, b = -(n : Int) := ⟨b.natAbs, by omega⟩
    rw [Int.neg_tdiv, Int.tdiv_neg, Int.neg_neg, Int.natAbs_neg, Int.natAbs_neg, Int.natAbs_natCast, Int.natAbs_natCast, Int.tdiv_eq_ediv_of_nonneg (by omega)]
  · obtain ⟨n, rfl⟩ : ∃ n : Nat, a = (n : Int) := ⟨a.natAbs, by omega⟩
    obtain ⟨m, rfl⟩ : ∃ n : Nat, b = (n : Int) := ⟨b.natAbs, by omega⟩
    rw [Int.natAbs_natCast, Int.natAbs_natCast, Int.tdiv_eq_ediv_of_nonneg (by omega)]
theorem div_neg {a b : Int} (h : (a < 0 ∧ ¬ b < 0) ∨ (¬ a < 0 ∧ b < 0)) : a.tdiv b = -((absN a : Int) / (absN b : Int)) := by
  unfold absN
  rcases h with h | h
  · obtain ⟨n, rfl⟩ : ∃ n : Nat, a = -(n : Int) := ⟨a.natAbs, by omega⟩
    obtain ⟨m, rfl⟩ : ∃ n : Nat, b = (n : Int) := ⟨b.natAbs, by omega⟩
    rw [Int.neg_tdiv, Int.natAbs_neg, Int.natAbs_natCast, Int.natAbs_natCast, Int.tdiv_eq_ediv_of_nonneg (by omega)]
  · obtain ⟨n, rfl⟩ : ∃ n : Nat, a = (n : Int) := ⟨a.natAbs, by omega⟩
    obtain ⟨m, rfl⟩ : ∃ n : Nat, b = -(n : Int) := ⟨b.natAbs, by omega⟩
    rw [Int.tdiv_neg, Int.natAbs_neg, Int.natAbs_natCast, Int.natAbs_natCast, Int.tdiv_eq_ediv_of_nonneg (by omega)]
theorem mod_pos {a b : Int} (h : ¬ a < 0) : a.tmod b = (absN a : Int) % (absN b : Int) := by
  unfold absN
  obtain ⟨n, rfl⟩ : ∃ n : Nat, a = (n : Int) := ⟨a.natAbs, by omega⟩
  rcases (show 0 ≤ b ∨ b < 0 by omega) with hb | hb
  · obtain ⟨m, rfl⟩ : ∃ n : Nat, b = (n : Int) := ⟨b.natAbs, by omega⟩
    rw [Int.natAbs_natCast, Int.natAbs_natCast, Int.tmod_eq_emod_of_nonneg (by omega)]
  · obtain ⟨m, rfl⟩ : ∃ n : Nat, b = -(n : Int) := ⟨b.natAbs, by omega⟩
    rw [Int.tmod_neg, Int.natAbs_neg, Int.natAbs_natCast, Int.natAbs_natCast, Int.tmod_eq_emod_of_nonneg (by omega)]
theorem mod_neg {a b : Int} (h : a < 0) : a.tmod b = -((absN a : Int) % (absN b : Int)) := by
  have e : a.tmod b = -((-a).tmod b) := by rw [Int.neg_tmod, Int.neg_neg]
  rw [e, mod_pos (by omega)]
  unfold absN; rw [Int.natAbs_neg]
theorem quo_abs (a b : Int) : (a.tdiv b).natAbs = a.natAbs / b.natAbs := Int.natAbs_tdiv a b
theorem quo_in {a b : Int} (h1 : -9223372036854775808 ≤ a) (h2 : a ≤ 9223372036854775807) (hb : b ≠ 0) (h : a ≠ -9223372036854775808 ∨ b ≠ -1) :
    -9223372036854775808 ≤ a.tdiv b ∧ a.tdiv b ≤ 9223372036854775807 := by
  have e := quo_abs a b
  have l := Nat.div_le_self a.natAbs b.natAbs
  by_cases k : b.natAbs = 1
  · rw [k, Nat.div_one] at e
    rcases (show b = 1 ∨ b = -1 by omega) with rfl | rfl
    · rw [Int.tdiv_one]; omega
    · rw [Int.tdiv_neg, Int.tdiv_one]; omega
  · have : a.natAbs / b.natAbs ≤ a.natAbs / 2 := Nat.div_le_div_left (by omega) (by omega)
    omega
theorem rem_in {a b : Int} (h1 : -9223372036854775808 ≤ a) (h2 : a ≤ 9223372036854775807) :
    -9223372036854775808 ≤ a.tmod b ∧ a.tmod b ≤ 9223372036854775807 := by
  have e : (a.tmod b).natAbs = a.natAbs % b.natAbs := Int.natAbs_tmod a b
  have l := Nat.mod_le a.natAbs b.natAbs
  rw [← e] at l
  rcases (show 0 ≤ a ∨ a < 0 by omega) with h | h
  · have s := Int.tmod_nonneg b h
    omega
  · have s := Int.tmod_nonneg b (a := -a) (by omega)
    rw [Int.neg_tmod] at s
    omega
theorem mul_wraps {a b : Int} (h : ¬ (-9223372036854775808 ≤ a * b ∧ a * b ≤ 9223372036854775807)) (nb : b ≠ 0) (nm : b ≠ -1) (hb1 : -9223372036854775808 ≤ b) (hb2 : b ≤ 9223372036854775807) :
    (RowKit.wrap64 ((RowKit.wrap64 (a * b)).tdiv b) != a) = true := by
  have hp : ∃ k : Int, RowKit.wrap64 (a * b) = a * b + k * 18446744073709551616 ∧ -9223372036854775808 ≤ RowKit.wrap64 (a * b) ∧ RowKit.wrap64 (a * b) ≤ 9223372036854775807 := by
    unfold RowKit.wrap64
    exact ⟨-((a * b + 9223372036854775808) / 18446744073709551616), by omega, by omega, by omega⟩
  obtain ⟨k, hk, h1, h2⟩ := hp
  generalize RowKit.wrap64 (a * b) = p at hk h1 h2 ⊢
  rw [IntWalk.wrap64_in _ (quo_in h1 h2 nb (.inr nm))]
  simp only [bne_iff_ne, ne_eq]
  intro hq
  have e := Int.mul_tdiv_add_tmod p b
  rw [hq, Int.mul_comm b a] at e
  have m : (p.tmod b).natAbs = p.natAbs % b.natAbs := Int.natAbs_tmod p b
  have m2 : p.natAbs % b.natAbs < b.natAbs := Nat.mod_lt _ (by omega)
  omega
theorem ring_div {a b p : Int} (h : a * b = p) (hb : (b == 0) = false) : p.tdiv b = a := by
  have : b ≠ 0 := by simpa using hb
  rw [← h]; exact Int.mul_tdiv_cancel a this
theorem ring_mod {a b p : Int} (h : a * b = p) : p.tmod b = 0 := by rw [← h]; exact Int.mul_tmod_left a b
theorem ret_in {x y : Int} (h : -9223372036854775808 ≤ x ∧ x ≤ 9223372036854775807) (e : y = x) :
    Ending.returned (.tuple #[.int .i64 y, .int .i64 0]) = .returned (.tuple #[.int .i64 (fitV x), .int .i64 (fitE x)]) := by
  rw [(fit_in h).1, (fit_in h).2, e]
theorem ret_out {x : Int} (h : ¬ (-9223372036854775808 ≤ x ∧ x ≤ 9223372036854775807)) :
    Ending.returned (.tuple #[.int .i64 0, .int .i64 4]) = .returned (.tuple #[.int .i64 (fitV x), .int .i64 (fitE x)]) := by
  rw [(fit_out h).1, (fit_out h).2]
end Num
end Go.Proofs.YtoaliaohbpdibaaDoor
