/- The reader of keys: how a value's reading ends. -/
import Derived.Test.YtepfihanhdinfaaDoorRkReadL
import Derived.Test.YtepfihanhdinfaaDoorRkReadM
import Derived.Test.YtepfihanhdinfaaDoorRkPutK
namespace Go.Proofs.YtepfihanhdinfaaDoor
open Go.RowKit
set_option linter.unusedVariables false
set_option linter.unusedSimpArgs false
namespace Rk
open Val (VT Keeps Box StrBlock)
/-- What stands behind the first byte of a key. -/
theorem raw_cases (t : VT) (r : List UInt8) (c : UInt8) (l1 : List UInt8) (h : rawV t) (e : c :: l1 = keyR t ++ r) :
    (c = 1 ∧ ∃ l ks, rawL l ∧ ks.length = l.length ∧ t.parts = VT.partsL l + 1 ∧ l1 = partsR l true ks ++ ([0] ++ r)) ∨ ((c = 2 ∨ c = 3 ∨ c = 7) ∧ 8 ≤ l1.length) ∨ (c = 4 ∧ ∃ l, rawL l ∧ t.parts = VT.partsL l + 1 ∧ l1 = partsR l false [] ++ ([0] ++ r)) ∨ (c = 5 ∧ ∃ x, l1 = endB x ++ r) ∨ (c = 6 ∧ ∃ b : Bool, l1 = (if b then 1 else 0) :: r) ∨ c = 8 := by
  obtain ⟨k, b, n, s, l, ks⟩ := t
  unfold rawV at h
  have h8 : k = 0 ∨ k = 1 ∨ k = 2 ∨ k = 3 ∨ k = 4 ∨ k = 5 ∨ k = 6 ∨ k = 7 := by have := h.1.1; omega
  rcases h8 with rfl | rfl | rfl | rfl | rfl | rfl | rfl | rfl
  · change c :: l1 = 8 :: r at e
    injection e with e1 e2
    exact .inr (.inr (.inr (.inr (.inr e1))))
  · change c :: l1 = 6 :: (if b then 1 else 0) :: r at e
    injection e with e1 e2
    exact .inr (.inr (.inr (.inr (.inl ⟨e1, b, e2⟩))))
  · change c :: l1 = 7 :: (be8 (n + 9223372036854775808).toNat ++ r) at e
    injection e with e1 e2
    exact .inr (.inl ⟨.inr (.inr e1), by rw [e2, List.length_append]; show 8 ≤ 8 + _; omega⟩)
  · change c :: l1 = 5 :: (endB s.data.toList ++ r) at e
    injection e with e1 e2
    exact .inr (.inr (.inr (.inl ⟨e1, _, e2⟩)))
  · change c :: l1 = 4 :: (partsR l false [] ++ [0] ++ r) at e
    injection e with e1 e2
    exact .inr (.inr (.inl ⟨e1, l, h.2, by rw [VT.parts], by rw [e2, List.append_assoc]⟩))
  · change c :: l1 = 1 :: (partsR l true ks ++ [0] ++ r) at e
    injection e with e1 e2
    exact .inl ⟨e1, l, ks, h.2, h.1.2.2.2.2.2.2.2 rfl, by rw [VT.parts], by rw [e2, List.append_assoc]⟩
  · change c :: l1 = 2 :: (be8 (n % 18446744073709551616).toNat ++ r) at e
    injection e with e1 e2
    exact .inr (.inl ⟨.inl e1, by rw [e2, List.length_append]; show 8 ≤ 8 + _; omega⟩)
  · change c :: l1 = 3 :: (be8 (n % 18446744073709551616).toNat ++ r) at e
    injection e with e1 e2
    exact .inr (.inl ⟨.inr (.inl e1), by rw [e2, List.length_append]; show 8 ≤ 8 + _; omega⟩)
theorem own_leaf (w : World) (k : Int) (b : Bool) (n : Int) (s : ByteArray) : VT.Own w (.mk k b n s [] []) (fun _ => False) (.agg #[.int .i64 k, .bool b, .int .i64 n, .string s, .slice none 0 0, .slice none 0 0]) := by
  unfold VT.Own
  exact ⟨none, 0, none, 0, rfl, Nat.le_refl _, by unfold maxLen; omega, Nat.le_refl _, by unfold maxLen; omega, fun h => absurd h (by simp), fun h => absurd h (by simp)⟩
theorem val_ok {R : Nat} {s s' : ByteArray} {p : Nat} {w w3 : World} {t : VT} {S : Nat → Prop} {v0 v1 v2 v3 v4 v5 : Value} (K : Keeps (· = R) w w3) (hA : w.heap.size < w3.heap.size) (hown : VT.Own w3 t S (.agg #[v0, v1, v2, v3, v4, v5])) (hS : ∀ k, S k → w.heap.size < k ∧ k < w3.heap.size) (hraw : rawV t) (htx : s.data.toList = keyR t ++ s'.data.toList) (hrd : RdAt w3 R s' ((p + t.parts : Nat) : Int)) (hle : p + t.parts ≤ 4096) (hR : R < w.heap.size) :
    ValPost R s p w (.returned (.tuple #[.agg #[v0, v1, v2, v3, v4, v5], .bool true])) (six w3 w.heap.size v0 v1 v2 v3 v4 v5) := by
  have h6 : Keeps (· = w.heap.size) w3 (six w3 w.heap.size v0 v1 v2 v3 v4 v5) := Keeps.six (Keeps.refl (· = w.heap.size) w3) (.inl rfl) _ _ _ _ _ _
  refine ⟨Keeps.six K (.inr (Nat.le_refl _)) _ _ _ _ _ _, .inl ⟨t, _, s', rfl, hraw, VT.Own.more (fun k hk => ⟨by have := hS k hk; omega, Nat.lt_of_lt_of_le (hS k hk).2 h6.size⟩) (hown.keeps h6 (fun k hk => ⟨(hS k hk).2, fun e => by have := hS k hk; omega⟩)), htx, hrd.six (by omega) _ _ _ _ _ _, hle⟩⟩
theorem val_no {R : Nat} {s : ByteArray} {p : Nat} {w w3 : World} {k n : Int} {b : Bool} {x : ByteArray} {pl pk : Option Addr} {nl cl nk ck : Nat} (K : Keeps (· = R) w w3) (hno : ∀ t r, rawV t → p + t.parts ≤ 4096 → s.data.toList ≠ keyR t ++ r) :
    ValPost R s p w (.returned (.tuple #[.agg #[.int .i64 k, .bool b, .int .i64 n, .string x, .slice pl nl cl, .slice pk nk ck], .bool false])) (six w3 w.heap.size (.int .i64 k) (.bool b) (.int .i64 n) (.string x) (.slice pl nl cl) (.slice pk nk ck)) :=
  ⟨Keeps.six K (.inr (Nat.le_refl _)) _ _ _ _ _ _, .inr ⟨⟨k, b, n, x, pl, nl, cl, pk, nk, ck, rfl⟩, hno⟩⟩
theorem wrap_back (q : Nat) (h : q < 18446744073709551616) : (IntKind.i64.wrap (q : Int) % 18446744073709551616).toNat = q ∧ -9223372036854775808 ≤ IntKind.i64.wrap (q : Int) ∧ IntKind.i64.wrap (q : Int) ≤ 9223372036854775807 := by
  rw [IntKind.wrap_i64]
  omega
theorem flip_back (q : Nat) (h : q < 18446744073709551616) : IntKind.i64.wrap (bits .xor .u64 (q : Int) 9223372036854775808) = (q : Int) - 9223372036854775808 := by
  have e2 : (9223372036854775808 : Int) = ((2 ^ 63 : Nat) : Int) := rfl
  by_cases h1 : q < 2 ^ 63
  · have hx := bits_xor_u64_nat q (2 ^ 63) h (by decide)
    rw [xor_top q h1] at hx
    rw [e2, hx, IntKind.wrap_i64]
    omega
  · obtain ⟨a, rfl⟩ : ∃ a, q = a + 2 ^ 63 := ⟨q - 2 ^ 63, by omega⟩
    have hx := bits_xor_u64_nat (a + 2 ^ 63) (2 ^ 63) h (by decide)
    have e : (a + 2 ^ 63) ^^^ 2 ^ 63 = a := by rw [← xor_top a (by omega), Nat.xor_assoc, Nat.xor_self, Nat.xor_zero]
    rw [e] at hx
    rw [e2, hx, IntKind.wrap_i64]
    omega
theorem extract_tail (s : ByteArray) (j : Nat) : (s.extract j s.size).data.toList = s.data.toList.drop j := by
  rw [Lib.extract_data, List.take_of_length_le]
  rw [List.length_drop, ba_len]
  omega
theorem head_tail (s : ByteArray) (h : 0 < s.size) : s.data.toList = s[0] :: (s.extract 1 s.size).data.toList := by
  rw [extract_tail]
  have hl : 0 < s.data.toList.length := by simpa using h
  have := List.drop_eq_getElem_cons hl
  rw [List.drop_zero] at this
  rw [this]
  simp [ByteArray.getElem_eq_getElem_data]
end Rk
end Go.Proofs.YtepfihanhdinfaaDoor
