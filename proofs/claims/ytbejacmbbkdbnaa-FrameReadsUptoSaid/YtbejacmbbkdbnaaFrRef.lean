/- Frame: the document's reader. -/
import Derived.Test.YtbejacmbbkdbnaaFrSame
namespace Go.Proofs.Ytbejacmbbkdbnaa
open Go.RowKit
set_option linter.unusedVariables false
set_option linter.unusedSimpArgs false
namespace Fr
theorem num4_hi (s : List UInt8) (h : num4 s ≤ 65535) : (s.getD 0 0).toNat = 0 ∧ (s.getD 1 0).toNat = 0 ∧ num4 s = (s.getD 2 0).toNat * 256 + (s.getD 3 0).toNat := by
  unfold num4 at *
  omega
theorem Src.at_ {w : World} {X : Nat → Prop} {a : Addr} {bs : List UInt8} (h : Src w X (some a) bs) (j : Nat) (hj : j < bs.length) : w.cell? (a.add j) = some (.int .u8 ((bs.getD j 0).toNat : Int)) := by
  obtain ⟨a', e, -, -, hc⟩ := h (by omega)
  cases e
  refine hc j _ ?_
  unfold Lib.byteCells
  rw [List.getElem?_map, List.getElem?_eq_getElem hj]
  simp [List.getD, List.getElem?_eq_getElem hj]
theorem add_more (a : Addr) (j : Nat) (h : 0 < j) : a.add j = ⟨a.block, a.off + j, none⟩ := by unfold Addr.add; rw [if_neg (by omega)]
theorem add_none (a : Addr) : a.add 0 = a := by unfold Addr.add; rw [if_pos rfl]
/-- What Load says. -/
def loadZ (s : List UInt8) : Int := if s.length < 4 then 0 else if okN (num4 s) = false then -1 else if s.length < 4 + num4 s then 0 else (num4 s : Int)
set_option maxHeartbeats 1000000 in
set_option maxRecDepth 100000 in
theorem load_any (p : Option Addr) (c : Nat) (s : List UInt8) (X : Nat → Prop) (w : World) (hs : Src w X p s) (hz : s.length ≤ 1099511627776) :
    Calls Try.prog 20 #[.slice p s.length c] w fun e w' => e = .returned (.int .i64 (loadZ s)) ∧ ∃ d, w' = w.drewN d := by
  obtain ⟨n, hn⟩ : ∃ n, s.length = n := ⟨_, rfl⟩
  rw [hn] at hz ⊢
  have hni : (n : Int) ≤ 1099511627776 := by omega
  by_cases h4 : n < 4
  · have h4i : (n : Int) < 4 := by omega
    have e : loadZ s = 0 := by unfold loadZ; rw [hn, if_pos h4]
    rw [e]
    clear hs hn hz
    go_enter Try.func20, Try.ntmps20
    go_wp2
    go_ret
    exact ⟨rfl, 0, rfl⟩
  · have h4i : ¬ (n : Int) < 4 := by omega
    obtain ⟨a, ha, -⟩ := hs (by omega)
    subst ha
    have k0 := hs.at_ 0 (by omega)
    have k1 := hs.at_ 1 (by omega)
    have k2 := hs.at_ 2 (by omega)
    have k3 := hs.at_ 3 (by omega)
    rw [add_none] at k0
    rw [add_more a 1 (by decide)] at k1
    rw [add_more a 2 (by decide)] at k2
    rw [add_more a 3 (by decide)] at k3
    have u0 := (s.getD 0 0).toNat_lt
    have u1 := (s.getD 1 0).toNat_lt
    have u2 := (s.getD 2 0).toNat_lt
    have u3 := (s.getD 3 0).toNat_lt
    have hnum : num4 s = (((s.getD 0 0).toNat * 256 + (s.getD 1 0).toNat) * 256 + (s.getD 2 0).toNat) * 256 + (s.getD 3 0).toNat := rfl
    have hL : loadZ s = if okN (num4 s) = false then -1 else if n < 4 + num4 s then 0 else (num4 s : Int) := by unfold loadZ; rw [hn, if_neg h4]
    rw [hL]
    clear hL
    have hok := @okN_true (num4 s)
    have hok2 := @okN_false (num4 s)
    obtain ⟨N, hN⟩ : ∃ N, num4 s = N := ⟨_, rfl⟩
    rw [hN] at hnum hok hok2 ⊢
    generalize (s.getD 0 0).toNat = b0 at *
    generalize (s.getD 1 0).toNat = b1 at *
    generalize (s.getD 2 0).toNat = b2 at *
    generalize (s.getD 3 0).toNat = b3 at *
    have g0 : (0 : Int) < (n : Int) := by omega
    have g1 : (1 : Int) < (n : Int) := by omega
    have g2 : (2 : Int) < (n : Int) := by omega
    have g3 : (3 : Int) < (n : Int) := by omega
    have hi2 : (b2 : Int) < 256 := by omega
    have hi3 : (b3 : Int) < 256 := by omega
    have hcase : (∃ k : Nat, b0 = k + 1 ∧ okN N = false) ∨ (b0 = 0 ∧ ∃ k : Nat, b1 = k + 1 ∧ okN N = false) ∨ (b0 = 0 ∧ b1 = 0 ∧ (b2 : Int) * 256 + (b3 : Int) = (N : Int) ∧ decide ((N : Int) < 1) = true ∧ decide (32768 < (N : Int)) = false ∧ okN N = false) ∨
        (b0 = 0 ∧ b1 = 0 ∧ (b2 : Int) * 256 + (b3 : Int) = (N : Int) ∧ decide ((N : Int) < 1) = false ∧ decide (32768 < (N : Int)) = true ∧ okN N = false) ∨ (b0 = 0 ∧ b1 = 0 ∧ (b2 : Int) * 256 + (b3 : Int) = (N : Int) ∧ decide ((N : Int) < 1) = false ∧ decide (32768 < (N : Int)) = false ∧ okN N = true) := by
      by_cases h0 : b0 = 0
      · by_cases h1 : b1 = 0
        · have hM : (b2 : Int) * 256 + (b3 : Int) = (N : Int) := by omega
          by_cases hN0 : N = 0
          · exact .inr (.inr (.inl ⟨h0, h1, hM, decide_eq_true (by omega), decide_eq_false (by omega), hok2.2 (.inl hN0)⟩))
          · by_cases hNb : 32768 < N
            · exact .inr (.inr (.inr (.inl ⟨h0, h1, hM, decide_eq_false (by omega), decide_eq_true (by omega), hok2.2 (.inr hNb)⟩)))
            · exact .inr (.inr (.inr (.inr ⟨h0, h1, hM, decide_eq_false (by omega), decide_eq_false (by omega), hok.2 ⟨by omega, by omega⟩⟩)))
        · exact .inr (.inl ⟨h0, b1 - 1, by omega, hok2.2 (.inr (by omega))⟩)
      · exact .inl ⟨b0 - 1, by omega, hok2.2 (.inr (by omega))⟩
    have hNZ : (N : Int) < 4294967296 := by omega
    have HNZ := Lib.hid hNZ
    clear hs hn hz hok hok2 hnum hN u0 u1 u2 u3 hNZ
    rcases hcase with ⟨k, rfl, ho⟩ | ⟨rfl, k, rfl, ho⟩ | ⟨rfl, rfl, hM, t1, t2, ho⟩ | ⟨rfl, rfl, hM, t1, t2, ho⟩ | ⟨rfl, rfl, hM, t1, t2, ho⟩
    · rw [ho]
      clear ho
      go_enter Try.func20, Try.ntmps20
      go_upto_region 3 with fail
      go_quiet (fail)
      go_wp2
      go_ret
      exact ⟨rfl, _, rfl⟩
    · rw [ho]
      clear ho
      go_enter Try.func20, Try.ntmps20
      go_upto_region 3 with fail
      go_quiet (fail)
      go_wp2
      go_ret
      exact ⟨rfl, _, rfl⟩
    · rw [ho]
      clear ho
      go_enter Try.func20, Try.ntmps20
      go_upto_region 3 with fail
      go_quiet (fail)
      go_wp2
      go_ret
      exact ⟨rfl, _, rfl⟩
    · rw [ho]
      clear ho
      go_enter Try.func20, Try.ntmps20
      go_upto_region 3 with fail
      go_quiet (fail)
      go_wp2
      go_ret
      exact ⟨rfl, _, rfl⟩
    · rw [ho, if_neg (by decide)]
      clear ho
      have hNI : (N : Int) ≤ 4294967296 := by have := HNZ.out; omega
      by_cases hl : n < 4 + N
      · rw [if_pos hl]
        have t3 : (n : Int) < 4 + (N : Int) := by omega
        go_enter Try.func20, Try.ntmps20
        go_upto_region 3 with fail
        go_quiet (fail)
        go_wp2
        go_ret
        exact ⟨rfl, _, rfl⟩
      · rw [if_neg hl]
        have t3 : ¬ (n : Int) < 4 + (N : Int) := by omega
        go_enter Try.func20, Try.ntmps20
        go_upto_region 3 with fail
        go_quiet (fail)
        go_wp2
        go_ret
        exact ⟨rfl, _, rfl⟩
end Fr
end Go.Proofs.Ytbejacmbbkdbnaa
