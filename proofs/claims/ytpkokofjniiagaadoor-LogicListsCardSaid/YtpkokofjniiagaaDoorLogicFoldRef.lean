/- THE WALKS over the document's own answers for a list of truths. -/
import Derived.Test.YtpkokofjniiagaaDoorRows
import Derived.Test.YtpkokofjniiagaaDoorLogicPlain
import Derived.Test.YtpkokofjniiagaaDoorLogicWalks
import Derived.Test.YtpkokofjniiagaaDoorLogicWalks2
import Derived.Test.YtpkokofjniiagaaDoorLogicWalks3
import Derived.Test.YtpkokofjniiagaaDoorLogicFold
import Derived.WalkKit
import Derived.Lib.Hide
import Derived.WalkSpells
import Derived.WalkLawsBesides
namespace Go.Proofs.YtpkokofjniiagaaDoor
open Go.RowKit
set_option linter.unusedVariables false
set_option linter.unusedSimpArgs false
namespace Logic
theorem rall_nil (w : World) : Calls Tryd.prog 21 #[.slice none 0 0] w fun e w' => e = .returned (.int .i64 1) ∧ w = w' := by
  go_enter Tryd.func21, Tryd.ntmps21
  go_wp2
  go_loop [3, 4] (fun out i => out = .int .i64 1 ∧ i = .int .i64 0) (fun _ _ => 0)
  case atStart => exact ⟨rfl, rfl⟩
  case round =>
    obtain ⟨rfl, rfl⟩ := hrel
    go_wp2
    go_ret
    exact ⟨rfl, rfl⟩
theorem andV_keep (c : Int) (h : c = 1 ∨ c = 2) : andV c 1 = c := by rcases h with rfl | rfl <;> rfl
theorem andV_dim (c x : Int) (h : c = 1 ∨ c = 2) (k0 : (x == 0) = false) (k1 : (x == 1) = false) : andV c x = 2 := by
  simp at k0 k1
  rcases h with rfl | rfl <;> simp [andV, *]
set_option maxHeartbeats 800000 in
theorem rall_some (a : Addr) (cap : Nat) (zs : List Int) (w : World) (hr : Row w a zs) (hm : zs.length ≤ maxLen) :
    Calls Tryd.prog 21 #[.slice (some a) zs.length cap] w fun e w' => e = .returned (.int .i64 (allV zs)) ∧ w = w' := by
  unfold maxLen at hm
  have hk0 : knownV 0 = true := rfl
  have hk1 : knownV 1 = true := rfl
  have HR := Lib.hid hr
  clear hr
  generalize hL : zs.length = L at hm
  have HL := Lib.hid hL
  clear hL
  go_enter Tryd.func21, Tryd.ntmps21
  go_wp2
  go_loop [3, 4] (fun out i => ∃ (k : Nat) (c : Int), k ≤ L ∧ i = .int .i64 k ∧ out = .int .i64 c ∧ Hid (allV (zs.take k) = c) ∧ (c = 1 ∨ c = 2)) (fun _ i => L - (intOf i).toNat)
  case atStart => exact ⟨0, 1, by omega, rfl, rfl, Lib.hid rfl, .inl rfl⟩
  case round =>
    obtain ⟨k, c, hk, rfl, rfl, HC, hr⟩ := hrel
    have HRG := Lib.hid hr
    clear hr
    by_cases hlt : k < L
    · have hc := HR.out k (by rw [HL.out]; exact hlt)
      have hs := allV_snoc (zs.take k) (zs.getD k 0)
      rw [← take_succ_getD zs (by rw [HL.out]; exact hlt), HC.out] at hs
      have hst := allV_stop zs (by rw [HL.out]; exact hlt)
      generalize zs.getD k 0 = x at hc hs hst
      have HS := Lib.hid hs
      have HST := Lib.hid hst
      clear hs hst
      rcases cases3b x with rfl | rfl | ⟨k0, k1⟩
      · go_wp2_with (go_at_call 25; refine (known_any _ _).mono ?_; rintro e w1 ⟨rfl, rfl⟩)
        go_ret
        exact ⟨by rw [HST.out (by trivial)]; rfl, rfl⟩
      · go_wp2_with (go_at_call 25; refine (known_any _ _).mono ?_; rintro e w1 ⟨rfl, rfl⟩)
        go_round
        case rel => exact ⟨k + 1, c, by omega, by go_num, rfl, Lib.hid (by rw [HS.out]; exact andV_keep c HRG.out), HRG.out⟩
        case measure => simp [intOf]; omega
      · have hk2 := knownV_two k0 k1
        go_wp2_with (go_at_call 25; refine (known_any _ _).mono ?_; rintro e w1 ⟨rfl, rfl⟩)
        go_round
        case rel => exact ⟨k + 1, 2, by omega, by go_num, rfl, Lib.hid (by rw [HS.out]; exact andV_dim c x HRG.out k0 k1), .inr rfl⟩
        case measure => simp [intOf]; omega
    · obtain rfl : k = L := by omega
      go_wp2
      go_ret
      exact ⟨by rw [← HC.out, List.take_of_length_le (by rw [HL.out]; exact Nat.le_refl _)]; rfl, rfl⟩
theorem rall_any (v : Value) (zs : List Int) (w : World) (h : Lst w v zs) :
    Calls Tryd.prog 21 #[v] w fun e w' => e = .returned (.int .i64 (allV zs)) ∧ w = w' := by
  rcases h with ⟨rfl, rfl⟩ | ⟨a, cap, rfl, hr, hm⟩
  · exact rall_nil w
  · exact rall_some a cap zs w hr hm
theorem rany_nil (w : World) : Calls Tryd.prog 23 #[.slice none 0 0] w fun e w' => e = .returned (.int .i64 0) ∧ w = w' := by
  go_enter Tryd.func23, Tryd.ntmps23
  go_wp2
  go_loop [3, 4] (fun out i => out = .int .i64 0 ∧ i = .int .i64 0) (fun _ _ => 0)
  case atStart => exact ⟨rfl, rfl⟩
  case round =>
    obtain ⟨rfl, rfl⟩ := hrel
    go_wp2
    go_ret
    exact ⟨rfl, rfl⟩
theorem orV_keep (c : Int) (h : c = 0 ∨ c = 2) : orV c 0 = c := by rcases h with rfl | rfl <;> rfl
theorem orV_dim (c x : Int) (h : c = 0 ∨ c = 2) (k0 : (x == 0) = false) (k1 : (x == 1) = false) : orV c x = 2 := by
  simp at k0 k1
  rcases h with rfl | rfl <;> simp [orV, *]
set_option maxHeartbeats 800000 in
theorem rany_some (a : Addr) (cap : Nat) (zs : List Int) (w : World) (hr : Row w a zs) (hm : zs.length ≤ maxLen) :
    Calls Tryd.prog 23 #[.slice (some a) zs.length cap] w fun e w' => e = .returned (.int .i64 (anyV zs)) ∧ w = w' := by
  unfold maxLen at hm
  have hk0 : knownV 0 = true := rfl
  have hk1 : knownV 1 = true := rfl
  have HR := Lib.hid hr
  clear hr
  generalize hL : zs.length = L at hm
  have HL := Lib.hid hL
  clear hL
  go_enter Tryd.func23, Tryd.ntmps23
  go_wp2
  go_loop [3, 4] (fun out i => ∃ (k : Nat) (c : Int), k ≤ L ∧ i = .int .i64 k ∧ out = .int .i64 c ∧ Hid (anyV (zs.take k) = c) ∧ (c = 0 ∨ c = 2)) (fun _ i => L - (intOf i).toNat)
  case atStart => exact ⟨0, 0, by omega, rfl, rfl, Lib.hid rfl, .inl rfl⟩
  case round =>
    obtain ⟨k, c, hk, rfl, rfl, HC, hr⟩ := hrel
    have HRG := Lib.hid hr
    clear hr
    by_cases hlt : k < L
    · have hc := HR.out k (by rw [HL.out]; exact hlt)
      have hs := anyV_snoc (zs.take k) (zs.getD k 0)
      rw [← take_succ_getD zs (by rw [HL.out]; exact hlt), HC.out] at hs
      have hst := anyV_stop zs (by rw [HL.out]; exact hlt)
      generalize zs.getD k 0 = x at hc hs hst
      have HS := Lib.hid hs
      have HST := Lib.hid hst
      clear hs hst
      rcases cases3b x with rfl | rfl | ⟨k0, k1⟩
      · go_wp2_with (go_at_call 25; refine (known_any _ _).mono ?_; rintro e w1 ⟨rfl, rfl⟩)
        go_round
        case rel => exact ⟨k + 1, c, by omega, by go_num, rfl, Lib.hid (by rw [HS.out]; exact orV_keep c HRG.out), HRG.out⟩
        case measure => simp [intOf]; omega
      · go_wp2_with (go_at_call 25; refine (known_any _ _).mono ?_; rintro e w1 ⟨rfl, rfl⟩)
        go_ret
        exact ⟨by rw [HST.out (by trivial)]; rfl, rfl⟩
      · have hk2 := knownV_two k0 k1
        go_wp2_with (go_at_call 25; refine (known_any _ _).mono ?_; rintro e w1 ⟨rfl, rfl⟩)
        go_round
        case rel => exact ⟨k + 1, 2, by omega, by go_num, rfl, Lib.hid (by rw [HS.out]; exact orV_dim c x HRG.out k0 k1), .inr rfl⟩
        case measure => simp [intOf]; omega
    · obtain rfl : k = L := by omega
      go_wp2
      go_ret
      exact ⟨by rw [← HC.out, List.take_of_length_le (by rw [HL.out]; exact Nat.le_refl _)]; rfl, rfl⟩
theorem rany_any (v : Value) (zs : List Int) (w : World) (h : Lst w v zs) :
    Calls Tryd.prog 23 #[v] w fun e w' => e = .returned (.int .i64 (anyV zs)) ∧ w = w' := by
  rcases h with ⟨rfl, rfl⟩ | ⟨a, cap, rfl, hr, hm⟩
  · exact rany_nil w
  · exact rany_some a cap zs w hr hm
end Logic
end Go.Proofs.YtpkokofjniiagaaDoor
