/- THE WALKS over what joins a list of truths: fold, All, Any. -/
import Derived.Test.YtpkokofjniiagaaDoorRows
import Derived.Test.YtpkokofjniiagaaDoorLogicPlain
import Derived.Test.YtpkokofjniiagaaDoorLogicWalks
import Derived.Test.YtpkokofjniiagaaDoorLogicWalks2
import Derived.Test.YtpkokofjniiagaaDoorLogicWalks3
import Derived.WalkKit
import Derived.Lib.Hide
import Derived.WalkSpells
import Derived.WalkLawsBesides
namespace Go.Proofs.YtpkokofjniiagaaDoor
open Go.RowKit
set_option linter.unusedVariables false
set_option linter.unusedSimpArgs false
namespace Logic
/-- Numbers that stand one by one from an address on. -/
def Row (w : World) (a : Addr) (zs : List Int) : Prop := ∀ i, i < zs.length → w.cell? (a.add i) = some (.int .i64 (zs.getD i 0))
theorem Row.drewN {w : World} {a : Addr} {zs : List Int} (n : Nat) (h : Row w a zs) : Row (w.drewN n) a zs := fun i hi => h i hi
/-- A slice of numbers: nil, or at an address. -/
def Lst (w : World) (v : Value) (zs : List Int) : Prop :=
  (v = .slice none 0 0 ∧ zs = []) ∨ ∃ a cap, v = .slice (some a) zs.length cap ∧ Row w a zs ∧ zs.length ≤ maxLen
theorem Lst.drewN {w : World} {v : Value} {zs : List Int} (n : Nat) (h : Lst w v zs) : Lst (w.drewN n) v zs :=
  h.imp id fun ⟨a, c, e, hr, hm⟩ => ⟨a, c, e, hr.drewN n, hm⟩
theorem foldAnd_nil (z : Int) (w : World) :
    Calls Tryd.prog 26 #[.func (.func 13) #[] #[], .int .i64 z, .slice none 0 0] w fun e w' => e = .returned (.int .i64 z) ∧ ∃ n, w' = w.drewN n := by
  go_enter Tryd.func26, Tryd.ntmps26
  go_wp2
  go_loop [7, 13] (fun out i => out = .int .i64 z ∧ i = .int .i64 0) (fun _ _ => 0)
  case atStart => exact ⟨rfl, rfl⟩
  case round =>
    obtain ⟨rfl, rfl⟩ := hrel
    go_wp2
    go_ret
    exact ⟨rfl, 0, rfl⟩
set_option maxHeartbeats 800000 in
theorem foldAnd_some (z : Int) (a : Addr) (cap : Nat) (zs : List Int) (w : World) (hr : Row w a zs) (hm : zs.length ≤ maxLen) (ht : Tab w 1 ands) :
    Calls Tryd.prog 26 #[.func (.func 13) #[] #[], .int .i64 z, .slice (some a) zs.length cap] w fun e w' => e = .returned (.int .i64 (zs.foldl andV z)) ∧ ∃ n, w' = w.drewN n := by
  unfold maxLen at hm
  have HT := Lib.hid ht
  have HR := Lib.hid hr
  clear ht hr
  generalize hL : zs.length = L at hm
  have HL := Lib.hid hL
  clear hL
  go_enter Tryd.func26, Tryd.ntmps26
  go_wp2
  go_loopw [7, 9, 13] (fun out t i wr => ∃ k n : Nat, k ≤ L ∧ i = .int .i64 k ∧ out = .int .i64 ((zs.take k).foldl andV z) ∧ wr = w.drewN n) (fun _ _ i _ => L - (intOf i).toNat)
  case atStart => exact ⟨0, 0, by omega, rfl, rfl, rfl⟩
  case round =>
    obtain ⟨k, n, hk, rfl, rfl, rfl⟩ := hrel
    by_cases hlt : k < L
    · have hc := HR.out k (by rw [HL.out]; exact hlt)
      go_wp2_with (go_at_call 13; refine (and_any _ _ _ (HT.out.drewN _)).mono ?_; rintro e w1 ⟨rfl, n1, rfl⟩)
      go_roundw
      case rel => exact ⟨k + 1, _, by omega, by go_num, by rw [take_succ_getD zs (by rw [HL.out]; exact hlt), List.foldl_append]; rfl, rfl⟩
      case measure => simp [intOf]; omega
    · obtain rfl : k = L := by omega
      go_wp2
      go_ret
      exact ⟨by rw [List.take_of_length_le (by rw [HL.out]; exact Nat.le_refl _)]; rfl, _, rfl⟩
theorem foldAnd_any (z : Int) (v : Value) (zs : List Int) (w : World) (h : Lst w v zs) (ht : Tab w 1 ands) :
    Calls Tryd.prog 26 #[.func (.func 13) #[] #[], .int .i64 z, v] w fun e w' => e = .returned (.int .i64 (zs.foldl andV z)) ∧ ∃ n, w' = w.drewN n := by
  rcases h with ⟨rfl, rfl⟩ | ⟨a, cap, rfl, hr, hm⟩
  · exact foldAnd_nil z w
  · exact foldAnd_some z a cap zs w hr hm ht
theorem all_any (v : Value) (zs : List Int) (w : World) (h : Lst w v zs) (ht : Tab w 1 ands) :
    Calls Tryd.prog 20 #[v] w fun e w' => e = .returned (.int .i64 (allV zs)) ∧ ∃ n, w' = w.drewN n := by
  have HT := Lib.hid ht
  have HS := Lib.hid h
  clear ht h
  go_enter Tryd.func20, Tryd.ntmps20
  go_wp2_with (go_at_call 26; refine (foldAnd_any _ _ _ _ HS.out HT.out).mono ?_; rintro e w1 ⟨rfl, n1, rfl⟩)
  go_ret
  exact ⟨rfl, _, rfl⟩
theorem foldOr_nil (z : Int) (w : World) :
    Calls Tryd.prog 26 #[.func (.func 15) #[] #[], .int .i64 z, .slice none 0 0] w fun e w' => e = .returned (.int .i64 z) ∧ ∃ n, w' = w.drewN n := by
  go_enter Tryd.func26, Tryd.ntmps26
  go_wp2
  go_loop [7, 13] (fun out i => out = .int .i64 z ∧ i = .int .i64 0) (fun _ _ => 0)
  case atStart => exact ⟨rfl, rfl⟩
  case round =>
    obtain ⟨rfl, rfl⟩ := hrel
    go_wp2
    go_ret
    exact ⟨rfl, 0, rfl⟩
set_option maxHeartbeats 800000 in
theorem foldOr_some (z : Int) (a : Addr) (cap : Nat) (zs : List Int) (w : World) (hr : Row w a zs) (hm : zs.length ≤ maxLen) (ht : Tab w 2 ors) :
    Calls Tryd.prog 26 #[.func (.func 15) #[] #[], .int .i64 z, .slice (some a) zs.length cap] w fun e w' => e = .returned (.int .i64 (zs.foldl orV z)) ∧ ∃ n, w' = w.drewN n := by
  unfold maxLen at hm
  have HT := Lib.hid ht
  have HR := Lib.hid hr
  clear ht hr
  generalize hL : zs.length = L at hm
  have HL := Lib.hid hL
  clear hL
  go_enter Tryd.func26, Tryd.ntmps26
  go_wp2
  go_loopw [7, 9, 13] (fun out t i wr => ∃ k n : Nat, k ≤ L ∧ i = .int .i64 k ∧ out = .int .i64 ((zs.take k).foldl orV z) ∧ wr = w.drewN n) (fun _ _ i _ => L - (intOf i).toNat)
  case atStart => exact ⟨0, 0, by omega, rfl, rfl, rfl⟩
  case round =>
    obtain ⟨k, n, hk, rfl, rfl, rfl⟩ := hrel
    by_cases hlt : k < L
    · have hc := HR.out k (by rw [HL.out]; exact hlt)
      go_wp2_with (go_at_call 15; refine (or_any _ _ _ (HT.out.drewN _)).mono ?_; rintro e w1 ⟨rfl, n1, rfl⟩)
      go_roundw
      case rel => exact ⟨k + 1, _, by omega, by go_num, by rw [take_succ_getD zs (by rw [HL.out]; exact hlt), List.foldl_append]; rfl, rfl⟩
      case measure => simp [intOf]; omega
    · obtain rfl : k = L := by omega
      go_wp2
      go_ret
      exact ⟨by rw [List.take_of_length_le (by rw [HL.out]; exact Nat.le_refl _)]; rfl, _, rfl⟩
theorem foldOr_any (z : Int) (v : Value) (zs : List Int) (w : World) (h : Lst w v zs) (ht : Tab w 2 ors) :
    Calls Tryd.prog 26 #[.func (.func 15) #[] #[], .int .i64 z, v] w fun e w' => e = .returned (.int .i64 (zs.foldl orV z)) ∧ ∃ n, w' = w.drewN n := by
  rcases h with ⟨rfl, rfl⟩ | ⟨a, cap, rfl, hr, hm⟩
  · exact foldOr_nil z w
  · exact foldOr_some z a cap zs w hr hm ht
theorem any_any (v : Value) (zs : List Int) (w : World) (h : Lst w v zs) (ht : Tab w 2 ors) :
    Calls Tryd.prog 22 #[v] w fun e w' => e = .returned (.int .i64 (anyV zs)) ∧ ∃ n, w' = w.drewN n := by
  have HT := Lib.hid ht
  have HS := Lib.hid h
  clear ht h
  go_enter Tryd.func22, Tryd.ntmps22
  go_wp2_with (go_at_call 26; refine (foldOr_any _ _ _ _ HS.out HT.out).mono ?_; rintro e w1 ⟨rfl, n1, rfl⟩)
  go_ret
  exact ⟨rfl, _, rfl⟩
end Logic
end Go.Proofs.YtpkokofjniiagaaDoor
