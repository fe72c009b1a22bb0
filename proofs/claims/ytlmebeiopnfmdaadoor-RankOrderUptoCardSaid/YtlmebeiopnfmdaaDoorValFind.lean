/- THE SEARCH of a key among texts that rise: slices.BinarySearch at texts. -/
import Derived.Test.YtlmebeiopnfmdaaDoorRows
import Derived.Test.YtlmebeiopnfmdaaDoorValBase
import Derived.WalkKit
import Derived.Lib.Hide
import Derived.WalkSpells
import Derived.WalkLawsBesides
import Derived.Outline
import Derived.Deep.LoopGhost
import Derived.Lib.Walk
namespace Go.Proofs.YtlmebeiopnfmdaaDoor
open Go.RowKit
set_option linter.unusedVariables false
set_option linter.unusedSimpArgs false
namespace Val
theorem nan_cmp (x : ByteArray) (w : World) : Calls Tryd.prog 75 #[.string x] w fun e w' => e = .returned (.bool false) ∧ w' = w := by
  go_enter Tryd.func75, Tryd.ntmps75
  go_wp2
  go_ret
  exact ⟨by simp, rfl⟩
theorem nan_slices (x : ByteArray) (w : World) : Calls Tryd.prog 50 #[.string x] w fun e w' => e = .returned (.bool false) ∧ w' = w := by
  go_enter Tryd.func50, Tryd.ntmps50
  go_wp2
  go_ret
  exact ⟨by simp, rfl⟩
theorem less_str (x y : ByteArray) (w : World) : Calls Tryd.prog 49 #[.string x, .string y] w fun e w' => e = .returned (.bool (Op.bytesLess x.toList y.toList)) ∧ w' = w := by
  go_enter Tryd.func49, Tryd.ntmps49
  go_wp2_with fail
  refine (nan_cmp _ _).mono ?_
  rintro e w' ⟨rfl, rfl⟩
  go_wp2_with fail
  go_ret
  exact ⟨rfl, rfl⟩
/-- Where x stands among the texts: r of them are less, and the others are not. -/
structure FindAt (ks : List ByteArray) (x : ByteArray) (n r : Nat) : Prop where
  le : r ≤ n
  below : ∀ t, t < r → Op.bytesLess (ks.getD t default).toList x.toList = true
  above : ∀ t, r ≤ t → t < n → Op.bytesLess (ks.getD t default).toList x.toList = false
set_option maxHeartbeats 2000000 in
set_option maxRecDepth 100000 in
theorem find_any (ks : List ByteArray) (x : ByteArray) (b off n c : Nat) (w : World) (hn : n ≤ ks.length) (hbig : n ≤ 4194304) (hc : ∀ i, i < ks.length → w.cell? ⟨b, off + i, none⟩ = some (.string (ks.getD i default)))
    (hs : ∀ i j, i ≤ j → j < n → Op.bytesLess (ks.getD j default).toList x.toList = true → Op.bytesLess (ks.getD i default).toList x.toList = true) :
    Calls Tryd.prog 31 #[.slice (some ⟨b, off, none⟩) n c, .string x] w fun e w' => ∃ r : Nat, FindAt ks x n r ∧ e = .returned (.tuple #[.int .i64 r, .bool (decide (r < n) && ((ks.getD r default).toList == x.toList))]) ∧ w' = w := by
  have S := Lib.hid hs
  have C := Lib.hid hc
  clear hs hc
  go_enter Tryd.func31, Tryd.ntmps31
  go_wp2
  go_loopg [7, 8] n (fun g s7 s8 wr => ∃ lo hi : Nat, s7 = .int .i64 lo ∧ s8 = .int .i64 hi ∧ lo ≤ hi ∧ hi ≤ n ∧ hi - lo ≤ g ∧ wr = w ∧ Hid ((∀ t, t < lo → Op.bytesLess (ks.getD t default).toList x.toList = true) ∧ (∀ t, hi ≤ t → t < n → Op.bytesLess (ks.getD t default).toList x.toList = false)))
  case atStart => exact ⟨0, n, rfl, rfl, Nat.zero_le _, Nat.le_refl _, by omega, rfl, Lib.hid ⟨fun t ht => absurd ht (Nat.not_lt_zero _), fun t h1 h2 => by omega⟩⟩
  case round =>
    obtain ⟨lo, hi, rfl, rfl, hlh, hin, hg, rfl, I⟩ := hrel
    by_cases hlt : lo < hi
    · have cm := C.out ((lo + hi) / 2) (by omega)
      obtain ⟨y, hy⟩ : ∃ y, ks.getD ((lo + hi) / 2) default = y := ⟨_, rfl⟩
      rw [hy] at cm
      have Y := Lib.hid hy
      clear hy
      have hL := less_str y x wr
      by_cases hyx : Op.bytesLess y.toList x.toList = true
      · rw [hyx] at hL
        have HYX := Lib.hid hyx
        clear hyx
        go_wp2_with (refine hL.mono ?_; rintro e w' ⟨rfl, rfl⟩)
        go_roundg (hi - ((lo + hi) / 2 + 1))
        case measure => omega
        case rel =>
          refine ⟨(lo + hi) / 2 + 1, hi, by rw [show ((lo : Int) + (hi : Int)) / 2 + 1 = (((lo + hi) / 2 + 1 : Nat) : Int) by omega], rfl, by omega, hin, Nat.le_refl _, rfl, Lib.hid ⟨fun t ht => ?_, I.out.2⟩⟩
          exact S.out t ((lo + hi) / 2) (by omega) (by omega) (by rw [Y.out]; exact HYX.out)
      · have hyf := eq_false_of_ne_true hyx
        rw [hyf] at hL
        have HYX := Lib.hid hyx
        clear hyx hyf
        go_wp2_with (refine hL.mono ?_; rintro e w' ⟨rfl, rfl⟩)
        go_roundg ((lo + hi) / 2 - lo)
        case measure => omega
        case rel =>
          refine ⟨lo, (lo + hi) / 2, rfl, by rw [show ((lo : Int) + (hi : Int)) / 2 = (((lo + hi) / 2 : Nat) : Int) by omega], by omega, by omega, Nat.le_refl _, rfl, Lib.hid ⟨I.out.1, fun t ht htn => ?_⟩⟩
          exact eq_false_of_ne_true fun hh => HYX.out (by rw [← Y.out]; exact S.out ((lo + hi) / 2) t ht htn hh)
    · obtain rfl : hi = lo := by omega
      have HA : Hid (FindAt ks x n hi) := Lib.hid ⟨hin, I.out.1, I.out.2⟩
      by_cases hm : hi < n
      · have cl := C.out hi (by omega)
        obtain ⟨y, hy⟩ : ∃ y, ks.getD hi default = y := ⟨_, rfl⟩
        rw [hy] at cl
        have Y := Lib.hid hy
        clear hy
        have hN := nan_slices
        by_cases hyx : (y.toList == x.toList) = true
        · clear hN
          have HYX := Lib.hid hyx
          go_wp2_with fail
          go_ret2
          refine ⟨hi, HA.out, ?_, rfl⟩
          rw [Y.out, decide_eq_true hm, HYX.out]
          simp
        · have e2 := eq_false_of_ne_true hyx
          have HYX := Lib.hid e2
          clear hyx
          go_wp2_with (refine (hN _ _).mono ?_; rintro e w' ⟨rfl, rfl⟩)
          go_ret2
          refine ⟨hi, HA.out, ?_, rfl⟩
          rw [Y.out, decide_eq_true hm, HYX.out]
          simp
      · go_wp2_with fail
        go_ret2
        refine ⟨hi, HA.out, ?_, rfl⟩
        rw [decide_eq_false hm]
        simp
end Val
end Go.Proofs.YtlmebeiopnfmdaaDoor
