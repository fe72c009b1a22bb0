/- THE WALKS over formed and keysRise: is a value, without what its parts are, as its kind asks? -/
import Derived.Test.YtmhlipncelgmlaaRows
import Derived.Test.YtmhlipncelgmlaaValBase
import Derived.Test.YtmhlipncelgmlaaVal
import Derived.WalkKit
import Derived.Lib.Hide
import Derived.WalkSpells
import Derived.WalkLawsBesides
import Derived.Outline
namespace Go.Proofs.Ytmhlipncelgmlaa
open Go.RowKit
set_option linter.unusedVariables false
set_option linter.unusedSimpArgs false
namespace Val
/-- Is the text at place i as a map's key: of a name's length, above the one ahead? -/
def keyOk (ks : List ByteArray) (i : Nat) : Bool := decide (0 < (ks.getD i default).size) && (decide ((ks.getD i default).size ≤ 64) && (decide (i = 0) || Op.bytesLess (ks.getD (i - 1) default).toList (ks.getD i default).toList))
/-- The first i keys are. -/
def keysTo (ks : List ByteArray) : Nat → Bool
  | 0 => true
  | i + 1 => keysTo ks i && keyOk ks i
theorem keysTo_false {ks : List ByteArray} {i : Nat} (h : keyOk ks i = false) : ∀ n, i < n → keysTo ks n = false
  | 0, hn => by omega
  | n + 1, hn => by
    unfold keysTo
    rcases Nat.lt_or_ge i n with h' | h'
    · rw [keysTo_false h n h']; rfl
    · obtain rfl : i = n := by omega
      rw [h]; simp
theorem keyOk_none {ks : List ByteArray} {k : Nat} (h : (ks.getD k default).size = 0) : keyOk ks k = false := by
  unfold keyOk
  rw [h]
  rfl
theorem keyOk_long {ks : List ByteArray} {k : Nat} (h : 64 < (ks.getD k default).size) : keyOk ks k = false := by
  have : decide ((ks.getD k default).size ≤ 64) = false := by simpa using h
  unfold keyOk
  rw [this]
  simp
theorem keyOk_zero {ks : List ByteArray} (h : 0 < (ks.getD 0 default).size) (h' : (ks.getD 0 default).size ≤ 64) : keyOk ks 0 = true := by
  unfold keyOk
  rw [decide_eq_true h, decide_eq_true h']
  rfl
theorem keyOk_less {ks : List ByteArray} {j : Nat} {x y : ByteArray} (hx : ks.getD (j + 1) default = x) (hy : ks.getD j default = y) (h : 0 < x.size) (h' : x.size ≤ 64) : keyOk ks (j + 1) = Op.bytesLess y.toList x.toList := by
  unfold keyOk
  rw [hx, decide_eq_true h, decide_eq_true h', show j + 1 - 1 = j by omega, hy]
  simp
set_option maxHeartbeats 1000000 in
theorem keysRise_any (p : Option Addr) (c B : Nat) (ks : List ByteArray) (w : World) (hk : VT.KeysIn w B p ks) (hl : ks.length ≤ maxLen) :
    Calls Try.prog 85 #[.slice p ks.length c] w fun e w' => e = .returned (.bool (keysTo ks ks.length)) ∧ w = w' := by
  unfold maxLen at hl
  have HK := Lib.hid hk
  obtain ⟨L, hL⟩ : ∃ L, ks.length = L := ⟨_, rfl⟩
  rw [hL] at hl ⊢
  have HL := Lib.hid hL
  clear hL hk
  go_enter Try.func85, Try.ntmps85
  go_wp2
  go_loop [7] (fun i => ∃ k : Nat, k ≤ L ∧ i = .int .i64 k ∧ Hid (keysTo ks k = true)) (fun i => L - (intOf i).toNat)
  case atStart => exact ⟨0, Nat.zero_le _, rfl, Lib.hid rfl⟩
  case round =>
    obtain ⟨k, hk, rfl, hT⟩ := hrel
    by_cases hlt : k < L
    · obtain ⟨b, o, rfl, -, hc⟩ := HK.out (by rw [HL.out]; omega)
      have hcell := hc k (by rw [HL.out]; exact hlt)
      have HC := Lib.hid hc
      clear hc
      obtain ⟨x, hx⟩ : ∃ x, ks.getD k default = x := ⟨_, rfl⟩
      rw [hx] at hcell
      have HX := Lib.hid hx
      clear hx
      by_cases h0 : x.size = 0
      · have HF : Hid (keysTo ks L = false) := Lib.hid (keysTo_false (i := k) (keyOk_none (by rw [HX.out]; exact h0)) L hlt)
        have hxe : x = ByteArray.empty := ByteArray.size_eq_zero_iff.1 h0
        subst hxe
        clear h0
        go_wp2
        go_ret
        exact ⟨by rw [HF.out]; rfl, rfl⟩
      · by_cases h1 : 64 < x.size
        · have HF : Hid (keysTo ks L = false) := Lib.hid (keysTo_false (i := k) (keyOk_long (by rw [HX.out]; exact h1)) L hlt)
          obtain ⟨n, hsz⟩ : ∃ n, x.size = n + 1 := ⟨x.size - 1, by omega⟩
          have hd : decide ((64 : Int) < (n : Int) + 1) = true := by simp; omega
          clear h0
          go_wp2
          go_ret
          exact ⟨by rw [HF.out]; rfl, rfl⟩
        · obtain ⟨n, hsz⟩ : ∃ n, x.size = n + 1 := ⟨x.size - 1, by omega⟩
          have hd : decide ((64 : Int) < (n : Int) + 1) = false := by simp; omega
          have hd1 : 0 < x.size := by omega
          have hd2 : x.size ≤ 64 := by omega
          rcases Nat.eq_zero_or_pos k with hk0 | hk0
          · have HO : Hid (keyOk ks k = true) := Lib.hid (by rw [hk0] at HX ⊢; exact keyOk_zero (by rw [HX.out]; omega) (by rw [HX.out]; omega))
            have hd0 : decide (0 < k) = false := by simp [hk0]
            have HK0 := Lib.hid hk0
            clear h0 hd1 hd2 hk0
            go_wp2
            go_round
            case rel => exact ⟨k + 1, by omega, by go_num, Lib.hid (by unfold keysTo; rw [hT.out, HO.out]; rfl)⟩
            case measure => simp [intOf]; omega
          · obtain ⟨j, rfl⟩ : ∃ j, k = j + 1 := ⟨k - 1, by omega⟩
            have hcell2 := HC.out j (by rw [HL.out]; omega)
            obtain ⟨y, hy⟩ : ∃ y, ks.getD j default = y := ⟨_, rfl⟩
            rw [hy] at hcell2
            have HY := Lib.hid hy
            have hpos : decide ((0 : Int) < ((j + 1 : Nat) : Int)) = true := by simp
            clear hy h0
            cases hl2 : Op.bytesLess y.toList x.toList
            · have HF : Hid (keysTo ks L = false) := Lib.hid (keysTo_false (i := j + 1) (by rw [keyOk_less HX.out HY.out (by omega) (by omega), hl2]) L hlt)
              clear hd1 hd2
              go_wp2
              go_ret
              exact ⟨by rw [HF.out]; rfl, rfl⟩
            · have HO : Hid (keyOk ks (j + 1) = true) := Lib.hid (by rw [keyOk_less HX.out HY.out (by omega) (by omega), hl2])
              clear hd1 hd2
              go_wp2
              go_round
              case rel => exact ⟨j + 1 + 1, by omega, by go_num, Lib.hid (by unfold keysTo; rw [hT.out, HO.out]; rfl)⟩
              case measure => simp [intOf]; omega
    · obtain rfl : k = L := by omega
      go_wp2
      go_ret
      exact ⟨by rw [hT.out]; rfl, rfl⟩
end Val
end Go.Proofs.Ytmhlipncelgmlaa
