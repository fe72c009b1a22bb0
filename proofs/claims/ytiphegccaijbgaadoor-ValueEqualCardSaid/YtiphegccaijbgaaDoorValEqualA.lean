/- The law ValueEqual of any two values. -/
import Derived.Test.YtiphegccaijbgaaDoorRows
import Derived.Test.YtiphegccaijbgaaDoorVal
import Derived.Test.YtiphegccaijbgaaDoorValCmp
import Derived.Test.YtiphegccaijbgaaDoorValOrd
import Derived.Test.YtiphegccaijbgaaDoorValMay4
import Derived.Test.YtiphegccaijbgaaDoorValSame
import Derived.Test.YtiphegccaijbgaaDoorValWorks
import Derived.Test.YtiphegccaijbgaaDoorEqPlain
import Derived.Test.YtiphegccaijbgaaDoorEqFace
import Derived.Test.YtiphegccaijbgaaDoorValEqualL
import Derived.WalkKit
import Derived.Lib.Hide
namespace Go.Proofs.YtiphegccaijbgaaDoor
open Go.RowKit
set_option linter.unusedVariables false
set_option linter.unusedSimpArgs false
namespace Val
theorem valueEqual_any (t u : VT) (v z : Value) (w : World) (hIn : VT.In w w.heap.size t v) (hIn2 : VT.In w w.heap.size u z) (hP : Places w) (hT : Logic.Tab w 2 Logic.ands) : Calls Tryd.prog 6 #[v, z] w fun e w' => e = .returned (.bool true) ∧ Below w.heap.size w w' := by
  have hgT : 2 < w.heap.size := hT.pos (by decide)
  obtain ⟨k, b, n, s, l, ks⟩ := t
  obtain ⟨k', b', n', s', l', ks'⟩ := u
  have hx := hIn
  have hx2 := hIn2
  unfold VT.In at hx hx2
  obtain ⟨pl, cl, pk, ck, rfl, -⟩ := hx
  obtain ⟨pl', cl', pk', ck', rfl, -⟩ := hx2
  obtain ⟨T, hTT⟩ : ∃ T, VT.mk k b n s l ks = T := ⟨_, rfl⟩
  obtain ⟨U, hUU⟩ : ∃ U, VT.mk k' b' n' s' l' ks' = U := ⟨_, rfl⟩
  rw [hTT] at hIn
  rw [hUU] at hIn2
  have hI : ∀ V, Seen2 w #[.int .i64 k, .bool b, .int .i64 n, .string s, .slice pl l.length cl, .slice pk ks.length ck] #[.int .i64 k', .bool b', .int .i64 n', .string s', .slice pl' l'.length cl', .slice pk' ks'.length ck'] V → VT.In V V.heap.size T (.agg #[.int .i64 k, .bool b, .int .i64 n, .string s, .slice pl l.length cl, .slice pk ks.length ck]) := fun V hV => (hIn.below hV.low).more hV.low.size
  have hI2 : ∀ V, Seen2 w #[.int .i64 k, .bool b, .int .i64 n, .string s, .slice pl l.length cl, .slice pk ks.length ck] #[.int .i64 k', .bool b', .int .i64 n', .string s', .slice pl' l'.length cl', .slice pk' ks'.length ck'] V → VT.In V V.heap.size U (.agg #[.int .i64 k', .bool b', .int .i64 n', .string s', .slice pl' l'.length cl', .slice pk' ks'.length ck']) := fun V hV => (hIn2.below hV.low).more hV.low.size
  have hM1 : On2 w #[.int .i64 k, .bool b, .int .i64 n, .string s, .slice pl l.length cl, .slice pk ks.length ck] #[.int .i64 k', .bool b', .int .i64 n', .string s', .slice pl' l'.length cl', .slice pk' ks'.length ck'] 10 #[.agg #[.int .i64 k, .bool b, .int .i64 n, .string s, .slice pl l.length cl, .slice pk ks.length ck]] (.bool (mayB T)) := fun V hV => (May_any T _ V.heap.size V (hI V hV) (Nat.le_refl _)).mono fun e w' h => ⟨h.1, hV.step h.2⟩
  have hM2 : On2 w #[.int .i64 k, .bool b, .int .i64 n, .string s, .slice pl l.length cl, .slice pk ks.length ck] #[.int .i64 k', .bool b', .int .i64 n', .string s', .slice pl' l'.length cl', .slice pk' ks'.length ck'] 10 #[.agg #[.int .i64 k', .bool b', .int .i64 n', .string s', .slice pl' l'.length cl', .slice pk' ks'.length ck']] (.bool (mayB U)) := fun V hV => (May_any U _ V.heap.size V (hI2 V hV) (Nat.le_refl _)).mono fun e w' h => ⟨h.1, hV.step h.2⟩
  have hPV : ∀ V, Seen2 w #[.int .i64 k, .bool b, .int .i64 n, .string s, .slice pl l.length cl, .slice pk ks.length ck] #[.int .i64 k', .bool b', .int .i64 n', .string s', .slice pl' l'.length cl', .slice pk' ks'.length ck'] V → Places V := fun V hV => hP.below hV.low hP.lt
  have hTV : ∀ V, Seen2 w #[.int .i64 k, .bool b, .int .i64 n, .string s, .slice pl l.length cl, .slice pk ks.length ck] #[.int .i64 k', .bool b', .int .i64 n', .string s', .slice pl' l'.length cl', .slice pk' ks'.length ck'] V → Logic.Tab V 2 Logic.ands := fun V hV => hT.below hgT hV.low
  have hGV : ∀ V, Seen2 w #[.int .i64 k, .bool b, .int .i64 n, .string s, .slice pl l.length cl, .slice pk ks.length ck] #[.int .i64 k', .bool b', .int .i64 n', .string s', .slice pl' l'.length cl', .slice pk' ks'.length ck'] V → 2 < V.heap.size := fun V hV => Nat.lt_of_lt_of_le hgT hV.low.size
  have hW : On2 w #[.int .i64 k, .bool b, .int .i64 n, .string s, .slice pl l.length cl, .slice pk ks.length ck] #[.int .i64 k', .bool b', .int .i64 n', .string s', .slice pl' l'.length cl', .slice pk' ks'.length ck'] 15 #[] (.bool true) := fun V hV => (works_any V (hPV V hV)).mono fun e w' h => ⟨h.1, hV.step h.2⟩
  by_cases hm1 : mayB T = true
  · by_cases hm2 : mayB U = true
    · rw [hm1] at hM1
      rw [hm2] at hM2
      have hE : On2 w #[.int .i64 k, .bool b, .int .i64 n, .string s, .slice pl l.length cl, .slice pk ks.length ck] #[.int .i64 k', .bool b', .int .i64 n', .string s', .slice pl' l'.length cl', .slice pk' ks'.length ck'] 24 #[.agg #[.int .i64 k, .bool b, .int .i64 n, .string s, .slice pl l.length cl, .slice pk ks.length ck], .agg #[.int .i64 k', .bool b', .int .i64 n', .string s', .slice pl' l'.length cl', .slice pk' ks'.length ck']] (.int .i64 (eqV T U)) := fun V hV => (Equal_any T U _ _ V (hI V hV) (hI2 V hV) hm1 hm2 (hPV V hV) (hTV V hV) (hGV V hV)).mono fun e w' h => ⟨h.1, hV.step h.2⟩
      have hE2 : On2 w #[.int .i64 k, .bool b, .int .i64 n, .string s, .slice pl l.length cl, .slice pk ks.length ck] #[.int .i64 k', .bool b', .int .i64 n', .string s', .slice pl' l'.length cl', .slice pk' ks'.length ck'] 24 #[.agg #[.int .i64 k', .bool b', .int .i64 n', .string s', .slice pl' l'.length cl', .slice pk' ks'.length ck'], .agg #[.int .i64 k, .bool b, .int .i64 n, .string s, .slice pl l.length cl, .slice pk ks.length ck]] (.int .i64 (eqV T U)) := fun V hV => (Equal_any U T _ _ V (hI2 V hV) (hI V hV) hm2 hm1 (hPV V hV) (hTV V hV) (hGV V hV)).mono fun e w' h => ⟨by rw [h.1, eqV_comm], hV.step h.2⟩
      have hE1 : On2 w #[.int .i64 k, .bool b, .int .i64 n, .string s, .slice pl l.length cl, .slice pk ks.length ck] #[.int .i64 k', .bool b', .int .i64 n', .string s', .slice pl' l'.length cl', .slice pk' ks'.length ck'] 24 #[.agg #[.int .i64 k, .bool b, .int .i64 n, .string s, .slice pl l.length cl, .slice pk ks.length ck], .agg #[.int .i64 k, .bool b, .int .i64 n, .string s, .slice pl l.length cl, .slice pk ks.length ck]] (.int .i64 (eqV T T)) := fun V hV => (Equal_any T T _ _ V (hI V hV) (hI V hV) hm1 hm1 (hPV V hV) (hTV V hV) (hGV V hV)).mono fun e w' h => ⟨h.1, hV.step h.2⟩
      have hL : On2 w #[.int .i64 k, .bool b, .int .i64 n, .string s, .slice pl l.length cl, .slice pk ks.length ck] #[.int .i64 k', .bool b', .int .i64 n', .string s', .slice pl' l'.length cl', .slice pk' ks'.length ck'] 25 #[.agg #[.int .i64 k, .bool b, .int .i64 n, .string s, .slice pl l.length cl, .slice pk ks.length ck], .agg #[.int .i64 k', .bool b', .int .i64 n', .string s', .slice pl' l'.length cl', .slice pk' ks'.length ck']] (.int .i64 (lessV T U)) := fun V hV => (Less_any T U _ _ V (hI V hV) (hI2 V hV) hm1 hm2 (hPV V hV)).mono fun e w' h => ⟨h.1, hV.step h.2⟩
      have hL2 : On2 w #[.int .i64 k, .bool b, .int .i64 n, .string s, .slice pl l.length cl, .slice pk ks.length ck] #[.int .i64 k', .bool b', .int .i64 n', .string s', .slice pl' l'.length cl', .slice pk' ks'.length ck'] 25 #[.agg #[.int .i64 k', .bool b', .int .i64 n', .string s', .slice pl' l'.length cl', .slice pk' ks'.length ck'], .agg #[.int .i64 k, .bool b, .int .i64 n, .string s, .slice pl l.length cl, .slice pk ks.length ck]] (.int .i64 (lessV U T)) := fun V hV => (Less_any U T _ _ V (hI2 V hV) (hI V hV) hm2 hm1 (hPV V hV)).mono fun e w' h => ⟨h.1, hV.step h.2⟩
      have hr : (eqV T T == 0) = false := by simpa using eqV_refl T
      have hS : eqV T U = 1 → On2 w #[.int .i64 k, .bool b, .int .i64 n, .string s, .slice pl l.length cl, .slice pk ks.length ck] #[.int .i64 k', .bool b', .int .i64 n', .string s', .slice pl' l'.length cl', .slice pk' ks'.length ck'] 19 #[.agg #[.int .i64 k, .bool b, .int .i64 n, .string s, .slice pl l.length cl, .slice pk ks.length ck], .agg #[.int .i64 k', .bool b', .int .i64 n', .string s', .slice pl' l'.length cl', .slice pk' ks'.length ck']] (.bool true) := fun hq V hV => (same_any T.parts T U _ _ V.heap.size V (Nat.le_refl _) (hI V hV) (hI2 V hV) (Nat.le_refl _)).mono fun e w' h => ⟨by rw [h.1, eq_same T U (may_formed hm1) (may_formed hm2) hq], hV.step h.2⟩
      by_cases hk : k = k' ∧ (k = 1 ∨ k = 2 ∨ k = 3)
      · obtain ⟨rfl, h13⟩ := hk
        have hf1 := may_formed hm1
        have hf2 := may_formed hm2
        subst hTT
        subst hUU
        rw [allV, Bool.and_eq_true] at hf1 hf2
        obtain ⟨-, -, f2, -⟩ := formed_fields hf1.1
        obtain ⟨-, -, g2, -⟩ := formed_fields hf2.1
        obtain ⟨rfl, rfl⟩ := f2 (by omega) (by omega)
        obtain ⟨rfl, rfl⟩ := g2 (by omega) (by omega)
        obtain ⟨f, hf⟩ : ∃ f, flatV k n k n' b b' s s' = f := ⟨_, rfl⟩
        have hO : On2 w #[.int .i64 k, .bool b, .int .i64 n, .string s, .slice pl 0 cl, .slice pk 0 ck] #[.int .i64 k, .bool b', .int .i64 n', .string s', .slice pl' 0 cl', .slice pk' 0 ck'] 23 #[.agg #[.int .i64 k, .bool b, .int .i64 n, .string s, .slice pl 0 cl, .slice pk 0 ck], .agg #[.int .i64 k, .bool b', .int .i64 n', .string s', .slice pl' 0 cl', .slice pk' 0 ck']] (.int .i64 f) := fun V hV => (order_flat k n k n' b b' s s' pl pk pl' pk' cl ck cl' ck' V (hPV V hV)).mono fun e w' h => ⟨by rw [h.1, hf], hV.step h.2⟩
        have hn0 : ¬ (k = 0 ∨ k = 0) := by omega
        have hev : eqV (.mk k b n s [] []) (.mk k b' n' s' [] []) = if f = 0 then 1 else 0 := by rw [eqV, if_neg hn0, if_neg (show ¬ (k ≠ k) from fun h => h rfl), if_pos (by omega), hf]
        have hlv : lessV (.mk k b n s [] []) (.mk k b' n' s' [] []) = if f < 0 then 1 else 0 := by rw [lessV, if_neg (show ¬ (k ≠ k) from fun h => h rfl), if_pos h13, hf]
        have hlv2 : lessV (.mk k b' n' s' [] []) (.mk k b n s [] []) = if - f < 0 then 1 else 0 := by rw [lessV, if_neg (show ¬ (k ≠ k) from fun h => h rfl), if_pos h13, flat_swap k n k n' b b' s s', hf]
        rw [hev] at hE hE2 hS
        rw [hlv] at hL
        rw [hlv2] at hL2
        rcases Int.lt_trichotomy f 0 with h | h | h
        · rw [if_neg (by omega)] at hE hE2
          rw [if_pos h] at hL
          rw [if_neg (by omega)] at hL2
          exact veq_lt _ _ _ _ _ _ _ _ _ _ _ _ _ hr f h w (Lib.hid hM1) (Lib.hid hM2) (Lib.hid hE) (Lib.hid hE2) (Lib.hid hE1) (Lib.hid hL) (Lib.hid hL2) (Lib.hid hW) (Lib.hid hO)
        · have hS' := hS (by rw [if_pos h])
          rw [if_pos h] at hE hE2
          rw [if_neg (by omega)] at hL hL2
          exact veq_eq _ _ _ _ _ _ _ _ _ _ _ _ _ hr f (by simp; omega) w (Lib.hid hM1) (Lib.hid hM2) (Lib.hid hE) (Lib.hid hE2) (Lib.hid hE1) (Lib.hid hL) (Lib.hid hL2) (Lib.hid hW) (Lib.hid hS') (Lib.hid hO)
        · rw [if_neg (by omega)] at hE hE2 hL
          rw [if_pos (by omega)] at hL2
          exact veq_gt _ _ _ _ _ _ _ _ _ _ _ _ _ hr f (by simp; omega) w (Lib.hid hM1) (Lib.hid hM2) (Lib.hid hE) (Lib.hid hE2) (Lib.hid hE1) (Lib.hid hL) (Lib.hid hL2) (Lib.hid hW) (Lib.hid hO)
      · have hl1 : lessV T U = 2 := by
          subst hTT
          subst hUU
          rw [lessV]
          by_cases hkk : k = k'
          · rw [if_neg (fun h => h hkk), if_neg (fun h => hk ⟨hkk, h⟩)]
          · rw [if_pos hkk]
        have hl2 : lessV U T = 2 := by
          subst hTT
          subst hUU
          rw [lessV]
          by_cases hkk : k = k'
          · rw [if_neg (fun h => h hkk.symm), if_neg (fun h => hk ⟨hkk, hkk ▸ h⟩)]
          · rw [if_pos (fun h => hkk h.symm)]
        rw [hl1] at hL
        rw [hl2] at hL2
        by_cases hq : eqV T U = 1
        · have hS' := hS hq
          rw [hq] at hE hE2
          exact veq_U1 _ _ _ _ _ _ _ _ _ _ _ _ _ hr w (Lib.hid hM1) (Lib.hid hM2) (Lib.hid hE) (Lib.hid hE2) (Lib.hid hE1) (Lib.hid hL) (Lib.hid hL2) (Lib.hid hW) (Lib.hid hS')
        · exact veq_U0 _ _ _ _ _ _ _ _ _ _ _ _ _ hr (eqV T U) (by simpa using hq) w (Lib.hid hM1) (Lib.hid hM2) (Lib.hid hE) (Lib.hid hE2) (Lib.hid hE1) (Lib.hid hL) (Lib.hid hL2) (Lib.hid hW)
    · rw [hm1] at hM1
      rw [show mayB U = false by simpa using hm2] at hM2
      exact veq_no2 _ _ _ _ _ _ _ _ _ _ _ _ w (Lib.hid hM1) (Lib.hid hM2) (Lib.hid hW)
  · rw [show mayB T = false by simpa using hm1] at hM1
    exact veq_no1 _ _ _ _ _ _ _ _ _ _ _ _ w (Lib.hid hM1) (Lib.hid hW)
end Val
end Go.Proofs.YtiphegccaijbgaaDoor
