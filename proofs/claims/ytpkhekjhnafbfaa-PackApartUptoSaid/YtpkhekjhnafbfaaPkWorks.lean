/- Values as bytes: the small example of layer 4. -/
import Derived.Test.YtpkhekjhnafbfaaPkValue
import Derived.Test.YtpkhekjhnafbfaaPkPutA
namespace Go.Proofs.Ytpkhekjhnafbfaa
open Go.RowKit
set_option linter.unusedVariables false
set_option linter.unusedSimpArgs false
namespace Pk
open Val (VT Keeps Box okN okNL szV szL szK mayB)
open Rk (Buf Sk)
def nT : VT := .mk 2 false (-3) ⟨#[]⟩ [] []
theorem nT_may : mayB nT = true := by
  simp [nT, Val.mayB, Val.mayV, Val.mayL, Val.mayHere, Val.unusedF, ByteArray.toList_eq]
theorem leaf_in (k : Int) (b : Bool) (n : Int) (s : ByteArray) (B : Nat) (w : World) : VT.In w B (.mk k b n s [] []) (.agg #[.int .i64 k, .bool b, .int .i64 n, .string s, .slice none 0 0, .slice none 0 0]) := by
  unfold VT.In
  exact ⟨none, 0, none, 0, rfl, Nat.le_refl _, by unfold maxLen; omega, Nat.le_refl _, by unfold maxLen; omega, fun h => absurd h (by simp), fun h => absurd h (by simp)⟩
theorem encN : encB nT = [3, 5] := by
  unfold encB
  rw [nT_may]
  simp only [if_true, nT]
  unfold packB
  rw [if_neg (by decide), if_neg (by decide), if_neg (by decide), if_neg (by decide), if_neg (by decide), if_neg (by decide), if_pos (by decide)]
  rw [show foldN (-3) = 5 from rfl, sevL_lt (by decide)]
  rfl
theorem errN : errOf nT = 0 := by unfold errOf; rw [nT_may]; rfl
set_option maxRecDepth 100000 in
set_option maxHeartbeats 4000000 in
theorem works_any (w : World) : Calls Try.prog 13 #[] w fun e w' => e = .returned (.bool true) ∧ Below w.heap.size w w' := by
  have KC := Lib.hid (encode_any nT _ w.heap.size w (leaf_in 2 false (-3) ⟨#[]⟩ w.heap.size w) (Nat.le_refl _) (by unfold nT okN okNL; exact ⟨by omega, trivial⟩) (by unfold nT szV szL szK; decide))
  unfold EncPost at KC
  rw [encN, errN] at KC
  have BC : Hid (∀ V : World, Calls Try.prog 14 #[.slice (some ⟨V.heap.size, 0, none⟩) 3 3] (V.alloc (.cells #[.int .u8 3, .int .u8 5, .int .u8 9] 5)) fun e w' => e = .returned (.tuple #[.agg #[.int .i64 2, .bool false, .int .i64 (-3), .string ⟨#[]⟩, .slice none 0 0, .slice none 0 0], .int .i64 2, .int .i64 0]) ∧ Below (V.heap.size + 1) (V.alloc (.cells #[.int .u8 3, .int .u8 5, .int .u8 9] 5)) w') := Lib.hid fun V => by
    have := decode_works V.heap.size (V.alloc (.cells #[.int .u8 3, .int .u8 5, .int .u8 9] 5)) (by simp) (by unfold World.cell?; rw [World.alloc_heap_new]; rfl) (by unfold World.cell?; rw [World.alloc_heap_new]; rfl)
    simpa using this
  go_enter Try.func13, Try.ntmps13
  go_wp2_with fail
  refine KC.out.mono ?_
  rintro e w1 ⟨u, rfl, h1⟩
  have H1 := Lib.hid h1
  clear h1
  go_wp2_with fail
  refine (BC.out _).mono ?_
  rintro e w2 ⟨rfl, hb2⟩
  have hlow : Below w1.heap.size w1 (w2.alloc (.cells #[.int .i64 2, .bool false, .int .i64 (-3), .string ⟨#[]⟩, .slice none 0 0, .slice none 0 0] 25)) := ((((Below.refl _ w1).alloc (Nat.le_refl _) _).trans (hb2.mono (by simp)))).alloc (by have := hb2.size; simp at this; omega) _
  have hcv := conv_buf w.heap.size _ u _ (H1.out.buf.far hlow) 9 Try.underlying9
  have HB2 := Lib.hid (H1.out.low.trans (hlow.mono H1.out.low.size))
  obtain ⟨t0, t1, t2, t3, t4, t5⟩ := (Box.new w2 #[.int .i64 2, .bool false, .int .i64 (-3), .string ⟨#[]⟩, .slice none 0 0, .slice none 0 0]).cell
  clear hb2 hlow H1
  go_wp2
  go_ret
  exact ⟨rfl, HB2.out⟩
end Pk
end Go.Proofs.Ytpkhekjhnafbfaa
