/- Values as bytes: the small example of layer 4, by Decode of any bytes; what the statements share. -/
import Derived.Test.YtmhlipncelgmlaaPkDec
import Derived.Test.YtmhlipncelgmlaaPkPutA
namespace Go.Proofs.Ytmhlipncelgmlaa
open Go.RowKit
set_option linter.unusedVariables false
set_option linter.unusedSimpArgs false
namespace Pk
open Val (VT Keeps Box okN okNL szV szL szK mayB sameV)
open Rk (Buf Sk)
def nT : VT := .mk 2 false (-3) ⟨#[]⟩ [] []
theorem nT_may : mayB nT = true := by
  simp [nT, Val.mayB, Val.mayV, Val.mayL, Val.mayHere, Val.unusedF, ByteArray.toList_eq]
theorem leaf_in (k : Int) (b : Bool) (n : Int) (s : ByteArray) (B : Nat) (w : World) : VT.In w B (.mk k b n s [] []) (.agg #[.int .i64 k, .bool b, .int .i64 n, .string s, .slice none 0 0, .slice none 0 0]) := by
  unfold VT.In
  exact ⟨none, 0, none, 0, rfl, Nat.le_refl _, by unfold maxLen; omega, Nat.le_refl _, by unfold maxLen; omega, fun h => absurd h (by simp), fun h => absurd h (by simp)⟩
theorem encN : encB nT = [3, 5] := by
  unfold encB
  rw [nT_may]
  simp only [if_true, nT]
  unfold packB
  rw [if_neg (by decide), if_neg (by decide), if_neg (by decide), if_neg (by decide), if_neg (by decide), if_neg (by decide), if_pos (by decide)]
  rw [show foldN (-3) = 5 from rfl, sevL_lt (by decide)]
  rfl
theorem errN : errOf nT = 0 := by unfold errOf; rw [nT_may]; rfl
/-- A block that was made just now, as a source. -/
theorem lit_src (V : World) (cs : Array Value) (bs : List UInt8) (X : Nat → Prop) (h : cs.toList = Lib.byteCells bs) (hX : ¬ X V.heap.size) {fr : Nat × Nat} : Fr.Src (V.alloc (.cells cs 5 fr)) X (some ⟨V.heap.size, 0, none⟩) bs := fun _ => by
  refine ⟨⟨V.heap.size, 0, none⟩, rfl, by simp, hX, fun j u hu => ?_⟩
  rw [← h] at hu
  exact World.news_of_block (heap_alloc_new V _) j u hu
theorem parseN : parseV 32 0 [3, 5, 9] = .ok (nT, 1, [9]) := by rfl
/-- A leaf is its fields. -/
theorem own_leaf_eq {w : World} {k : Int} {b : Bool} {n : Int} {s : ByteArray} {S : Nat → Prop} {v : Value} (h : VT.Own w (.mk k b n s [] []) S v) : ∃ (pl : Option Addr) (cl : Nat) (pk : Option Addr) (ck : Nat), v = .agg #[.int .i64 k, .bool b, .int .i64 n, .string s, .slice pl 0 cl, .slice pk 0 ck] := by
  unfold VT.Own at h
  obtain ⟨pl, cl, pk, ck, e, -⟩ := h
  exact ⟨pl, cl, pk, ck, e⟩
set_option maxRecDepth 100000 in
set_option maxHeartbeats 4000000 in
theorem works_any (w : World) : Calls Try.prog 17 #[] w fun e w' => e = .returned (.bool true) ∧ Below w.heap.size w w' := by
  have KC := Lib.hid (encode_any nT _ w.heap.size w (leaf_in 2 false (-3) ⟨#[]⟩ w.heap.size w) (Nat.le_refl _) (by unfold nT okN okNL; exact ⟨by omega, trivial⟩) (by unfold nT szV szL szK; decide))
  unfold EncPost at KC
  rw [encN, errN] at KC
  have BC : Hid (∀ V : World, Calls Try.prog 18 #[.slice (some ⟨V.heap.size, 0, none⟩) 3 3] (V.alloc (.cells #[.int .u8 3, .int .u8 5, .int .u8 9] 5)) fun e w' => (∃ (pl : Option Addr) (cl : Nat) (pk : Option Addr) (ck : Nat), e = .returned (.tuple #[.agg #[.int .i64 2, .bool false, .int .i64 (-3), .string ⟨#[]⟩, .slice pl 0 cl, .slice pk 0 ck], .int .i64 2, .int .i64 0])) ∧ Below (V.heap.size + 1) (V.alloc (.cells #[.int .u8 3, .int .u8 5, .int .u8 9] 5)) w') := Lib.hid fun V => by
    have h1 := decode_ok (some ⟨V.heap.size, 0, none⟩) 3 [3, 5, 9] [9] nT 1 (V.alloc (.cells #[.int .u8 3, .int .u8 5, .int .u8 9] 5)) (lit_src V _ [3, 5, 9] _ rfl (fun f => f)) (by simp) (by omega) parseN
    refine h1.mono ?_
    rintro e w' ⟨v, rfl, ho, hb⟩
    obtain ⟨pl, cl, pk, ck, rfl⟩ := own_leaf_eq ho
    exact ⟨⟨pl, cl, pk, ck, rfl⟩, by rw [World.size_alloc] at hb; exact hb⟩
  go_enter Try.func17, Try.ntmps17
  go_wp2_with fail
  refine KC.out.mono ?_
  rintro e w1 ⟨u, rfl, h1⟩
  have H1 := Lib.hid h1
  clear h1
  go_wp2_with fail
  refine (BC.out _).mono ?_
  rintro e w2 ⟨⟨pl, cl, pk, ck, rfl⟩, hb2⟩
  have hlow : Below w1.heap.size w1 (w2.alloc (.cells #[.int .i64 2, .bool false, .int .i64 (-3), .string ⟨#[]⟩, .slice pl 0 cl, .slice pk 0 ck] 25)) := ((((Below.refl _ w1).alloc (Nat.le_refl _) _).trans (hb2.mono (by simp)))).alloc (by have := hb2.size; simp at this; omega) _
  have hcv := conv_buf w.heap.size _ u _ (H1.out.buf.far hlow) 9 Try.underlying9
  have HB2 := Lib.hid (H1.out.low.trans (hlow.mono H1.out.low.size))
  obtain ⟨t0, t1, t2, t3, t4, t5⟩ := (Box.new w2 #[.int .i64 2, .bool false, .int .i64 (-3), .string ⟨#[]⟩, .slice pl 0 cl, .slice pk 0 ck]).cell
  clear hb2 hlow H1
  go_wp2
  go_ret
  exact ⟨rfl, HB2.out⟩
/-! ### What the statements share -/
/-- A value's box stands, and all that was there. -/
structure Seen (w : World) (cs : Array Value) (V : World) : Prop where
  box : Box V w.heap.size cs
  low : Below w.heap.size w V
theorem Seen.step {w V V' : World} {cs : Array Value} (h : Seen w cs V) (hb : Below V.heap.size V V') : Seen w cs V' := ⟨(hb.block _ h.box.lt).trans h.box, h.low.trans (hb.mono h.low.size)⟩
theorem Seen.new (w : World) (cs : Array Value) : Seen w cs (w.alloc (.cells cs 25)) := ⟨Box.new w cs, (Below.refl _ w).alloc (Nat.le_refl _) _⟩
/-- The row as a source of bytes. -/
theorem buf_src {B n c : Nat} {V : World} {q : Option Addr} {bs : List UInt8} (h : Buf B V (.slice q n c) bs) : n = bs.length ∧ bs.length ≤ c ∧ c ≤ 9223372036854775807 ∧ Fr.Src V (fun _ => False) q bs := by
  have h2 : Fr.Buf B V (.slice q n c) bs := h
  obtain ⟨q', c', e, h1, h3, h4⟩ := h2.shape
  injection e with e1 e2 e3
  subst e1 e2 e3
  exact ⟨rfl, h1, by unfold maxLen at h3; omega, h2.src rfl (fun _ _ f => f)⟩
theorem own_in {w : World} {t : VT} {v : Value} {w0 : World} (h : VT.Own w t (Made w0 w) v) : VT.In w w.heap.size t v := h.toIn (fun k hk => hk.2)
end Pk
end Go.Proofs.Ytmhlipncelgmlaa
