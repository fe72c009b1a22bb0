/- The law PackWrites: the document's Encode, and the walk. -/
import Derived.Test.YtmhlipncelgmlaaPkRefB
import Derived.Test.YtmhlipncelgmlaaPkBackL
import Derived.Test.YtmhlipncelgmlaaValRefCopy
import Derived.Lib.ConvBytes
namespace Go.Proofs.Ytmhlipncelgmlaa
open Go.RowKit
set_option linter.unusedVariables false
set_option linter.unusedSimpArgs false
namespace Pk
open Val (VT Keeps Box okN okNL szV szL szK mayB sameV small smallL)
open Rk (Buf Sk)
/-- A text's bytes in a new row, as a source. -/
theorem bytes_src (V : World) (s : ByteArray) : Fr.Src (Lib.bytesWorld V 5 s) (fun _ => False) (some ⟨V.heap.size, 0, none⟩) s.data.toList := fun h0 => by
  refine ⟨⟨V.heap.size, 0, none⟩, rfl, by rw [Lib.bytesWorld_size]; exact Nat.lt_succ_self _, fun f => f, fun j u hu => ?_⟩
  have hj : j < s.size := by
    have := (List.getElem?_eq_some_iff.1 hu).1
    simpa [Lib.byteCells] using this
  rw [Go.WideShapes.add_plain, Nat.zero_add, Lib.bytesWorld_cell V _ s j hj]
  have e : (Lib.byteCells s.data.toList)[j]? = some (.int .u8 (s.data.toList.getD j 0).toNat) := by
    unfold Lib.byteCells
    rw [List.getElem?_map, List.getD_eq_getElem?_getD]
    have : j < s.data.toList.length := by rw [Rk.ba_len]; exact hj
    rw [List.getElem?_eq_getElem this]
    rfl
  rw [e] at hu
  exact hu
theorem bytes_below (V : World) (s : ByteArray) : Below V.heap.size V (Lib.bytesWorld V 5 s) := by
  refine ⟨?_, ?_, ?_, by rw [Lib.bytesWorld_size]; omega, fun k hk => Lib.bytesWorld_at_old V _ s k hk⟩ <;> simp [Lib.bytesWorld, World.freeze, World.alloc, World.drew, -World.alloc_eq, -World.drew_eq]
/-- What the document's Encode comes to. -/
def RefEncPost (t : VT) (w : World) (e : Ending) (w' : World) : Prop := ∃ p c, e = .returned (.tuple #[.slice p (encB t).length c, .int .i64 (errOf t)]) ∧ Fr.Src w' (fun _ => False) p (encB t) ∧ Below w.heap.size w w'
set_option maxRecDepth 100000 in
set_option maxHeartbeats 4000000 in
theorem refEnc_any (t : VT) (v : Value) (B : Nat) (w : World) (hIn : VT.In w B t v) (hB : B ≤ w.heap.size) (hok : okN t) (hsz : szV t ≤ 1073741824) :
    Calls Try.prog 15 #[v] w fun e w' => RefEncPost t w e w' := by
  obtain ⟨k, b, n, s, l, ks⟩ := t
  have hx := hIn
  unfold VT.In at hx
  obtain ⟨pl, cl, pk, ck, rfl, -⟩ := hx
  obtain ⟨T, hT⟩ : ∃ T, VT.mk k b n s l ks = T := ⟨_, rfl⟩
  rw [hT] at hIn hok hsz ⊢
  clear hT
  have HMAY : Hid (∀ V, Seen w #[.int .i64 k, .bool b, .int .i64 n, .string s, .slice pl l.length cl, .slice pk ks.length ck] V → Calls Try.prog 35 #[.agg #[.int .i64 k, .bool b, .int .i64 n, .string s, .slice pl l.length cl, .slice pk ks.length ck]] V fun e w' => e = .returned (.bool (mayB T)) ∧ Below V.heap.size V w') := Lib.hid fun V hV => Val.May_any T _ B V (hIn.keep fun q hq => hV.low.cell (Nat.lt_of_lt_of_le hq hB)) (Nat.le_trans hB hV.low.size)
  have HS0 := Lib.hid (Seen.new w #[.int .i64 k, .bool b, .int .i64 n, .string s, .slice pl l.length cl, .slice pk ks.length ck])
  cases hb : mayB T with
  | false =>
    rw [hb] at HMAY
    have HP : Hid (∀ w', Below w.heap.size w w' → RefEncPost T w (.returned (.tuple #[.slice none 0 0, .int .i64 20])) w') := Lib.hid fun w' hb' => ⟨none, 0, by unfold encB errOf; rw [hb]; rfl, by unfold encB; rw [hb]; exact fun h => absurd h (by simp), hb'⟩
    clear hIn hok hsz hb
    go_enter Try.func15, Try.ntmps15
    go_wp2_with fail
    refine (HMAY.out _ HS0.out).mono ?_
    rintro e w1 ⟨rfl, hb1⟩
    have HL := Lib.hid (HS0.out.step hb1).low
    clear hb1
    go_wp2
    go_ret2
    exact HP.out _ HL.out
  | true =>
    rw [hb] at HMAY
    have HBY : Hid (∀ V, Seen w #[.int .i64 k, .bool b, .int .i64 n, .string s, .slice pl l.length cl, .slice pk ks.length ck] V → Calls Try.prog 36 #[.agg #[.int .i64 k, .bool b, .int .i64 n, .string s, .slice pl l.length cl, .slice pk ks.length ck]] V fun e w' => e = .returned (.string ⟨(packB T).toArray⟩) ∧ Below V.heap.size V w') := Lib.hid fun V hV => ref_all T.parts T _ B V (Nat.le_refl _) (hIn.keep fun q hq => hV.low.cell (Nat.lt_of_lt_of_le hq hB)) (Nat.le_trans hB hV.low.size) hok (Rk.mayB_good T hb).1 hsz
    obtain ⟨q, hq⟩ : ∃ q : ByteArray, (⟨(packB T).toArray⟩ : ByteArray) = q := ⟨_, rfl⟩
    rw [hq] at HBY
    have hqd : q.data.toList = packB T := by rw [← hq]
    have HP : Hid (∀ p c w', Fr.Src w' (fun _ => False) p q.data.toList → Below w.heap.size w w' → RefEncPost T w (.returned (.tuple #[.slice p q.size c, .int .i64 0])) w') := Lib.hid fun p c w' hs hb' => ⟨p, c, by unfold encB errOf; rw [hb]; simp only [if_true]; rw [← hqd, Rk.ba_len], by unfold encB; rw [hb]; simp only [if_true]; rw [← hqd]; exact hs, hb'⟩
    have hcv := fun V : World => Lib.run_convert_string_bytes V 9 27 5 q Try.underlying9 Try.underlying27 Try.underlying5
    clear hIn hok hsz hb hq hqd
    go_enter Try.func15, Try.ntmps15
    go_wp2_with fail
    refine (HMAY.out _ HS0.out).mono ?_
    rintro e w1 ⟨rfl, hb1⟩
    have HS1 := Lib.hid (HS0.out.step hb1)
    obtain ⟨c0, c1, c2, c3, c4, c5⟩ := HS1.out.box.cell
    clear hb1
    go_wp2_with fail
    refine (HBY.out _ HS1.out).mono ?_
    rintro e w2 ⟨rfl, hb2⟩
    have HL := Lib.hid ((HS1.out.step hb2).low.trans ((bytes_below w2 q).mono (HS1.out.step hb2).low.size))
    have HSB := Lib.hid (bytes_src w2 q)
    clear hb2 c0 c1 c2 c3 c4 c5
    go_wp2
    go_ret2
    exact HP.out _ _ _ HSB.out HL.out
mutual
theorem parts_sz : ∀ t : VT, t.parts ≤ szV t
  | .mk k b n s l ks => by
    have := partsL_sz l
    rw [VT.parts, szV]
    omega
theorem partsL_sz : ∀ l : List VT, VT.partsL l ≤ szL l
  | [] => by rw [VT.partsL, szL]; omega
  | t :: ts => by
    have := parts_sz t
    have := partsL_sz ts
    rw [VT.partsL, szL]
    omega
end
theorem keys_sz : ∀ ks : List ByteArray, 8 * ks.length ≤ szK ks
  | [] => by simp [szK]
  | k :: ks => by
    have := keys_sz ks
    rw [szK, List.length_cons]
    omega
mutual
theorem small_sz : ∀ t : VT, szV t ≤ 67108864 → small t
  | .mk k b n s l ks, h => by
    rw [szV] at h
    have := keys_sz ks
    unfold small
    exact ⟨by omega, smallL_sz l (by omega)⟩
theorem smallL_sz : ∀ l : List VT, szL l ≤ 67108864 → smallL l
  | [], _ => by unfold smallL; trivial
  | t :: ts, h => by
    rw [szL] at h
    unfold smallL
    exact ⟨small_sz t (by omega), smallL_sz ts (by omega)⟩
end
mutual
theorem parts40 : ∀ t : VT, 40 * t.parts ≤ szV t
  | .mk k b n s l ks => by
    have := parts40L l
    rw [VT.parts, szV]
    omega
theorem parts40L : ∀ l : List VT, 40 * VT.partsL l ≤ szL l
  | [] => by rw [VT.partsL, szL]; omega
  | t :: ts => by
    have := parts40 t
    have := parts40L ts
    rw [VT.partsL, szL]
    omega
end
set_option maxRecDepth 100000 in
set_option maxHeartbeats 4000000 in
theorem packWrites_any (t : VT) (v : Value) (w : World) (hIn : VT.In w w.heap.size t v) (hok : okN t) (hsz : szV t ≤ 67108864) :
    Calls Try.prog 3 #[v] w fun e w' => e = .returned (.bool true) ∧ Below w.heap.size w w' := by
  obtain ⟨k, b, n, s, l, ks⟩ := t
  have hx := hIn
  unfold VT.In at hx
  obtain ⟨pl, cl, pk, ck, rfl, -⟩ := hx
  obtain ⟨T, hT⟩ : ∃ T, VT.mk k b n s l ks = T := ⟨_, rfl⟩
  rw [hT] at hIn hok hsz
  clear hT
  have hp40 := parts40 T
  have HS0 := Lib.hid (Seen.new w #[.int .i64 k, .bool b, .int .i64 n, .string s, .slice pl l.length cl, .slice pk ks.length ck])
  have HCOPY : Hid (∀ V, Seen w #[.int .i64 k, .bool b, .int .i64 n, .string s, .slice pl l.length cl, .slice pk ks.length ck] V → Calls Try.prog 13 #[.agg #[.int .i64 k, .bool b, .int .i64 n, .string s, .slice pl l.length cl, .slice pk ks.length ck]] V (Val.CopyPost T V)) := Lib.hid fun V hV =>
    Val.refCopy_rec T.parts T _ w.heap.size V (Nat.le_refl _) (by omega) (small_sz T hsz) (hIn.below hV.low) hV.low.size
  have HREF : Hid (∀ V, Seen w #[.int .i64 k, .bool b, .int .i64 n, .string s, .slice pl l.length cl, .slice pk ks.length ck] V → Calls Try.prog 15 #[.agg #[.int .i64 k, .bool b, .int .i64 n, .string s, .slice pl l.length cl, .slice pk ks.length ck]] V fun e w' => RefEncPost T V e w') := Lib.hid fun V hV =>
    refEnc_any T _ w.heap.size V (hIn.below hV.low) hV.low.size hok (by omega)
  have HENC : Hid (∀ (V : World) (B : Nat) (u : Value), VT.In V B T u → B ≤ V.heap.size → Calls Try.prog 14 #[u] V fun e w' => EncPost T V e w') := Lib.hid fun V B u hi hb => encode_any T u B V hi hb hok (by omega)
  have HIN := Lib.hid hIn
  obtain ⟨er, her⟩ : ∃ er, errOf T = er := ⟨_, rfl⟩
  obtain ⟨bs, hbs⟩ : ∃ bs, encB T = bs := ⟨_, rfl⟩
  obtain ⟨z, hz⟩ : ∃ q : ByteArray, baOf bs = q := ⟨_, rfl⟩
  have HZ := Lib.hid hz
  unfold EncPost RefEncPost at *
  rw [her, hbs] at HREF HENC
  clear hIn hok hsz hp40 her hbs hz
  go_enter Try.func3, Try.ntmps3
  go_wp2_with fail
  refine (HCOPY.out _ HS0.out).mono ?_
  rintro e w1 ⟨u, rfl, hown, hb1⟩
  obtain ⟨yk, yb, yn, ys, ypl, ynl, ycl, ypk, ynk, yck, rfl⟩ := hown.shape
  have hb2 : Below w1.heap.size w1 (w1.alloc (.cells #[.int .i64 yk, .bool yb, .int .i64 yn, .string ys, .slice ypl ynl ycl, .slice ypk ynk yck] 25)) := (Below.refl _ w1).alloc (Nat.le_refl _) _
  have HS2 := Lib.hid ((HS0.out.step hb1).step hb2)
  have HI2 : Hid (VT.In (w1.alloc (.cells #[.int .i64 yk, .bool yb, .int .i64 yn, .string ys, .slice ypl ynl ycl, .slice ypk ynk yck] 25)) w1.heap.size T (.agg #[.int .i64 yk, .bool yb, .int .i64 yn, .string ys, .slice ypl ynl ycl, .slice ypk ynk yck])) := Lib.hid ((hown.toIn (fun k hk => hk.2)).below hb2)
  have HU2 := Lib.hid (Box.new w1 #[.int .i64 yk, .bool yb, .int .i64 yn, .string ys, .slice ypl ynl ycl, .slice ypk ynk yck])
  have HC := Lib.hid (HENC.out _ _ _ HI2.out hb2.size)
  obtain ⟨t0, t1, t2, t3, t4, t5⟩ := HU2.out.cell
  clear hown hb1 hb2
  go_wp2_with fail
  refine HC.out.mono ?_
  rintro e w3 ⟨u1, rfl, h3⟩
  have HS3 := Lib.hid (HS2.out.step h3.low)
  have HI3 := Lib.hid (HI2.out.below (h3.low.mono (by simp)))
  have HU3 := Lib.hid ((h3.low.block _ HU2.out.lt).trans HU2.out)
  have HB3 := Lib.hid h3.buf
  obtain ⟨d0, d1, d2, d3, d4, d5⟩ := HS3.out.box.cell
  clear h3 t0 t1 t2 t3 t4 t5
  go_wp2_with fail
  refine (HREF.out _ HS3.out).mono ?_
  rintro e w4 ⟨p4, c4, rfl, hs4, hb4⟩
  have HS4 := Lib.hid (HS3.out.step hb4)
  have hs34 : w1.heap.size ≤ w3.heap.size := by
    have h1 := HU3.out
    have h2 : w1.heap.size < w3.heap.size := (Array.getElem?_eq_some_iff.1 h1).1
    omega
  have hsm := Val.same_any T.parts T T _ _ w3.heap.size w4 (Nat.le_refl _) ((HI3.out.below (hb4.mono hs34)).more hs34) ((HIN.out.below HS4.out.low).more HS3.out.low.size) hb4.size
  rw [same_refl] at hsm
  have HSM := Lib.hid hsm
  have hcv1 := conv_buf _ w4 u1 bs (HB3.out.far hb4) 9 Try.underlying9
  have hcv2 := conv_src hs4 rfl (c := c4)
  rw [show (⟨bs.toArray⟩ : ByteArray) = z from HZ.out] at hcv1
  rw [HZ.out] at hcv2
  obtain ⟨m4, hm4⟩ : ∃ m, bs.length = m := ⟨_, rfl⟩
  rw [hm4] at hcv2 ⊢
  obtain ⟨d0, d1, d2, d3, d4, d5⟩ := HS4.out.box.cell
  have hu4 : Box w4 w1.heap.size #[.int .i64 yk, .bool yb, .int .i64 yn, .string ys, .slice ypl ynl ycl, .slice ypk ynk yck] := (hb4.block _ (Array.getElem?_eq_some_iff.1 HU3.out).1).trans HU3.out
  obtain ⟨t0, t1, t2, t3, t4, t5⟩ := hu4.cell
  clear hsm hs4 hb4 hm4 hu4 hs34
  go_wp2_with fail
  refine HSM.out.mono ?_
  rintro e w7 ⟨rfl, h7⟩
  have HL7 := Lib.hid (HS4.out.step h7).low
  clear h7 hcv1 hcv2 d0 d1 d2 d3 d4 d5 t0 t1 t2 t3 t4 t5
  go_wp2_with fail
  refine (works_any _).mono ?_
  rintro e w8 ⟨rfl, hF⟩
  have HF := Lib.hid (HL7.out.trans (hF.mono HL7.out.size))
  clear hF
  go_wp2
  go_ret
  exact ⟨rfl, HF.out⟩
end Pk
end Go.Proofs.Ytmhlipncelgmlaa
