/- The law PackBack: its walk. -/
import Derived.Test.YtmhlipncelgmlaaPkCutsL
namespace Go.Proofs.Ytmhlipncelgmlaa
open Go.RowKit
set_option linter.unusedVariables false
set_option linter.unusedSimpArgs false
namespace Pk
open Val (VT Keeps Box okN okNL szV szL szK mayB sameV)
open Rk (Buf Sk)
/-- `[]byte{}`. -/
theorem empty_buf (V : World) : Fr.Buf V.heap.size (V.alloc (.cells #[] 5)) (.slice (some ⟨V.heap.size, 0, none⟩) 0 0) [] := by
  refine ⟨rfl, .inr ⟨V.heap.size, 0, #[], rfl, Nat.le_refl _, World.alloc_heap_new V _, Nat.le_refl _, by unfold maxLen; omega, rfl, rfl⟩⟩
theorem src_below {X : Nat → Prop} {V V' : World} {p : Option Addr} {bs : List UInt8} (h : Fr.Src V X p bs) (hb : Below V.heap.size V V') : Fr.Src V' X p bs := h.keeps (Fr.Keeps.of_below (X := fun _ => False) hb) (fun _ f _ => f.elim) (fun _ x _ => x)
set_option maxRecDepth 100000 in
set_option maxHeartbeats 4000000 in
theorem packBack_any (t : VT) (v : Value) (more : List UInt8) (a : Option Addr) (c : Nat) (w : World) (hIn : VT.In w w.heap.size t v) (hok : okN t) (hsz : szV t ≤ 17592186044416) (hle : more.length ≤ c) (hcm : c ≤ maxLen) (hs : Fr.Src w (fun _ => False) a more) (hml : more.length ≤ 17592186044416) :
    Calls Try.prog 5 #[v, .slice a more.length c] w fun e w' => e = .returned (.bool true) ∧ Below w.heap.size w w' := by
  obtain ⟨k, b, n, s, l, ks⟩ := t
  have hx := hIn
  unfold VT.In at hx
  obtain ⟨pl, cl, pk, ck, rfl, -⟩ := hx
  obtain ⟨T, hT⟩ : ∃ T, VT.mk k b n s l ks = T := ⟨_, rfl⟩
  rw [hT] at hIn hok hsz
  clear hT
  obtain ⟨M, hM⟩ : ∃ M, more.length = M := ⟨_, rfl⟩
  rw [hM] at hle hml ⊢
  have HEv : Hid (∀ V, Seen w #[.int .i64 k, .bool b, .int .i64 n, .string s, .slice pl l.length cl, .slice pk ks.length ck] V → Calls Try.prog 14 #[.agg #[.int .i64 k, .bool b, .int .i64 n, .string s, .slice pl l.length cl, .slice pk ks.length ck]] V fun e w' => ∃ u, e = .returned (.tuple #[u, .int .i64 (errOf T)]) ∧ Sk V.heap.size V w' u (encB T)) := Lib.hid fun V hV =>
    encode_any T _ w.heap.size V (hIn.below hV.low) hV.low.size hok hsz
  have HS0 := Lib.hid (Seen.new w #[.int .i64 k, .bool b, .int .i64 n, .string s, .slice pl l.length cl, .slice pk ks.length ck])
  cases hb : mayB T with
  | false =>
    have he1 : errOf T = 20 := by unfold errOf; rw [hb]; rfl
    have hc1 : encB T = [] := by unfold encB; rw [hb]; rfl
    rw [he1, hc1] at HEv
    clear hb he1 hc1 hIn hok hsz hle hcm hs hml hM
    go_enter Try.func5, Try.ntmps5
    go_wp2_with fail
    refine (HEv.out _ HS0.out).mono ?_
    rintro e w1 ⟨u1, rfl, h1⟩
    have HL := Lib.hid (HS0.out.step h1.low).low
    obtain ⟨q, cq, e1, -⟩ := Fr.Buf.shape (show Fr.Buf _ w1 u1 [] from h1.buf)
    rw [List.length_nil] at e1
    subst e1
    clear h1
    go_wp2_with fail
    refine (works_any _).mono ?_
    rintro e w3 ⟨rfl, hF⟩
    have HF := Lib.hid (HL.out.trans (hF.mono HL.out.size))
    clear hF
    go_wp2
    go_ret
    exact ⟨rfl, HF.out⟩
  | true =>
    have he1 : errOf T = 0 := by unfold errOf; rw [hb]; rfl
    have hc1 : encB T = packB T := by unfold encB; rw [hb]; rfl
    rw [he1, hc1] at HEv
    obtain ⟨p', hpar⟩ := parse_back hb hok hsz more
    have HPAR := Lib.hid hpar
    have HIN := Lib.hid hIn
    have hlen := packB_len T (Rk.mayB_good T hb).1 hok
    obtain ⟨L, hL⟩ : ∃ L, (packB T).length = L := ⟨_, rfl⟩
    rw [hL] at hlen
    have HLn := Lib.hid hL
    have HLB : Hid ((L : Int) ≤ 17592186044416) := Lib.hid (by omega)
    have HML : Hid ((M : Int) ≤ 17592186044416) := Lib.hid (by omega)
    have HM := Lib.hid hM
    have HSR := Lib.hid hs
    clear hb he1 hc1 hpar hok hsz hlen hL hIn hs hM hml hle hcm
    go_enter Try.func5, Try.ntmps5
    go_wp2_with fail
    refine (HEv.out _ HS0.out).mono ?_
    rintro e w1 ⟨u1, rfl, h1⟩
    have HS1 := Lib.hid (HS0.out.step h1.low)
    obtain ⟨q, c1, e1, h3, h4, h5⟩ := Fr.Buf.shape (show Fr.Buf _ w1 u1 (packB T) from h1.buf)
    subst e1
    have hsrc := (Fr.Buf.src (show Fr.Buf _ w1 _ (packB T) from h1.buf) rfl (X := fun _ => False) (fun _ _ f => f))
    have hbuf : Fr.Buf _ w1 _ (packB T) := h1.buf
    rw [HLn.out] at hbuf h3 ⊢
    have HSRC := Lib.hid hsrc
    have HBUF := Lib.hid hbuf
    clear h1 h4 h5 hsrc h3 hbuf
    have hb1 : Below w1.heap.size w1 (w1.alloc (.cells #[] 5)) := (Below.refl _ w1).alloc (Nat.le_refl _) _
    have HB1 := Lib.hid hb1
    have HSR1 := Lib.hid (src_below HSR.out (HS1.out.low.trans (hb1.mono HS1.out.low.size)))
    have HSRC1 := Lib.hid (src_below HSRC.out hb1)
    clear hb1
    go_wp2_with (first | (at_builtin; go_loud (refine Fr.wpList_append_src rfl (.tmp 24) (.tmp 25) rfl w1.heap.size (fun _ => False) _ [] (packB T) q L c1 L rfl rfl HLn.out.symm (empty_buf w1) HSRC1.out (by have := HLB.out; have := HLn.out; simp only [List.length_nil]; omega) (by simp) (by rw [HLn.out]; simp) (fun q2 c2 w3 hb3 hg3 _ => ?_)); have L3 : Below w1.heap.size w1 w3 := HB1.out.grown hg3 (by simp) (fun k hk => by have := (empty_buf w1).lt k hk; omega); have HB3 := Lib.hid hb3; have HL3 := Lib.hid L3; clear hb3 hg3 L3) | (at_builtin; go_loud (refine Fr.wpList_append_src rfl (.tmp 26) (.tmp 27) rfl w1.heap.size (fun _ => False) _ ([] ++ packB T) more a M c (L + M) rfl rfl HM.out.symm HB3.out (src_below HSR.out (HS1.out.low.trans (HL3.out.mono HS1.out.low.size))) (by have := HLB.out; have := HML.out; have := HLn.out; have := HM.out; simp only [List.nil_append]; omega) HL3.out.size (by rw [List.nil_append, HLn.out, HM.out]) (fun q3 c3 w4 hb4 hg4 _ => ?_)); have L4 : Below w1.heap.size w1 w4 := HL3.out.grown hg4 HL3.out.size (fun k hk => (HB3.out.lt k hk).1); have HB4 := Lib.hid hb4; have HL4 := Lib.hid L4; clear hb4 hg4 L4))
    have HS4 := Lib.hid (HS1.out.step HL4.out)
    obtain ⟨e1, e2, e3, e4⟩ := buf_src (show Buf _ w4 (.slice q3 (L + M) c3) _ from HB4.out)
    have hdec := decode_ok q3 c3 _ more T p' w4 e4 e2 e3 (by rw [List.nil_append]; exact HPAR.out)
    rw [← e1, HM.out, show ((L + M : Nat) : Int) - (M : Int) = (L : Int) by omega] at hdec
    have HDEC := Lib.hid hdec
    clear hdec e1 e2 e3 e4
    refine HDEC.out.mono ?_
    rintro e w5 ⟨v, rfl, hown, hb5⟩
    obtain ⟨yk, yb, yn, ys, ypl, ynl, ycl, ypk, ynk, yck, rfl⟩ := hown.shape
    have HS5 := Lib.hid (HS4.out.step hb5)
    have hb6 : Below w5.heap.size w5 (w5.alloc (.cells #[.int .i64 yk, .bool yb, .int .i64 yn, .string ys, .slice ypl ynl ycl, .slice ypk ynk yck] 25)) := (Below.refl _ w5).alloc (Nat.le_refl _) _
    have HS6 := Lib.hid (HS5.out.step hb6)
    have hsm := Val.same_any T.parts T T _ _ w5.heap.size _ (Nat.le_refl _) ((own_in hown).below hb6) ((HIN.out.below HS6.out.low).more HS5.out.low.size) hb6.size
    rw [same_refl] at hsm
    have HSM := Lib.hid hsm
    obtain ⟨b0, b1, b2, b3, b4, b5⟩ := HS6.out.box.cell
    obtain ⟨t0, t1, t2, t3, t4, t5⟩ := (Box.new w5 #[.int .i64 yk, .bool yb, .int .i64 yn, .string ys, .slice ypl ynl ycl, .slice ypk ynk yck]).cell
    clear hsm hown hb5 hb6
    go_wp2_with fail
    refine HSM.out.mono ?_
    rintro e w7 ⟨rfl, h7⟩
    have HL7 := Lib.hid (HS6.out.step h7).low
    clear h7 b0 b1 b2 b3 b4 b5 t0 t1 t2 t3 t4 t5
    go_wp2_with fail
    refine (works_any _).mono ?_
    rintro e w8 ⟨rfl, hF⟩
    have HF := Lib.hid (HL7.out.trans (hF.mono HL7.out.size))
    clear hF
    go_wp2
    go_ret
    exact ⟨rfl, HF.out⟩
end Pk
end Go.Proofs.Ytmhlipncelgmlaa
