/- The law PackCuts: its walk. -/
import Derived.Test.YtmhlipncelgmlaaPkWorks2
namespace Go.Proofs.Ytmhlipncelgmlaa
open Go.RowKit
set_option linter.unusedVariables false
set_option linter.unusedSimpArgs false
namespace Pk
open Val (VT Keeps Box okN okNL szV szL szK mayB sameV)
open Rk (Buf Sk)
theorem packB_pos (t : VT) : 0 < (packB t).length := by
  obtain ⟨k, b, n, s, l, ks⟩ := t
  unfold packB
  repeat' split
  all_goals simp
set_option maxRecDepth 100000 in
set_option maxHeartbeats 4000000 in
theorem packCuts_any (t : VT) (v : Value) (at_ : Int) (w : World) (hIn : VT.In w w.heap.size t v) (hok : okN t) (hsz : szV t ≤ 17592186044416) :
    Calls Try.prog 7 #[v, .int .i64 at_] w fun e w' => e = .returned (.bool true) ∧ Below w.heap.size w w' := by
  obtain ⟨k, b, n, s, l, ks⟩ := t
  have hx := hIn
  unfold VT.In at hx
  obtain ⟨pl, cl, pk, ck, rfl, -⟩ := hx
  obtain ⟨T, hT⟩ : ∃ T, VT.mk k b n s l ks = T := ⟨_, rfl⟩
  rw [hT] at hIn hok hsz
  clear hT
  have HEv : Hid (∀ V, Seen w #[.int .i64 k, .bool b, .int .i64 n, .string s, .slice pl l.length cl, .slice pk ks.length ck] V → Calls Try.prog 14 #[.agg #[.int .i64 k, .bool b, .int .i64 n, .string s, .slice pl l.length cl, .slice pk ks.length ck]] V fun e w' => ∃ u, e = .returned (.tuple #[u, .int .i64 (errOf T)]) ∧ Sk V.heap.size V w' u (encB T)) := Lib.hid fun V hV =>
    encode_any T _ w.heap.size V (hIn.below hV.low) hV.low.size hok hsz
  have HS0 := Lib.hid (Seen.new w #[.int .i64 k, .bool b, .int .i64 n, .string s, .slice pl l.length cl, .slice pk ks.length ck])
  cases hb : mayB T with
  | false =>
    have he1 : errOf T = 20 := by unfold errOf; rw [hb]; rfl
    rw [he1] at HEv
    clear hb he1 hIn hok hsz
    go_enter Try.func7, Try.ntmps7
    go_wp2_with fail
    refine (HEv.out _ HS0.out).mono ?_
    rintro e w1 ⟨u1, rfl, h1⟩
    have HL := Lib.hid (HS0.out.step h1.low).low
    clear h1
    go_wp2_with fail
    refine (works_any _).mono ?_
    rintro e w3 ⟨rfl, hF⟩
    have HF := Lib.hid (HL.out.trans (hF.mono HL.out.size))
    clear hF
    go_wp2
    go_ret
    exact ⟨rfl, HF.out⟩
  | true =>
    have he1 : errOf T = 0 := by unfold errOf; rw [hb]; rfl
    have hc1 : encB T = packB T := by unfold encB; rw [hb]; rfl
    rw [he1, hc1] at HEv
    have hmv : ∃ p', Val.mayV T 32 0 = some p' := by
      unfold mayB at hb
      cases hv : Val.mayV T 32 0 with
      | none => rw [hv] at hb; cases hb
      | some p' => exact ⟨p', rfl⟩
    obtain ⟨p', hmv⟩ := hmv
    have HCUT : Hid (∀ k, k < (packB T).length → parseV 32 0 ((packB T).take k) = .error 22) := Lib.hid fun k hk => parse_cut hmv hok hsz hk
    have hlen := packB_len T (Rk.mayB_good T hb).1 hok
    have hpos := packB_pos T
    obtain ⟨L, hL⟩ : ∃ L, (packB T).length = L := ⟨_, rfl⟩
    rw [hL] at hlen hpos HCUT
    have HLn := Lib.hid hL
    have HLB : Hid ((L : Int) ≤ 17592186044416) := Lib.hid (by omega)
    have HL0 := Lib.hid hpos
    have hne : ((L : Int) == 0) = false := by simp; omega
    clear hb he1 hc1 hmv hok hsz hlen hpos hL hIn
    go_enter Try.func7, Try.ntmps7
    go_wp2_with fail
    refine (HEv.out _ HS0.out).mono ?_
    rintro e w1 ⟨u1, rfl, h1⟩
    have HL := Lib.hid (HS0.out.step h1.low).low
    obtain ⟨q, c, e1, h3, h4, h5⟩ := Fr.Buf.shape (show Fr.Buf _ w1 u1 (packB T) from h1.buf)
    subst e1
    have hsrc := (Fr.Buf.src (show Fr.Buf _ w1 _ (packB T) from h1.buf) rfl (X := fun _ => False) (fun _ _ f => f))
    rw [HLn.out] at h3 ⊢
    have HSRC := Lib.hid hsrc
    have hcb : c ≤ 9223372036854775807 := by unfold maxLen at h4; omega
    have HCB := Lib.hid hcb
    have HC3 := Lib.hid h3
    clear h1 h4 h5 hsrc hcb h3
    go_upto_region 4 with fail
    clear hne
    have hwl : IntKind.u64.wrap (L : Int) = (L : Int) := by rw [IntKind.wrap_u64]; have := HLB.out; omega
    have hl0 : ¬ (L : Int) = 0 := by have := HL0.out; omega
    obtain ⟨K, hK, hKL⟩ : ∃ K : Nat, wrap64 ((IntKind.u64.wrap at_).tmod (L : Int)) = (K : Int) ∧ K < L := by
      have h0 : 0 ≤ IntKind.u64.wrap at_ := by rw [IntKind.wrap_u64]; omega
      have h1 := Int.tmod_nonneg (L : Int) h0
      have h2 := Int.tmod_lt_of_pos (IntKind.u64.wrap at_) (show (0 : Int) < (L : Int) by have := HL0.out; omega)
      refine ⟨((IntKind.u64.wrap at_).tmod (L : Int)).toNat, ?_, by omega⟩
      have h3 := HLB.out
      unfold wrap64
      omega
    have hdec := decode_no q c ((packB T).take K) 22 w1 (HSRC.out.take K) (by rw [List.length_take, HLn.out]; have := HC3.out; omega) HCB.out (HCUT.out K hKL)
    have hlk : ((packB T).take K).length = K := by rw [List.length_take, HLn.out]; omega
    rw [hlk] at hdec
    have HDEC := Lib.hid hdec
    have hkc : (K : Int) ≤ (c : Int) := by have := HC3.out; omega
    have hk0 : (0 : Int) ≤ (K : Int) := by omega
    clear hdec hlk hKL
    go_wp2_with fail
    refine HDEC.out.mono ?_
    rintro e w2 ⟨rfl, h2⟩
    have HL2 := Lib.hid (HL.out.trans (h2.mono HL.out.size))
    clear h2 hwl hl0 hK hkc hk0
    go_wp2_with fail
    refine (works_any _).mono ?_
    rintro e w3 ⟨rfl, hF⟩
    have HF := Lib.hid ((HL2.out.alloc HL2.out.size _).trans (hF.mono (HL2.out.alloc HL2.out.size _).size))
    clear hF
    go_wp2
    go_ret
    exact ⟨rfl, HF.out⟩
end Pk
end Go.Proofs.Ytmhlipncelgmlaa
