/- Values as bytes: the bytes of the parts of a list are written behind. -/
import Derived.Test.YtmhlipncelgmlaaPkPutK
namespace Go.Proofs.Ytmhlipncelgmlaa
open Go.RowKit
set_option linter.unusedVariables false
set_option linter.unusedSimpArgs false
namespace Pk
open Val (VT Keeps Box okN okNL szV szL szK)
open Rk (Buf Sk RkPost infoB info_parts lit_one one_one ba_len box_kept goodV goodL goodL_at)
/-- What the call of itself is to do. -/
def PutIH (N : Nat) : Prop := ∀ (t : VT) (v b : Value) (bs : List UInt8) (B C : Nat) (w : World), t.parts ≤ N → VT.In w B t v → B ≤ C → C ≤ w.heap.size → Buf C w b bs → okN t → goodV t → bs.length + (packB t).length + 60 ≤ 35184372088832 →
  Calls Try.prog 34 #[b, v] w fun e w' => RkPost C w (bs ++ packB t) e w'
/-- Where the loop over the parts stands, j of them written. -/
def PRel (l : List VT) (ks : List ByteArray) (m : Bool) (bs : List UInt8) (C : Nat) (w : World) (j : Nat) (v : Value) (wr : World) : Prop :=
  ∃ acc, Sk C w wr v acc ∧ acc ++ partsP (l.drop j) m (ks.drop j) = bs ++ partsP l m ks
set_option maxRecDepth 100000 in
set_option maxHeartbeats 4000000 in
theorem list_step (l : List VT) (N B C : Nat) (pl : Option Addr) (nl cl : Nat) (b0 : Value) (bs : List UInt8) (w : World) (IH : Hid (PutIH N)) (hT : Hid (∀ x, x ∈ l → x.parts ≤ N)) (HL : Hid (l.length = nl))
    (HM : Hid (0 < l.length → ∃ bl ol, pl = some ⟨bl, ol, none⟩ ∧ bl < B ∧ VT.InL w B bl ol l)) (hBC : B ≤ C) (hC : C ≤ w.heap.size) (hb : Buf C w b0 bs) (HN : Hid (okNL l)) (HG : Hid (goodL l)) (HLEN : Hid (bs.length + (sevL nl).length + (partsP l false []).length + 60 ≤ 35184372088832)) (hnl : nl ≤ maxLen) :
    Calls Try.prog 57 #[b0, .slice pl nl cl] w fun e w' => RkPost C w (bs ++ (sevL nl ++ partsP l false [])) e w' := by
  unfold maxLen at hnl
  have CALL : Hid (Calls Try.prog 54 #[b0, .int .u64 (nl : Int)] w fun e w' => RkPost C w (bs ++ sevL nl) e w') := Lib.hid (putNumber_any C b0 bs nl w hb hC (by have := HLEN.out; omega) (by omega))
  clear hb
  go_enter Try.func57, Try.ntmps57
  go_wp2_with fail
  refine CALL.out.mono ?_
  rintro e w1 ⟨u1, rfl, h1⟩
  obtain ⟨b1, hb1⟩ : ∃ b1, bs ++ sevL nl = b1 := ⟨_, rfl⟩
  rw [hb1] at h1
  have HB1 := Lib.hid hb1
  clear hb1
  have HW0 : Hid (PRel l [] false b1 C w 0 u1 w1) := Lib.hid ⟨b1, h1, by simp⟩
  have HLEN1 : Hid (b1.length + (partsP l false []).length + 60 ≤ 35184372088832) := Lib.hid (by rw [← HB1.out, List.length_append]; exact HLEN.out)
  clear h1
  go_wp2
  go_loopw [0, 14] (fun v i wr => ∃ j : Nat, i = .int .i64 (j : Int) ∧ j ≤ nl ∧ Hid (PRel l [] false b1 C w j v wr)) (fun _ i _ => nl - (intOf i).toNat)
  case atStart => exact ⟨0, rfl, Nat.zero_le _, HW0⟩
  case round =>
    rename_i u wr
    obtain ⟨j, rfl, hj, HR⟩ := hrel
    obtain ⟨acc, HS0, HA0⟩ := HR.out
    have HS := Lib.hid HS0
    have HA := Lib.hid HA0
    clear HS0 HA0
    by_cases hlt : j < nl
    · obtain ⟨x, hx⟩ : ∃ x, l[j]? = some x := ⟨l[j]'(by rw [HL.out]; exact hlt), List.getElem?_eq_getElem _⟩
      obtain ⟨bl, ol, hpl, hbl, hInL⟩ := HM.out (by rw [HL.out]; omega)
      obtain ⟨d0, d1, d2, d3, d4, d5, e0, e1, e2, e3, e4, e5, hInx⟩ := (VT.InL.keep (fun q hq => HS.out.low.cell (Nat.lt_of_lt_of_le hq hBC)) hbl hInL).at hx
      obtain ⟨xk, xb, xn, xs, xpl, xnl, xcl, xpk, xnk, xck, rfl, rfl, rfl, rfl, rfl, rfl⟩ := hInx.shape
      have hji : (j : Int) < nl := by omega
      have hxg := goodL_at HG.out hx
      have hpa := parts_at l j x false [] hx
      have htot := HA.out
      simp only [List.drop_nil] at htot hpa
      rw [hpa] at htot
      simp only [Bool.false_eq_true, if_false, List.nil_append] at htot
      have hl := congrArg List.length htot
      rw [List.length_append, List.length_append, List.length_append] at hl
      have hLEN := HLEN1.out
      have CALL : Hid (∀ o, Calls Try.prog 34 #[u0, .agg #[.int .i64 xk, .bool xb, .int .i64 xn, .string xs, .slice xpl xnl xcl, .slice xpk xnk xck]] (wr.alloc o) fun e V' => ∃ u', e = .returned u' ∧ Hid (PRel l [] false b1 C w (j + 1) u' V')) := Lib.hid fun o => by
        have hS := HS.out.alloc hC o
        refine (IH.out x _ _ acc B C (wr.alloc o) (hT.out x (List.mem_of_getElem? hx)) (hInx.below ((Below.refl B wr).alloc (Nat.le_trans hBC (HS.out.hC hC)) o)) hBC (hS.hC hC) hS.buf (Val.okNL_at HN.out hx) hxg (by omega)).mono ?_
        rintro e V' ⟨u', rfl, h1⟩
        exact ⟨u', rfl, Lib.hid ⟨_, hS.trans h1, by rw [List.append_assoc, List.drop_nil]; exact htot⟩⟩
      clear hInx hInL hx hxg hpa htot hl hLEN
      subst hpl
      go_wp2_with fail
      refine (CALL.out _).mono ?_
      rintro e V' ⟨u', rfl, HR'⟩
      go_wp2
      go_roundw
      case rel => exact ⟨j + 1, by go_num, by omega, HR'⟩
      case measure => simp [intOf]; omega
    · have hjn : j = nl := by omega
      have HJ := Lib.hid hjn
      have hji : ¬ (j : Int) < nl := by omega
      clear hjn
      have hA := HA.out
      rw [HJ.out, ← HL.out, List.drop_length, partsP, List.append_nil] at hA
      have HA2 := Lib.hid hA
      clear hA
      go_wp2
      go_ret
      have hq := HS.out.post
      rw [HA2.out, ← HB1.out, List.append_assoc] at hq
      exact hq
end Pk
end Go.Proofs.Ytmhlipncelgmlaa
