/- Keys: the keys of the parts of a list, of a map, are written behind. -/
import Derived.Test.YtepfihanhdinfaaDoorRkPutK
namespace Go.Proofs.YtepfihanhdinfaaDoor
open Go.RowKit
set_option linter.unusedVariables false
set_option linter.unusedSimpArgs false
namespace Rk
open Val (VT Keeps Box okN okNL szV szL szK)
/-- What the call of itself is to do. -/
def PutIH (N : Nat) : Prop := ∀ (t : VT) (v b : Value) (bs : List UInt8) (B C : Nat) (w : World), t.parts ≤ N → VT.In w B t v → B ≤ C → C ≤ w.heap.size → Buf C w b bs → okN t → goodV t → bs.length + (keyB t).length ≤ 35184372088832 → szV t ≤ 4294967000 → MaxAt w → 0 < C →
  Calls Tryd.prog 30 #[b, v] w fun e w' => RkPost C w (bs ++ keyB t) e w'
/-- Where the loop over the parts stands, j of them written. -/
def PRel (l : List VT) (ks : List ByteArray) (m : Bool) (bs : List UInt8) (C : Nat) (w : World) (j : Nat) (v : Value) (wr : World) : Prop :=
  ∃ acc, Sk C w wr v acc ∧ acc ++ partsK (l.drop j) m (ks.drop j) = bs ++ partsK l m ks
set_option maxRecDepth 100000 in
set_option maxHeartbeats 4000000 in
theorem list_step (l : List VT) (N B C : Nat) (pl : Option Addr) (nl cl : Nat) (b0 : Value) (bs : List UInt8) (w : World) (IH : Hid (PutIH N)) (hT : Hid (∀ x, x ∈ l → x.parts ≤ N)) (HL : Hid (l.length = nl))
    (HM : Hid (0 < l.length → ∃ bl ol, pl = some ⟨bl, ol, none⟩ ∧ bl < B ∧ VT.InL w B bl ol l)) (hBC : B ≤ C) (hC : C ≤ w.heap.size) (hb : Buf C w b0 bs) (HN : Hid (okNL l)) (HG : Hid (goodL l)) (HLEN : Hid (bs.length + (partsK l false []).length + 1 ≤ 35184372088832)) (HZ : Hid (szL l ≤ 4294967000)) (HX : Hid (MaxAt w)) (hMC : 0 < C) (hnl : nl ≤ maxLen) :
    Calls Tryd.prog 55 #[b0, .slice pl nl cl] w fun e w' => RkPost C w (bs ++ (partsK l false [] ++ [0])) e w' := by
  obtain ⟨i0, hi0, hz0, hz1, hz2⟩ := info_parts infoB
  unfold maxLen at hnl
  have HW0 : Hid (PRel l [] false bs C w 0 b0 w) := Lib.hid ⟨bs, Sk.start hb, by simp⟩
  clear hb
  go_enter Tryd.func55, Tryd.ntmps55
  go_wp2
  go_loopw [0, 9] (fun v i wr => ∃ j : Nat, i = .int .i64 (j : Int) ∧ j ≤ nl ∧ Hid (PRel l [] false bs C w j v wr)) (fun _ i _ => nl - (intOf i).toNat)
  case atStart => exact ⟨0, rfl, Nat.zero_le _, HW0⟩
  case round =>
    rename_i u wr
    obtain ⟨j, rfl, hj, HR⟩ := hrel
    obtain ⟨acc, HS0, HA0⟩ := HR.out
    have HS := Lib.hid HS0
    have HA := Lib.hid HA0
    clear HS0 HA0
    by_cases hlt : j < nl
    · obtain ⟨x, hx⟩ : ∃ x, l[j]? = some x := ⟨l[j]'(by rw [HL.out]; exact hlt), List.getElem?_eq_getElem _⟩
      obtain ⟨bl, ol, hpl, hbl, hInL⟩ := HM.out (by rw [HL.out]; omega)
      obtain ⟨d0, d1, d2, d3, d4, d5, e0, e1, e2, e3, e4, e5, hInx⟩ := (VT.InL.keep (fun q hq => HS.out.low.cell (Nat.lt_of_lt_of_le hq hBC)) hbl hInL).at hx
      obtain ⟨xk, xb, xn, xs, xpl, xnl, xcl, xpk, xnk, xck, rfl, rfl, rfl, rfl, rfl, rfl⟩ := hInx.shape
      have hji : (j : Int) < nl := by omega
      have hxg := goodL_at HG.out hx
      have hsz := Val.szL_at hx
      have hZZ := HZ.out
      have hpa := parts_at l j x false [] hx
      have htot := HA.out
      simp only [List.drop_nil] at htot hpa
      rw [hpa] at htot
      simp only [Bool.false_eq_true, if_false, List.nil_append] at htot
      have hl := congrArg List.length htot
      rw [List.length_append, List.length_append, List.length_append] at hl
      have hLEN := HLEN.out
      have CALL : Hid (∀ o, Calls Tryd.prog 30 #[u0, .agg #[.int .i64 xk, .bool xb, .int .i64 xn, .string xs, .slice xpl xnl xcl, .slice xpk xnk xck]] (wr.alloc o) fun e V' => ∃ u', e = .returned u' ∧ Hid (PRel l [] false bs C w (j + 1) u' V')) := Lib.hid fun o => by
        have hS := HS.out.alloc hC o
        refine (IH.out x _ _ acc B C (wr.alloc o) (hT.out x (List.mem_of_getElem? hx)) (hInx.below ((Below.refl B wr).alloc (Nat.le_trans hBC (HS.out.hC hC)) o)) hBC (hS.hC hC) hS.buf (Val.okNL_at HN.out hx) hxg (by omega) (by omega) (MaxAt.low HX.out hS.low hMC) hMC).mono ?_
        rintro e V' ⟨u', rfl, h1⟩
        exact ⟨u', rfl, Lib.hid ⟨_, hS.trans h1, by rw [List.append_assoc, List.drop_nil]; exact htot⟩⟩
      clear hInx hInL hx hxg hsz hZZ hpa htot hl hLEN
      subst hpl
      go_wp2_with fail
      refine (CALL.out _).mono ?_
      rintro e V' ⟨u', rfl, HR'⟩
      go_wp2
      go_roundw
      case rel => exact ⟨j + 1, by go_num, by omega, HR'⟩
      case measure => simp [intOf]; omega
    · have hjn : j = nl := by omega
      have HJ := Lib.hid hjn
      have hji : ¬ (j : Int) < nl := by omega
      clear hjn
      have hA := HA.out
      rw [HJ.out, ← HL.out, List.drop_length, partsK, List.append_nil] at hA
      have hal : acc.length + 1 ≤ 35184372088832 := by rw [hA, List.length_append]; have := HLEN.out; omega
      have HA2 := Lib.hid hA
      clear hA
      go_wp2_with (at_builtin; refine Lib.wpList_append_own_string _ rfl (.tmp 17) _ 56 9 rfl C 5 i0 Tryd.underlying56 Tryd.underlying9 hi0 hz0 hz1 hz2 _ acc.length (Lib.byteCells acc) rfl HS.out.buf ⟨#[0]⟩ rfl (by unfold maxLen; show _ + 1 ≤ _; omega) (by show _ + 1 ≤ _; omega) (HS.out.hC hC) (fun v2 w5 ho hg hx => ?_); have S3 := Lib.hid (HS.out.text hC (s := ⟨#[0]⟩) ho hg); clear ho hg hx)
      go_ret
      have hq := S3.out.post
      rw [HA2.out, List.append_assoc] at hq
      exact hq
end Rk
end Go.Proofs.YtepfihanhdinfaaDoor
