/- Show: a value's text is written behind. -/
import Derived.Test.YtoaliaohbpdibaaDoorShBound
import Derived.Test.YtoaliaohbpdibaaDoorShRefName
import Derived.Test.YtoaliaohbpdibaaDoorShRefQuote
import Derived.Test.YtoaliaohbpdibaaDoorNumText
import Derived.Lib.AppendStr
namespace Go.Proofs.YtoaliaohbpdibaaDoor
open Go.RowKit
set_option linter.unusedVariables false
set_option linter.unusedSimpArgs false
namespace Sh
open Val (VT Keeps Box okN okNL szV szL szK)
theorem Digs.low {w w' : World} {C : Nat} (h : Num.Digs w) (hb : Below C w w') (hC : 0 < C) : Num.Digs w' := fun i hi => by
  rw [hb.cell (p := ⟨0, i, none⟩) hC]; exact h i hi
/-- What append of a text does to the own row. -/
theorem Buf.text {B : Nat} {w w1 : World} {v v' : Value} {bs : List UInt8} {s : ByteArray} (h : Buf B w v bs) (hB : B ≤ w.heap.size) (ho : w1.ownsRow B 5 1 v' (bs.length + s.size) (Lib.byteCells bs ++ Lib.strCells s)) (hg : w.grownBy w1 v.ownBlock) :
    Buf B w1 v' (bs ++ s.data.toList) ∧ Below B w w1 ∧ Lib.OthersKept 5 none w w1 ∧ ∀ n, OneK v n w w1 := by
  refine ⟨Buf.append ho (by rw [List.length_append, ba_len]) (by rw [Lib.byteCells_append]; rfl), (Below.refl B w).grown hg hB (fun k hk => (World.ownsRow.lt h k hk).1), (Lib.OthersKept.refl _ _ w).grown hg h.kind, fun n _ D x hD hne => ?_⟩
  have hlt : D < w.heap.size := (Array.getElem?_eq_some_iff.1 hD).1
  have h1 := hg.block D hlt (fun e => hne e.symm)
  unfold One at hD ⊢
  rw [h1]; exact hD
def boolB (b : Bool) : List UInt8 := if b then [116, 114, 117, 101] else [102, 97, 108, 115, 101]
set_option maxRecDepth 100000 in
theorem appendBool_in (B : Nat) (v : Value) (bs : List UInt8) (b : Bool) (w : World) (h : Buf B w v bs) (hlen : bs.length + 8 ≤ 140737488355328) (hB : B ≤ w.heap.size) :
    Calls Tryd.prog 53 #[v, .bool b] w fun e w' => RowPost B w v bs.length (bs ++ boolB b) e w' := by
  obtain ⟨i0, hi0, hz0, hz1, hz2⟩ := info_parts infoB
  have H := Lib.hid h
  clear h
  cases b
  · go_enter Tryd.func53, Tryd.ntmps53
    go_wp2_with (at_builtin; refine Lib.wpList_append_own_string _ rfl _ _ 36 9 rfl B 5 i0 Tryd.underlying36 Tryd.underlying9 hi0 hz0 hz1 hz2 v bs.length (Lib.byteCells bs) rfl H.out ⟨#[102, 97, 108, 115, 101]⟩ rfl (by unfold maxLen; show bs.length + 5 ≤ _; omega) (by show bs.length + 5 ≤ _; omega) hB (fun v' w1 ho hg hx => ?_))
    have T := Lib.hid (H.out.text hB ho hg)
    clear ho hg hx
    go_wp2
    go_ret
    exact ⟨_, rfl, T.out.1, T.out.2.1, T.out.2.2.1, T.out.2.2.2 _⟩
  · go_enter Tryd.func53, Tryd.ntmps53
    go_wp2_with (at_builtin; refine Lib.wpList_append_own_string _ rfl _ _ 36 9 rfl B 5 i0 Tryd.underlying36 Tryd.underlying9 hi0 hz0 hz1 hz2 v bs.length (Lib.byteCells bs) rfl H.out ⟨#[116, 114, 117, 101]⟩ rfl (by unfold maxLen; show bs.length + 4 ≤ _; omega) (by show bs.length + 4 ≤ _; omega) hB (fun v' w1 ho hg hx => ?_))
    have T := Lib.hid (H.out.text hB ho hg)
    clear ho hg hx
    go_wp2
    go_ret
    exact ⟨_, rfl, T.out.1, T.out.2.1, T.out.2.2.1, T.out.2.2.2 _⟩
theorem appendBool_any (B : Nat) (v : Value) (bs : List UInt8) (b : Bool) (w : World) (h : Buf B w v bs) (hlen : bs.length + 8 ≤ 140737488355328) (hB : B ≤ w.heap.size) :
    Calls Tryd.prog 46 #[v, .bool b] w fun e w' => RowPost B w v bs.length (bs ++ boolB b) e w' := by
  have HC := Lib.hid (appendBool_in B v bs b w h hlen hB)
  clear h
  go_enter Tryd.func46, Tryd.ntmps46
  go_wp2_with (go_at_call 53; refine HC.out.mono ?_; rintro e w1 ⟨v', rfl, h1, h2, h3, h4⟩)
  go_ret
  exact ⟨_, rfl, h1, h2, h3, h4⟩
/-- What the call of itself is to do. -/
def PutIH (N : Nat) : Prop := ∀ (t : VT) (v b : Value) (bs : List UInt8) (B C : Nat) (w : World), t.parts ≤ N → VT.In w B t v → B ≤ C → C ≤ w.heap.size → Buf C w b bs → okN t → goodV t → bs.length + (showB t).length ≤ 70368744177664 → szV t ≤ 1099511627776 → Num.Digs w → 0 < C →
  Calls Tryd.prog 34 #[b, v] w fun e w' => RowPost C w b bs.length (bs ++ showB t) e w'
/-- Where a round stands: the own row, what lay, the box of the value, the copy of the part. -/
structure St (C : Nat) (w : World) (cs : Array Value) (b0 : Value) (n : Nat) (V : World) (u : Value) (acc : List UInt8) : Prop where
  buf : Buf C V u acc
  low : Below C w V
  box : Box V w.heap.size cs
  kept : Lib.OthersKept 5 none w V
  one : OneK b0 n w V
  big : 1 ≤ n → 1 ≤ acc.length ∧ (u = b0 ∨ 2 ≤ acc.length)
theorem box_kept {w w' : World} {A : Nat} {cs : Array Value} (h : Box w A cs) (hk : Lib.OthersKept 5 none w w') : Box w' A cs :=
  hk A _ h (by simp) (fun c fz e => by injection e with _ e2 _; revert e2; decide)
section
variable {C : Nat} {w : World} {cs : Array Value} {b0 : Value} {n : Nat} {V V' : World} {u u' : Value} {acc : List UInt8}
theorem St.ne (h : St C w cs b0 n V u acc) (hn : 1 ≤ n) {D : Nat} {x : Value} (hD : One w D x) (h0 : b0.ownBlock ≠ some D) : u.ownBlock ≠ some D := by
  rcases (h.big hn).2 with rfl | h2
  · exact h0
  · exact h.buf.ne_one h2 (h.one hn D x hD h0)
theorem St.hC (h : St C w cs b0 n V u acc) (hC : C ≤ w.heap.size) : C ≤ V.heap.size := Nat.le_trans hC h.low.size
theorem St.text (h : St C w cs b0 n V u acc) (hC : C ≤ w.heap.size) {s : ByteArray} (hs : 1 ≤ s.size) (ho : V'.ownsRow C 5 1 u' (acc.length + s.size) (Lib.byteCells acc ++ Lib.strCells s)) (hg : V.grownBy V' u.ownBlock) : St C w cs b0 n V' u' (acc ++ s.data.toList) := by
  obtain ⟨t1, t2, t3, t4⟩ := h.buf.text (h.hC hC) ho hg
  exact ⟨t1, h.low.trans t2, box_kept h.box t3, h.kept.trans t3, fun hn D x hD h0 => t4 1 (Nat.le_refl _) D x (h.one hn D x hD h0) (h.ne hn hD h0), fun hn => by
    have := h.big hn
    rw [List.length_append, ba_len]
    exact ⟨by omega, .inr (by omega)⟩⟩
theorem St.far (h : St C w cs b0 n V u acc) (hC : C ≤ w.heap.size) (hb : Below V.heap.size V V') : St C w cs b0 n V' u acc := by
  have hk : Lib.OthersKept 5 none V V' := fun k o hk _ _ => (hb.block k (Array.getElem?_eq_some_iff.1 hk).1).trans hk
  refine ⟨?_, h.low.trans (hb.mono (h.hC hC)), box_kept h.box hk, h.kept.trans hk, fun hn D x hD h0 => (hb.block D (Array.getElem?_eq_some_iff.1 (h.one hn D x hD h0)).1).trans (h.one hn D x hD h0), h.big⟩
  refine ⟨h.buf.1, ?_⟩
  rcases h.buf.2 with hn | ⟨g, cap, cur, hv, hg0, hg, rest⟩
  · exact .inl hn
  · exact .inr ⟨g, cap, cur, hv, hg0, (hb.block g (Array.getElem?_eq_some_iff.1 hg).1).trans hg, rest⟩
theorem St.row (h : St C w cs b0 n V u acc) {new : List UInt8} (hnew : 1 ≤ new.length) (h1 : Buf C V' u' (acc ++ new)) (h2 : Below C V V') (h3 : Lib.OthersKept 5 none V V') (h4 : OneK u acc.length V V') : St C w cs b0 n V' u' (acc ++ new) :=
  ⟨h1, h.low.trans h2, box_kept h.box h3, h.kept.trans h3, fun hn D x hD h0 => h4 (h.big hn).1 D x (h.one hn D x hD h0) (h.ne hn hD h0), fun hn => by
    have := h.big hn
    rw [List.length_append]
    exact ⟨by omega, .inr (by omega)⟩⟩
theorem St.alloc (h : St C w cs b0 n V u acc) (hC : C ≤ w.heap.size) (o : Obj) : St C w cs b0 n (V.alloc o) u acc := h.far hC ((Below.refl _ _).alloc (Nat.le_refl _) _)
end
theorem digs_pos (k : Nat) : 1 ≤ (Num.digs k).length := by
  by_cases h : k < 10
  · rw [Num.digs_lt h]; simp
  · rw [Num.digs_ge (by omega)]; simp
theorem textU_pos (n : Int) : 1 ≤ (Num.textU n).length := by
  have := digs_pos (Num.absN n)
  unfold Num.textU Num.textN
  rw [List.length_map]
  split
  · simp
  · exact this
theorem showB_pos (t : VT) (h : goodV t) : 1 ≤ (showB t).length := by
  obtain ⟨k, b, n, s, l, ks⟩ := t
  unfold goodV at h
  have ht := textU_pos n
  unfold showB
  repeat' split
  all_goals first | (simp only [quoteL, List.length_cons]; omega) | exact ht | (simp; done) | (exfalso; omega)
/-- Where the loop over the parts stands, j of them written. -/
def PRel (l : List VT) (ks : List ByteArray) (m : Bool) (bs : List UInt8) (C : Nat) (w : World) (cs : Array Value) (b0 : Value) (j : Nat) (v : Value) (wr : World) : Prop :=
  ∃ acc, St C w cs b0 bs.length wr v acc ∧ acc ++ partsB (l.drop j) m (decide (j = 0)) (ks.drop j) = bs ++ partsB l m true ks
set_option maxRecDepth 100000 in
set_option maxHeartbeats 8000000 in
theorem parts_step (k : Int) (bb : Bool) (n : Int) (s : ByteArray) (l : List VT) (ks : List ByteArray) (N B C : Nat) (pl pk : Option Addr) (nl cl nk ck : Nat) (b0 : Value) (bs : List UInt8) (w : World) (IH : Hid (PutIH N)) (hT : Hid (∀ x, x ∈ l → x.parts ≤ N)) (HL : Hid (l.length = nl)) (HKL : Hid (ks.length = nk))
    (HM : Hid (0 < l.length → ∃ bl ol, pl = some ⟨bl, ol, none⟩ ∧ bl < B ∧ VT.InL w B bl ol l)) (HK : Hid (VT.KeysIn w B pk ks)) (hBC : B ≤ C) (hC : C ≤ w.heap.size) (hb : Buf C w b0 bs) (HN : Hid (okNL l)) (HG : Hid (goodL l)) (hk5 : (k == 5) = true → nl ≤ nk) (hlen : bs.length + (partsB l (k == 5) true ks).length ≤ 70368744177664) (HZ : Hid (szL l + szK ks ≤ 1099511627776)) (hD : Num.Digs w) (hDC : 0 < C) (hnl : nl ≤ maxLen) (hnk : nk ≤ maxLen) :
    Calls Tryd.prog 48 #[b0, .agg #[.int .i64 k, .bool bb, .int .i64 n, .string s, .slice pl nl cl, .slice pk nk ck]] w fun e w' => RowPost C w b0 bs.length (bs ++ partsB l (k == 5) true ks) e w' := by
  obtain ⟨i0, hi0, hz0, hz1, hz2⟩ := info_parts infoB
  unfold maxLen at hnl hnk
  have HD := Lib.hid hD
  have HW0 : Hid (PRel l ks (k == 5) bs C w #[.int .i64 k, .bool bb, .int .i64 n, .string s, .slice pl nl cl, .slice pk nk ck] b0 0 b0 (w.alloc (.cells #[.int .i64 k, .bool bb, .int .i64 n, .string s, .slice pl nl cl, .slice pk nk ck] 31))) := Lib.hid ⟨bs, ⟨(World.ownsRow.alloc hb _), (Below.refl _ _).alloc hC _, Box.new w _, (Lib.OthersKept.refl _ _ w).alloc _, fun _ D x hD _ => one_alloc hD _, fun h => ⟨h, .inl rfl⟩⟩, rfl⟩
  have HLEN := Lib.hid hlen
  clear hb hD hlen
  obtain ⟨M, hM⟩ : ∃ M, (k == 5) = M := ⟨_, rfl⟩
  rw [hM] at HW0 HLEN ⊢
  have hk5' : M = true → k = 5 ∧ nl ≤ nk := fun h => ⟨by rw [h] at hM; simpa using hM, hk5 (by rw [hM, h])⟩
  have hM2 := hM
  cases M
  · clear hk5
    have HM5 := Lib.hid hk5'
    clear hk5' hM
    have hkf : (k == 5) = false := hM2
    clear hM2
    go_enter Tryd.func48, Tryd.ntmps48
    go_wp2
    go_loopw [0, 10] (fun v i wr => ∃ j : Nat, i = .int .i64 (j : Int) ∧ j ≤ nl ∧ Hid (PRel l ks false bs C w #[.int .i64 k, .bool bb, .int .i64 n, .string s, .slice pl nl cl, .slice pk nk ck] b0 j v wr)) (fun _ i _ => nl - (intOf i).toNat)
    case atStart => exact ⟨0, rfl, Nat.zero_le _, HW0⟩
    case round =>
      rename_i wr
      obtain ⟨j, rfl, hj, HR⟩ := hrel
      obtain ⟨acc, HS0, HA0⟩ := HR.out
      have HS := Lib.hid HS0
      have HA := Lib.hid HA0
      clear HS0 HA0
      obtain ⟨c0, c1, c2, c3, c4, c5⟩ := HS.out.box.cell
      by_cases hlt : j < nl
      · obtain ⟨x, hx⟩ : ∃ x, l[j]? = some x := ⟨l[j]'(by rw [HL.out]; exact hlt), List.getElem?_eq_getElem _⟩
        obtain ⟨bl, ol, hpl, hbl, hInL⟩ := HM.out (by rw [HL.out]; omega)
        obtain ⟨d0, d1, d2, d3, d4, d5, e0, e1, e2, e3, e4, e5, hInx⟩ := (VT.InL.keep (fun q hq => HS.out.low.cell (Nat.lt_of_lt_of_le hq hBC)) hbl hInL).at hx
        obtain ⟨xk, xb, xn, xs, xpl, xnl, xcl, xpk, xnk, xck, rfl, rfl, rfl, rfl, rfl, rfl⟩ := hInx.shape
        have HX := Lib.hid hInx
        have hji : (j : Int) < nl := by omega
        have hwlt : w.heap.size < wr.heap.size := HS.out.box.lt
        have hwne : ¬ w.heap.size = wr.heap.size := by omega
        have hxg := goodL_at HG.out hx
        have hpos := showB_pos x hxg
        have hsz := Val.szL_at hx
        have hZZ := HZ.out
        have hpa := parts_at l j x false ks hx
        have htot := HA.out
        rw [hpa] at htot
        have HP1 : Hid (x.parts ≤ N ∧ okN x ∧ goodV x ∧ szV x ≤ 1099511627776 ∧ 1 ≤ (showB x).length) := Lib.hid ⟨hT.out x (List.mem_of_getElem? hx), Val.okNL_at HN.out hx, hxg, by omega, hpos⟩
        have HT := Lib.hid htot
        clear hInx hInL hx hxg hpos hsz hZZ hpa htot
        -- the call of put, in whatever world of the round
        have call : ∀ (V : World) (u : Value) (a : List UInt8), St C w #[.int .i64 k, .bool bb, .int .i64 n, .string s, .slice pl nl cl, .slice pk nk ck] b0 bs.length V u a → a ++ (showB x ++ partsB (l.drop (j + 1)) false (decide (j + 1 = 0)) (ks.drop (j + 1))) = bs ++ partsB l false true ks → Hid (Calls Tryd.prog 34 #[u, .agg #[.int .i64 xk, .bool xb, .int .i64 xn, .string xs, .slice xpl xnl xcl, .slice xpk xnk xck]] V fun e V' => ∃ u', e = .returned u' ∧ Hid (PRel l ks false bs C w #[.int .i64 k, .bool bb, .int .i64 n, .string s, .slice pl nl cl, .slice pk nk ck] b0 (j + 1) u' V')) := fun V u a hS hT => by
          have hl := congrArg List.length hT
          rw [List.length_append, List.length_append, List.length_append] at hl
          have hLEN := HLEN.out
          refine Lib.hid ((IH.out x _ u a B C V HP1.out.1 (HX.out.keep fun q hq => (hS.low.cell (Nat.lt_of_lt_of_le hq hBC)).trans (HS.out.low.cell (Nat.lt_of_lt_of_le hq hBC)).symm) hBC (hS.hC hC) hS.buf HP1.out.2.1 HP1.out.2.2.1 (by omega) HP1.out.2.2.2.1 (Digs.low HD.out hS.low hDC) hDC).mono ?_)
          rintro e V' ⟨u', rfl, h1, h2, h3, h4⟩
          exact ⟨u', rfl, Lib.hid ⟨_, hS.row HP1.out.2.2.2.2 h1 h2 h3 h4, by rw [List.append_assoc]; exact hT⟩⟩
        have CALL := Lib.hid call
        clear call
        subst hpl
        by_cases hj0 : j = 0
        · have hj0i : decide (0 < (j : Int)) = false := decide_eq_false (by omega)
          have hj0j : decide (0 < j) = false := decide_eq_false (by omega)
          have HT0 := HT.out
          rw [if_pos hj0, List.nil_append] at HT0
          have HT1 := Lib.hid HT0
          clear HT0 hj0
          have S0 := Lib.hid (HS.out.alloc hC (.cells #[.int .i64 xk, .bool xb, .int .i64 xn, .string xs, .slice xpl xnl xcl, .slice xpk xnk xck] 31))
          go_wp2_with fail
          refine (CALL.out _ _ acc S0.out (by have := HT1.out; simpa [List.append_assoc] using this)).out.mono ?_
          rintro e V' ⟨u', rfl, HR'⟩
          go_wp2
          go_roundw
          case rel => exact ⟨j + 1, by go_num, by omega, HR'⟩
          case measure => simp [intOf]; omega
        · have hj0i : 0 < (j : Int) := by omega
          have HT0 := HT.out
          rw [if_neg hj0] at HT0
          have HT1 := Lib.hid HT0
          clear HT0
          have hal : acc.length + 2 ≤ 70368744177664 := by
            have hl := congrArg List.length HT1.out
            simp only [List.length_append, List.length_cons, List.length_nil] at hl
            have := HLEN.out
            omega
          go_wp2_with (at_builtin; refine Lib.wpList_append_own_string _ rfl (.tmp 17) _ 36 9 rfl C 5 i0 Tryd.underlying36 Tryd.underlying9 hi0 hz0 hz1 hz2 _ acc.length (Lib.byteCells acc) rfl (World.ownsRow.alloc HS.out.buf _) ⟨#[44, 32]⟩ rfl (by unfold maxLen; show acc.length + 2 ≤ _; omega) (by show acc.length + 2 ≤ _; omega) (by simp; have := HS.out.hC hC; omega) (fun u2 w2 ho hg hx => ?_); have S2 : Hid (St C w _ b0 bs.length w2 u2 (acc ++ [44, 32])) := Lib.hid ((HS.out.alloc hC _).text hC (s := ⟨#[44, 32]⟩) (by decide) ho hg); have P2 := Lib.hid (box_kept (Box.new wr _) ((Lib.OthersKept.refl _ _ _).grown hg (Buf.kind (World.ownsRow.alloc HS.out.buf _)))); clear ho hg hx; obtain ⟨c0, c1, c2, c3, c4, c5⟩ := S2.out.box.cell; obtain ⟨p0, p1, p2, p3, p4, p5⟩ := P2.out.cell)
          refine (CALL.out _ _ (acc ++ [44, 32]) S2.out (by have := HT1.out; simpa [List.append_assoc] using this)).out.mono ?_
          rintro e V' ⟨u', rfl, HR'⟩
          go_wp2
          go_roundw
          case rel => exact ⟨j + 1, by go_num, by omega, HR'⟩
          case measure => simp [intOf]; omega
      · have hjn : j = nl := by omega
        have HJ := Lib.hid hjn
        have hji : ¬ (j : Int) < nl := by omega
        clear hjn c0 c1 c2 c3 c4 c5
        go_wp2
        go_ret
        have hA := HA.out
        rw [HJ.out, ← HL.out, List.drop_length, partsB, List.append_nil] at hA
        rw [hA] at HS
        refine ⟨_, rfl, HS.out.buf, HS.out.low, HS.out.kept, HS.out.one⟩
  · clear hk5
    have HM5 := Lib.hid hk5'
    clear hk5' hM
    obtain rfl : k = 5 := (HM5.out rfl).1
    have HNK := Lib.hid (HM5.out rfl).2
    clear hM2
    go_enter Tryd.func48, Tryd.ntmps48
    go_wp2
    go_loopw [0, 10] (fun v i wr => ∃ j : Nat, i = .int .i64 (j : Int) ∧ j ≤ nl ∧ Hid (PRel l ks true bs C w #[.int .i64 5, .bool bb, .int .i64 n, .string s, .slice pl nl cl, .slice pk nk ck] b0 j v wr)) (fun _ i _ => nl - (intOf i).toNat)
    case atStart => exact ⟨0, rfl, Nat.zero_le _, HW0⟩
    case round =>
      rename_i wr
      obtain ⟨j, rfl, hj, HR⟩ := hrel
      obtain ⟨acc, HS0, HA0⟩ := HR.out
      have HS := Lib.hid HS0
      have HA := Lib.hid HA0
      clear HS0 HA0
      obtain ⟨c0, c1, c2, c3, c4, c5⟩ := HS.out.box.cell
      by_cases hlt : j < nl
      · obtain ⟨x, hx⟩ : ∃ x, l[j]? = some x := ⟨l[j]'(by rw [HL.out]; exact hlt), List.getElem?_eq_getElem _⟩
        obtain ⟨bl, ol, hpl, hbl, hInL⟩ := HM.out (by rw [HL.out]; omega)
        obtain ⟨d0, d1, d2, d3, d4, d5, e0, e1, e2, e3, e4, e5, hInx⟩ := (VT.InL.keep (fun q hq => HS.out.low.cell (Nat.lt_of_lt_of_le hq hBC)) hbl hInL).at hx
        obtain ⟨xk, xb, xn, xs, xpl, xnl, xcl, xpk, xnk, xck, rfl, rfl, rfl, rfl, rfl, rfl⟩ := hInx.shape
        have HX := Lib.hid hInx
        have hji : (j : Int) < nl := by omega
        have hwlt : w.heap.size < wr.heap.size := HS.out.box.lt
        have hwne : ¬ w.heap.size = wr.heap.size := by omega
        have hxg := goodL_at HG.out hx
        have hpos := showB_pos x hxg
        have hsz := Val.szL_at hx
        have hZZ := HZ.out
        have hpa := parts_at l j x true ks hx
        have htot := HA.out
        rw [hpa] at htot
        have HP1 : Hid (x.parts ≤ N ∧ okN x ∧ goodV x ∧ szV x ≤ 1099511627776 ∧ 1 ≤ (showB x).length) := Lib.hid ⟨hT.out x (List.mem_of_getElem? hx), Val.okNL_at HN.out hx, hxg, by omega, hpos⟩
        have HT := Lib.hid htot
        clear hInx hInL hx hxg hpos hsz hZZ hpa htot
        -- the call of put, in whatever world of the round
        have call : ∀ (V : World) (u : Value) (a : List UInt8), St C w #[.int .i64 5, .bool bb, .int .i64 n, .string s, .slice pl nl cl, .slice pk nk ck] b0 bs.length V u a → a ++ (showB x ++ partsB (l.drop (j + 1)) true (decide (j + 1 = 0)) (ks.drop (j + 1))) = bs ++ partsB l true true ks → Hid (Calls Tryd.prog 34 #[u, .agg #[.int .i64 xk, .bool xb, .int .i64 xn, .string xs, .slice xpl xnl xcl, .slice xpk xnk xck]] V fun e V' => ∃ u', e = .returned u' ∧ Hid (PRel l ks true bs C w #[.int .i64 5, .bool bb, .int .i64 n, .string s, .slice pl nl cl, .slice pk nk ck] b0 (j + 1) u' V')) := fun V u a hS hT => by
          have hl := congrArg List.length hT
          rw [List.length_append, List.length_append, List.length_append] at hl
          have hLEN := HLEN.out
          refine Lib.hid ((IH.out x _ u a B C V HP1.out.1 (HX.out.keep fun q hq => (hS.low.cell (Nat.lt_of_lt_of_le hq hBC)).trans (HS.out.low.cell (Nat.lt_of_lt_of_le hq hBC)).symm) hBC (hS.hC hC) hS.buf HP1.out.2.1 HP1.out.2.2.1 (by omega) HP1.out.2.2.2.1 (Digs.low HD.out hS.low hDC) hDC).mono ?_)
          rintro e V' ⟨u', rfl, h1, h2, h3, h4⟩
          exact ⟨u', rfl, Lib.hid ⟨_, hS.row HP1.out.2.2.2.2 h1 h2 h3 h4, by rw [List.append_assoc]; exact hT⟩⟩
        have CALL := Lib.hid call
        clear call
        subst hpl
        by_cases hj0 : j = 0
        · have hj0i : decide (0 < (j : Int)) = false := decide_eq_false (by omega)
          have hj0j : decide (0 < j) = false := decide_eq_false (by omega)
          have HT0 := HT.out
          rw [if_pos hj0, List.nil_append] at HT0
          have HT1 := Lib.hid HT0
          clear HT0 hj0
          have S0 := Lib.hid (HS.out.alloc hC (.cells #[.int .i64 xk, .bool xb, .int .i64 xn, .string xs, .slice xpl xnl xcl, .slice xpk xnk xck] 31))
          have hjk : j < ks.length := by rw [HKL.out]; have := HNK.out; omega
          obtain ⟨kb, ko, hpk, hkb, hkc⟩ := HK.out (by omega)
          have HKC := Lib.hid (fun (V : World) (hV : Below C w V) => (hV.cell (p := ⟨kb, ko + j, none⟩) (Nat.lt_of_lt_of_le hkb hBC)).trans (hkc j hjk))
          obtain ⟨key, hkey⟩ : ∃ key, ks.getD j default = key := ⟨_, rfl⟩
          rw [hkey] at HKC HT1
          have hks : 4 * key.size + 8 ≤ szK ks := by rw [← hkey]; exact Val.szK_at (by rw [List.getD_eq_getElem?_getD, List.getElem?_eq_getElem hjk]; rfl)
          have hkz : key.size ≤ 1099511627776 := by have := HZ.out; omega
          have hjki : (j : Int) < nk := by have := HKL.out; omega
          have KEY := Lib.hid (fun V => key_any key V (by omega))
          obtain ⟨kt, hkt⟩ : ∃ q : ByteArray, (⟨(keyL key.data.toList).toArray⟩ : ByteArray) = q := ⟨_, rfl⟩
          have hktd : keyL key.data.toList = kt.data.toList := by rw [← hkt]
          rw [hkt] at KEY
          rw [hktd] at HT1
          have hkl : acc.length + kt.size + 2 ≤ 70368744177664 := by
            have hl := congrArg List.length HT1.out
            simp only [List.length_append, List.length_cons, List.length_nil, if_true] at hl
            have := HLEN.out
            rw [← ba_len]
            omega
          have hkt2 : (kt.size : Int) ≤ 70368744177664 := by omega
          have HKL2 := Lib.hid hkl
          clear hkt hktd hkey hks hkz hkl
          subst hpk
          have hkcell := HKC.out _ HS.out.low
          have hkb1 : kb < wr.heap.size := Nat.lt_of_lt_of_le hkb (Nat.le_trans hBC (HS.out.hC hC))
          have hkb2 : ¬ kb = wr.heap.size := by omega
          go_wp2_with fail
          refine (KEY.out _).mono ?_
          rintro e w3 ⟨rfl, hb3⟩
          have S3 := Lib.hid (S0.out.far hC hb3)
          have P3 : Hid (Box w3 wr.heap.size #[.int .i64 xk, .bool xb, .int .i64 xn, .string xs, .slice xpl xnl xcl, .slice xpk xnk xck]) := Lib.hid ((hb3.block _ (Box.new wr _).lt).trans (Box.new wr _))
          clear hb3 hkcell
          have hs2 : 1 ≤ (kt ++ ByteArray.mk #[58, 32]).size := by rw [← ba_len, ba_append, List.length_append]; simp
          have hs3 : (kt ++ ByteArray.mk #[58, 32]).size = kt.size + 2 := by rw [← ba_len, ba_append, List.length_append, ba_len]; rfl
          have HS2 := Lib.hid hs2
          have HS3 := Lib.hid hs3
          clear hs2 hs3
          go_wp2_with (at_builtin; refine Lib.wpList_append_own_string _ rfl (.tmp 22) (.tmp 29) 36 9 rfl C 5 i0 Tryd.underlying36 Tryd.underlying9 hi0 hz0 hz1 hz2 _ (List.length (α := UInt8) acc) (Lib.byteCells acc) rfl S3.out.buf (kt ++ ByteArray.mk #[58, 32]) rfl (by unfold maxLen; rw [HS3.out]; have := HKL2.out; omega) (by rw [HS3.out]; have := HKL2.out; omega) (S3.out.hC hC) (fun u4 w4 ho hg hx => ?_); have S4 := Lib.hid (S3.out.text hC HS2.out ho hg); have P4 := Lib.hid (box_kept P3.out ((Lib.OthersKept.refl _ _ _).grown hg (Buf.kind S3.out.buf))); clear ho hg hx; obtain ⟨p0, p1, p2, p3, p4, p5⟩ := P4.out.cell)
          refine (CALL.out _ _ (acc ++ (kt ++ ByteArray.mk #[58, 32]).data.toList) S4.out (by have := HT1.out; rw [ba_append]; simpa [List.append_assoc] using this)).out.mono ?_
          rintro e V' ⟨u', rfl, HR'⟩
          go_wp2
          go_roundw
          case rel => exact ⟨j + 1, by go_num, by omega, HR'⟩
          case measure => simp [intOf]; omega
        · have hj0i : 0 < (j : Int) := by omega
          have HT0 := HT.out
          rw [if_neg hj0] at HT0
          have HT1 := Lib.hid HT0
          clear HT0
          have hal : acc.length + 2 ≤ 70368744177664 := by
            have hl := congrArg List.length HT1.out
            simp only [List.length_append, List.length_cons, List.length_nil] at hl
            have := HLEN.out
            omega
          have hjk : j < ks.length := by rw [HKL.out]; have := HNK.out; omega
          obtain ⟨kb, ko, hpk, hkb, hkc⟩ := HK.out (by omega)
          have HKC := Lib.hid (fun (V : World) (hV : Below C w V) => (hV.cell (p := ⟨kb, ko + j, none⟩) (Nat.lt_of_lt_of_le hkb hBC)).trans (hkc j hjk))
          obtain ⟨key, hkey⟩ : ∃ key, ks.getD j default = key := ⟨_, rfl⟩
          rw [hkey] at HKC HT1
          have hks : 4 * key.size + 8 ≤ szK ks := by rw [← hkey]; exact Val.szK_at (by rw [List.getD_eq_getElem?_getD, List.getElem?_eq_getElem hjk]; rfl)
          have hkz : key.size ≤ 1099511627776 := by have := HZ.out; omega
          have hjki : (j : Int) < nk := by have := HKL.out; omega
          have KEY := Lib.hid (fun V => key_any key V (by omega))
          obtain ⟨kt, hkt⟩ : ∃ q : ByteArray, (⟨(keyL key.data.toList).toArray⟩ : ByteArray) = q := ⟨_, rfl⟩
          have hktd : keyL key.data.toList = kt.data.toList := by rw [← hkt]
          rw [hkt] at KEY
          rw [hktd] at HT1
          have hkl : (acc ++ [44, 32]).length + kt.size + 2 ≤ 70368744177664 := by
            have hl := congrArg List.length HT1.out
            simp only [List.length_append, List.length_cons, List.length_nil, if_true] at hl
            have := HLEN.out
            rw [← ba_len]
            simp only [List.length_append, List.length_cons, List.length_nil]
            omega
          have hkt2 : (kt.size : Int) ≤ 70368744177664 := by omega
          have HKL2 := Lib.hid hkl
          clear hkt hktd hkey hks hkz hkl
          subst hpk
          go_wp2_with ((at_builtin; refine Lib.wpList_append_own_string _ rfl (.tmp 17) _ 36 9 rfl C 5 i0 Tryd.underlying36 Tryd.underlying9 hi0 hz0 hz1 hz2 _ acc.length (Lib.byteCells acc) rfl (World.ownsRow.alloc HS.out.buf _) ⟨#[44, 32]⟩ rfl (by unfold maxLen; show acc.length + 2 ≤ _; omega) (by show acc.length + 2 ≤ _; omega) (by simp; have := HS.out.hC hC; omega) (fun u2 w2 ho hg hx => ?_); have S2 : Hid (St C w _ b0 bs.length w2 u2 (acc ++ [44, 32])) := Lib.hid ((HS.out.alloc hC _).text hC (s := ⟨#[44, 32]⟩) (by decide) ho hg); have P2 := Lib.hid (box_kept (Box.new wr _) ((Lib.OthersKept.refl _ _ _).grown hg (Buf.kind (World.ownsRow.alloc HS.out.buf _)))); clear ho hg hx; obtain ⟨c0, c1, c2, c3, c4, c5⟩ := S2.out.box.cell; obtain ⟨p0, p1, p2, p3, p4, p5⟩ := P2.out.cell; have hkcell := HKC.out w2 S2.out.low))
          refine (KEY.out _).mono ?_
          rintro e w3 ⟨rfl, hb3⟩
          have S3 := Lib.hid (S2.out.far hC hb3)
          have P3 := Lib.hid ((hb3.block _ P2.out.lt).trans P2.out)
          clear hb3 hkcell
          have hs2 : 1 ≤ (kt ++ ByteArray.mk #[58, 32]).size := by rw [← ba_len, ba_append, List.length_append]; simp
          have hs3 : (kt ++ ByteArray.mk #[58, 32]).size = kt.size + 2 := by rw [← ba_len, ba_append, List.length_append, ba_len]; rfl
          have HS2 := Lib.hid hs2
          have HS3 := Lib.hid hs3
          clear hs2 hs3
          go_wp2_with (at_builtin; refine Lib.wpList_append_own_string _ rfl (.tmp 22) (.tmp 29) 36 9 rfl C 5 i0 Tryd.underlying36 Tryd.underlying9 hi0 hz0 hz1 hz2 _ (List.length (α := UInt8) (acc ++ [44, 32])) (Lib.byteCells (acc ++ [44, 32])) rfl S3.out.buf (kt ++ ByteArray.mk #[58, 32]) rfl (by unfold maxLen; rw [HS3.out]; have := HKL2.out; omega) (by rw [HS3.out]; have := HKL2.out; omega) (S3.out.hC hC) (fun u4 w4 ho hg hx => ?_); have S4 := Lib.hid (S3.out.text hC HS2.out ho hg); have P4 := Lib.hid (box_kept P3.out ((Lib.OthersKept.refl _ _ _).grown hg (Buf.kind S3.out.buf))); clear ho hg hx; obtain ⟨p0, p1, p2, p3, p4, p5⟩ := P4.out.cell)
          refine (CALL.out _ _ ((acc ++ [44, 32]) ++ (kt ++ ByteArray.mk #[58, 32]).data.toList) S4.out (by have := HT1.out; rw [ba_append]; simpa [List.append_assoc] using this)).out.mono ?_
          rintro e V' ⟨u', rfl, HR'⟩
          go_wp2
          go_roundw
          case rel => exact ⟨j + 1, by go_num, by omega, HR'⟩
          case measure => simp [intOf]; omega
      · have hjn : j = nl := by omega
        have HJ := Lib.hid hjn
        have hji : ¬ (j : Int) < nl := by omega
        clear hjn c0 c1 c2 c3 c4 c5
        go_wp2
        go_ret
        have hA := HA.out
        rw [HJ.out, ← HL.out, List.drop_length, partsB, List.append_nil] at hA
        rw [hA] at HS
        refine ⟨_, rfl, HS.out.buf, HS.out.low, HS.out.kept, HS.out.one⟩
end Sh
end Go.Proofs.YtoaliaohbpdibaaDoor
