/- The law FrameEnds: its walk. -/
import Derived.Test.YtbejacmbbkdbnaaFrCat
namespace Go.Proofs.Ytbejacmbbkdbnaa
open Go.RowKit
set_option linter.unusedVariables false
set_option linter.unusedSimpArgs false
namespace Fr
/-- The frames of the first i loads stand in the row. -/
structure EndInv (w : World) (LS : List Ar) (V : World) (q : Option Addr) (m c n i : Nat) : Prop where
  low : Below w.heap.size w V
  row : Buf w.heap.size V (.slice q m c) (catB (goods (firstB LS i)))
  len : m = (catB (goods (firstB LS i))).length
  num : n = (goods (firstB LS i)).length
theorem EndInv.start (w : World) (LS : List Ar) : EndInv w LS w none 0 0 0 0 := ⟨Below.refl _ _, Buf.nil _ _, rfl, rfl⟩
theorem EndInv.skip {w : World} {LS : List Ar} {V V' : World} {q : Option Addr} {m c n i : Nat} (h : EndInv w LS V q m c n i) {e : Ar} (he : LS[i]? = some e) (hb : Below V.heap.size V V') (ho : okL e.2.2 = false) : EndInv w LS V' q m c n (i + 1) := by
  have e1 : goods (firstB LS (i + 1)) = goods (firstB LS i) := by rw [firstB_succ LS i e he, goods_snoc, ho]; simp
  refine ⟨h.low.trans (hb.mono h.low.size), ?_, by rw [e1]; exact h.len, by rw [e1]; exact h.num⟩
  rw [e1]
  exact h.row.keeps (Keeps.of_below (X := fun _ => False) hb) (fun _ _ f => f)
theorem EndInv.more {w : World} {LS : List Ar} {V V' V2 : World} {q q' : Option Addr} {m c n i N c' : Nat} (h : EndInv w LS V q m c n i) {e : Ar} (he : LS[i]? = some e) (hb : Below V.heap.size V V') (ho : okL e.2.2 = true)
    (hr : Buf w.heap.size V2 (.slice q' N c') (catB (goods (firstB LS i)) ++ frameB e.2.2)) (hN : (catB (goods (firstB LS i))).length + (frameB e.2.2).length = N) (hg : V'.grownBy V2 (Value.slice q m c).ownBlock) : EndInv w LS V2 q' N c' (n + 1) (i + 1) := by
  have e1 : goods (firstB LS (i + 1)) = goods (firstB LS i) ++ [e.2.2] := by rw [firstB_succ LS i e he, goods_snoc, ho]; rfl
  have e2 : catB (goods (firstB LS (i + 1))) = catB (goods (firstB LS i)) ++ frameB e.2.2 := by rw [e1, catB_append, catB_one]
  have hl : Below w.heap.size w V' := h.low.trans (hb.mono h.low.size)
  refine ⟨hl.grown hg hl.size (fun k hk => (h.row.lt k hk).1), by rw [e2]; exact hr, by rw [e2, List.length_append, hN], by rw [e1, List.length_append, ← h.num]; rfl⟩
theorem ends_told (LS : List Ar) (j : Nat) : told false ([] ++ (catB (goods (firstB LS j)) ++ [0, 0, 0, 0])) = (goods (firstB LS j), true, []) := by
  unfold told
  rw [if_neg (by decide), List.nil_append, parse_cat _ _ (goods_ok _), parse_bad (s := [0, 0, 0, 0]) (by decide) (by decide)]
  simp
/-- The reader is broken, and all that was there stands. -/
def BrokeInv (w : World) (R : Nat) (V : World) : Prop := Below w.heap.size w V ∧ ∃ hv, Rdr w.heap.size V R hv [] true
theorem BrokeInv.step {w V V' : World} {R : Nat} {hv hv' : Value} (h : Below w.heap.size w V) (hR : Rdr w.heap.size V R hv [] true) (hR' : Rdr w.heap.size V' R hv' [] true) (hk : Keeps (Ft R hv) V V') : BrokeInv w R V' :=
  ⟨h.trans (hk.below hR.ft_ge h.size), hv', hR'⟩
set_option maxHeartbeats 2000000 in
set_option maxRecDepth 100000 in
theorem frameEnds_any (p0 p1 : Option Addr) (c0 c1 : Nat) (LS MS : List Ar) (w : World) (h0 : RowsIn w.heap.size w p0 LS) (h1 : RowsIn w.heap.size w p1 MS) (hz0 : total LS ≤ 1048576) (hz1 : total MS ≤ 1048576) :
    Calls Try.prog 7 #[.slice p0 LS.length c0, .slice p1 MS.length c1] w fun e w' => e = .returned (.bool true) ∧ Below w.heap.size w w' := by
  obtain ⟨n0, hn0⟩ : ∃ n, LS.length = n := ⟨_, rfl⟩
  obtain ⟨n1, hn1⟩ : ∃ n, MS.length = n := ⟨_, rfl⟩
  have hn0z : n0 ≤ 1048576 := by rw [← hn0]; exact Nat.le_trans (len_small LS) hz0
  have hn1z : n1 ≤ 1048576 := by rw [← hn1]; exact Nat.le_trans (len_small MS) hz1
  rw [hn0, hn1]
  have HN0 := Lib.hid hn0
  have HN1 := Lib.hid hn1
  have H0 := Lib.hid h0
  have H1 := Lib.hid h1
  have HZ0 := Lib.hid hz0
  have HZ1 := Lib.hid hz1
  clear h0 h1 hz0 hz1 hn0 hn1
  go_enter Try.func7, Try.ntmps7
  go_wp2
  go_loopw [5, 6, 7] (fun t n i wr => ∃ (q : Option Addr) (m c k j : Nat), t = .slice q m c ∧ n = .int .i64 (k : Int) ∧ i = .int .i64 (j : Int) ∧ j ≤ n0 ∧ k ≤ j ∧ Hid (EndInv w LS wr q m c k j)) (fun _ _ i _ => n0 - (intOf i).toNat)
  case atStart => exact ⟨none, 0, 0, 0, 0, rfl, rfl, rfl, by omega, by omega, Lib.hid (EndInv.start w LS)⟩
  case round =>
    obtain ⟨q, m, c, k, j, rfl, rfl, rfl, hj, hkj, HI⟩ := hrel
    by_cases hlt : j < n0
    · have hji : (j : Int) < (n0 : Int) := by omega
      have hjz : (j : Int) < 1048576 := by omega
      obtain ⟨e, he⟩ : ∃ e, LS[j]? = some e := ⟨_, List.getElem?_eq_getElem (by rw [HN0.out]; exact hlt)⟩
      obtain ⟨a, ha, hab, hac, hag⟩ := (H0.out.low HI.out.low) j e he
      subst ha
      obtain ⟨p, cap, bs⟩ := e
      have hbz : bs.length ≤ 1048576 := Nat.le_trans (item_small LS j _ he) HZ0.out
      have EC := Lib.hid (encode_any p cap bs _ wr hag.src (by omega))
      have hsm := (first_small LS j).1
      have hz := HZ0.out
      have HSM : Hid ((catB (goods (firstB LS j))).length ≤ 5242880) := Lib.hid (by omega)
      have HE := Lib.hid he
      obtain ⟨nb, hnb⟩ : ∃ n, bs.length = n := ⟨_, rfl⟩
      have HNB := Lib.hid hnb
      unfold hdr at hac
      rw [hnb] at hac EC
      clear hag hsm hz he hbz hnb
      go_wp2_with fail
      refine EC.out.mono ?_
      rintro e w1 ⟨q1, m1, c1', rfl, hm1, hb1, hl1⟩
      have HB1 := Lib.hid hb1
      have HL1 := Lib.hid hl1
      have HM1 := Lib.hid hm1
      have hrow1 : Buf w.heap.size w1 (.slice q m c) (catB (goods (firstB LS j))) := HI.out.row.keeps (Keeps.of_below (X := fun _ => False) hl1) (fun _ _ f => f)
      have HR1 := Lib.hid hrow1
      have hw1 : w.heap.size ≤ w1.heap.size := Nat.le_trans HI.out.low.size hl1.size
      clear hb1 hl1 hm1 hrow1 hac
      cases ho : okL bs with
      | false =>
        rw [(enc_bad ho).2]
        have HF := Lib.hid (HI.out.skip HE.out HL1.out ho)
        clear ho
        go_wp2
        exact ⟨⟨q, m, c, k, j + 1, rfl, rfl, by go_num, by omega, by omega, HF⟩, by simp [intOf]; omega⟩
      | true =>
        rw [(enc_ok ho).2]
        have hsrc : Src w1 (fun _ => False) q1 (frameB bs) := by
          have h7 := HB1.out
          rw [(enc_ok ho).1] at h7
          exact h7.src rfl (fun _ _ f => f)
        have hm7 : m1 = (frameB bs).length := by rw [HM1.out, (enc_ok ho).1]
        have HSRC := Lib.hid hsrc
        have HM7 := Lib.hid hm7
        have HF := Lib.hid (fun V2 q' N c' hr hN hg => EndInv.more (V2 := V2) (q' := q') (N := N) (c' := c') HI.out HE.out HL1.out ho hr hN hg)
        have HFL : Hid ((frameB bs).length ≤ 1048580) := Lib.hid (by rw [frameB_len]; have := HNB.out; have := item_small LS j _ HE.out; have := HZ0.out; simp only at *; omega)
        clear ho hsrc hm7
        go_wp2_with (at_builtin; go_loud (refine wpList_append_src rfl (.tmp 30) (.tmp 31) rfl w.heap.size (fun _ => False) (.slice q m c) (catB (goods (firstB LS j))) (frameB bs) q1 m1 c1' _ rfl rfl HM7.out HR1.out HSRC.out (by have := HSM.out; have := HFL.out; omega) hw1 rfl (fun q' c' w2 hb2 hg2 _ => ?_)); have HF2 := Lib.hid (HF.out w2 q' _ c' hb2 rfl hg2); clear hb2 hg2)
        exact ⟨⟨q', _, c', k + 1, j + 1, rfl, by go_num, by go_num, by omega, by omega, HF2⟩, by simp [intOf]; omega⟩
    · have hj : j = n0 := by omega
      have hji : ¬ (j : Int) < (n0 : Int) := by omega
      have hsm := (first_small LS j).1
      have hz := HZ0.out
      have HSM : Hid ((catB (goods (firstB LS j))).length ≤ 5242880) := Lib.hid (by omega)
      have HJ := Lib.hid hj
      obtain ⟨N, hN⟩ : ∃ N, (catB (goods (firstB LS j))).length + ([0, 0, 0, 0] : List UInt8).length = N := ⟨_, rfl⟩
      have HN := Lib.hid hN
      have hrow0 : Buf w.heap.size (wr.alloc (.cells #[.int .u8 0, .int .u8 0, .int .u8 0, .int .u8 0] 5)) (.slice q m c) (catB (goods (firstB LS j))) := HI.out.row.alloc _
      have hlow0 : Below w.heap.size w (wr.alloc (.cells #[.int .u8 0, .int .u8 0, .int .u8 0, .int .u8 0] 5)) := HI.out.low.alloc HI.out.low.size _
      have HR0 := Lib.hid hrow0
      have HL0 := Lib.hid hlow0
      clear hsm hz hj hrow0 hlow0 hN
      go_wp2_with (at_builtin; go_loud (refine wpList_append_src rfl (.tmp 35) (.tmp 36) rfl w.heap.size (fun _ => False) (.slice q m c) (catB (goods (firstB LS j))) [0, 0, 0, 0] (some ⟨wr.heap.size, 0, none⟩) 4 4 _ rfl rfl rfl HR0.out (lit_src wr #[.int .u8 0, .int .u8 0, .int .u8 0, .int .u8 0] [0, 0, 0, 0] (fun _ => False) wr.heap.size rfl rfl (fun f => f)) (by have := HSM.out; simp; omega) HL0.out.size HN.out (fun q' c' w2 hb2 hg2 _ => ?_)); have hl2 : Below w.heap.size w w2 := HL0.out.grown hg2 HL0.out.size (fun k hk => (HR0.out.lt k hk).1); have HB2 := Lib.hid hb2; have HL2 := Lib.hid hl2; clear hb2 hg2 hl2)
      refine (new_any w2).mono ?_
      rintro e w3 ⟨rfl, hw3⟩
      have hR3 : Rdr w.heap.size w3 w2.heap.size (.slice none 0 0) [] false := by rw [hw3]; exact Rdr.new w2 _ HL2.out.size
      have hl3 : Below w.heap.size w w3 := by rw [hw3]; exact HL2.out.alloc HL2.out.size _
      have hb3 : Buf w.heap.size w3 (.slice q' N c') (catB (goods (firstB LS j)) ++ [0, 0, 0, 0]) := by rw [hw3]; exact HB2.out.alloc _
      have hsrc3 : Src w3 (Ft w2.heap.size (.slice none 0 0)) q' (catB (goods (firstB LS j)) ++ [0, 0, 0, 0]) := hb3.src rfl (fun g e hft => hft.elim (fun e2 => by have := HB2.out.lt g e; omega) (fun e2 => by cases e2))
      obtain ⟨q7, c7, hq7, hc7, hm7, -⟩ := hb3.shape
      injection hq7 with e1 e2 e3
      rw [← e3] at hc7 hm7
      have FC := Lib.hid (feed_any w.heap.size w2.heap.size (.slice none 0 0) [] (catB (goods (firstB LS j)) ++ [0, 0, 0, 0]) false q' c' w3 hR3 (fun h => by cases h) hsrc3 hc7 hm7 .nil hl3.size (by have := HSM.out; rw [List.nil_append, List.length_append]; simp; omega))
      rw [ends_told, ← e2] at FC
      have HL3 := Lib.hid hl3
      have HR3 := Lib.hid hR3
      clear hR3 hl3 hb3 hsrc3 hc7 hm7 e1 e2 e3 hw3
      go_wp2_with fail
      refine FC.out.mono ?_
      rintro e w4 ⟨q4, n4, c4, L, hv4, rfl, hn4, hrow4, hmap, hR4, -, hk4⟩
      have hk : n4 = k := by
        have h8 := congrArg List.length hmap
        rw [List.length_map] at h8
        rw [hn4, HI.out.num, h8]
      subst hk
      have HL4 := Lib.hid (HL3.out.trans (hk4.below HR3.out.ft_ge HL3.out.size))
      have HR4 := Lib.hid hR4
      have BC := Lib.hid (broken_any _ _ _ _ _ _ hR4)
      have HBI : Hid (BrokeInv w w2.heap.size w4) := Lib.hid ⟨HL4.out, hv4, hR4⟩
      clear hn4 hrow4 hmap hR4 hk4
      go_wp2_with fail
      refine BC.out.mono ?_
      rintro e w5 ⟨rfl, rfl⟩
      go_wp2
      clear hlt hji hj hkj
      go_loopw [13] (fun i wr => ∃ (j : Nat), i = .int .i64 (j : Int) ∧ j ≤ n1 ∧ Hid (BrokeInv w w2.heap.size wr)) (fun i _ => n1 - (intOf i).toNat)
      case atStart => exact ⟨0, rfl, by omega, HBI⟩
      case round =>
        obtain ⟨i2, rfl, hi2, HB7⟩ := hrel
        by_cases hlt : i2 < n1
        · have hji : (i2 : Int) < (n1 : Int) := by omega
          have hjz : (i2 : Int) < 1048576 := by omega
          obtain ⟨hlowV, hv7, hR7⟩ := HB7.out
          obtain ⟨e, he⟩ : ∃ e, MS[i2]? = some e := ⟨_, List.getElem?_eq_getElem (by rw [HN1.out]; exact hlt)⟩
          obtain ⟨a, ha, hab, hac, hag⟩ := (H1.out.low hlowV) i2 e he
          subst ha
          obtain ⟨p, cap, bs⟩ := e
          unfold hdr at hac
          have FC2 := Lib.hid (feed_broken w.heap.size w2.heap.size hv7 bs p bs.length cap wr hR7)
          have et : told true bs = ([], true, []) := rfl
          rw [et] at FC2
          have HR7 := Lib.hid hR7
          have HL7 := Lib.hid hlowV
          clear hag he hlowV hR7 et
          go_wp2_with fail
          refine FC2.out.mono ?_
          rintro e w7 ⟨q7, n7, c7, L7, hv8, rfl, hn7, hrow7, hmap7, hR8, -, hk8⟩
          have hn70 : n7 = 0 := by
            have h8 := congrArg List.length hmap7
            rw [List.length_map] at h8
            rw [hn7, h8]
            rfl
          subst hn70
          have HBI8 : Hid (BrokeInv w w2.heap.size w7) := Lib.hid (BrokeInv.step HL7.out HR7.out hR8 hk8)
          have HC := Lib.hid (held_any _ _ _ _ _ _ hR8)
          clear hn7 hrow7 hmap7 hR8 hk8
          go_wp2_with fail
          refine HC.out.mono ?_
          rintro e w9 ⟨rfl, rfl⟩
          go_wp2
          exact ⟨⟨i2 + 1, by go_num, by omega, HBI8⟩, by simp [intOf]; omega⟩
        · have hji : ¬ (i2 : Int) < (n1 : Int) := by omega
          have HL7 := Lib.hid HB7.out.1
          go_wp2_with fail
          refine (works_any _).mono ?_
          rintro e w9 ⟨rfl, hb9⟩
          have HL9 := Lib.hid (HL7.out.trans (hb9.mono HL7.out.size))
          clear hb9
          go_wp2
          go_ret
          exact ⟨rfl, HL9.out⟩
end Fr
end Go.Proofs.Ytbejacmbbkdbnaa
