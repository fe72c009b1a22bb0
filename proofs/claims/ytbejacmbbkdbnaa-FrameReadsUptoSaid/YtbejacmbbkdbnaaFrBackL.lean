/- The law FrameBack: its walk. -/
import Derived.Test.YtbejacmbbkdbnaaFrCutsL
import Derived.Test.YtbejacmbbkdbnaaFrEndsL
namespace Go.Proofs.Ytbejacmbbkdbnaa
open Go.RowKit
set_option linter.unusedVariables false
set_option linter.unusedSimpArgs false
namespace Fr
def goodA (LS : List Ar) (i : Nat) : List Ar := (LS.take i).filter fun e => okL e.2.2
theorem goodA_bytes (LS : List Ar) (i : Nat) : (goodA LS i).map (·.2.2) = goods (firstB LS i) := by
  unfold goodA goods firstB
  rw [List.filter_map]
  rfl
theorem goodA_succ (LS : List Ar) (i : Nat) (e : Ar) (he : LS[i]? = some e) : goodA LS (i + 1) = goodA LS i ++ (if okL e.2.2 then [e] else []) := by
  unfold goodA
  rw [List.take_add_one, he, List.filter_append]
  congr 1
  cases h : okL e.2.2 <;> simp [h]
/-- The frames of the first i loads stand in one row, the loads in another. -/
structure BackInv (w : World) (LS : List Ar) (V : World) (q : Option Addr) (m c : Nat) (q' : Option Addr) (m' c' i : Nat) : Prop where
  low : Below w.heap.size w V
  row : Buf w.heap.size V (.slice q m c) (catB (goods (firstB LS i)))
  len : m = (catB (goods (firstB LS i))).length
  want : V.ownsRow w.heap.size 22 1 (.slice q' m' c') m' ((goodA LS i).map hdr)
  wlen : m' = (goodA LS i).length
  apart : ∀ g, (Value.slice q' m' c').ownBlock = some g → (Value.slice q m c).ownBlock ≠ some g
theorem BackInv.start (w : World) (LS : List Ar) : BackInv w LS w none 0 0 none 0 0 0 := ⟨Below.refl _ _, Buf.nil _ _, rfl, World.ownsRow_nil _ _ _ _, rfl, fun g e => by cases e⟩
theorem BackInv.skip {w : World} {LS : List Ar} {V V' : World} {q q' : Option Addr} {m c m' c' i : Nat} (h : BackInv w LS V q m c q' m' c' i) {e : Ar} (he : LS[i]? = some e) (hb : Below V.heap.size V V') (ho : okL e.2.2 = false) : BackInv w LS V' q m c q' m' c' (i + 1) := by
  have e1 : goods (firstB LS (i + 1)) = goods (firstB LS i) := by rw [firstB_succ LS i e he, goods_snoc, ho]; simp
  have e2 : goodA LS (i + 1) = goodA LS i := by rw [goodA_succ LS i e he, ho]; simp
  have hk := Keeps.of_below (X := fun _ => False) hb
  exact ⟨h.low.trans (hb.mono h.low.size), by rw [e1]; exact h.row.keeps hk (fun _ _ f => f), by rw [e1]; exact h.len, by rw [e2]; exact owns_keeps h.want hk (fun _ _ f => f), by rw [e2]; exact h.wlen, h.apart⟩
theorem keeps_grown {w w' : World} {v : Value} (hg : w.grownBy w' v.ownBlock) : Keeps (fun k => v.ownBlock = some k) w w' := ⟨hg.os, hg.tape, hg.output, hg.size, fun k hk hn => hg.block k hk (fun e => hn e.symm)⟩
theorem BackInv.more {w : World} {LS : List Ar} {V V1 V2 V4 : World} {q q2 q' q4 : Option Addr} {m c m' c' i N c2 c4 : Nat} {o : Obj} (h : BackInv w LS V q m c q' m' c' i) {e : Ar} (he : LS[i]? = some e) (hb : Below V.heap.size V V1) (ho : okL e.2.2 = true)
    (hr : Buf w.heap.size V2 (.slice q2 N c2) (catB (goods (firstB LS i)) ++ frameB e.2.2)) (hN : (catB (goods (firstB LS i))).length + (frameB e.2.2).length = N) (hg : V1.grownBy V2 (Value.slice q m c).ownBlock) (hh : Heir V1 (.slice q m c) (.slice q2 N c2))
    (hw : V4.ownsRow w.heap.size 22 1 (.slice q4 (m' + 1) c4) (m' + 1) ((goodA LS i).map hdr ++ [hdr e])) (hg4 : (V2.alloc o).grownBy V4 (Value.slice q' m' c').ownBlock) (hh4 : Heir (V2.alloc o) (.slice q' m' c') (.slice q4 (m' + 1) c4)) :
    BackInv w LS V4 q2 N c2 q4 (m' + 1) c4 (i + 1) := by
  have e1 : goods (firstB LS (i + 1)) = goods (firstB LS i) ++ [e.2.2] := by rw [firstB_succ LS i e he, goods_snoc, ho]; rfl
  have e2 : catB (goods (firstB LS (i + 1))) = catB (goods (firstB LS i)) ++ frameB e.2.2 := by rw [e1, catB_append, catB_one]
  have e3 : goodA LS (i + 1) = goodA LS i ++ [e] := by rw [goodA_succ LS i e he, ho]; rfl
  have hl1 : Below w.heap.size w V1 := h.low.trans (hb.mono h.low.size)
  have hl2 : Below w.heap.size w V2 := hl1.grown hg hl1.size (fun k hk => (h.row.lt k hk).1)
  have hl3 : Below w.heap.size w (V2.alloc o) := hl2.alloc hl2.size _
  have hwl := h.want.lt
  have hap2 : ∀ g, (Value.slice q' m' c').ownBlock = some g → (Value.slice q2 N c2).ownBlock ≠ some g := fun g e => by
    rcases hh with hh | hh
    · rw [hh]; exact h.apart g e
    · intro e2; have := hh g e2; have := (hwl g e).2; have := hb.size; omega
  have hk24 : Keeps (fun k => (Value.slice q' m' c').ownBlock = some k) V2 V4 := (((Keeps.refl (fun _ => False) V2).alloc o).mono (Y := fun k => (Value.slice q' m' c').ownBlock = some k) (fun k f _ => f.elim)).join (keeps_grown hg4) (fun k e _ => e)
  refine ⟨hl3.grown hg4 hl3.size (fun k hk => (hwl k hk).1), by rw [e2]; exact hr.keeps hk24 (fun g e1 e2 => hap2 g e2 e1), by rw [e2, List.length_append, hN], by rw [e3, List.map_append]; exact hw, by rw [e3, List.length_append, ← h.wlen]; rfl, fun g e4 => ?_⟩
  rcases hh4 with hh4 | hh4
  · exact hap2 g (hh4 ▸ e4)
  · intro e5
    have h7 := hh4 g e4
    have h8 := (hr.lt g e5).2
    simp at h7
    omega
/-- A stream that ends whole is broken nowhere. -/
theorem parse_unbroken {s : List UInt8} (h : (parse s).2.1 = false) (a : Nat) : (parse (s.take a)).2.1 = false := by
  cases hb : (parse (s.take a)).2.1 with
  | false => rfl
  | true =>
    have h2 := told_more (s.take a) (s.drop a)
    rw [List.take_append_drop, hb] at h2
    rw [h2] at h
    exact h
theorem parse_goods (LS : List Ar) (i : Nat) : parse (catB (goods (firstB LS i))) = (goods (firstB LS i), false, []) := by
  have := parse_cat (goods (firstB LS i)) [] (goods_ok _)
  rw [List.append_nil] at this
  rw [this, parse_nil, List.append_nil]
theorem Src.piece {w : World} {X : Nat → Prop} {a : Addr} {c : Nat} {s : List UInt8} (h : Src w X (some a) s) (hc : s.length ≤ c) (at_ k : Nat) (hat : at_ < s.length) : Src w X (some (a.add at_)) ((s.drop at_).take k) := by
  have h1 := (h.drop at_ hc).take k
  have hc : ¬ c = at_ := by omega
  unfold behind at h1
  rw [if_neg hc] at h1
  exact h1
/-- The loads that came in, as a row that is read. -/
theorem want_rd {b B n c i : Nat} {V : World} {q p0 : Option Addr} {LS : List Ar} (h : V.ownsRow b 22 1 (.slice q n c) n ((goodA LS i).map hdr)) (hr : RowsIn B V p0 LS) : RdRow V q (goodA LS i) := fun k e he => by
  have hm : e ∈ LS := by
    have h1 := List.mem_of_getElem? he
    unfold goodA at h1
    exact List.mem_of_mem_take (List.mem_filter.1 h1).1
  obtain ⟨k2, hk2⟩ := List.getElem?_of_mem hm
  obtain ⟨a, -, -, -, hg⟩ := hr k2 e hk2
  have hk : k < n := by
    have h3 := (List.getElem?_eq_some_iff.1 he).1
    have h4 := h.1
    rw [List.length_map, Nat.mul_one] at h4
    omega
  rcases h.2 with ⟨hn, hn0⟩ | ⟨g, cap, cur, hn, -⟩
  · omega
  · injection hn with e1 e2 e3
    subst e1
    exact ⟨⟨g, 0, none⟩, rfl, World.ownsRow.cells h (g := g) rfl k (hdr e) (by rw [List.getElem?_map, he]; rfl), hg.src.keeps (Keeps.refl (fun _ => False) V) (fun _ f _ => f.elim) (fun _ f _ => f.elim)⟩
theorem lit_row (V : World) (x : Value) (H : Nat) (hH : V.heap.size = H) : ∀ j u, ([x] : List Value)[j]? = some u → (V.alloc (.cells #[x] 22)).cell? ((⟨H, 0, none⟩ : Addr).add j) = some u := by subst hH; exact lit_one V x
set_option maxHeartbeats 4000000 in
set_option maxRecDepth 100000 in
theorem frameBack_any (p0 p1 : Option Addr) (c0 c1 : Nat) (LS : List Ar) (zs : List Int) (w : World) (h0 : RowsIn w.heap.size w p0 LS) (h1 : IntsIn w.heap.size w p1 zs) (hz0 : total LS ≤ 1048576) (hz1 : zs.length ≤ 1048576) :
    Calls Try.prog 6 #[.slice p0 LS.length c0, .slice p1 zs.length c1] w fun e w' => e = .returned (.bool true) ∧ Below w.heap.size w w' := by
  obtain ⟨i0, hi0, hzz0, hzz1, hzz2⟩ := info_parts infoS
  obtain ⟨n0, hn0⟩ : ∃ n, LS.length = n := ⟨_, rfl⟩
  obtain ⟨n1, hn1⟩ : ∃ n, zs.length = n := ⟨_, rfl⟩
  have hn0z : n0 ≤ 1048576 := by rw [← hn0]; exact Nat.le_trans (len_small LS) hz0
  have hn1z : n1 ≤ 1048576 := by omega
  rw [hn0, hn1]
  have HN0Z := Lib.hid hn0z
  have HN1Z := Lib.hid hn1z
  have HN0 := Lib.hid hn0
  have HN1 := Lib.hid hn1
  have H0 := Lib.hid h0
  have H1 := Lib.hid h1
  have HZ0 := Lib.hid hz0
  clear h0 h1 hz0 hz1 hn0 hn1 hn0z hn1z
  go_enter Try.func6, Try.ntmps6
  go_wp2
  go_loopw [5, 6, 7] (fun t n i wr => ∃ (q : Option Addr) (m c : Nat) (q' : Option Addr) (m' c' j : Nat), t = .slice q m c ∧ n = .slice q' m' c' ∧ i = .int .i64 (j : Int) ∧ j ≤ n0 ∧ m' ≤ j ∧ Hid (BackInv w LS wr q m c q' m' c' j)) (fun _ _ i _ => n0 - (intOf i).toNat)
  case atStart => exact ⟨none, 0, 0, none, 0, 0, 0, rfl, rfl, rfl, by omega, by omega, Lib.hid (BackInv.start w LS)⟩
  case round =>
    obtain ⟨q, m, c, q', m', c', j, rfl, rfl, rfl, hj, hkj, HI⟩ := hrel
    by_cases hlt : j < n0
    · have hji : (j : Int) < (n0 : Int) := by omega
      have hjz : (j : Int) < 1048576 := by have := HN0Z.out; omega
      obtain ⟨e, he⟩ : ∃ e, LS[j]? = some e := ⟨_, List.getElem?_eq_getElem (by rw [HN0.out]; exact hlt)⟩
      obtain ⟨a, ha, hab, hac, hag⟩ := (H0.out.low HI.out.low) j e he
      subst ha
      obtain ⟨p, cap, bs⟩ := e
      have hbz : bs.length ≤ 1048576 := Nat.le_trans (item_small LS j _ he) HZ0.out
      have EC := Lib.hid (encode_any p cap bs _ wr hag.src (by omega))
      have hsm := (first_small LS j).1
      have hz := HZ0.out
      have HSM : Hid ((catB (goods (firstB LS j))).length ≤ 5242880) := Lib.hid (by omega)
      have HE := Lib.hid he
      obtain ⟨nb, hnb⟩ : ∃ n, bs.length = n := ⟨_, rfl⟩
      have HNB := Lib.hid hnb
      have HAB := Lib.hid hab
      unfold hdr at hac
      rw [hnb] at hac EC
      have HAC := Lib.hid hac
      have HNBZ : Hid ((nb : Int) ≤ 1048576) := Lib.hid (by omega)
      have HABL : Hid (∀ i, (a.add i).block < wr.heap.size) := Lib.hid (fun i => by
        have hbl : (a.add i).block = a.block := by unfold Addr.add; split <;> rfl
        rw [hbl]; exact Nat.lt_of_lt_of_le hab HI.out.low.size)
      have HABW : Hid (∀ i, (a.add i).block < w.heap.size) := Lib.hid (fun i => by
        have hbl : (a.add i).block = a.block := by unfold Addr.add; split <;> rfl
        rw [hbl]; exact hab)
      clear hag hsm hz he hbz hnb hab
      go_wp2_with fail
      refine EC.out.mono ?_
      rintro e w1 ⟨q1, m1, c1', rfl, hm1, hb1, hl1⟩
      have HB1 := Lib.hid hb1
      have HL1 := Lib.hid hl1
      have HM1 := Lib.hid hm1
      have hac1 : w1.cell? (a.add j) = some (.slice p nb cap) := (hl1.cell (p := a.add j) (HABL.out j)).trans hac
      have HW1 : Hid (w.heap.size ≤ w1.heap.size) := Lib.hid (Nat.le_trans HI.out.low.size hl1.size)
      have HR1 : Hid (Buf w.heap.size w1 (.slice q m c) (catB (goods (firstB LS j)))) := Lib.hid (HI.out.row.keeps (Keeps.of_below (X := fun _ => False) hl1) (fun _ _ f => f))
      clear hb1 hl1 hm1 hac
      cases ho : okL bs with
      | false =>
        rw [(enc_bad ho).2]
        have HF := Lib.hid (HI.out.skip HE.out HL1.out ho)
        have hm0 : m1 = 0 := by rw [HM1.out, (enc_bad ho).1]; rfl
        subst hm0
        have hbad : nb = 0 ∨ (∃ k : Nat, nb = k + 1 ∧ decide ((k : Int) + 1 ≤ 32768) = false) := by
          have h7 := okN_false.1 (show okN bs.length = false from ho)
          rw [HNB.out] at h7
          rcases h7 with h7 | h7
          · exact .inl h7
          · exact .inr ⟨nb - 1, by omega, decide_eq_false (by omega)⟩
        clear ho
        rcases hbad with rfl | ⟨k, rfl, hb3⟩
        · go_wp2
          exact ⟨⟨q, m, c, q', m', c', j + 1, rfl, rfl, by go_num, by omega, by omega, HF⟩, by simp [intOf]; omega⟩
        · go_wp2
          exact ⟨⟨q, m, c, q', m', c', j + 1, rfl, rfl, by go_num, by omega, by omega, HF⟩, by simp [intOf]; omega⟩
      | true =>
        rw [(enc_ok ho).2]
        have hsrc : Src w1 (fun _ => False) q1 (frameB bs) := by
          have h7 := HB1.out
          rw [(enc_ok ho).1] at h7
          exact h7.src rfl (fun _ _ f => f)
        have HM7 : Hid (m1 = (frameB bs).length) := Lib.hid (by rw [HM1.out, (enc_ok ho).1])
        have HSRC := Lib.hid hsrc
        have HFL : Hid ((frameB bs).length ≤ 1048580) := Lib.hid (by rw [frameB_len, HNB.out]; have := HNBZ.out; omega)
        have HO := Lib.hid ho
        have HF := Lib.hid (fun V2 V4 q2 q4 N c2 c4 o hr hN hg hh hw hg4 hh4 => BackInv.more (V2 := V2) (V4 := V4) (q2 := q2) (q4 := q4) (N := N) (c2 := c2) (c4 := c4) (o := o) HI.out HE.out HL1.out ho hr hN hg hh hw hg4 hh4)
        obtain ⟨N, hN⟩ : ∃ N, (catB (goods (firstB LS j))).length + (frameB bs).length = N := ⟨_, rfl⟩
        have HN := Lib.hid hN
        have HWNT : Hid (w1.ownsRow w.heap.size 22 1 (.slice q' m' c') m' ((goodA LS j).map hdr)) := Lib.hid (owns_keeps HI.out.want (Keeps.of_below (X := fun _ => False) HL1.out) (fun _ _ f => f))
        have HAC1 := Lib.hid hac1
        have HMZ : Hid (m' ≤ 1048576) := Lib.hid (by have := HN0Z.out; omega)
        clear ho hsrc hN
        go_wp2_with (first | (at_builtin; go_loud (refine wpList_append_src rfl (.tmp 33) (.tmp 34) rfl w.heap.size (fun _ => False) (.slice q m c) (catB (goods (firstB LS j))) (frameB bs) q1 m1 c1' N rfl rfl HM7.out HR1.out HSRC.out (by have := HSM.out; have := HFL.out; omega) HW1.out HN.out (fun q2 c2 w2 hb2 hg2 hh2 => ?_)); have hk2 := keeps_grown hg2; have hac2 : w2.cell? (a.add j) = some (.slice p nb cap) := (hk2.cell (p := a.add j) (Nat.lt_of_lt_of_le (HABW.out j) HW1.out) (fun e => by have := (HR1.out.lt _ e).1; have := HABW.out j; omega)).trans HAC1.out; have HO2 : Hid (w2.ownsRow w.heap.size 22 1 (.slice q' m' c') m' ((goodA LS j).map hdr)) := Lib.hid (owns_keeps HWNT.out hk2 (fun g e1 e2 => HI.out.apart g e1 e2)); have HB2 := Lib.hid hb2; have HG2 := Lib.hid hg2; have HH2 := Lib.hid hh2; have HSZ2 : Hid (w.heap.size ≤ w2.heap.size) := Lib.hid (Nat.le_trans HW1.out hk2.size); clear hb2 hg2 hh2 hk2 hac1) | (at_builtin; go_loud (refine wpList_append_rows rfl (.tmp 36) (.tmp 41) rfl w.heap.size 0 (.slice q' m' c') (.slice (some ⟨w2.heap.size, 0, none⟩) 1 1) m' 1 ((goodA LS j).map hdr) [.slice p nb cap] rfl rfl (World.ownsRow.alloc HO2.out _) (World.ownsRow_lit (size := 1) w2 #[.slice p nb cap] 1 (Nat.zero_le _) (by unfold maxLen; omega) rfl) (by intro u hu; simp at hu; subst hu; rfl) (by have := HMZ.out; omega) (by have := HSZ2.out; simp; omega) (fun q4 c4 w4 ho4 hg4 hh4 => ?_)); have HF4 := Lib.hid (HF.out w2 w4 q2 q4 N c2 c4 _ HB2.out HN.out HG2.out HH2.out (by unfold hdr at *; simp only; rw [HNB.out]; exact ho4) hg4 hh4); clear ho4 hg4 hh4))
        exact ⟨⟨q2, N, c2, q4, m' + 1, c4, j + 1, rfl, rfl, by go_num, by omega, by omega, HF4⟩, by simp [intOf]; omega⟩
    · obtain ⟨w0r, hw0r⟩ : ∃ x, x = wr := ⟨_, rfl⟩
      subst hw0r
      have hj : j = n0 := by omega
      have hji : ¬ (j : Int) < (n0 : Int) := by omega
      obtain ⟨S, hS⟩ : ∃ S, catB (goods (firstB LS j)) = S := ⟨_, rfl⟩
      have hpS : parse S = (goods (firstB LS j), false, []) := by rw [← hS]; exact parse_goods LS j
      have hmS : m = S.length := by rw [HI.out.len, hS]
      have hsm := (first_small LS j).1
      have hz := HZ0.out
      have hmz : m ≤ 5242880 := by rw [hmS, ← hS]; omega
      have HS := Lib.hid hS
      have HPS := Lib.hid hpS
      have HMS := Lib.hid hmS
      have HMZ := Lib.hid hmz
      clear hS hpS hmS hsm hz hmz
      go_wp2_with fail
      refine (new_any w0r).mono ?_
      rintro e w3 ⟨rfl, hw3⟩
      have hR3 : Rdr w.heap.size w3 w0r.heap.size (.slice none 0 0) [] false := by rw [hw3]; exact Rdr.new w0r _ HI.out.low.size
      have hl3 : Below w.heap.size w w3 := by rw [hw3]; exact HI.out.low.alloc HI.out.low.size _
      have hb3 : Buf w.heap.size w3 (.slice q m c) S := by rw [hw3, ← HS.out]; exact HI.out.row.alloc _
      have hwant3 : w3.ownsRow w.heap.size 22 1 (.slice q' m' c') m' ((goodA LS j).map hdr) := by rw [hw3]; exact World.ownsRow.alloc HI.out.want _
      have hsrc3 : Src w3 (fun k => k = w0r.heap.size ∨ w3.heap.size ≤ k) q S := hb3.src rfl (fun g e x => x.elim (fun x => by have := HI.out.row.lt g e; omega) (fun x => by have := hb3.lt g e; omega))
      obtain ⟨q7, c7, hq7, hc7, hm7, -⟩ := hb3.shape
      injection hq7 with e1 e2 e3
      rw [← e3, ← HMS.out] at hc7
      rw [← e3] at hm7
      have HWL := Lib.hid (fun g e => (HI.out.want.lt g e).2)
      have HR3 := Lib.hid hR3
      have HL3 := Lib.hid hl3
      have HW3 := Lib.hid hwant3
      have HSRC3 := Lib.hid hsrc3
      have HM7 := Lib.hid hm7
      have HLT := Lib.hid hR3.lt
      have HLW : Hid (w.heap.size ≤ w0r.heap.size) := Lib.hid HI.out.low.size
      have HAPW : Hid (m' = (goodA LS j).length) := Lib.hid HI.out.wlen
      clear hR3 hl3 hb3 hwant3 hsrc3 hm7 e1 e2 e3 hw3 HI hi0 hzz0 hzz1 hzz2
      go_wp2
      clear hji hlt hkj hj
      go_loopw [11, 12, 13] (fun t i a V => ∃ (q5 : Option Addr) (m5 c5 : Nat) (F : Int) (j2 at_ : Nat), t = .slice q5 m5 c5 ∧ i = .int .i64 (j2 : Int) ∧ a = .int .i64 (at_ : Int) ∧ j2 ≤ at_ ∧ at_ ≤ m ∧ Hid (CutInv w.heap.size w0r.heap.size S w3 V q5 m5 c5 F at_)) (fun _ _ a _ => m - (intOf a).toNat)
      case atStart => exact ⟨none, 0, 0, 0, 0, 0, rfl, rfl, rfl, by omega, by omega, Lib.hid (CutInv.start S HR3.out)⟩
      case round =>
        obtain ⟨q5, m5, c5, F, j2, at_, rfl, rfl, rfl, hj2, hat, HI⟩ := hrel
        by_cases hlt : at_ < m
        · have hai : (at_ : Int) < (m : Int) := by omega
          have hjz : (j2 : Int) < 5242880 := by have := HMZ.out; omega
          have hmI : (m : Int) ≤ 5242880 := by have := HMZ.out; omega
          obtain ⟨hkeep, herr, hv, T, hRy, hnew, hrowT, hm, hT⟩ := HI.out
          have hlowV : Below w.heap.size w wr := HL3.out.trans (hkeep.below (fun k e => by rw [e]; exact HLW.out) HL3.out.size)
          obtain ⟨a, ha, -⟩ := HSRC3.out (by rw [← HMS.out]; omega)
          subst ha
          have hsV : Src wr (fun k => k = w0r.heap.size ∨ w3.heap.size ≤ k) (some a) S := HSRC3.out.keeps hkeep (fun k x _ => .inl x) (fun k x _ => x)
          have PC := Lib.hid (piece_any p1 c1 j2 (m - at_) zs _ wr (H1.out.low hlowV) (by rw [HN1.out]; exact HN1Z.out) (by have := HMZ.out; omega) (by omega) (by have := HMZ.out; omega))
          have e4 : ((m - at_ : Nat) : Int) = (m : Int) - (at_ : Int) := by omega
          rw [HN1.out, e4] at PC
          have HRY := Lib.hid hRy
          have HNEW := Lib.hid hnew
          have HROWT := Lib.hid hrowT
          have HM := Lib.hid hm
          have HT := Lib.hid hT
          have HKEEP := Lib.hid hkeep
          have HLV := Lib.hid hlowV
          have HSV := Lib.hid hsV
          clear hkeep herr hRy hnew hrowT hm hT hlowV hsV e4
          go_wp2_with fail
          refine PC.out.mono ?_
          rintro e w4 ⟨r, rfl, hr1, hr2, hw4⟩
          subst w4
          have hpl : ((S.drop at_).take r).length = r := by rw [List.length_take, List.length_drop, ← HMS.out]; omega
          have hrest := parse_rest (S.take at_).length (S.take at_) (Nat.le_refl _)
          have hsrcP : Src wr (Ft w0r.heap.size hv) (some (a.add at_)) ((S.drop at_).take r) := (HSV.out.piece (c := c) (by rw [← HMS.out]; exact hc7) at_ r (by rw [← HMS.out]; exact hlt)).keeps (Keeps.refl (fun _ => False) wr) (fun _ f _ => f.elim) (fun k hk _ => hk.elim .inl (fun e => .inr (HNEW.out k e)))
          have FC := Lib.hid (feed_any w.heap.size w0r.heap.size hv _ ((S.drop at_).take r) _ (some (a.add at_)) (c - at_) wr HRY.out hrest.2 hsrcP (by rw [hpl]; omega) (by have := HM7.out; omega) hrest.1 HLV.out.size (by rw [List.length_append, hpl]; have := hrest.1.len; have := HMZ.out; omega))
          rw [hpl] at FC
          have HPL := Lib.hid hpl
          have HPART := Lib.hid hrest.1.len
          have hca : ¬ c = at_ := by omega
          have hca2 : at_ + r ≤ c := by omega
          have hri : (at_ : Int) + (r : Int) ≤ (c : Int) := by omega
          have hcI : (c : Int) ≤ 9223372036854775807 := by have := HM7.out; unfold maxLen at this; omega
          clear hpl hrest hsrcP
          go_wp2_with fail
          refine FC.out.mono ?_
          rintro e w5 ⟨q8, n5, c8, L5, hv5, rfl, hn5, hrow5, hmap5, hR5, hh5, hk5⟩
          have hun : (told (parse (S.take at_)).2.1 ((parse (S.take at_)).2.2 ++ (S.drop at_).take r)).2.1 = false := by
            have h9 := parse_unbroken (s := S) (by rw [HPS.out]) (at_ + r)
            rw [take_more, told_more] at h9
            exact h9
          have hF5 : (if (told (parse (S.take at_)).2.1 ((parse (S.take at_)).2.2 ++ (S.drop at_).take r)).2.1 = true then (9 : Int) else 0) = 0 := by rw [hun]; rfl
          have HF := Lib.hid (fun V2 q' c' hg hown hht => CutInv.more (V2 := V2) (q' := q') (c' := c') HKEEP.out HRY.out HNEW.out HROWT.out HM.out HT.out hrow5 hn5 hmap5 hR5 hh5 hk5 hg hown hht)
          rw [hF5] at HF ⊢
          have hown5 : w5.ownsRow wr.heap.size 22 1 (.slice q8 n5 c8) n5 (heads L5) := by have := hrow5.own; rwa [← hn5] at this
          have hownT : w5.ownsRow w3.heap.size 22 1 (.slice q5 m5 c5) m5 (heads T) := by
            have := (HROWT.out.keeps hk5 (fun k x _ => x) (Ft.heir hh5)).own
            rwa [← HM.out] at this
          have HO5 := Lib.hid hown5
          have HOT := Lib.hid hownT
          have HM5Z : Hid (m5 ≤ 5242880) := Lib.hid (by
            have h7 := congrArg List.length HT.out
            rw [List.length_map, ← HM.out] at h7
            have h8 := parse_len _ (S.take at_) (Nat.le_refl _)
            rw [List.length_take] at h8
            have := HMZ.out
            omega)
          have HN5Z : Hid (n5 ≤ 5275652) := Lib.hid (by
            have h7 := congrArg List.length hmap5
            rw [List.length_map, ← hn5] at h7
            have h8 := told_len (parse (S.take at_)).2.1 ((parse (S.take at_)).2.2 ++ (S.drop at_).take r)
            rw [List.length_append, HPL.out] at h8
            have := HPART.out
            have := HMZ.out
            omega)
          have HSZ5 : Hid (w3.heap.size ≤ w5.heap.size) := Lib.hid (Nat.le_trans HKEEP.out.size hk5.size)
          clear hn5 hrow5 hmap5 hR5 hh5 hk5 hown5 hownT hF5 hun
          go_wp2_with (at_builtin; go_loud (refine wpList_append_rows rfl (.tmp 91) (.tmp 92) rfl w3.heap.size wr.heap.size (.slice q5 m5 c5) (.slice q8 n5 c8) m5 n5 (heads T) (heads L5) rfl rfl HOT.out HO5.out (heads_one _) (by have := HM5Z.out; have := HN5Z.out; omega) HSZ5.out (fun q' c' w6 ho hg hht => ?_)); have HF6 := Lib.hid (HF.out w6 q' c' hg ho hht); clear ho hg hht)
          exact ⟨⟨_, m5 + n5, _, 0, j2 + 1, at_ + r, rfl, by go_num, by go_num, by omega, by omega, HF6⟩, by simp [intOf]; omega⟩
        · have hai : ¬ (at_ : Int) < (m : Int) := by omega
          obtain ⟨hkeep, herr, hv, T, hRy, hnew, hrowT, hm, hT⟩ := HI.out
          have hall : S.take at_ = S := List.take_of_length_le (by rw [← HMS.out]; omega)
          rw [hall, HPS.out] at hRy hT
          have hlowV : Below w.heap.size w wr := HL3.out.trans (hkeep.below (fun k e => by rw [e]; exact HLW.out) HL3.out.size)
          have hwantV : wr.ownsRow w.heap.size 22 1 (.slice q' m' c') m' ((goodA LS j).map hdr) := owns_keeps HW3.out hkeep (fun g e x => by have := HWL.out g e; omega)
          have hLT : T.map (·.2.2) = (goodA LS j).map (·.2.2) := by rw [hT, goodA_bytes]
          have hnn : m5 = m' := by
            have h7 := congrArg List.length hLT
            rw [List.length_map, List.length_map] at h7
            rw [hm, HAPW.out, h7]
          subst hnn
          have SC := Lib.hid (same_any q5 q' m5 c5 c' (T.map arL) (goodA LS j) wr hrowT.rd (want_rd hwantV (H0.out.low hlowV)) (by rw [List.length_map, ← hm]) HAPW.out.symm (by rw [List.map_map]; exact hLT) (by
            have h7 := (first_small LS j).2
            have h8 := HZ0.out
            have h9 := congrArg List.length (goodA_bytes LS j)
            rw [List.length_map, ← HAPW.out] at h9
            omega))
          have HYR := Lib.hid hRy
          have HLV := Lib.hid hlowV
          clear hkeep herr hRy hnew hrowT hm hT hall hlowV hwantV hLT
          go_wp2_with fail
          refine SC.out.mono ?_
          rintro e w4 ⟨rfl, hb4⟩
          have HY4 := Lib.hid (HYR.out.keeps (Keeps.of_below (X := fun _ => False) hb4) (fun f => f) (fun _ _ f => f))
          have HL4 := Lib.hid (HLV.out.trans (hb4.mono HLV.out.size))
          clear hb4
          have HC2 := Lib.hid (held_any _ _ _ _ _ _ HY4.out)
          have HC4 := Lib.hid (broken_any _ _ _ _ _ _ HY4.out)
          go_wp2_with fail
          refine HC2.out.mono ?_
          rintro e w5 ⟨rfl, hw5⟩
          subst w5
          go_wp2_with fail
          refine HC4.out.mono ?_
          rintro e w5 ⟨rfl, hw5⟩
          subst w5
          go_wp2_with fail
          refine (works_any _).mono ?_
          rintro e w9 ⟨rfl, hb9⟩
          have HL9 := Lib.hid (HL4.out.trans (hb9.mono HL4.out.size))
          clear hb9
          go_wp2
          go_ret
          exact ⟨rfl, HL9.out⟩
end Fr
end Go.Proofs.Ytbejacmbbkdbnaa
