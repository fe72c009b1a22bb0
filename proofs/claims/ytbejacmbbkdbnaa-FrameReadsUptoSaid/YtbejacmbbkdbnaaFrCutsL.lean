/- The law FrameCuts: its walk. -/
import Derived.Test.YtbejacmbbkdbnaaFrSame
namespace Go.Proofs.Ytbejacmbbkdbnaa
open Go.RowKit
set_option linter.unusedVariables false
set_option linter.unusedSimpArgs false
namespace Fr
theorem told_start (s : List UInt8) : told false ([] ++ s) = parse s := rfl
/-- What a stream tells, piece by piece. -/
theorem told_more (s t : List UInt8) : parse (s ++ t) = ((parse s).1 ++ (told (parse s).2.1 ((parse s).2.2 ++ t)).1, (told (parse s).2.1 ((parse s).2.2 ++ t)).2) := by
  rw [parse_cut]
  cases h : (parse s).2.1 with
  | false => rw [if_neg (by decide)]; rfl
  | true =>
    rw [if_pos rfl]
    have h2 := (parse_rest s.length s (Nat.le_refl _)).2 h
    show parse s = ((parse s).1 ++ [], true, [])
    rw [List.append_nil, ← h, ← h2]
theorem take_more (s : List UInt8) (a n : Nat) : s.take (a + n) = s.take a ++ (s.drop a).take n := List.take_add
/-- A reader R that was fed the first bytes, piece by piece, since the world w3. -/
structure CutInv (b R : Nat) (s : List UInt8) (w3 V : World) (q : Option Addr) (n c : Nat) (F : Int) (at_ : Nat) : Prop where
  keeps : Keeps (fun k => k = R) w3 V
  err : F = if (parse (s.take at_)).2.1 = true then 9 else 0
  ex : ∃ hv T, Rdr b V R hv (parse (s.take at_)).2.2 (parse (s.take at_)).2.1 ∧ (∀ g, hv.ownBlock = some g → w3.heap.size ≤ g) ∧ RowL w3.heap.size (fun k => w3.heap.size ≤ k) (Ft R hv) V (.slice q n c) T ∧ n = T.length ∧ T.map (·.2.2) = (parse (s.take at_)).1
theorem parse_nil : parse [] = ([], false, []) := rfl
theorem CutInv.start {b R : Nat} (s : List UInt8) {w3 : World} (hR : Rdr b w3 R (.slice none 0 0) [] false) : CutInv b R s w3 w3 none 0 0 0 0 :=
  ⟨Keeps.refl _ _, by rw [List.take_zero, parse_nil]; rfl, .slice none 0 0, [], by rw [List.take_zero, parse_nil]; exact hR, fun g e => (by cases e), RowL.nil _ _ _ _, rfl, by rw [List.take_zero, parse_nil]; rfl⟩
/-- One piece more. -/
theorem CutInv.more {b R at_ k n c n2 c2 c' : Nat} {s : List UInt8} {w3 V V1 V2 : World} {q q2 q' : Option Addr} {hv hv' : Value} {T L : List Ld} (hkeep : Keeps (fun k => k = R) w3 V) (hR : Rdr b V R hv (parse (s.take at_)).2.2 (parse (s.take at_)).2.1) (hnew : ∀ g, hv.ownBlock = some g → w3.heap.size ≤ g)
    (hrow : RowL w3.heap.size (fun k => w3.heap.size ≤ k) (Ft R hv) V (.slice q n c) T) (hn : n = T.length) (hT : T.map (·.2.2) = (parse (s.take at_)).1)
    (hl : RowL V.heap.size (Mine V hv) (Ft R hv') V1 (.slice q2 n2 c2) L) (hn2 : n2 = L.length) (hL : L.map (·.2.2) = (told (parse (s.take at_)).2.1 ((parse (s.take at_)).2.2 ++ (s.drop at_).take k)).1)
    (hR1 : Rdr b V1 R hv' (told (parse (s.take at_)).2.1 ((parse (s.take at_)).2.2 ++ (s.drop at_).take k)).2.2 (told (parse (s.take at_)).2.1 ((parse (s.take at_)).2.2 ++ (s.drop at_).take k)).2.1) (hh : Heir V hv hv') (hk : Keeps (Ft R hv) V V1)
    (hg : V1.grownBy V2 (Value.slice q n c).ownBlock) (hown : V2.ownsRow w3.heap.size 22 1 (.slice q' (n + n2) c') (n + n2) (heads T ++ heads L)) (hht : Heir V1 (.slice q n c) (.slice q' (n + n2) c')) :
    CutInv b R s w3 V2 q' (n + n2) c' (if (told (parse (s.take at_)).2.1 ((parse (s.take at_)).2.2 ++ (s.drop at_).take k)).2.1 = true then 9 else 0) (at_ + k) := by
  have hp : parse (s.take (at_ + k)) = ((parse (s.take at_)).1 ++ (told (parse (s.take at_)).2.1 ((parse (s.take at_)).2.2 ++ (s.drop at_).take k)).1, (told (parse (s.take at_)).2.1 ((parse (s.take at_)).2.2 ++ (s.drop at_).take k)).2) := by
    rw [take_more, told_more]
  have hs3 := hkeep.size
  have hown3 : ∀ g, (Value.slice q n c).ownBlock = some g → w3.heap.size ≤ g := fun g e => (hrow.lt g e).1
  have hj := RowL.join hrow hl hR1 hk hh (fun k x => x.elim (fun x => Nat.le_trans hs3 x) (hnew k)) hg (by rw [← hn, ← hn2]; exact hown) hht
  have hkk : Keeps (fun k => (Value.slice q n c).ownBlock = some k) V1 V2 := ⟨hg.os, hg.tape, hg.output, hg.size, fun k hk hn => hg.block k hk (fun e => hn e.symm)⟩
  have hnot : ∀ g, (Value.slice q n c).ownBlock = some g → ¬ Ft R hv' g := (hrow.keeps hk (fun k x _ => x) (Ft.heir hh)).ownN
  refine ⟨(hkeep.join hk (fun i x hlt => x.elim id (fun e => by have := hnew i e; omega))).join hkk (fun i e hlt => by have := hown3 i e; omega), by rw [hp], hv', T ++ L, ?_, ?_, hj, by rw [List.length_append, hn, hn2], by rw [List.map_append, hT, hL, hp]⟩
  · rw [hp]
    exact hR1.keeps hkk (fun e => hnot R e (.inl rfl)) (fun g e e2 => hnot g e2 (.inr e))
  · intro g e
    rcases hh with hh | hh
    · exact hnew g (hh ▸ e)
    · exact Nat.le_trans hs3 (hh g e)
theorem parse_len : ∀ (n : Nat) (s : List UInt8), s.length ≤ n → (parse s).1.length ≤ s.length := by
  intro n
  induction n with
  | zero =>
    intro s h
    rw [parse_short (by omega)]
    exact Nat.zero_le _
  | succ n ih =>
    intro s h
    by_cases a : s.length < 4
    · rw [parse_short a]; exact Nat.zero_le _
    · cases hb : okN (num4 s) with
      | false => rw [parse_bad (by omega) hb]; exact Nat.zero_le _
      | true =>
        by_cases hl : s.length < 4 + num4 s
        · rw [parse_part (by omega) hb hl]; exact Nat.zero_le _
        · rw [parse_whole (by omega) hb (by omega)]
          have := ih (s.drop (4 + num4 s)) (by rw [List.length_drop]; omega)
          rw [List.length_drop] at this
          simp only [List.length_cons]
          omega
theorem told_len (br : Bool) (s : List UInt8) : (told br s).1.length ≤ s.length := by
  cases br with
  | false => exact parse_len s.length s (Nat.le_refl _)
  | true => exact Nat.zero_le _
/-- The rows of loads that another reader told stand, whatever this one does. -/
theorem RowL.aside {b : Nat} {M N : Nat → Prop} {w V : World} {lv : Value} {L : List Ld} {R : Nat} (h : RowL b M N w lv L) (hR : ∀ g, lv.ownBlock = some g → g ≠ R) (hM : ∀ k, M k → k ≠ R) (hk : Keeps (fun k => k = R) w V) : RowL b M (fun k => k = R) V lv L :=
  (⟨h.own, hR, h.nodup, fun e he => ⟨(h.each e he).1, (h.each e he).2.1, hM _ (h.each e he).1, (h.each e he).2.2.2⟩⟩ : RowL b M (fun k => k = R) w lv L).keeps hk (fun k x _ => x) (fun k x _ => x)
theorem Good.of {w : World} {p : Option Addr} {c : Nat} {bs : List UInt8} (h : Src w (fun _ => False) p bs) (hc : bs.length ≤ c) (hm : c ≤ maxLen) : Good w.heap.size w (p, c, bs) :=
  ⟨fun h0 => by
    obtain ⟨a, e, h1, -, h3⟩ := h h0
    exact ⟨a, e, h1, Nat.not_le.2 h1, h3⟩, hc, hm⟩
theorem Good.piece {B : Nat} {w : World} {a : Addr} {c : Nat} {s : List UInt8} (h : Good B w (some a, c, s)) (at_ k : Nat) (hat : at_ < s.length) : Src w (fun k => B ≤ k) (some (a.add at_)) ((s.drop at_).take k) := by
  have h1 := (h.src.drop at_ h.le).take k
  have hc : ¬ c = at_ := by have := h.le; simp only at this hat; omega
  unfold behind at h1
  rw [if_neg hc] at h1
  exact h1
set_option maxHeartbeats 4000000 in
set_option maxRecDepth 100000 in
theorem frameCuts_any (p0 p1 : Option Addr) (c0 c1 : Nat) (bs : List UInt8) (zs : List Int) (w : World) (h0 : Good w.heap.size w (p0, c0, bs)) (h1 : IntsIn w.heap.size w p1 zs) (hz0 : bs.length ≤ 1048576) (hz1 : zs.length ≤ 1048576) :
    Calls Try.prog 5 #[.slice p0 bs.length c0, .slice p1 zs.length c1] w fun e w' => e = .returned (.bool true) ∧ Below w.heap.size w w' := by
  obtain ⟨n0, hn0⟩ : ∃ n, bs.length = n := ⟨_, rfl⟩
  obtain ⟨n1, hn1⟩ : ∃ n, zs.length = n := ⟨_, rfl⟩
  have hn0z : n0 ≤ 1048576 := by omega
  have hn1z : n1 ≤ 1048576 := by omega
  have hc0 : n0 ≤ c0 := by have := h0.le; simp only at this; omega
  rw [hn0, hn1]
  have HN0 := Lib.hid hn0
  have HN1 := Lib.hid hn1
  have H0 := Lib.hid h0
  have H1 := Lib.hid h1
  clear h0 h1 hz0 hz1 hn0 hn1
  go_enter Try.func5, Try.ntmps5
  go_wp2_with fail
  refine (new_any _).mono ?_
  rintro e w1 ⟨rfl, hw1⟩
  have HW1 := Lib.hid hw1
  clear hw1
  go_wp2_with fail
  refine (new_any _).mono ?_
  rintro e w2 ⟨rfl, hw2⟩
  have hR1 : Rdr w.heap.size w1 w.heap.size (.slice none 0 0) [] false := by rw [HW1.out]; exact Rdr.new w _ (Nat.le_refl _)
  have hl1 : Below w.heap.size w w1 := by rw [HW1.out]; exact (Below.refl _ w).alloc (Nat.le_refl _) _
  have hk12 : Keeps (fun _ => False) w1 w2 := by rw [hw2]; exact (Keeps.refl (fun _ => False) w1).alloc _
  have hR12 : Rdr w.heap.size w2 w.heap.size (.slice none 0 0) [] false := hR1.keeps hk12 (fun f => f) (fun _ _ f => f)
  have hR2 : Rdr w.heap.size w2 w1.heap.size (.slice none 0 0) [] false := by rw [hw2]; exact Rdr.new w1 _ hl1.size
  have hl2 : Below w.heap.size w w2 := by rw [hw2]; exact hl1.alloc hl1.size _
  have hlt1 : w.heap.size < w1.heap.size := hR1.lt
  have hlt2 : w1.heap.size < w2.heap.size := hR2.lt
  have HLT1 := Lib.hid hlt1
  have HLT2 := Lib.hid hlt2
  have FX := Lib.hid (feed_any w.heap.size w.heap.size (.slice none 0 0) [] bs false p0 c0 w2 hR12 (fun h => by cases h) ((H0.out.low hl2).for_rdr hR12) (by rw [HN0.out]; exact hc0) H0.out.max .nil hl2.size (by rw [List.nil_append, HN0.out]; omega))
  rw [told_start, HN0.out] at FX
  have HL2 := Lib.hid hl2
  have HR2 := Lib.hid hR2
  have HR12 := Lib.hid hR12
  clear hR1 hl1 hk12 hR12 hR2 hl2 hlt1 hlt2 hw2
  go_wp2_with fail
  refine FX.out.mono ?_
  rintro e w3 ⟨q3, n3, c3, L, hv3, rfl, hn3, hrow3, hmap3, hR3, hh3, hk3⟩
  have hne3 : ¬ Ft w.heap.size (.slice none 0 0) w1.heap.size := fun h => h.elim (fun e => by have := HLT1.out; omega) (fun e => by cases e)
  have HL3 := Lib.hid (HL2.out.trans (hk3.below HR12.out.ft_ge HL2.out.size))
  have HY3 : Hid (Rdr w.heap.size w3 w1.heap.size (.slice none 0 0) [] false) := Lib.hid (HR2.out.keeps hk3 hne3 (fun g e _ => by cases e))
  have HR3 := Lib.hid hR3
  have HNE3 : Hid (∀ g, hv3.ownBlock = some g → w2.heap.size ≤ g) := Lib.hid (fun g e => hh3.elim (fun h => by rw [h] at e; cases e) (fun h => h g e))
  have HROW3 := Lib.hid hrow3
  have HMAP3 := Lib.hid hmap3
  have HN3 := Lib.hid hn3
  have HSZ3 := Lib.hid hk3.size
  clear hR3 hrow3 hmap3 hn3 hk3 hne3 hh3
  obtain ⟨E, hE⟩ : ∃ E : Int, (if (parse bs).2.1 = true then (9 : Int) else 0) = E := ⟨_, rfl⟩
  rw [hE]
  have HE := Lib.hid hE
  clear hE
  go_wp2
  go_loopw [9, 10, 11, 12] (fun t f i a wr => ∃ (q : Option Addr) (m c : Nat) (F : Int) (j at_ : Nat), t = .slice q m c ∧ f = .int .i64 F ∧ i = .int .i64 (j : Int) ∧ a = .int .i64 (at_ : Int) ∧ j ≤ at_ ∧ at_ ≤ n0 ∧ Hid (CutInv w.heap.size w1.heap.size bs w3 wr q m c F at_)) (fun _ _ _ a _ => n0 - (intOf a).toNat)
  case atStart => exact ⟨none, 0, 0, 0, 0, 0, rfl, rfl, rfl, rfl, by omega, by omega, Lib.hid (CutInv.start bs HY3.out)⟩
  case round =>
    obtain ⟨q, m, c, F, j, at_, rfl, rfl, rfl, rfl, hj, hat, HI⟩ := hrel
    by_cases hlt : at_ < n0
    · have hai : (at_ : Int) < (n0 : Int) := by omega
      have hjz : (j : Int) < 1048576 := by omega
      obtain ⟨hkeep, herr, hv, T, hRy, hnew, hrowT, hm, hT⟩ := HI.out
      have hlowV : Below w.heap.size w wr := HL3.out.trans (hkeep.below (fun k e => by rw [e]; exact Nat.le_of_lt HLT1.out) HL3.out.size)
      obtain ⟨a, ha, -⟩ := H0.out.src (by simp only; rw [HN0.out]; omega)
      simp only at ha
      subst ha
      have hG := H0.out.low hlowV
      have PC := Lib.hid (piece_any p1 c1 j (n0 - at_) zs _ wr (H1.out.low hlowV) (by rw [HN1.out]; exact hn1z) (by omega) (by omega) (by omega))
      have e4 : ((n0 - at_ : Nat) : Int) = (n0 : Int) - (at_ : Int) := by omega
      rw [HN1.out, e4] at PC
      have HG := Lib.hid hG
      have HRY := Lib.hid hRy
      have HNEW := Lib.hid hnew
      have HROWT := Lib.hid hrowT
      have HM := Lib.hid hm
      have HT := Lib.hid hT
      have HKEEP := Lib.hid hkeep
      have HLV := Lib.hid hlowV
      clear hkeep herr hRy hnew hrowT hm hT hlowV hG e4
      go_wp2_with fail
      refine PC.out.mono ?_
      rintro e w4 ⟨r, rfl, hr1, hr2, hw4⟩
      subst w4
      have hpl : ((bs.drop at_).take r).length = r := by rw [List.length_take, List.length_drop, HN0.out]; omega
      have hrest := parse_rest (bs.take at_).length (bs.take at_) (Nat.le_refl _)
      have FC := Lib.hid (feed_any w.heap.size w1.heap.size hv _ ((bs.drop at_).take r) _ (some (a.add at_)) (c0 - at_) wr HRY.out hrest.2 ((HG.out.piece at_ r (by rw [HN0.out]; exact hlt)).keeps (Keeps.refl (fun _ => False) wr) (fun _ f _ => f.elim) (fun k hk _ => HRY.out.ft_ge k hk)) (by rw [hpl]; omega) (by have := HG.out.max; simp only at this; omega) hrest.1 HLV.out.size (by rw [List.length_append, hpl]; have := hrest.1.len; omega))
      rw [hpl] at FC
      have HPL := Lib.hid hpl
      have HPART := Lib.hid hrest.1.len
      have hca : ¬ c0 = at_ := by omega
      have hca2 : at_ + r ≤ c0 := by omega
      have hri : (at_ : Int) + (r : Int) ≤ (c0 : Int) := by omega
      clear hpl hrest
      go_wp2_with fail
      refine FC.out.mono ?_
      rintro e w5 ⟨q5, n5, c5, L5, hv5, rfl, hn5, hrow5, hmap5, hR5, hh5, hk5⟩
      have HF := Lib.hid (fun V2 q' c' hg hown hht => CutInv.more (V2 := V2) (q' := q') (c' := c') HKEEP.out HRY.out HNEW.out HROWT.out HM.out HT.out hrow5 hn5 hmap5 hR5 hh5 hk5 hg hown hht)
      have hown5 : w5.ownsRow wr.heap.size 22 1 (.slice q5 n5 c5) n5 (heads L5) := by have := hrow5.own; rwa [← hn5] at this
      have hownT : w5.ownsRow w3.heap.size 22 1 (.slice q m c) m (heads T) := by
        have := (HROWT.out.keeps hk5 (fun k x _ => x) (Ft.heir hh5)).own
        rwa [← HM.out] at this
      have HO5 := Lib.hid hown5
      have HOT := Lib.hid hownT
      have hmz : m ≤ 1048576 := by
        have h7 := congrArg List.length HT.out
        rw [List.length_map, ← HM.out] at h7
        have h8 := parse_len _ (bs.take at_) (Nat.le_refl _)
        rw [List.length_take] at h8
        omega
      have hnz : n5 ≤ 1081348 := by
        have h7 := congrArg List.length hmap5
        rw [List.length_map, ← hn5] at h7
        have h8 := told_len (parse (bs.take at_)).2.1 ((parse (bs.take at_)).2.2 ++ (bs.drop at_).take r)
        rw [List.length_append, HPL.out] at h8
        have := HPART.out
        omega
      have HSZ5 : Hid (w3.heap.size ≤ w5.heap.size) := Lib.hid (Nat.le_trans HKEEP.out.size hk5.size)
      obtain ⟨F5, hF5⟩ : ∃ F5 : Int, (if (told (parse (bs.take at_)).2.1 ((parse (bs.take at_)).2.2 ++ (bs.drop at_).take r)).2.1 = true then (9 : Int) else 0) = F5 := ⟨_, rfl⟩
      rw [hF5] at HF ⊢
      clear hn5 hrow5 hmap5 hR5 hh5 hk5 hown5 hownT hF5
      go_wp2_with (at_builtin; go_loud (refine wpList_append_rows rfl (.tmp 54) (.tmp 55) rfl w3.heap.size wr.heap.size (.slice q m c) (.slice q5 n5 c5) m n5 (heads T) (heads L5) rfl rfl HOT.out HO5.out (heads_one _) (by omega) HSZ5.out (fun q' c' w6 ho hg hht => ?_)); have HF6 := Lib.hid (HF.out w6 q' c' hg ho hht); clear ho hg hht)
      exact ⟨⟨q', m + n5, c', F5, j + 1, at_ + r, rfl, rfl, by go_num, by go_num, by omega, by omega, HF6⟩, by simp [intOf]; omega⟩
    · have hai : ¬ (at_ : Int) < (n0 : Int) := by omega
      have hjz : (j : Int) ≤ 1048576 := by omega
      obtain ⟨hkeep, herr, hv, T, hRy, hnew, hrowT, hm, hT⟩ := HI.out
      have hall : bs.take at_ = bs := List.take_of_length_le (by rw [HN0.out]; omega)
      rw [hall] at herr hRy hT
      have hEF : F = E := by rw [herr, HE.out]
      subst hEF
      have hne : ∀ k, w2.heap.size ≤ k → k ≠ w1.heap.size := fun k h e => by have := HLT2.out; omega
      have hrowX : RowL w2.heap.size (Mine w2 (.slice none 0 0)) (fun k => k = w1.heap.size) wr (.slice q3 n3 c3) L := HROW3.out.aside (fun g e => hne g (HROW3.out.lt g e).1) (fun k x => x.elim (hne k) (fun e => by cases e)) hkeep
      have hXR : Rdr w.heap.size wr w.heap.size hv3 (parse bs).2.2 (parse bs).2.1 := HR3.out.keeps hkeep (fun e => by have := HLT1.out; omega) (fun g e => hne g (HNE3.out g e))
      have hlowV : Below w.heap.size w wr := HL3.out.trans (hkeep.below (fun k e => by rw [e]; exact Nat.le_of_lt HLT1.out) HL3.out.size)
      have hLT : L.map (·.2.2) = T.map (·.2.2) := by rw [HMAP3.out, hT]
      have hnn : n3 = m := by
        have h7 := congrArg List.length hLT
        rw [List.length_map, List.length_map] at h7
        rw [HN3.out, hm, h7]
      subst hnn
      have hnz : n3 ≤ 1048576 := by
        have h7 := congrArg List.length HMAP3.out
        rw [List.length_map, ← HN3.out] at h7
        have h8 := parse_len _ bs (Nat.le_refl _)
        rw [HN0.out] at h8
        omega
      have SC := Lib.hid (same_any q3 q n3 c3 c (L.map arL) (T.map arL) wr hrowX.rd hrowT.rd (by rw [List.length_map, HN3.out]) (by rw [List.length_map, ← hm]) (by rw [List.map_map, List.map_map]; exact hLT) (by omega))
      have HXR := Lib.hid hXR
      have HYR := Lib.hid hRy
      have HLV := Lib.hid hlowV
      clear hkeep herr hRy hnew hrowT hm hT hall hne hrowX hXR hlowV hLT
      go_wp2_with fail
      refine SC.out.mono ?_
      rintro e w4 ⟨rfl, hb4⟩
      have HX4 := Lib.hid (HXR.out.keeps (Keeps.of_below (X := fun _ => False) hb4) (fun f => f) (fun _ _ f => f))
      have HY4 := Lib.hid (HYR.out.keeps (Keeps.of_below (X := fun _ => False) hb4) (fun f => f) (fun _ _ f => f))
      have HL4 := Lib.hid (HLV.out.trans (hb4.mono HLV.out.size))
      clear hb4
      obtain ⟨hl, hhl⟩ : ∃ m, (parse bs).2.2.length = m := ⟨_, rfl⟩
      obtain ⟨bb, hbb⟩ : ∃ m, (parse bs).2.1 = m := ⟨_, rfl⟩
      have C1 := held_any _ _ _ _ _ _ HX4.out
      have C2 := held_any _ _ _ _ _ _ HY4.out
      have C3 := broken_any _ _ _ _ _ _ HX4.out
      have C4 := broken_any _ _ _ _ _ _ HY4.out
      rw [hhl] at C1 C2
      rw [hbb] at C3 C4
      have HC1 := Lib.hid C1
      have HC2 := Lib.hid C2
      have HC3 := Lib.hid C3
      have HC4 := Lib.hid C4
      clear C1 C2 C3 C4 hhl hbb
      go_wp2_with fail
      refine HC1.out.mono ?_
      rintro e w5 ⟨rfl, hw5⟩
      subst w5
      go_wp2_with fail
      refine HC2.out.mono ?_
      rintro e w5 ⟨rfl, hw5⟩
      subst w5
      go_wp2_with fail
      refine HC3.out.mono ?_
      rintro e w5 ⟨rfl, hw5⟩
      subst w5
      go_wp2_with fail
      refine HC4.out.mono ?_
      rintro e w5 ⟨rfl, hw5⟩
      subst w5
      go_wp2_with fail
      refine (works_any _).mono ?_
      rintro e w9 ⟨rfl, hb9⟩
      have HL9 := Lib.hid (HL4.out.trans (hb9.mono HL4.out.size))
      clear hb9
      go_wp2
      go_ret
      exact ⟨rfl, HL9.out⟩
end Fr
end Go.Proofs.Ytbejacmbbkdbnaa
