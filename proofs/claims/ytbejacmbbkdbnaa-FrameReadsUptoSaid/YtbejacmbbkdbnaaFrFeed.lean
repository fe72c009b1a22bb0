/- Frame: Feed. -/
import Derived.Test.YtbejacmbbkdbnaaFrRow
import Derived.WalkMore
namespace Go.Proofs.Ytbejacmbbkdbnaa
open Go.RowKit
set_option linter.unusedVariables false
set_option linter.unusedSimpArgs false
namespace Fr
/-- What a reader tells of bytes: broken or not. -/
def told (br : Bool) (s : List UInt8) : List (List UInt8) × Bool × List UInt8 := if br then ([], true, []) else parse s
/-- The blocks that a call has made, and the row that the reader had. -/
def Mine (w : World) (hv : Value) : Nat → Prop := fun k => w.heap.size ≤ k ∨ hv.ownBlock = some k
/-- What Feed comes to. -/
def FeedPost (b R : Nat) (hv : Value) (w : World) (r : List (List UInt8) × Bool × List UInt8) (e : Ending) (w' : World) : Prop :=
  ∃ (q : Option Addr) (n c : Nat) (L : List Ld) (hv' : Value), e = .returned (.tuple #[.slice q n c, .int .i64 (if r.2.1 then 9 else 0)]) ∧ n = L.length ∧ RowL w.heap.size (Mine w hv) (Ft R hv') w' (.slice q n c) L ∧ L.map (·.2.2) = r.1 ∧ Rdr b w' R hv' r.2.2 r.2.1 ∧ Heir w hv hv' ∧ Keeps (Ft R hv) w w'
structure FeedInv (b R : Nat) (hv0 : Value) (s0 : List UInt8) (c0 : Nat) (w V : World) (p : Option Addr) (n c : Nat) (lv : Value) : Prop where
  keeps : Keeps (Ft R hv0) w V
  le : n ≤ c
  lec : c ≤ c0
  ex : ∃ hv held bs L, Rdr b V R hv held false ∧ Heir w hv0 hv ∧ Src V (FtZ (fun k => w.heap.size ≤ k) R hv) p bs ∧ bs.length = n ∧ Part held ∧ RowL w.heap.size (Mine w hv0) (Ft R hv) V lv L ∧ parse s0 = (L.map (·.2.2) ++ (parse (held ++ bs)).1, (parse (held ++ bs)).2) ∧ L.length * 5 + held.length + n ≤ s0.length
theorem lit_one (V : World) (x : Value) : ∀ j u, ([x] : List Value)[j]? = some u → (V.alloc (.cells #[x] 22)).cell? ((⟨V.heap.size, 0, none⟩ : Addr).add j) = some u := by
  intro j u hj
  match j, hj with
  | 0, hj => simp at hj; subst hj; simp [Addr.add]
  | (j + 1), hj => simp at hj
theorem lit_slice (p : Option Addr) (n c : Nat) : ∀ u ∈ ([Value.slice p n c] : List Value), u.oneCell' = true := by
  intro u hu; simp at hu; subst hu; rfl
def lenV : Value → Nat
  | .slice _ n _ => n
  | _ => 0
theorem rdr_far {b R B : Nat} {M : Nat → Prop} {w2 w3 : World} {hv2 lv : Value} {held : List UInt8} {br : Bool} {L : List Ld} {o : Obj} (hR : Rdr b w2 R hv2 held br) (hrow : RowL B M (Ft R hv2) w2 lv L) (hg : (w2.alloc o).grownBy w3 lv.ownBlock) :
    Rdr b w3 R hv2 held br ∧ Keeps (fun k => lv.ownBlock = some k) w2 w3 := by
  have hk0 : Keeps (fun _ => False) w2 (w2.alloc o) := (Keeps.refl (fun _ => False) w2).alloc o
  have hk1 : Keeps (fun k => lv.ownBlock = some k) (w2.alloc o) w3 := ⟨hg.os, hg.tape, hg.output, hg.size, fun k hk hn => hg.block k hk (fun e => hn e.symm)⟩
  have hk : Keeps (fun k => lv.ownBlock = some k) w2 w3 := (hk0.mono (Y := fun k => lv.ownBlock = some k) (fun k f _ => f.elim)).join hk1 (fun k e _ => e)
  exact ⟨hR.keeps hk (fun e => hrow.ownN R e (.inl rfl)) (fun g e e2 => hrow.ownN g e2 (.inr e)), hk⟩
/-- A whole frame's load is told: the loop goes on. -/
theorem feed_step {b R g m2 cp2 g1 cap nL n2 c2 c cL : Nat} {hv : Value} {s0 held2 bs2 : List UInt8} {w w2 w3 : World} {p2 qL : Option Addr} {L1 : List Ld} (hR2 : Rdr b w2 R (.slice (some ⟨g, 0, none⟩) m2 cp2) held2 false)
    (hrow : RowL w.heap.size (Mine w hv) (Ft R (.slice (some ⟨g, 0, none⟩) m2 cp2)) w2 (.slice qL nL cL) L1) (hnL : L1.length = nL) (hg : (w2.alloc (.cells #[.slice (some ⟨g, 4, none⟩) (m2 - 4) (cp2 - 4)] 22)).grownBy w3 (Value.slice qL nL cL).ownBlock)
    (ho : w3.ownsRow w.heap.size 22 1 (.slice (some ⟨g1, 0, none⟩) (nL + 1) cap) (nL + 1) (heads L1 ++ [.slice (some ⟨g, 4, none⟩) (m2 - 4) (cp2 - 4)]))
    (hl : (Value.slice qL nL cL).ownBlock = some g1 ∨ g1 = (w2.alloc (.cells #[.slice (some ⟨g, 4, none⟩) (m2 - 4) (cp2 - 4)] 22)).heap.size)
    (hh2 : Heir w hv (.slice (some ⟨g, 0, none⟩) m2 cp2)) (hs2 : Src w2 (FtZ (fun k => w.heap.size ≤ k) R (.slice (some ⟨g, 0, none⟩) m2 cp2)) p2 bs2) (hk2 : Keeps (Ft R hv) w w2)
    (hli : Lies w2 g (held2.drop 4)) (hx : (held2.drop 4).length = m2 - 4) (hnw : parse s0 = ((L1 ++ [(g, cp2 - 4, held2.drop 4)]).map (·.2.2) ++ (parse bs2).1, (parse bs2).2)) (hcnt : (nL + 1) * 5 + n2 ≤ s0.length) (hbs : bs2.length = n2) (hle : n2 ≤ c2) (hlc : c2 ≤ c) :
    FeedInv b R hv s0 c w (w3.setCell ⟨R, 0, none⟩ (.slice none 0 0)) p2 n2 c2 (.slice (some ⟨g1, 0, none⟩) (nL + 1) cap) := by
  obtain ⟨hR3, hk3⟩ := rdr_far hR2 hrow hg
  obtain ⟨hR4, hk4⟩ := hR3.let_go
  have hsz := hk2.size
  have hown : ∀ k, (Value.slice qL nL cL).ownBlock = some k → w.heap.size ≤ k := fun k e => (hrow.lt k e).1
  have hrow3 : RowL w.heap.size (Mine w hv) (Ft R (.slice none 0 0)) w3 (.slice (some ⟨g1, 0, none⟩) (nL + 1) cap) (L1 ++ [(g, cp2 - 4, held2.drop 4)]) := by
    subst hnL
    refine RowL.snoc hrow hg (by unfold headV; rw [hx]; exact ho) (hl.imp id (fun e => by rw [e]; simp)) ?_ (.inr rfl) hli (fun k e => e.elim .inl (fun e => by cases e)) (fun e => e.elim (fun e => hR2.ne (by rw [← e]; rfl)) (fun e => by cases e)) (fun k e => e.elim (fun e => by rw [e]; exact hR2.lt) (fun e => by cases e))
    rcases hh2 with h | h
    · exact .inr (by rw [← h]; rfl)
    · exact .inl (h g rfl)
  have hk24 : Keeps (fun k => (Value.slice qL nL cL).ownBlock = some k ∨ k = R) w2 (w3.setCell ⟨R, 0, none⟩ (.slice none 0 0)) :=
    (hk3.mono (Y := fun k => (Value.slice qL nL cL).ownBlock = some k ∨ k = R) (fun k e _ => .inl e)).join hk4 (fun k e _ => .inr e)
  refine ⟨hk2.join hk24 (fun k e hlt => e.elim (fun e => by have := hown k e; omega) .inl), hle, hlc, .slice none 0 0, [], bs2, L1 ++ [(g, cp2 - 4, held2.drop 4)], hR4, .inr (fun g e => by cases e), ?_, hbs, .nil, hrow3.keeps hk4 (fun k e _ => .inl e) (fun k e _ => e), ?_, ?_⟩
  · refine hs2.keeps hk24 (fun k e _ => ?_) (fun k e _ => ?_)
    · rcases e with e | e
      · exact .inr (hown k e)
      · exact .inl (.inl e)
    · rcases e with (e | e) | e
      · exact .inl (.inl e)
      · cases e
      · exact .inr e
  · rw [List.nil_append]
    exact hnw
  · rw [List.length_append, hnL]
    simp only [List.length_cons, List.length_nil]
    omega
set_option maxRecDepth 100000 in
theorem feed_broken (b R : Nat) (hv : Value) (s : List UInt8) (p : Option Addr) (n c : Nat) (w : World) (hR : Rdr b w R hv [] true) :
    Calls Try.prog 12 #[.pointer (some ⟨R, 0, none⟩), .slice p n c] w (FeedPost b R hv w (told true s)) := by
  have HR := Lib.hid hR
  obtain ⟨c0, c1, f0, f1⟩ := hR.cell
  clear hR
  go_enter Try.func12, Try.ntmps12
  go_wp2
  go_step3
  go_wp2
  try rw [Exit.noGoto_ret]
  go_ret2
  exact ⟨none, 0, 0, [], hv, rfl, rfl, RowL.nil _ _ _ _, rfl, HR.out, Heir.refl _ _, Keeps.refl _ _⟩
set_option maxHeartbeats 1000000 in
set_option maxRecDepth 100000 in
theorem feed_open (b R : Nat) (hv : Value) (held bs : List UInt8) (p : Option Addr) (c : Nat) (w : World) (hR : Rdr b w R hv held false) (hs : Src w (Ft R hv) p bs) (hc : bs.length ≤ c) (hcm : c ≤ maxLen) (hp : Part held) (hb : b ≤ w.heap.size) (hz : (held ++ bs).length ≤ 1099511627776) :
    Calls Try.prog 12 #[.pointer (some ⟨R, 0, none⟩), .slice p bs.length c] w (FeedPost b R hv w (told false (held ++ bs))) := by
  obtain ⟨i0, hi0, hz0, hz1, hz2⟩ := info_parts infoS
  obtain ⟨c0, c1, f0, f1⟩ := hR.cell
  have hsz : Src w (FtZ (fun k => w.heap.size ≤ k) R hv) p bs := fun h0 => by
    obtain ⟨a, e, hb', hx, hc'⟩ := hs h0
    exact ⟨a, e, hb', fun h => h.elim hx (fun h => by omega), hc'⟩
  have HI : Hid (FeedInv b R hv (held ++ bs) c w w p bs.length c (.slice none 0 0)) := Lib.hid ⟨Keeps.refl _ _, hc, Nat.le_refl _, hv, held, bs, [], hR, Heir.refl _ _, hsz, rfl, hp, RowL.nil _ _ _ _, by simp, by simp⟩
  obtain ⟨n, hn⟩ : ∃ n, bs.length = n := ⟨_, rfl⟩
  obtain ⟨s0, hs0⟩ : ∃ s, held ++ bs = s := ⟨_, rfl⟩
  rw [hn] at HI ⊢
  rw [hs0] at HI hz ⊢
  have HZ := Lib.hid hz
  have HCM := Lib.hid hcm
  have HB := Lib.hid hb
  clear hR hs hsz hc hp hn hs0 hz hcm hb
  go_enter Try.func12, Try.ntmps12
  go_wp2
  go_step3
  go_wp2
  go_step3
  go_wp2
  clear c0 c1 f0 f1
  go_loopw [1, 6] (fun t u wr => ∃ (p' : Option Addr) (n' c' : Nat), t = .slice p' n' c' ∧ Hid (FeedInv b R hv s0 c w wr p' n' c' u)) (fun t _ _ => lenV t)
  case atStart => exact ⟨_, _, _, rfl, HI⟩
  case round =>
    rename_i u wr
    obtain ⟨p1, n1, c1, rfl, HV⟩ := hrel
    obtain ⟨hkeep, hle, hlec, hv1, held1, bs1, L1, hR1, hh1, hs1, hn1, hp1, hrow1, hpar, hcnt⟩ := HV.out
    have hbw : b ≤ wr.heap.size := Nat.le_trans HB.out hkeep.size
    have NC := Lib.hid (next_any _ b R hv1 held1 bs1 false p1 c1 wr hR1 hs1 (by omega) (by have := HCM.out; omega) hp1 hbw)
    rw [hn1] at NC
    obtain ⟨qL, cL, hu, -, -, gL⟩ := hrow1.shape
    subst hu
    have HKE := Lib.hid hkeep
    have HH1 := Lib.hid hh1
    have HROW := Lib.hid hrow1
    have HPAR := Lib.hid hpar
    have HCNT := Lib.hid hcnt
    have HP1 := Lib.hid hp1
    have HN1 := Lib.hid hn1
    have HLC : Hid (c1 ≤ c) := Lib.hid hlec
    have HGL := Lib.hid gL
    clear hkeep hh1 hrow1 hpar hcnt hp1 hR1 hs1 hn1 hle hlec hbw gL
    obtain ⟨nL, hnL⟩ : ∃ n, L1.length = n := ⟨_, rfl⟩
    have HNL := Lib.hid hnL
    rw [hnL] at HROW ⊢
    clear hnL
    go_wp2_with fail
    refine NC.out.mono ?_
    rintro e w2 ⟨st, p2, n2, c2, rfl, k2, hle2, hlec2, hv2, held2, bs2, hR2, hh2, hs2, hn2, hrel⟩
    have HKE2 : Hid (Keeps (Ft R hv) w w2) := Lib.hid (HKE.out.join k2 (Ft.heir HH1.out))
    have HH2 := Lib.hid (HH1.out.trans hh2 HKE.out.size)
    have HROW2 := Lib.hid (HROW.out.keeps k2 (fun k h _ => h) (Ft.heir hh2))
    have HR2 := Lib.hid hR2
    have HS2 := Lib.hid hs2
    clear k2 hh2 hs2
    rcases hrel with ⟨rfl, rfl, rfl, hpt⟩ | ⟨rfl, h4, hbad, hl⟩ | ⟨rfl, h4, hgood, hlen, hhe, hbs⟩
    · have HF : Hid (FeedPost b R hv w (told false s0) (.returned (.tuple #[.slice qL nL cL, .int .i64 0])) w2) := Lib.hid (by
        have hq : told false s0 = (L1.map (·.2.2), false, held1 ++ bs1) := by
          unfold told
          rw [if_neg (by decide), HPAR.out, parse_of_part hpt]
          simp
        rw [hq]
        exact ⟨qL, nL, cL, L1, hv2, rfl, HNL.out.symm, HROW2.out, rfl, HR2.out, HH2.out, HKE2.out⟩)
      clear hpt hR2 hn2 hle2 hlec2 HV
      go_wp2
      try rw [Exit.noGoto_ret]
      go_ret2
      exact HF.out
    · have HF : Hid (FeedPost b R hv w (told false s0) (.returned (.tuple #[.slice qL nL cL, .int .i64 9])) ((w2.setCell ⟨R, 0, none⟩ (.slice none 0 0)).setCell ⟨R, 1, none⟩ (.bool true))) := Lib.hid (by
        have hq : told false s0 = (L1.map (·.2.2), true, []) := by
          unfold told
          rw [if_neg (by decide), HPAR.out, parse_bad h4 hbad]
          simp
        rw [hq]
        obtain ⟨r1, r2⟩ := hR2.break_
        exact ⟨qL, nL, cL, L1, .slice none 0 0, rfl, HNL.out.symm, HROW2.out.keeps r2 (fun k h _ => .inl h) (fun k h _ => h.elim .inl (fun e => by cases e)), rfl, r1, HH2.out.trans (.inr fun g e => by cases e) HKE2.out.size, HKE2.out.join r2 (fun k h _ => .inl h)⟩)
      obtain ⟨c0, c1', f0, f1⟩ := hR2.cell
      clear hbad hl h4 hR2 hn2 hle2 hlec2 HV
      go_wp2
      try rw [Exit.noGoto_ret]
      go_ret2
      exact HF.out
    · obtain ⟨q2, cp2, hq2, g1, g2, g3⟩ := hR2.buf.shape
      subst hq2
      have hm2 : held2.length = 4 + num4 (held1 ++ bs1) := by rw [hhe, List.length_take]; omega
      have hN1 := (okN_true.1 hgood).1
      obtain ⟨g, rfl⟩ := g3 (by omega)
      obtain ⟨m2, hmm⟩ : ∃ m, held2.length = m := ⟨_, rfl⟩
      rw [hmm] at hm2 g1
      rw [hmm] at HR2 HROW2 HS2 HH2 hR2
      obtain ⟨c0, c1', f0, f1⟩ := hR2.cell
      have hm4 : 4 ≤ m2 := by omega
      have hcp4 : ¬ cp2 = 4 := by omega
      have hcp5 : 4 ≤ cp2 := by omega
      have hmc : m2 ≤ cp2 := g1
      have hx : (held2.drop 4).length = m2 - 4 := by rw [List.length_drop, hmm]
      have HX := Lib.hid hx
      have HLI := Lib.hid (Buf.lies hR2.buf (by omega))
      have hn2' : n2 + (4 + num4 (held1 ++ bs1)) = held1.length + n1 := by
        have h7 := congrArg List.length hbs
        rw [List.length_drop, List.length_append, HN1.out, hn2] at h7
        rw [List.length_append, HN1.out] at hlen
        omega
      have hlt : n2 < n1 := by
        by_cases h44 : held1.length < 4
        · omega
        · rcases HP1.out with hp | ⟨hp1, hp2⟩
          · omega
          · have : num4 (held1 ++ bs1) = num4 held1 := num4_append (by omega)
            omega
      have hcnt := HCNT.out
      have hnL := HNL.out
      have HCNT2 : Hid ((nL + 1) * 5 + n2 ≤ s0.length) := Lib.hid (by omega)
      have hpw := parse_whole h4 hgood hlen
      have HNW : Hid (parse s0 = ((L1 ++ [(g, cp2 - 4, held2.drop 4)]).map (·.2.2) ++ (parse bs2).1, (parse bs2).2)) := Lib.hid (by
        rw [HPAR.out, hpw, hbs, hhe, List.map_append, List.append_assoc]
        simp [List.drop_take])
      have hnLz : nL * 5 ≤ s0.length := by omega
      have HNLZ : Hid (nL ≤ 219902325555) := Lib.hid (by have := HZ.out; omega)
      have hR7 := hR2
      have hlt2 := hR2.lt
      have HBS := Lib.hid hn2
      have hl2c : c2 ≤ c := by have := HLC.out; omega
      have HOWN := HROW2.out.own
      rw [HNL.out] at HOWN
      clear hR2 g1 g2 g3 HV h4 hgood hlen hhe hbs hm2 hx hN1 hn2' hcnt hnL hpw hnLz hmm
      go_wp2_with (at_builtin; go_loud (refine wpList_append_lies _ rfl (.tmp 34) (.tmp 40) 28 rfl w.heap.size 22 i0 (.slice none 0 0) 1 24 Try.underlying28 hi0 hz0 hz1 hz2 rfl (by decide) (.slice qL nL cL) nL (heads L1) rfl (World.ownsRow.alloc HOWN _) ⟨w2.heap.size, 0, none⟩ 1 1 [_] rfl rfl (lit_one w2 _) (lit_slice _ _ _) (by omega) (by have := HNLZ.out; unfold maxLen; omega) (by have := HNLZ.out; omega) (by have := HKE2.out.size; simp; omega) _ rfl (fun g1 cap w3 ho hg hl _ => ?_); have hc3 := (rdr_far HR2.out HROW2.out hg).1.cell; obtain ⟨d0, d1, e0, e1⟩ := hc3))
      exact ⟨⟨p2, n2, c2, rfl, Lib.hid (feed_step HR2.out HROW2.out HNL.out hg ho hl HH2.out HS2.out HKE2.out HLI.out HX.out HNW.out HCNT2.out HBS.out hle2 hl2c)⟩, hlt⟩
end Fr
end Go.Proofs.Ytbejacmbbkdbnaa
