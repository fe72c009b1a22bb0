/- Frame: may, told, next. -/
import Derived.Test.YtbejacmbbkdbnaaFrHold
import Derived.Laws.BitsLemmas
namespace Go.Proofs.Ytbejacmbbkdbnaa
open Go.RowKit
set_option linter.unusedVariables false
set_option linter.unusedSimpArgs false
namespace Fr
theorem may_any (n : Nat) (w : World) (hn : (n : Int) ≤ 9223372036854775807) : Calls Try.prog 18 #[.int .i64 (n : Int)] w fun e w' => e = .returned (.bool (okN n)) ∧ w = w' := by
  have h3 : (1 ≤ n ∧ n ≤ 32768) ∨ n = 0 ∨ 32768 < n := by omega
  rcases h3 with ⟨h1, h2⟩ | rfl | h1
  · rw [okN_true.2 ⟨h1, h2⟩]
    have h1' : 1 ≤ (n : Int) := by omega
    have h2' : (n : Int) ≤ 32768 := by omega
    clear h1 h2
    go_enter Try.func18, Try.ntmps18
    go_wp2
    go_ret
    exact ⟨rfl, rfl⟩
  · rw [okN_false.2 (.inl rfl)]
    go_enter Try.func18, Try.ntmps18
    go_wp2
    go_ret
    exact ⟨rfl, rfl⟩
  · rw [okN_false.2 (.inr h1)]
    have h1' : 1 ≤ (n : Int) := by omega
    have h2' : ¬ (n : Int) ≤ 32768 := by omega
    clear h1
    go_enter Try.func18, Try.ntmps18
    go_wp2
    go_ret
    exact ⟨rfl, rfl⟩
/-- The number that the first bytes tell. -/
def numP (s : List UInt8) : Nat → Nat
  | 0 => 0
  | j + 1 => numP s j * 256 + (s.getD j 0).toNat
theorem numP_four (s : List UInt8) : numP s 4 = num4 s := by simp [numP, num4]
theorem numP_lt (s : List UInt8) : ∀ j, numP s j < 256 ^ j
  | 0 => by simp [numP]
  | j + 1 => by
    have := numP_lt s j
    have h := (s.getD j 0).toNat_lt
    unfold numP
    rw [Nat.pow_succ]
    omega
theorem num4_lt (s : List UInt8) : num4 s < 4294967296 := by
  have := numP_lt s 4
  rw [numP_four] at this
  exact this
theorem Buf.byteAt {b g m cp : Nat} {w : World} {held : List UInt8} (h : Buf b w (.slice (some ⟨g, 0, none⟩) m cp) held) (j : Nat) (hj : j < held.length) : w.cell? ⟨g, j, none⟩ = some (.int .u8 ((held.getD j 0).toNat : Int)) := by
  have h1 := World.ownsRow.cells h (g := g) rfl j (.int .u8 ((held.getD j 0).toNat : Int)) (by
    unfold Lib.byteCells
    rw [List.getElem?_map, List.getElem?_eq_getElem hj]
    simp [List.getD, List.getElem?_eq_getElem hj])
  rwa [Addr.add_lit, Nat.zero_add] at h1
set_option maxRecDepth 100000 in
theorem told_any (b g m cp : Nat) (held : List UInt8) (w : World) (h : Buf b w (.slice (some ⟨g, 0, none⟩) m cp) held) (hm : held.length = m) (h4 : 4 ≤ m) (hcp : m ≤ cp) (hcm : cp ≤ maxLen) :
    Calls Try.prog 22 #[.slice (some ⟨g, 0, none⟩) m cp] w fun e w' => e = .returned (.int .i64 (num4 held : Int)) ∧ w = w' := by
  have H := Lib.hid (fun j hj => h.byteAt j hj)
  have HM := Lib.hid hm
  clear h hm
  have h4c : 4 ≤ cp := by omega
  have hcm' : (cp : Int) ≤ 9223372036854775807 := by unfold maxLen at hcm; omega
  go_enter Try.func22, Try.ntmps22
  go_wp2
  go_loopw [3, 9] (fun z i wr => ∃ j : Nat, i = .int .i64 (j : Int) ∧ j ≤ 4 ∧ z = .int .i64 (numP held j : Int) ∧ wr = w) (fun _ i _ => 4 - (intOf i).toNat)
  case atStart => exact ⟨0, rfl, by omega, rfl, rfl⟩
  case round =>
    obtain ⟨j, rfl, hj, rfl, rfl⟩ := hrel
    by_cases hlt : j < 4
    · have hji : (j : Int) < 4 := by omega
      have hc := H.out j (by rw [HM.out]; omega)
      obtain ⟨u, hu⟩ : ∃ u, (held.getD j 0).toNat = u := ⟨_, rfl⟩
      have hu2 := (held.getD j 0).toNat_lt
      obtain ⟨y, hy⟩ : ∃ y, numP held j = y := ⟨_, rfl⟩
      have hq : y < 16777216 := by
        rw [← hy]
        exact Nat.lt_of_lt_of_le (numP_lt held j) (Nat.le_trans (Nat.pow_le_pow_right (by decide) (show j ≤ 3 by omega)) (by decide))
      have HN : Hid (numP held (j + 1) = y * 256 + u) := Lib.hid (by rw [numP, hy, hu])
      rw [hu] at hc hu2
      rw [hy]
      clear hu hy
      have hqi : (y : Int) < 16777216 := by omega
      have hui : (u : Int) < 256 := by omega
      have hor : bits .or .i64 ((y : Int) * 256) (u : Int) = (y : Int) * 256 + (u : Int) := bits_join .i64 63 (by decide) (fun n h0 h1 => by rw [IntKind.wrap_i64]; omega) 8 _ _ (by omega) (by omega) (by omega) (by omega) (by omega) (by omega)
      clear hq hu2
      go_wp2
      refine ⟨⟨j + 1, by go_num, by omega, ?_, trivial⟩, by simp [intOf]; omega⟩
      rw [HN.out]
      go_num
    · have hj4 : j = 4 := by omega
      have HJ := Lib.hid hj4
      have hji : ¬ (j : Int) < 4 := by omega
      clear hj4
      go_wp2
      go_ret
      refine ⟨?_, rfl⟩
      rw [HJ.out, numP_four]
      rfl
/-- What next comes to, of all that came and was not told. -/
def NextRel (s : List UInt8) (st : Nat) (held' bs' : List UInt8) : Prop :=
  (st = 0 ∧ held' = s ∧ bs' = [] ∧ Part s) ∨ (st = 1 ∧ 4 ≤ s.length ∧ okN (num4 s) = false ∧ held'.length ≤ 32772) ∨ (st = 2 ∧ 4 ≤ s.length ∧ okN (num4 s) = true ∧ 4 + num4 s ≤ s.length ∧ held' = s.take (4 + num4 s) ∧ bs' = s.drop (4 + num4 s))
/-- The same, and the blocks Z. -/
def FtZ (Z : Nat → Prop) (R : Nat) (hv : Value) : Nat → Prop := fun k => Ft R hv k ∨ Z k
theorem FtZ.heir {Z : Nat → Prop} {w : World} {R : Nat} {hv hv' : Value} (h : Heir w hv hv') : ∀ k, FtZ Z R hv' k → k < w.heap.size → FtZ Z R hv k := fun k hk hlt => hk.elim (fun x => .inl (Ft.heir h k x hlt)) .inr
structure NextPost (Z : Nat → Prop) (b R : Nat) (hv : Value) (s : List UInt8) (br : Bool) (c : Nat) (w : World) (st : Nat) (p' : Option Addr) (n' c' : Nat) (w' : World) : Prop where
  keeps : Keeps (Ft R hv) w w'
  le : n' ≤ c'
  lec : c' ≤ c
  rest : ∃ hv' held' bs', Rdr b w' R hv' held' br ∧ Heir w hv hv' ∧ Src w' (FtZ Z R hv') p' bs' ∧ bs'.length = n' ∧ NextRel s st held' bs'
theorem Part.len {h : List UInt8} (hp : Part h) : h.length ≤ 32772 := by
  rcases hp with hp | ⟨h1, h2⟩
  · omega
  · have := (okN_true.1 h1).2; omega
theorem cat_cut (held bs : List UInt8) (k : Nat) : held ++ bs = (held ++ bs.take k) ++ bs.drop k := by rw [List.append_assoc, List.take_append_drop]
theorem next_short {held bs : List UInt8} {k1 : Nat} (hk : min (4 - held.length) bs.length = k1) (h : (held ++ bs.take k1).length < 4) : NextRel (held ++ bs) 0 (held ++ bs.take k1) (bs.drop k1) := by
  rw [List.length_append, List.length_take] at h
  have e : k1 = bs.length := by omega
  rw [e, List.take_length, List.drop_length]
  exact .inl ⟨rfl, rfl, rfl, .inl (by rw [List.length_append]; omega)⟩
theorem next_num {held bs : List UInt8} {k1 : Nat} (h : 4 ≤ (held ++ bs.take k1).length) : 4 ≤ (held ++ bs).length ∧ num4 (held ++ bs) = num4 (held ++ bs.take k1) := by
  constructor
  · rw [cat_cut held bs k1, List.length_append]; omega
  · rw [cat_cut held bs k1, num4_append h]
theorem next_bad {held bs : List UInt8} {k1 : Nat} (hp : Part held) (hk : min (4 - held.length) bs.length = k1) (h : 4 ≤ (held ++ bs.take k1).length) (ho : okN (num4 (held ++ bs.take k1)) = false) : NextRel (held ++ bs) 1 (held ++ bs.take k1) (bs.drop k1) := by
  have hn := next_num h
  refine .inr (.inl ⟨rfl, hn.1, by rw [hn.2]; exact ho, ?_⟩)
  have := hp.len
  rw [List.length_append, List.length_take]
  omega
theorem next_le {held bs : List UInt8} {k1 : Nat} (hp : Part held) (hk : min (4 - held.length) bs.length = k1) (h : 4 ≤ (held ++ bs.take k1).length) (ho : okN (num4 (held ++ bs.take k1)) = true) : (held ++ bs.take k1).length ≤ 4 + num4 (held ++ bs.take k1) := by
  rcases hp with hp | ⟨h1, h2⟩
  · rw [List.length_append, List.length_take]; omega
  · by_cases h4 : held.length < 4
    · rw [List.length_append, List.length_take]; omega
    · have e : k1 = 0 := by omega
      rw [e, List.take_zero, List.append_nil] at *
      omega
theorem next_more {held bs : List UInt8} {k1 k2 : Nat} (hp : Part held) (hk : min (4 - held.length) bs.length = k1) (h : 4 ≤ (held ++ bs.take k1).length) (ho : okN (num4 (held ++ bs.take k1)) = true)
    (hk2 : min (4 + num4 (held ++ bs.take k1) - (held ++ bs.take k1).length) (bs.drop k1).length = k2) (hl : ((held ++ bs.take k1) ++ (bs.drop k1).take k2).length < 4 + num4 (held ++ bs.take k1)) :
    NextRel (held ++ bs) 0 ((held ++ bs.take k1) ++ (bs.drop k1).take k2) ((bs.drop k1).drop k2) := by
  have hn := next_num h
  have hle := next_le hp hk h ho
  generalize hA : held ++ bs.take k1 = A at *
  generalize hB : bs.drop k1 = B at *
  have hs : held ++ bs = A ++ B := by rw [← hA, ← hB]; exact cat_cut _ _ _
  rw [List.length_append, List.length_take] at hl
  have e : k2 = B.length := by omega
  rw [e, List.take_length, List.drop_length, hs]
  refine .inl ⟨rfl, rfl, rfl, .inr ⟨?_, ?_⟩⟩
  · rw [← hs, hn.2]; exact ho
  · rw [← hs, hn.2, hs, List.length_append]; omega
theorem next_whole {held bs : List UInt8} {k1 k2 : Nat} (hp : Part held) (hk : min (4 - held.length) bs.length = k1) (h : 4 ≤ (held ++ bs.take k1).length) (ho : okN (num4 (held ++ bs.take k1)) = true)
    (hk2 : min (4 + num4 (held ++ bs.take k1) - (held ++ bs.take k1).length) (bs.drop k1).length = k2) (hl : ¬ ((held ++ bs.take k1) ++ (bs.drop k1).take k2).length < 4 + num4 (held ++ bs.take k1)) :
    NextRel (held ++ bs) 2 ((held ++ bs.take k1) ++ (bs.drop k1).take k2) ((bs.drop k1).drop k2) := by
  have hn := next_num h
  have hle := next_le hp hk h ho
  generalize hA : held ++ bs.take k1 = A at *
  generalize hB : bs.drop k1 = B at *
  have hs : held ++ bs = A ++ B := by rw [← hA, ← hB]; exact cat_cut _ _ _
  rw [List.length_append, List.length_take] at hl
  have e : (A ++ B.take k2).length = 4 + num4 A := by rw [List.length_append, List.length_take]; omega
  have hs2 : A ++ B = (A ++ B.take k2) ++ B.drop k2 := cat_cut A B k2
  refine .inr (.inr ⟨rfl, hn.1, by rw [hn.2]; exact ho, ?_, ?_, ?_⟩)
  · rw [hn.2, hs, List.length_append]; omega
  · rw [hn.2, hs, hs2, ← e, List.take_left]
  · rw [hn.2, hs, hs2, ← e, List.drop_left]
set_option maxRecDepth 100000 in
theorem next_any (Z : Nat → Prop) (b R : Nat) (hv : Value) (held bs : List UInt8) (br : Bool) (p : Option Addr) (c : Nat) (w : World) (hR : Rdr b w R hv held br) (hs : Src w (FtZ Z R hv) p bs) (hc : bs.length ≤ c) (hcm : c ≤ maxLen) (hp : Part held) (hb : b ≤ w.heap.size) :
    Calls Try.prog 19 #[.pointer (some ⟨R, 0, none⟩), .slice p bs.length c] w fun e w' => ∃ (st : Nat) (p' : Option Addr) (n' c' : Nat), e = .returned (.tuple #[.int .i64 (st : Int), .slice p' n' c']) ∧ NextPost Z b R hv (held ++ bs) br c w st p' n' c' w' := by
  obtain ⟨k1, hk1⟩ : ∃ k, min (4 - held.length) bs.length = k := ⟨_, rfl⟩
  have H1 := Lib.hid (hold_any b R hv held bs br p c 4 w hR hs hc hcm (by omega) hp.len hb k1 hk1)
  have hlen := Lib.hid hp.len
  have HS := Lib.hid hs
  have HP := Lib.hid hp
  have HR := Lib.hid hR
  have HC := Lib.hid hc
  have HK1 := Lib.hid hk1
  obtain ⟨n, hn⟩ : ∃ n, bs.length = n := ⟨_, rfl⟩
  rw [hn] at H1 ⊢
  have HN := Lib.hid hn
  clear hR hs hc hp hk1 hn
  go_enter Try.func19, Try.ntmps19
  go_wp2_with fail
  refine H1.out.mono ?_
  rintro e w1 ⟨rfl, hk, hv1, hR1, hh1⟩
  obtain ⟨q1, cp1, hq1, g1, g2, g3⟩ := hR1.buf.shape
  subst hq1
  obtain ⟨m1, hm1⟩ : ∃ m, (held ++ bs.take k1).length = m := ⟨_, rfl⟩
  rw [hm1] at hR1 hh1 g1 g3
  obtain ⟨c0, c1, f0, f1⟩ := hR1.cell
  have HH1 := Lib.hid hh1
  have HR1 := Lib.hid hR1
  have HKE := Lib.hid hk
  have HM1 := Lib.hid hm1
  have HS1 : Hid (Src w1 (FtZ Z R (.slice q1 m1 cp1)) (behind p c k1) (bs.drop k1)) := Lib.hid ((HS.out.keeps hk (fun k h _ => .inl h) (FtZ.heir hh1)).drop k1 HC.out)
  have hnc : n ≤ c := by have := HC.out; have := HN.out; omega
  have hk1n : k1 ≤ n := by have := HK1.out; have := HN.out; omega
  have HNB : Hid ((bs.drop k1).length = n - k1) := Lib.hid (by rw [List.length_drop, HN.out])
  by_cases h4 : m1 < 4
  · have h4i : (m1 : Int) < 4 := by omega
    have HREL := Lib.hid (next_short HK1.out (by rw [HM1.out]; exact h4))
    clear hk hR1 hh1 hm1 g1 g2 g3
    go_wp2
    go_ret2
    exact ⟨0, _, _, _, rfl, HKE.out, by omega, by omega, _, _, _, HR1.out, HH1.out, HS1.out, HNB.out, HREL.out⟩
  · have h4i : ¬ (m1 : Int) < 4 := by omega
    obtain ⟨gq, hgq⟩ := g3 (by omega)
    subst hgq
    have TC := Lib.hid (told_any b gq m1 cp1 (held ++ bs.take k1) w1 hR1.buf hm1 (by omega) g1 g2)
    obtain ⟨N, hN⟩ : ∃ N, num4 (held ++ bs.take k1) = N := ⟨_, rfl⟩
    have hNl : N < 4294967296 := by rw [← hN]; exact num4_lt _
    have hNi : (N : Int) < 4294967296 := by omega
    rw [hN] at TC
    have MC := Lib.hid (fun V => may_any N V (by omega))
    have HNN := Lib.hid hN
    clear hN hNl hNi
    cases ho : okN N with
    | false =>
      rw [ho] at MC
      have HREL := Lib.hid (next_bad HP.out HK1.out (by rw [HM1.out]; omega) (by rw [HNN.out]; exact ho))
      clear hk hR1 hh1 hm1 g1 g2 g3 ho
      go_wp2_with fail
      refine TC.out.mono ?_
      rintro e w2 ⟨rfl, rfl⟩
      go_wp2_with fail
      refine (MC.out _).mono ?_
      rintro e w2 ⟨rfl, rfl⟩
      go_wp2
      go_ret2
      exact ⟨1, _, _, _, rfl, HKE.out, by omega, by omega, _, _, _, HR1.out, HH1.out, HS1.out, HNB.out, HREL.out⟩
    | true =>
      rw [ho] at MC
      have hNo := (okN_true.1 ho).2
      obtain ⟨k2, hk2⟩ : ∃ k, min (4 + N - (held ++ bs.take k1).length) (bs.drop k1).length = k := ⟨_, rfl⟩
      have hle := next_le HP.out HK1.out (by rw [HM1.out]; omega) (by rw [HNN.out]; exact ho)
      rw [HNN.out] at hle
      have hml := hle
      rw [hm1] at hml
      have hsz : b ≤ w1.heap.size := Nat.le_trans hb hk.size
      have H2 := Lib.hid (hold_any b R _ (held ++ bs.take k1) (bs.drop k1) br (behind p c k1) (c - k1) (4 + N) w1 hR1 HS1.out (by have := HC.out; rw [HNB.out, ← HN.out]; omega) (by unfold maxLen at *; omega) (by omega) (by omega) hsz k2 hk2)
      rw [HNB.out] at H2
      have e4 : ((4 + N : Nat) : Int) = 4 + (N : Int) := by omega
      rw [e4] at H2
      have HREL1 := Lib.hid (fun h => next_more (k2 := k2) HP.out HK1.out (by rw [HM1.out]; omega) (by rw [HNN.out]; exact ho) (by rw [HNN.out]; exact hk2) h)
      have HREL2 := Lib.hid (fun h => next_whole (k2 := k2) HP.out HK1.out (by rw [HM1.out]; omega) (by rw [HNN.out]; exact ho) (by rw [HNN.out]; exact hk2) h)
      have hk2n : k2 ≤ n - k1 := by rw [← HNB.out]; omega
      clear hk hR1 hh1 hm1 g1 g2 g3 ho hle hk2
      go_wp2_with fail
      refine TC.out.mono ?_
      rintro e w2 ⟨rfl, rfl⟩
      go_wp2_with fail
      refine (MC.out _).mono ?_
      rintro e w2 ⟨rfl, rfl⟩
      go_wp2_with fail
      refine H2.out.mono ?_
      rintro e w2 ⟨rfl, hkk, hv2, hR2, hh2⟩
      obtain ⟨q2, cp2, hq2, d1, d2, d3⟩ := hR2.buf.shape
      subst hq2
      obtain ⟨m2, hm2⟩ : ∃ m, ((held ++ bs.take k1) ++ (bs.drop k1).take k2).length = m := ⟨_, rfl⟩
      rw [hm2] at hR2 hh2
      clear c0 c1 f0 f1
      obtain ⟨c0, c1, f0, f1⟩ := hR2.cell
      have HH2 := Lib.hid (HH1.out.trans hh2 HKE.out.size)
      have HR2 := Lib.hid hR2
      have HKE2 : Hid (Keeps (Ft R hv) w w2) := Lib.hid (HKE.out.join hkk (Ft.heir HH1.out))
      have HS2 : Hid (Src w2 (FtZ Z R (.slice q2 m2 cp2)) (behind (behind p c k1) (c - k1) k2) ((bs.drop k1).drop k2)) := Lib.hid ((HS1.out.keeps hkk (fun k h _ => .inl h) (FtZ.heir hh2)).drop k2 (by have := HC.out; rw [HNB.out, ← HN.out]; omega))
      have HNB2 : Hid (((bs.drop k1).drop k2).length = n - k1 - k2) := Lib.hid (by rw [List.length_drop, HNB.out])
      have HM2 := Lib.hid hm2
      rw [HNN.out] at HREL1 HREL2
      rw [hm2] at HREL1 HREL2
      clear hkk hR2 hh2 d1 d2 d3 hm2
      by_cases hl : m2 < 4 + N
      · have hli : (m2 : Int) < 4 + (N : Int) := by omega
        have HREL := Lib.hid (HREL1.out hl)
        clear HREL1 HREL2
        go_wp2
        go_ret2
        exact ⟨0, _, _, _, rfl, HKE2.out, by omega, by omega, _, _, _, HR2.out, HH2.out, HS2.out, HNB2.out, HREL.out⟩
      · have hli : ¬ (m2 : Int) < 4 + (N : Int) := by omega
        have HREL := Lib.hid (HREL2.out hl)
        clear HREL1 HREL2
        go_wp2
        go_ret2
        exact ⟨2, _, _, _, rfl, HKE2.out, by omega, by omega, _, _, _, HR2.out, HH2.out, HS2.out, HNB2.out, HREL.out⟩
end Fr
end Go.Proofs.Ytbejacmbbkdbnaa
