/- Frame: the document's Feed. -/
import Derived.Test.YtbejacmbbkdbnaaFrRef
import Derived.Test.YtbejacmbbkdbnaaFrBackL
namespace Go.Proofs.Ytbejacmbbkdbnaa
open Go.RowKit
set_option linter.unusedVariables false
set_option linter.unusedSimpArgs false
namespace Fr
/-- The document's reader: its block; what is held lies in no block of X. -/
structure RefR (X : Nat → Prop) (w : World) (R : Nat) (q : Option Addr) (n c : Nat) (held : List UInt8) (br : Bool) : Prop where
  at_ : w.heap[R]? = some (.cells #[.slice q n c, .bool br] 33 (0, 0))
  len : n = held.length
  le : n ≤ c
  max : c ≤ maxLen
  src : Src w X q held
theorem RefR.lt {X : Nat → Prop} {w : World} {R n c : Nat} {q : Option Addr} {held : List UInt8} {br : Bool} (h : RefR X w R q n c held br) : R < w.heap.size := (Array.getElem?_eq_some_iff.1 h.at_).1
theorem RefR.cell {X : Nat → Prop} {w : World} {R n c : Nat} {q : Option Addr} {held : List UInt8} {br : Bool} (h : RefR X w R q n c held br) : w.cell? ⟨R, 0, none⟩ = some (.slice q n c) ∧ w.cell? ⟨R, 1, none⟩ = some (.bool br) ∧ w.frozen? ⟨R, 0, none⟩ = false ∧ w.frozen? ⟨R, 1, none⟩ = false := by
  have h0 := h.at_
  refine ⟨?_, ?_, ?_, ?_⟩ <;> simp [World.cell?, World.frozen?, h0]
theorem RefR.keeps {X X' Y : Nat → Prop} {w w' : World} {R n c : Nat} {q : Option Addr} {held : List UInt8} {br : Bool} (h : RefR X w R q n c held br) (hk : Keeps Y w w') (hR : ¬ Y R) (hY : ∀ k, Y k → k < w.heap.size → X k) (hX : ∀ k, X' k → k < w.heap.size → X k) : RefR X' w' R q n c held br :=
  ⟨(hk.block R h.lt hR).trans h.at_, h.len, h.le, h.max, h.src.keeps hk hY hX⟩
def RefPost (R : Nat) (w : World) (r : List (List UInt8) × Bool × List UInt8) (e : Ending) (w' : World) : Prop :=
  ∃ (q : Option Addr) (n c : Nat) (A : List Ar) (q' : Option Addr) (n' c' : Nat), e = .returned (.tuple #[.slice q n c, .int .i64 (if r.2.1 then 9 else 0)]) ∧ n = A.length ∧ RdRow w' q A ∧ A.map (·.2.2) = r.1 ∧ RefR (fun k => k < w.heap.size) w' R q' n' c' r.2.2 r.2.1 ∧ Keeps (fun k => k = R) w w'
set_option maxRecDepth 100000 in
theorem refFeed_broken (R : Nat) (q : Option Addr) (n c : Nat) (X : Nat → Prop) (s : List UInt8) (p : Option Addr) (m cp : Nat) (w : World) (hR : RefR X w R q n c [] true) :
    Calls Try.prog 13 #[.pointer (some ⟨R, 0, none⟩), .slice p m cp] w (RefPost R w (told true s)) := by
  have HR := Lib.hid hR
  obtain ⟨c0, c1, f0, f1⟩ := hR.cell
  clear hR
  go_enter Try.func13, Try.ntmps13
  go_wp2
  go_ret2
  exact ⟨none, 0, 0, [], q, n, c, rfl, rfl, fun i e h => by simp at h, rfl, ⟨HR.out.at_, HR.out.len, HR.out.le, HR.out.max, fun h => absurd h (by simp [told])⟩, Keeps.refl _ _⟩
structure RefInv (w : World) (s : List UInt8) (V : World) (qa : Option Addr) (na ca : Nat) (qo : Option Addr) (no co : Nat) : Prop where
  low : Below w.heap.size w V
  le : na ≤ ca
  max : ca ≤ maxLen
  ex : ∃ (rest : List UInt8) (A : List Ar), na = rest.length ∧ Src V (fun k => k < w.heap.size ∨ (Value.slice qo no co).ownBlock = some k) qa rest ∧ V.ownsRow w.heap.size 22 1 (.slice qo no co) no (A.map hdr) ∧ no = A.length ∧ (∀ e ∈ A, Src V (fun k => k < w.heap.size ∨ (Value.slice qo no co).ownBlock = some k) e.1 e.2.2) ∧ parse s = (A.map (·.2.2) ++ (parse rest).1, (parse rest).2) ∧ no * 5 + na ≤ s.length
theorem RefInv.rd {w V : World} {qo : Option Addr} {no co : Nat} {A : List Ar} (h : V.ownsRow w.heap.size 22 1 (.slice qo no co) no (A.map hdr)) (hA : ∀ e ∈ A, Src V (fun k => k < w.heap.size ∨ (Value.slice qo no co).ownBlock = some k) e.1 e.2.2) : RdRow V qo A := fun k e he => by
  have hk : k < no := by
    have h3 := (List.getElem?_eq_some_iff.1 he).1
    have h4 := h.1
    rw [List.length_map, Nat.mul_one] at h4
    omega
  rcases h.2 with ⟨hn, hn0⟩ | ⟨g, cap, cur, hn, -⟩
  · omega
  · injection hn with e1 e2 e3
    subst e1
    exact ⟨⟨g, 0, none⟩, rfl, World.ownsRow.cells h (g := g) rfl k (hdr e) (by rw [List.getElem?_map, he]; rfl), (hA e (List.mem_of_getElem? he)).keeps (Keeps.refl (fun _ => False) V) (fun _ f _ => f.elim) (fun _ f _ => f.elim)⟩
/-- One load more. -/
theorem RefInv.more {w V V1 V3 : World} {s rest : List UInt8} {A : List Ar} {a : Addr} {na ca no co N c1 c3 : Nat} {qo q1 q3 : Option Addr} {o : Obj} (hlow : Below w.heap.size w V) (hle : na ≤ ca) (hmax : ca ≤ maxLen) (hna : na = rest.length) (hsrc : Src V (fun k => k < w.heap.size ∨ (Value.slice qo no co).ownBlock = some k) (some a) rest)
    (hown : V.ownsRow w.heap.size 22 1 (.slice qo no co) no (A.map hdr)) (hno : no = A.length) (hA : ∀ e ∈ A, Src V (fun k => k < w.heap.size ∨ (Value.slice qo no co).ownBlock = some k) e.1 e.2.2) (hp : parse s = (A.map (·.2.2) ++ (parse rest).1, (parse rest).2)) (hcnt : no * 5 + na ≤ s.length)
    (h4 : 4 ≤ rest.length) (hgood : okN (num4 rest) = true) (hlen : 4 + num4 rest ≤ rest.length) (hN : num4 rest = N)
    (hb1 : Buf V.heap.size V1 (.slice q1 N c1) ((rest.drop 4).take N)) (hg1 : V.grownBy V1 none)
    (ho : V3.ownsRow w.heap.size 22 1 (.slice q3 (no + 1) c3) (no + 1) (A.map hdr ++ [.slice q1 N c1])) (hg3 : (V1.alloc o).grownBy V3 (Value.slice qo no co).ownBlock) (hh3 : Heir (V1.alloc o) (.slice qo no co) (.slice q3 (no + 1) c3)) :
    RefInv w s V3 (behind (some a) ca (4 + N)) (na - (4 + N)) (ca - (4 + N)) q3 (no + 1) c3 := by
  subst hN
  have hN1 := (okN_true.1 hgood).1
  have hk1 : Keeps (fun _ => False) V V1 := ⟨hg1.os, hg1.tape, hg1.output, hg1.size, fun k hk _ => hg1.block k hk (fun e => by cases e)⟩
  have hl1 : Below w.heap.size w V1 := hlow.trans (hk1.below (fun _ f => f.elim) hlow.size)
  have hwl := hown.lt
  have hk13 : Keeps (fun k => (Value.slice qo no co).ownBlock = some k) V1 V3 := (((Keeps.refl (fun _ => False) V1).alloc o).mono (Y := fun k => (Value.slice qo no co).ownBlock = some k) (fun k f _ => f.elim)).join (keeps_grown hg3) (fun k e _ => e)
  have hk03 : Keeps (fun k => (Value.slice qo no co).ownBlock = some k) V V3 := (hk1.mono (Y := fun k => (Value.slice qo no co).ownBlock = some k) (fun k f _ => f.elim)).join hk13 (fun k e _ => e)
  have hl3 : Below w.heap.size w V3 := hl1.trans (hk13.below (fun k e => (hwl k e).1) hl1.size)
  have hnew : ∀ k, (Value.slice q3 (no + 1) c3).ownBlock = some k → k < V1.heap.size → (Value.slice qo no co).ownBlock = some k := fun k e hlt => by
    rcases hh3 with h | h
    · exact h ▸ e
    · have := h k e; simp at this; omega
  have hx : (rest.drop 4).take (num4 rest) ≠ [] ∧ ((rest.drop 4).take (num4 rest)).length = num4 rest := by
    have hl : ((rest.drop 4).take (num4 rest)).length = num4 rest := by rw [List.length_take, List.length_drop]; omega
    exact ⟨fun e => by rw [e] at hl; simp at hl; omega, hl⟩
  refine ⟨hl3, by omega, by omega, rest.drop (4 + num4 rest), A ++ [(q1, c1, (rest.drop 4).take (num4 rest))], by rw [List.length_drop, hna], ?_, ?_, by rw [List.length_append, hno]; rfl, fun e he => ?_, ?_, ?_⟩
  · refine (hsrc.drop (4 + num4 rest) (by omega)).keeps hk03 (fun k e _ => .inr e) (fun k e hlt => e.elim .inl (fun e => .inr (hnew k e (Nat.lt_of_lt_of_le hlt hk1.size))))
  · rw [List.map_append]
    have : hdr (q1, c1, (rest.drop 4).take (num4 rest)) = .slice q1 (num4 rest) c1 := by unfold hdr; simp only; rw [hx.2]
    simp only [List.map_cons, List.map_nil, this]
    exact ho
  · rcases List.mem_append.1 he with he | he
    · exact (hA e he).keeps hk03 (fun k e _ => .inr e) (fun k e hlt => e.elim .inl (fun e => .inr (hnew k e (Nat.lt_of_lt_of_le hlt hk1.size))))
    · rw [List.mem_singleton] at he
      subst he
      have hs1 : Src V1 (fun k => k < w.heap.size ∨ (Value.slice qo no co).ownBlock = some k) q1 ((rest.drop 4).take (num4 rest)) := hb1.src rfl (fun g e1 e2 => e2.elim (fun e2 => by have := (hb1.lt g e1).1; have := hlow.size; omega) (fun e2 => by have := (hb1.lt g e1).1; have := (hwl g e2).2; omega))
      exact hs1.keeps hk13 (fun k e _ => .inr e) (fun k e hlt => e.elim .inl (fun e => .inr (hnew k e hlt)))
  · rw [hp, parse_whole h4 hgood hlen, List.map_append, List.append_assoc]
    rfl
  · omega
theorem RefInv.drewN {w V : World} {s : List UInt8} {qa qo : Option Addr} {na ca no co : Nat} (h : RefInv w s V qa na ca qo no co) (d : Nat) : RefInv w s (V.drewN d) qa na ca qo no co := ⟨below_drewN h.low d, h.le, h.max, h.ex⟩
set_option maxHeartbeats 2000000 in
set_option maxRecDepth 100000 in
theorem refFeed_open (R : Nat) (q : Option Addr) (n c : Nat) (held bs : List UInt8) (X Y : Nat → Prop) (p : Option Addr) (cp : Nat) (w : World) (hR : RefR X w R q n c held false) (hs : Src w Y p bs) (hz : (held ++ bs).length ≤ 1099511627776) :
    Calls Try.prog 13 #[.pointer (some ⟨R, 0, none⟩), .slice p bs.length cp] w (RefPost R w (told false (held ++ bs))) := by
  obtain ⟨c0, c1, f0, f1⟩ := hR.cell
  obtain ⟨m, hm⟩ : ∃ m, bs.length = m := ⟨_, rfl⟩
  have hzz : n + m ≤ 1099511627776 := by rw [hR.len, ← hm, ← List.length_append]; exact hz
  obtain ⟨s, hs0⟩ : ∃ s, held ++ bs = s := ⟨_, rfl⟩
  have hsl : s.length = n + m := by rw [← hs0, List.length_append, ← hR.len, hm]
  have HSRC := Lib.hid hR.src
  have HLEN := Lib.hid hR.len
  have HAT := Lib.hid hR.at_
  have HRL := Lib.hid hR.lt
  have HS := Lib.hid hs
  have HM := Lib.hid hm
  have HZ := Lib.hid hzz
  have HS0 := Lib.hid hs0
  have HSL := Lib.hid hsl
  rw [hm, hs0]
  clear hR hs hz hm hzz hs0 hsl
  go_enter Try.func13, Try.ntmps13
  go_wp2_with (first | (at_builtin; go_loud (refine wpList_append_src rfl (.tmp 14) (.tmp 18) rfl w.heap.size X (.slice none 0 0) [] held q n c n rfl rfl HLEN.out (Buf.nil _ _) HSRC.out (by rw [← HLEN.out]; have := HZ.out; simp; omega) (Nat.le_refl _) (by rw [← HLEN.out]; simp) (fun q1 c1' w1 hb1 hg1 _ => ?_)); have hl1 : Below w.heap.size w w1 := (Below.refl _ w).grown hg1 (Nat.le_refl _) (fun k hk => by cases hk); have HB1 := Lib.hid hb1; have HL1 := Lib.hid hl1; clear hb1 hg1 hl1) | (at_builtin; go_loud (refine wpList_append_src rfl (.tmp 20) (.tmp 21) rfl w.heap.size Y (.slice q1 n c1') ([] ++ held) bs p m cp (n + m) rfl rfl HM.out.symm HB1.out (HS.out.low HL1.out) (by rw [List.nil_append, ← HLEN.out, HM.out]; have := HZ.out; omega) HL1.out.size (by rw [List.nil_append, ← HLEN.out, HM.out]) (fun q2 c2 w2 hb2 hg2 _ => ?_)); have hl2 : Below w.heap.size w w2 := HL1.out.grown hg2 HL1.out.size (fun k hk => (HB1.out.lt k hk).1); have HB2 := Lib.hid hb2; have HL2 := Lib.hid hl2; clear hb2 hg2 hl2))
  have HI : Hid (RefInv w s w2 q2 (n + m) c2 none 0 0) := Lib.hid (by
    have hb := HB2.out
    rw [List.nil_append, HS0.out] at hb
    obtain ⟨q7, c7, hq7, hc7, hm7, -⟩ := hb.shape
    injection hq7 with e1 e2 e3
    subst e3
    exact ⟨HL2.out, by rw [← HSL.out]; exact hc7, hm7, s, [], HSL.out.symm, hb.src rfl (fun g e x => x.elim (fun x => by have := (hb.lt g e).1; omega) (fun x => by cases x)), World.ownsRow_nil _ _ _ _, rfl, fun e h => by simp at h, by simp, by rw [HSL.out]; omega⟩)
  clear c0 c1 f0 f1
  go_loopw [6, 7] (fun t u wr => ∃ (qo : Option Addr) (no co : Nat) (qa : Option Addr) (na ca : Nat), t = .slice qo no co ∧ u = .slice qa na ca ∧ Hid (RefInv w s wr qa na ca qo no co)) (fun _ u _ => lenV u)
  case atStart => exact ⟨none, 0, 0, q2, n + m, c2, rfl, rfl, HI⟩
  case round =>
    obtain ⟨qo, no, co, qa, na, ca, rfl, rfl, HV⟩ := hrel
    obtain ⟨rest, A, hna, hsrc, hown, hno, hA, hp, hcnt⟩ := HV.out.ex
    have LC := Lib.hid (load_any qa ca rest _ wr hsrc (by have := HSL.out; have := HZ.out; omega))
    rw [← hna] at LC
    have HNA := Lib.hid hna
    have HSR := Lib.hid hsrc
    have HOW := Lib.hid hown
    have HNO := Lib.hid hno
    have HA := Lib.hid hA
    have HP := Lib.hid hp
    have HCNT := Lib.hid hcnt
    have HLE := Lib.hid HV.out.le
    have HMX := Lib.hid HV.out.max
    have HLW := Lib.hid HV.out.low
    clear hna hsrc hown hno hA hp hcnt HV
    go_wp2_with fail
    refine LC.out.mono ?_
    rintro e w5 ⟨rfl, d, hw5⟩
    have HSR5 : Hid (Src w5 (fun k => k < w.heap.size ∨ (Value.slice qo no co).ownBlock = some k) qa rest) := Lib.hid (by rw [hw5]; exact HSR.out)
    have HOW5 : Hid (w5.ownsRow w.heap.size 22 1 (.slice qo no co) no (A.map hdr)) := Lib.hid (by rw [hw5]; exact HOW.out)
    have HA5 : Hid (∀ e ∈ A, Src w5 (fun k => k < w.heap.size ∨ (Value.slice qo no co).ownBlock = some k) e.1 e.2.2) := Lib.hid (by rw [hw5]; exact HA.out)
    have HLW5 : Hid (Below w.heap.size w w5) := Lib.hid (by rw [hw5]; exact below_drewN HLW.out d)
    have HRD5 := Lib.hid (RefInv.rd HOW5.out HA5.out)
    have hat5 : w5.heap[R]? = some (.cells #[.slice q n c, .bool false] 33 (0, 0)) := (HLW5.out.block R HRL.out).trans HAT.out
    have HAT5 := Lib.hid hat5
    obtain ⟨c0, c1, f0, f1⟩ : w5.cell? ⟨R, 0, none⟩ = some (.slice q n c) ∧ w5.cell? ⟨R, 1, none⟩ = some (.bool false) ∧ w5.frozen? ⟨R, 0, none⟩ = false ∧ w5.frozen? ⟨R, 1, none⟩ = false := by
      refine ⟨?_, ?_, ?_, ?_⟩ <;> simp [World.cell?, World.frozen?, hat5]
    have HKR : Hid (Keeps (fun k => k = R) w w5) := Lib.hid (⟨HLW5.out.os, HLW5.out.tape, HLW5.out.output, HLW5.out.size, fun k hk _ => HLW5.out.block k hk⟩)
    clear hw5 LC HSR HOW HA HLW hat5
    by_cases hpart : rest.length < 4 ∨ (okN (num4 rest) = true ∧ rest.length < 4 + num4 rest)
    · have hz0 : loadZ rest = 0 := by
        unfold loadZ
        rcases hpart with h | ⟨h1, h2⟩
        · rw [if_pos h]
        · by_cases h4 : rest.length < 4
          · rw [if_pos h4]
          · rw [if_neg h4, if_neg (by rw [h1]; decide), if_pos h2]
      have hpr : parse rest = ([], false, rest) := parse_of_part hpart
      have HF : Hid (RefPost R w (told false s) (.returned (.tuple #[.slice qo no co, .int .i64 0])) (w5.setCell ⟨R, 0, none⟩ (.slice qa na ca))) := Lib.hid (by
        have hr : told false s = (A.map (·.2.2), false, rest) := by
          show parse s = _
          rw [HP.out, hpr, List.append_nil]
        rw [hr]
        have hk : Keeps (fun k => k = R) w5 (w5.setCell ⟨R, 0, none⟩ (.slice qa na ca)) := (Keeps.refl (fun k => k = R) w5).setCell (p := ⟨R, 0, none⟩) (.inl rfl) _
        exact ⟨qo, no, co, A, qa, na, ca, rfl, HNO.out, RefInv.rd (owns_keeps HOW5.out hk (fun g e x => by have := (HOW5.out.lt g e).1; have := HRL.out; omega)) (fun e he => (HA5.out e he).keeps hk (fun k e _ => .inl (by rw [e]; exact HRL.out)) (fun k e _ => e)), rfl, ⟨by simp [World.setCell, Array.getElem?_modify, HAT5.out], HNA.out, HLE.out, HMX.out, HSR5.out.keeps hk (fun k e _ => .inl (by rw [e]; exact HRL.out)) (fun k e _ => .inl e)⟩, HKR.out.trans hk⟩)
      rw [hz0]
      clear hz0 hpr hpart
      go_wp2
      go_ret2
      exact HF.out
    · have h4 : 4 ≤ rest.length := Nat.le_of_not_lt fun h => hpart (.inl h)
      cases ho : okN (num4 rest) with
      | false =>
        have hz1 : loadZ rest = -1 := by unfold loadZ; rw [if_neg (by omega), if_pos ho]
        have hpr := parse_bad h4 ho
        have HF : Hid (RefPost R w (told false s) (.returned (.tuple #[.slice qo no co, .int .i64 9])) ((w5.setCell ⟨R, 1, none⟩ (.bool true)).setCell ⟨R, 0, none⟩ (.slice none 0 0))) := Lib.hid (by
          have hr : told false s = (A.map (·.2.2), true, []) := by
            show parse s = _
            rw [HP.out, hpr, List.append_nil]
          rw [hr]
          have hk : Keeps (fun k => k = R) w5 ((w5.setCell ⟨R, 1, none⟩ (.bool true)).setCell ⟨R, 0, none⟩ (.slice none 0 0)) := ((Keeps.refl (fun k => k = R) w5).setCell (p := ⟨R, 1, none⟩) (.inl rfl) _).setCell (p := ⟨R, 0, none⟩) (.inl rfl) _
          exact ⟨qo, no, co, A, none, 0, 0, rfl, HNO.out, RefInv.rd (owns_keeps HOW5.out hk (fun g e x => by have := (HOW5.out.lt g e).1; have := HRL.out; omega)) (fun e he => (HA5.out e he).keeps hk (fun k e _ => .inl (by rw [e]; exact HRL.out)) (fun k e _ => e)), rfl, ⟨by simp [World.setCell, Array.getElem?_modify, HAT5.out], rfl, Nat.le_refl _, by unfold maxLen; omega, fun h => absurd h (by simp)⟩, HKR.out.trans hk⟩)
        rw [hz1]
        clear hz1 hpr hpart ho h4
        go_wp2
        go_ret2
        exact HF.out
      | true =>
        have hlen : 4 + num4 rest ≤ rest.length := Nat.le_of_not_lt fun h => hpart (.inr ⟨ho, h⟩)
        obtain ⟨N, hN⟩ : ∃ N, num4 rest = N := ⟨_, rfl⟩
        have hNo := okN_true.1 ho
        have hzN : loadZ rest = (N : Int) := by unfold loadZ; rw [if_neg (by omega), if_neg (by rw [ho]; decide), if_neg (by omega), hN]
        obtain ⟨a, ha, -⟩ := HSR5.out (by omega)
        subst ha
        have t1 : decide ((N : Int) < 0) = false := decide_eq_false (by omega)
        have t2 : ((N : Int) == 0) = false := beq_eq_false_iff_ne.2 (by omega)
        have hNI : (N : Int) ≤ 9223372036854775807 / 2 := by omega
        have hna4 : 4 + N ≤ na := by rw [HNA.out]; omega
        have hca4 : 4 + N ≤ ca := by have := HLE.out; omega
        have hc4 : ¬ ca = 4 := by omega
        have hxl : ((rest.drop 4).take N).length = N := by rw [List.length_take, List.length_drop]; omega
        have hsx : Src w5 (fun k => k < w.heap.size ∨ (Value.slice qo no co).ownBlock = some k) (some ⟨a.block, a.off + 4, none⟩) ((rest.drop 4).take N) := by
          have h8 := (HSR5.out.drop 4 (c := ca) (by rw [← HNA.out]; exact HLE.out)).take N
          unfold behind at h8
          rw [if_neg hc4, Option.map_some, add_more a 4 (by decide)] at h8
          exact h8
        have HF := Lib.hid (fun V1 V3 q1 q3 c1 c3 o hb1 hg1 ho3 hg3 hh3 => RefInv.more (V1 := V1) (V3 := V3) (q1 := q1) (q3 := q3) (c1 := c1) (c3 := c3) (o := o) HLW5.out HLE.out HMX.out HNA.out HSR5.out HOW5.out HNO.out HA5.out HP.out HCNT.out h4 ho hlen hN hb1 hg1 ho3 hg3 hh3)
        have HXL := Lib.hid hxl
        have HSX := Lib.hid hsx
        have HNOZ : Hid (no ≤ 1099511627776) := Lib.hid (by have := HCNT.out; have := HSL.out; have := HZ.out; omega)
        have HNO2 : Hid (N ≤ 32768) := Lib.hid (by rw [← hN]; exact hNo.2)
        rw [hzN]
        rw [hN] at hNo
        clear hzN ho hlen hpart h4 hN hNo hxl hsx c0 c1 f0 f1
        have hcase : ca = 4 + N ∨ ¬ ca = 4 + N := by omega
        rcases hcase with hcc | hcc
        · subst hcc
          have hbe : behind (some a) (4 + N) (4 + N) = some a := by unfold behind; rw [if_pos rfl]
          rw [hbe] at HF
          clear hbe
          go_wp2_with (first | (at_builtin; go_loud (refine wpList_append_src rfl (.tmp 41) (.tmp 45) rfl w5.heap.size (fun k => k < w.heap.size ∨ (Value.slice qo no co).ownBlock = some k) (.slice none 0 0) [] ((rest.drop 4).take N) _ _ _ N rfl rfl (by have := HXL.out; omega) (Buf.nil _ _) HSX.out (by rw [HXL.out]; have := HNO2.out; simp; omega) (Nat.le_refl _) (by rw [HXL.out]; simp) (fun q6 c6 w6 hb6 hg6 _ => ?_)); have HB6 := Lib.hid hb6; have HG6 := Lib.hid hg6; have HO6 : Hid (w6.ownsRow w.heap.size 22 1 (.slice qo no co) no (A.map hdr)) := Lib.hid (owns_keeps HOW5.out (keeps_grown hg6) (fun g e1 e2 => by cases e2)); have HSZ6 : Hid (w.heap.size ≤ w6.heap.size) := Lib.hid (Nat.le_trans HLW5.out.size hg6.size); clear hb6 hg6) | (at_builtin; go_loud (refine wpList_append_rows rfl (.tmp 47) (.tmp 49) rfl w.heap.size 0 (.slice qo no co) (.slice (some ⟨w6.heap.size, 0, none⟩) 1 1) no 1 (A.map hdr) [.slice q6 N c6] rfl rfl (World.ownsRow.alloc HO6.out _) (World.ownsRow_lit (size := 1) w6 #[.slice q6 N c6] 1 (Nat.zero_le _) (by unfold maxLen; omega) rfl) (by intro u hu; simp at hu; subst hu; rfl) (by have := HNOZ.out; omega) (by have := HSZ6.out; simp; omega) (fun q7 c7 w7 ho7 hg7 hh7 => ?_)); have HF7 := Lib.hid (HF.out w6 w7 q6 q7 c6 c7 _ HB6.out HG6.out ho7 hg7 hh7); clear ho7 hg7 hh7))
          exact ⟨⟨_, _, _, _, _, _, rfl, rfl, HF7⟩, by show na - (4 + N) < na; omega⟩
        · have hbe : behind (some a) ca (4 + N) = some (a.add (4 + N)) := by unfold behind; rw [if_neg hcc]; rfl
          rw [hbe] at HF
          clear hbe
          go_wp2_with (first | (at_builtin; go_loud (refine wpList_append_src rfl (.tmp 41) (.tmp 45) rfl w5.heap.size (fun k => k < w.heap.size ∨ (Value.slice qo no co).ownBlock = some k) (.slice none 0 0) [] ((rest.drop 4).take N) _ _ _ N rfl rfl (by have := HXL.out; omega) (Buf.nil _ _) HSX.out (by rw [HXL.out]; have := HNO2.out; simp; omega) (Nat.le_refl _) (by rw [HXL.out]; simp) (fun q6 c6 w6 hb6 hg6 _ => ?_)); have HB6 := Lib.hid hb6; have HG6 := Lib.hid hg6; have HO6 : Hid (w6.ownsRow w.heap.size 22 1 (.slice qo no co) no (A.map hdr)) := Lib.hid (owns_keeps HOW5.out (keeps_grown hg6) (fun g e1 e2 => by cases e2)); have HSZ6 : Hid (w.heap.size ≤ w6.heap.size) := Lib.hid (Nat.le_trans HLW5.out.size hg6.size); clear hb6 hg6) | (at_builtin; go_loud (refine wpList_append_rows rfl (.tmp 47) (.tmp 49) rfl w.heap.size 0 (.slice qo no co) (.slice (some ⟨w6.heap.size, 0, none⟩) 1 1) no 1 (A.map hdr) [.slice q6 N c6] rfl rfl (World.ownsRow.alloc HO6.out _) (World.ownsRow_lit (size := 1) w6 #[.slice q6 N c6] 1 (Nat.zero_le _) (by unfold maxLen; omega) rfl) (by intro u hu; simp at hu; subst hu; rfl) (by have := HNOZ.out; omega) (by have := HSZ6.out; simp; omega) (fun q7 c7 w7 ho7 hg7 hh7 => ?_)); have HF7 := Lib.hid (HF.out w6 w7 q6 q7 c6 c7 _ HB6.out HG6.out ho7 hg7 hh7); clear ho7 hg7 hh7))
          exact ⟨⟨_, _, _, _, _, _, rfl, rfl, HF7⟩, by show na - (4 + N) < na; omega⟩
end Fr
end Go.Proofs.Ytbejacmbbkdbnaa
