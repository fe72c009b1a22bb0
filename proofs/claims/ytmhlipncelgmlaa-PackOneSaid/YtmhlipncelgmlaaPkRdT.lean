/- Bytes as values: the reader's tags, numbers that are folded, names, ids, of any bytes. -/
import Derived.Test.YtmhlipncelgmlaaPkRdN
namespace Go.Proofs.Ytmhlipncelgmlaa
open Go.RowKit
set_option linter.unusedVariables false
set_option linter.unusedSimpArgs false
namespace Pk
open Val (Keeps Box)
theorem Rb.inc {R B : Nat} {l : List UInt8} {p : Int} {w : World} (h : Rb w R B l p) (p' : Int) : Got R B p' w l (w.setCell ⟨R, 1, none⟩ (.int .i64 p')) := by
  obtain ⟨a, cap, h⟩ := h
  exact ⟨⟨a, cap, h.parts p'⟩, (Keeps.refl (· = R) w).setCell (p := ⟨R, 1, none⟩) (.inl rfl) _⟩
theorem Rb.parts {R B : Nat} {l : List UInt8} {p : Int} {w : World} (h : Rb w R B l p) : w.cell? ⟨R, 1, none⟩ = some (.int .i64 p) ∧ w.frozen? ⟨R, 1, none⟩ = false := by
  obtain ⟨a, cap, h⟩ := h
  exact ⟨h.cell.2.1, h.cell.2.2.2⟩
/-- What the reader's tag comes to. -/
def tagP (deep : Int) (p : Nat) (l : List UInt8) : Except Int (Nat × List UInt8) := match l with | [] => .error 22 | c :: r => if c.toNat ≤ 8 ∧ deep ≤ 32 ∧ p + 1 ≤ 4096 then .ok (c.toNat, r) else .error 1
def u8V (n : Nat) : Value := .int .u8 (n : Int)
def TagPost (R B : Nat) (p : Nat) (w : World) (x : Except Int (Nat × List UInt8)) (e : Ending) (w' : World) : Prop :=
  match x with | .error c => e = thrown c ∧ Keeps (· = R) w w' | .ok a => e = .returned (u8V a.1) ∧ Got R B ((p : Int) + 1) w a.2 w'
set_option maxRecDepth 100000 in
set_option maxHeartbeats 4000000 in
theorem tag_any (R B : Nat) (l : List UInt8) (p : Nat) (deep : Int) (w : World) (h : Rb w R B l (p : Int)) (hp : p ≤ 4096) :
    Calls Try.prog 62 #[.pointer (some ⟨R, 0, none⟩), .int .i64 deep] w (TagPost R B p w (tagP deep p l)) := by
  cases l with
  | nil =>
    have HO := Lib.hid (octet_more R B p w h)
    clear h
    go_enter Try.func62, Try.ntmps62
    go_wp2_with fail
    refine HO.out.mono ?_
    rintro e w1 ⟨rfl, rfl⟩
    exact ⟨rfl, rfl, Keeps.refl _ _⟩
  | cons c r =>
    obtain ⟨m, hm⟩ : ∃ m, c.toNat = m := ⟨_, rfl⟩
    have HO := Lib.hid (octet_ok R B c r p w h)
    rw [hm] at HO
    have HT : Hid (tagP deep p (c :: r) = if m ≤ 8 ∧ deep ≤ 32 ∧ p + 1 ≤ 4096 then .ok (m, r) else .error 1) := Lib.hid (by unfold tagP; simp only; rw [hm])
    have hwr : wrap64 ((p : Int) + 1) = (p : Int) + 1 := by unfold wrap64; omega
    clear hm h
    by_cases h1 : m ≤ 8
    · by_cases h2 : deep ≤ 32
      · by_cases h3 : p + 1 ≤ 4096
        · have d1 : decide ((m : Int) ≤ 8) = true := by simp; omega
          have d2 : decide (deep ≤ 32) = true := by simp; omega
          have d3 : decide ((p : Int) + 1 ≤ 4096) = true := by simp; omega
          rw [if_pos ⟨h1, h2, h3⟩] at HT
          clear hp h1 h2 h3
          go_enter Try.func62, Try.ntmps62
          go_wp2_with fail
          refine HO.out.mono ?_
          rintro e w1 ⟨rfl, h1⟩
          obtain ⟨c1, f1⟩ := h1.1.parts
          have HG : Hid (Got R B ((p : Int) + 1) w r (w1.setCell ⟨R, 1, none⟩ (.int .i64 ((p : Int) + 1)))) := Lib.hid ⟨(h1.1.inc _).1, h1.2.trans (h1.1.inc _).2⟩
          clear h1
          go_wp2_with fail
          refine (demand_yes _).mono ?_
          rintro e w2 ⟨⟨v, rfl⟩, rfl⟩
          go_wp2
          go_ret
          rw [HT.out]
          exact ⟨rfl, HG.out⟩
        · have d1 : decide ((m : Int) ≤ 8) = true := by simp; omega
          have d2 : decide (deep ≤ 32) = true := by simp; omega
          have d3 : decide ((p : Int) + 1 ≤ 4096) = false := by simp; omega
          rw [if_neg (fun h => h3 h.2.2)] at HT
          clear hp h1 h2 h3
          go_enter Try.func62, Try.ntmps62
          go_wp2_with fail
          refine HO.out.mono ?_
          rintro e w1 ⟨rfl, h1⟩
          obtain ⟨c1, f1⟩ := h1.1.parts
          have HG : Hid (Got R B ((p : Int) + 1) w r (w1.setCell ⟨R, 1, none⟩ (.int .i64 ((p : Int) + 1)))) := Lib.hid ⟨(h1.1.inc _).1, h1.2.trans (h1.1.inc _).2⟩
          clear h1
          go_wp2_with fail
          refine (demand_no _).mono ?_
          rintro e w2 ⟨rfl, rfl⟩
          refine ⟨rfl, ?_⟩
          rw [HT.out]
          exact ⟨rfl, HG.out.2⟩
      · have d1 : decide ((m : Int) ≤ 8) = true := by simp; omega
        have d2 : decide (deep ≤ 32) = false := by simp; omega
        rw [if_neg (fun h => h2 h.2.1)] at HT
        clear hp h1 h2
        go_enter Try.func62, Try.ntmps62
        go_wp2_with fail
        refine HO.out.mono ?_
        rintro e w1 ⟨rfl, h1⟩
        obtain ⟨c1, f1⟩ := h1.1.parts
        have HG : Hid (Got R B ((p : Int) + 1) w r (w1.setCell ⟨R, 1, none⟩ (.int .i64 ((p : Int) + 1)))) := Lib.hid ⟨(h1.1.inc _).1, h1.2.trans (h1.1.inc _).2⟩
        clear h1
        go_wp2_with fail
        refine (demand_no _).mono ?_
        rintro e w2 ⟨rfl, rfl⟩
        refine ⟨rfl, ?_⟩
        rw [HT.out]
        exact ⟨rfl, HG.out.2⟩
    · have d1 : decide ((m : Int) ≤ 8) = false := by simp; omega
      rw [if_neg (fun h => h1 h.1)] at HT
      clear hp h1
      go_enter Try.func62, Try.ntmps62
      go_wp2_with fail
      refine HO.out.mono ?_
      rintro e w1 ⟨rfl, h1⟩
      obtain ⟨c1, f1⟩ := h1.1.parts
      have HG : Hid (Got R B ((p : Int) + 1) w r (w1.setCell ⟨R, 1, none⟩ (.int .i64 ((p : Int) + 1)))) := Lib.hid ⟨(h1.1.inc _).1, h1.2.trans (h1.1.inc _).2⟩
      clear h1
      go_wp2_with fail
      refine (demand_no _).mono ?_
      rintro e w2 ⟨rfl, rfl⟩
      refine ⟨rfl, ?_⟩
      rw [HT.out]
      exact ⟨rfl, HG.out.2⟩
theorem and_one (n : Nat) (h : n < 18446744073709551616) : bits .and .u64 (n : Int) 1 = ((n % 2 : Nat) : Int) := by
  have := u64_and_nat n 1 h (by decide)
  rw [Nat.and_one_is_mod] at this
  exact this
set_option maxRecDepth 100000 in
/-- What the fold is undone to. -/
theorem unfold_any (n : Nat) (hn : n < 18446744073709551616) (w : World) :
    Calls Try.prog 63 #[.int .u64 (n : Int)] w fun e w' => e = .returned (.int .i64 (unfoldN n)) ∧ w' = w := by
  have hU : unfoldN n = if n % 2 = 1 then -((n / 2 : Nat) : Int) - 1 else ((n / 2 : Nat) : Int) := rfl
  have HU := Lib.hid hU
  have hx := not_any ((n : Int) / 2) (by omega)
  have hw : wrap64 ((n : Int) / 2) = (n : Int) / 2 := by unfold wrap64; omega
  have HX := Lib.hid hx
  have HW := Lib.hid hw
  have ha := and_one n hn
  have HN := Lib.hid hn
  clear hU hx hn
  by_cases hb : n % 2 = 1
  · have ht : (bits .and .u64 (n : Int) 1 == 1) = true := by rw [ha, hb]; rfl
    rw [if_pos hb] at HU
    clear ha
    go_enter Try.func63, Try.ntmps63
    go_wp2
    go_ret
    refine ⟨?_, rfl⟩
    rw [HU.out, HX.out]
    show Ending.returned (.int .i64 _) = Ending.returned (.int .i64 _)
    congr 2
    omega
  · have ht : (bits .and .u64 (n : Int) 1 == 1) = false := by rw [ha, show n % 2 = 0 by omega]; rfl
    rw [if_neg hb] at HU
    clear ha
    go_enter Try.func63, Try.ntmps63
    go_wp2
    go_ret
    refine ⟨?_, rfl⟩
    rw [HU.out]
    show Ending.returned (.int .i64 _) = Ending.returned (.int .i64 _)
    congr 2
def i64V (n : Nat) : Value := .int .i64 (n : Int)
set_option maxRecDepth 100000 in
set_option maxHeartbeats 4000000 in
/-- The number of a node or an edge. -/
theorem id_any (R B : Nat) (l : List UInt8) (p : Int) (w : World) (h : Rb w R B l p) :
    Calls Try.prog 68 #[.pointer (some ⟨R, 0, none⟩)] w (ReadPost R B p w i64V (idP l)) := by
  have HN := Lib.hid (number_any R B l p w h)
  have HI : Hid (idP l = thenP (numP l) fun x => if 1 ≤ x.1 ∧ x.1 ≤ 9223372036854775807 then .ok x else .error 1) := Lib.hid rfl
  clear h
  cases hr : numP l with
  | error c =>
    rw [hr] at HN HI
    go_enter Try.func68, Try.ntmps68
    go_wp2_with fail
    refine HN.out.mono ?_
    rintro e w1 ⟨rfl, k1⟩
    refine ⟨rfl, ?_⟩
    rw [HI.out]
    exact ⟨rfl, k1⟩
  | ok a =>
    obtain ⟨n, r⟩ := a
    have hn := (numP_ok hr).2
    rw [hr] at HN HI
    rw [thenP_ok] at HI
    clear hr
    by_cases h1 : 1 ≤ n
    · have d1 : decide ((1 : Int) ≤ (n : Int)) = true := by simp; omega
      by_cases h2 : n ≤ 9223372036854775807
      · have d2 : decide ((n : Int) ≤ 9223372036854775807) = true := by simp; omega
        have hw : wrap64 (n : Int) = (n : Int) := by unfold wrap64; omega
        have HI2 := Lib.hid (HI.out.trans (if_pos ⟨h1, h2⟩))
        clear h1 h2 hn HI
        go_enter Try.func68, Try.ntmps68
        go_wp2_with fail
        refine HN.out.mono ?_
        rintro e w1 ⟨rfl, hg⟩
        have HG := Lib.hid hg
        clear hg
        unfold u64V
        go_wp2_with fail
        refine (demand_yes _).mono ?_
        rintro e w2 ⟨⟨v, rfl⟩, rfl⟩
        go_wp2
        go_ret
        rw [HI2.out]
        refine ⟨?_, HG.out⟩
        show Ending.returned (.int .i64 _) = Ending.returned (.int .i64 _)
        congr 2
      · have d2 : decide ((n : Int) ≤ 9223372036854775807) = false := by simp; omega
        have HI2 := Lib.hid (HI.out.trans (if_neg (fun h => h2 h.2)))
        clear h1 h2 hn HI
        go_enter Try.func68, Try.ntmps68
        go_wp2_with fail
        refine HN.out.mono ?_
        rintro e w1 ⟨rfl, hg⟩
        have HG := Lib.hid hg
        clear hg
        unfold u64V
        go_wp2_with fail
        refine (demand_no _).mono ?_
        rintro e w2 ⟨rfl, rfl⟩
        refine ⟨rfl, ?_⟩
        rw [HI2.out]
        exact ⟨rfl, HG.out.2⟩
    · have d1 : decide ((1 : Int) ≤ (n : Int)) = false := by simp; omega
      have HI2 := Lib.hid (HI.out.trans (if_neg (fun h => h1 h.1)))
      clear h1 hn HI
      go_enter Try.func68, Try.ntmps68
      go_wp2_with fail
      refine HN.out.mono ?_
      rintro e w1 ⟨rfl, hg⟩
      have HG := Lib.hid hg
      clear hg
      unfold u64V
      go_wp2_with fail
      refine (demand_no _).mono ?_
      rintro e w2 ⟨rfl, rfl⟩
      refine ⟨rfl, ?_⟩
      rw [HI2.out]
      exact ⟨rfl, HG.out.2⟩
theorem conv_src {w : World} {X : Nat → Prop} {p : Option Addr} {bs : List UInt8} {n c : Nat} (h : Fr.Src w X p bs) (hn : bs.length = n) : (convert 27 9 (.slice p n c)).run Try.prog w = .ok (.string (baOf bs)) w := by
  subst hn
  rcases Nat.eq_zero_or_pos bs.length with h0 | h0
  · obtain rfl := List.eq_nil_of_length_eq_zero h0
    cases p with
    | none => exact Lib.run_convert_nil_bytes w 27 9 5 c Try.underlying27 Try.underlying5 Try.underlying9
    | some a => exact run_convert_bytes_back w 27 9 5 a c [] Try.underlying27 Try.underlying5 Try.underlying9 (fun j hj => absurd hj (by simp))
  · obtain ⟨a, rfl, -, -, hc⟩ := h h0
    exact run_convert_bytes_back w 27 9 5 a c bs Try.underlying27 Try.underlying5 Try.underlying9 (fun j hj => hc j _ (by unfold Lib.byteCells; rw [List.getElem?_map, List.getElem?_eq_getElem hj]; rfl))
/-- So many bytes, read as a text. -/
def TakePost (R B : Nat) (p : Int) (w : World) (x : Except Int (List UInt8 × List UInt8)) (e : Ending) (w' : World) : Prop :=
  match x with
  | .error c => e = thrown c ∧ Keeps (· = R) w w'
  | .ok a => ∃ v, e = .returned v ∧ Got R B p w a.2 w' ∧ (convert 27 9 v).run Try.prog w' = .ok (.string (baOf a.1)) w'
theorem take_all (R B : Nat) (l : List UInt8) (p : Int) (n : Nat) (w : World) (h : Rb w R B l p) (hn : n < 18446744073709551616) :
    Calls Try.prog 65 #[.pointer (some ⟨R, 0, none⟩), .int .u64 (n : Int)] w (TakePost R B p w (takeP n l)) := by
  obtain ⟨a, cap, h⟩ := h
  by_cases hl : l.length < n
  · refine (take_more R B a cap l p n w h hl (by omega)).mono ?_
    rintro e w1 ⟨rfl, rfl⟩
    unfold takeP
    rw [if_pos hl]
    exact ⟨rfl, Keeps.refl _ _⟩
  · refine (take_any R B a cap l p n w h (by omega)).mono ?_
    rintro e w1 ⟨rfl, h1, k1⟩
    unfold takeP
    rw [if_neg hl]
    exact ⟨_, rfl, ⟨⟨_, _, h1⟩, k1⟩, conv_src ((h.src.take n).keeps (keepsF k1) (fun k x _ => .inl x) (fun k x _ => x)) (by rw [List.length_take]; omega)⟩
def strV (s : ByteArray) : Value := .string s
theorem keyP_def (l : List UInt8) : keyP l = thenP (numP l) fun x => if 1 ≤ x.1 ∧ x.1 ≤ 64 then thenP (takeP x.1 x.2) fun y => .ok (baOf y.1, y.2) else .error 1 := rfl
set_option maxRecDepth 100000 in
set_option maxHeartbeats 4000000 in
/-- A name. -/
theorem key_any (R B : Nat) (l : List UInt8) (p : Int) (w : World) (h : Rb w R B l p) :
    Calls Try.prog 89 #[.pointer (some ⟨R, 0, none⟩)] w (ReadPost R B p w strV (keyP l)) := by
  have HN := Lib.hid (number_any R B l p w h)
  have HI := Lib.hid (keyP_def l)
  clear h
  cases hr : numP l with
  | error c =>
    rw [hr] at HN HI
    go_enter Try.func89, Try.ntmps89
    go_wp2_with fail
    refine HN.out.mono ?_
    rintro e w1 ⟨rfl, k1⟩
    refine ⟨rfl, ?_⟩
    rw [HI.out]
    exact ⟨rfl, k1⟩
  | ok a =>
    obtain ⟨n, r⟩ := a
    have hn := (numP_ok hr).2
    rw [hr] at HN HI
    rw [thenP_ok] at HI
    clear hr
    have HNN := Lib.hid hn
    by_cases h1 : 1 ≤ n
    · have d1 : decide ((1 : Int) ≤ (n : Int)) = true := by simp; omega
      by_cases h2 : n ≤ 64
      · have d2 : decide ((n : Int) ≤ 64) = true := by simp; omega
        have HI2 := Lib.hid (HI.out.trans (if_pos ⟨h1, h2⟩))
        clear h1 h2 hn HI
        go_enter Try.func89, Try.ntmps89
        go_wp2_with fail
        refine HN.out.mono ?_
        rintro e w1 ⟨rfl, hg⟩
        have HT := Lib.hid (take_all R B r p n w1 hg.1 HNN.out)
        have HG := Lib.hid hg
        clear hg
        unfold u64V
        go_wp2_with fail
        refine (demand_yes _).mono ?_
        rintro e w2 ⟨⟨v, rfl⟩, rfl⟩
        go_wp2_with fail
        refine HT.out.mono ?_
        cases ht : takeP n r with
        | error c =>
          rintro e w3 ⟨rfl, k3⟩
          refine ⟨rfl, ?_⟩
          rw [HI2.out, ht]
          exact ⟨rfl, HG.out.2.trans k3⟩
        | ok b =>
          rintro e w3 ⟨y, rfl, hg3, hcv⟩
          have HG3 : Hid (Got R B p w b.2 w3) := Lib.hid ⟨hg3.1, HG.out.2.trans hg3.2⟩
          have HT3 := Lib.hid ht
          clear hg3 ht
          go_wp2
          go_ret
          rw [HI2.out, HT3.out]
          exact ⟨rfl, HG3.out⟩
      · have d2 : decide ((n : Int) ≤ 64) = false := by simp; omega
        have HI2 := Lib.hid (HI.out.trans (if_neg (fun h => h2 h.2)))
        clear h1 h2 hn HI
        go_enter Try.func89, Try.ntmps89
        go_wp2_with fail
        refine HN.out.mono ?_
        rintro e w1 ⟨rfl, hg⟩
        have HG := Lib.hid hg
        clear hg
        unfold u64V
        go_wp2_with fail
        refine (demand_no _).mono ?_
        rintro e w2 ⟨rfl, rfl⟩
        refine ⟨rfl, ?_⟩
        rw [HI2.out]
        exact ⟨rfl, HG.out.2⟩
    · have d1 : decide ((1 : Int) ≤ (n : Int)) = false := by simp; omega
      have HI2 := Lib.hid (HI.out.trans (if_neg (fun h => h1 h.1)))
      clear h1 hn HI
      go_enter Try.func89, Try.ntmps89
      go_wp2_with fail
      refine HN.out.mono ?_
      rintro e w1 ⟨rfl, hg⟩
      have HG := Lib.hid hg
      clear hg
      unfold u64V
      go_wp2_with fail
      refine (demand_no _).mono ?_
      rintro e w2 ⟨rfl, rfl⟩
      refine ⟨rfl, ?_⟩
      rw [HI2.out]
      exact ⟨rfl, HG.out.2⟩
end Pk
end Go.Proofs.Ytmhlipncelgmlaa
