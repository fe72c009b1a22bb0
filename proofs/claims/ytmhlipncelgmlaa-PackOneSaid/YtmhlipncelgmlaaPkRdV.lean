/- Bytes as values: the reader's value, of any bytes. -/
import Derived.Test.YtmhlipncelgmlaaPkRdM
namespace Go.Proofs.Ytmhlipncelgmlaa
open Go.RowKit
set_option linter.unusedVariables false
set_option linter.unusedSimpArgs false
namespace Pk
open Val (VT Keeps Box StrBlock)
open Rk (info_parts)
set_option maxRecDepth 100000 in
set_option maxHeartbeats 4000000 in
theorem value_no (d R B : Nat) (l : List UInt8) (p : Nat) (w : World) (D c : Int) (h1 : tagP D p l = .error c) (h2 : parseV d p l = .error c) (h : Rb w R B l (p : Int)) (hp : p ≤ 4096) :
    Calls Try.prog 40 #[.pointer (some ⟨R, 0, none⟩), .int .i64 D] w (ValPost R B w (parseV d p l)) := by
  have HT := Lib.hid (tag_any R B l p D _ (h.alloc (.cells #[.int .i64 0, .bool false, .int .i64 0, .string ⟨#[]⟩, .slice none 0 0, .slice none 0 0] 25)) hp)
  rw [h1] at HT
  have K0 : Hid (Keeps (· = R) w (w.alloc (.cells #[.int .i64 0, .bool false, .int .i64 0, .string ⟨#[]⟩, .slice none 0 0, .slice none 0 0] 25))) := Lib.hid ((Keeps.refl _ w).alloc _)
  have H2 := Lib.hid h2
  clear h h1 h2 hp
  go_enter Try.func40, Try.ntmps40
  go_wp2_with fail
  refine HT.out.mono ?_
  rintro e w1 ⟨rfl, k1⟩
  refine ⟨rfl, ?_⟩
  rw [H2.out]
  exact ⟨rfl, K0.out.trans k1⟩
set_option maxRecDepth 100000 in
set_option maxHeartbeats 4000000 in
theorem value_0 (d R B : Nat) (l0 r : List UInt8) (p : Nat) (w : World) (D : Int) (IH : ValIH d) (hR : R < w.heap.size) (hB : B ≤ w.heap.size) (hp1 : p + 1 ≤ 4096) (hd32 : d ≤ 32) (hD : D = 32 - (d : Int))
    (HT : Hid (Calls Try.prog 62 #[.pointer (some ⟨R, 0, none⟩), .int .i64 D] (w.alloc (.cells #[.int .i64 0, .bool false, .int .i64 0, .string ⟨#[]⟩, .slice none 0 0, .slice none 0 0] 25)) fun e w' => e = .returned (.int .u8 0) ∧ Got R B ((p : Int) + 1) (w.alloc (.cells #[.int .i64 0, .bool false, .int .i64 0, .string ⟨#[]⟩, .slice none 0 0, .slice none 0 0] 25)) r w'))
    (HP : Hid (parseV (d + 1) p l0 = .ok (.mk 0 false 0 E0 [] [], p + 1, r))) :
    Calls Try.prog 40 #[.pointer (some ⟨R, 0, none⟩), .int .i64 D] w (ValPost R B w (parseV (d + 1) p l0)) := by
  have hA0 : w.heap.size ≠ R := by omega
  have HD := Lib.hid hD
  clear hD
  go_enter Try.func40, Try.ntmps40
  go_wp2_with fail
  refine HT.out.mono ?_
  rintro e w1 ⟨rfl, g1⟩
  obtain ⟨p1, hp⟩ : ∃ q : Int, q = ((p + 1 : Nat) : Int) := ⟨_, rfl⟩
  have e1 : (p : Int) + 1 = p1 := by rw [hp]; rfl
  rw [e1] at g1
  have HBOX : Hid (Box w1 w.heap.size #[.int .i64 0, .bool false, .int .i64 0, .string ⟨#[]⟩, .slice none 0 0, .slice none 0 0]) := Lib.hid (box_keeps (Box.new w _) g1.2 hA0)
  have HG : Hid (Got R B p1 w r w1) := Lib.hid ⟨g1.1, ((Keeps.refl _ w).alloc _).trans g1.2⟩
  clear g1 e1 HT
  subst hp
  obtain ⟨p1, hp⟩ : ∃ q : Int, ((p + 1 : Nat) : Int) = q := ⟨_, rfl⟩
  have HPP := Lib.hid hp
  rw [hp] at HG
  clear hp
  have hf := fun i => box_free HBOX.out i
  obtain ⟨z0, z1, z2, z3, z4, z5⟩ := HBOX.out.cell
  have HE := Lib.hid (box_six HBOX.out (.int .i64 0) (.bool false) (.int .i64 0) (.string ⟨#[]⟩) (.slice none 0 0) (.slice none 0 0))
  go_wp2
  obtain ⟨q0, q1, q2, q3, q4, q5⟩ := HE.out.cell
  unfold six at q0 q1 q2 q3 q4 q5
  refine bodyPost_ret (v := .agg #[.int .i64 0, .bool false, .int .i64 0, .string ⟨#[]⟩, .slice none 0 0, .slice none 0 0]) (by simp [results, Try.results40, go_sem, q0, q1, q2, q3, q4, q5]) rfl ?_
  rw [HP.out]
  exact ⟨_, rfl, own_leaf _ _ _ _ _ _, (by show Rb _ R B _ ((p + 1 : Nat) : Int); rw [HPP.out]; exact six_rb HG.out.1 hA0 hB _ _ _ _ _ _), keeps_six HG.out.2 (.inr (Nat.le_refl _)) _ _ _ _ _ _⟩
set_option maxRecDepth 100000 in
set_option maxHeartbeats 4000000 in
theorem value_1 (d R B : Nat) (l0 r : List UInt8) (p : Nat) (w : World) (D : Int) (IH : ValIH d) (hR : R < w.heap.size) (hB : B ≤ w.heap.size) (hp1 : p + 1 ≤ 4096) (hd32 : d ≤ 32) (hD : D = 32 - (d : Int))
    (HT : Hid (Calls Try.prog 62 #[.pointer (some ⟨R, 0, none⟩), .int .i64 D] (w.alloc (.cells #[.int .i64 0, .bool false, .int .i64 0, .string ⟨#[]⟩, .slice none 0 0, .slice none 0 0] 25)) fun e w' => e = .returned (.int .u8 1) ∧ Got R B ((p : Int) + 1) (w.alloc (.cells #[.int .i64 0, .bool false, .int .i64 0, .string ⟨#[]⟩, .slice none 0 0, .slice none 0 0] 25)) r w'))
    (HP : Hid (parseV (d + 1) p l0 = .ok (.mk 1 false 0 E0 [] [], p + 1, r))) :
    Calls Try.prog 40 #[.pointer (some ⟨R, 0, none⟩), .int .i64 D] w (ValPost R B w (parseV (d + 1) p l0)) := by
  have hA0 : w.heap.size ≠ R := by omega
  have HD := Lib.hid hD
  clear hD
  go_enter Try.func40, Try.ntmps40
  go_wp2_with fail
  refine HT.out.mono ?_
  rintro e w1 ⟨rfl, g1⟩
  obtain ⟨p1, hp⟩ : ∃ q : Int, q = ((p + 1 : Nat) : Int) := ⟨_, rfl⟩
  have e1 : (p : Int) + 1 = p1 := by rw [hp]; rfl
  rw [e1] at g1
  have HBOX : Hid (Box w1 w.heap.size #[.int .i64 0, .bool false, .int .i64 0, .string ⟨#[]⟩, .slice none 0 0, .slice none 0 0]) := Lib.hid (box_keeps (Box.new w _) g1.2 hA0)
  have HG : Hid (Got R B p1 w r w1) := Lib.hid ⟨g1.1, ((Keeps.refl _ w).alloc _).trans g1.2⟩
  clear g1 e1 HT
  subst hp
  obtain ⟨p1, hp⟩ : ∃ q : Int, ((p + 1 : Nat) : Int) = q := ⟨_, rfl⟩
  have HPP := Lib.hid hp
  rw [hp] at HG
  clear hp
  have hf := fun i => box_free HBOX.out i
  obtain ⟨z0, z1, z2, z3, z4, z5⟩ := HBOX.out.cell
  have HE := Lib.hid (box_six HBOX.out (.int .i64 1) (.bool false) (.int .i64 0) (.string ⟨#[]⟩) (.slice none 0 0) (.slice none 0 0))
  go_wp2
  obtain ⟨q0, q1, q2, q3, q4, q5⟩ := HE.out.cell
  unfold six at q0 q1 q2 q3 q4 q5
  refine bodyPost_ret (v := .agg #[.int .i64 1, .bool false, .int .i64 0, .string ⟨#[]⟩, .slice none 0 0, .slice none 0 0]) (by simp [results, Try.results40, go_sem, q0, q1, q2, q3, q4, q5]) rfl ?_
  rw [HP.out]
  exact ⟨_, rfl, own_leaf _ _ _ _ _ _, (by show Rb _ R B _ ((p + 1 : Nat) : Int); rw [HPP.out]; exact six_rb HG.out.1 hA0 hB _ _ _ _ _ _), keeps_six HG.out.2 (.inr (Nat.le_refl _)) _ _ _ _ _ _⟩
set_option maxRecDepth 100000 in
set_option maxHeartbeats 4000000 in
theorem value_2 (d R B : Nat) (l0 r : List UInt8) (p : Nat) (w : World) (D : Int) (IH : ValIH d) (hR : R < w.heap.size) (hB : B ≤ w.heap.size) (hp1 : p + 1 ≤ 4096) (hd32 : d ≤ 32) (hD : D = 32 - (d : Int))
    (HT : Hid (Calls Try.prog 62 #[.pointer (some ⟨R, 0, none⟩), .int .i64 D] (w.alloc (.cells #[.int .i64 0, .bool false, .int .i64 0, .string ⟨#[]⟩, .slice none 0 0, .slice none 0 0] 25)) fun e w' => e = .returned (.int .u8 2) ∧ Got R B ((p : Int) + 1) (w.alloc (.cells #[.int .i64 0, .bool false, .int .i64 0, .string ⟨#[]⟩, .slice none 0 0, .slice none 0 0] 25)) r w'))
    (HP : Hid (parseV (d + 1) p l0 = .ok (.mk 1 true 0 E0 [] [], p + 1, r))) :
    Calls Try.prog 40 #[.pointer (some ⟨R, 0, none⟩), .int .i64 D] w (ValPost R B w (parseV (d + 1) p l0)) := by
  have hA0 : w.heap.size ≠ R := by omega
  have HD := Lib.hid hD
  clear hD
  go_enter Try.func40, Try.ntmps40
  go_wp2_with fail
  refine HT.out.mono ?_
  rintro e w1 ⟨rfl, g1⟩
  obtain ⟨p1, hp⟩ : ∃ q : Int, q = ((p + 1 : Nat) : Int) := ⟨_, rfl⟩
  have e1 : (p : Int) + 1 = p1 := by rw [hp]; rfl
  rw [e1] at g1
  have HBOX : Hid (Box w1 w.heap.size #[.int .i64 0, .bool false, .int .i64 0, .string ⟨#[]⟩, .slice none 0 0, .slice none 0 0]) := Lib.hid (box_keeps (Box.new w _) g1.2 hA0)
  have HG : Hid (Got R B p1 w r w1) := Lib.hid ⟨g1.1, ((Keeps.refl _ w).alloc _).trans g1.2⟩
  clear g1 e1 HT
  subst hp
  obtain ⟨p1, hp⟩ : ∃ q : Int, ((p + 1 : Nat) : Int) = q := ⟨_, rfl⟩
  have HPP := Lib.hid hp
  rw [hp] at HG
  clear hp
  have hf := fun i => box_free HBOX.out i
  obtain ⟨z0, z1, z2, z3, z4, z5⟩ := HBOX.out.cell
  have HE := Lib.hid (box_six HBOX.out (.int .i64 1) (.bool true) (.int .i64 0) (.string ⟨#[]⟩) (.slice none 0 0) (.slice none 0 0))
  go_wp2
  obtain ⟨q0, q1, q2, q3, q4, q5⟩ := HE.out.cell
  unfold six at q0 q1 q2 q3 q4 q5
  refine bodyPost_ret (v := .agg #[.int .i64 1, .bool true, .int .i64 0, .string ⟨#[]⟩, .slice none 0 0, .slice none 0 0]) (by simp [results, Try.results40, go_sem, q0, q1, q2, q3, q4, q5]) rfl ?_
  rw [HP.out]
  exact ⟨_, rfl, own_leaf _ _ _ _ _ _, (by show Rb _ R B _ ((p + 1 : Nat) : Int); rw [HPP.out]; exact six_rb HG.out.1 hA0 hB _ _ _ _ _ _), keeps_six HG.out.2 (.inr (Nat.le_refl _)) _ _ _ _ _ _⟩
set_option maxRecDepth 100000 in
set_option maxHeartbeats 4000000 in
theorem value_3 (d R B : Nat) (l0 r : List UInt8) (p : Nat) (w : World) (D : Int) (IH : ValIH d) (hR : R < w.heap.size) (hB : B ≤ w.heap.size) (hp1 : p + 1 ≤ 4096) (hd32 : d ≤ 32) (hD : D = 32 - (d : Int))
    (HT : Hid (Calls Try.prog 62 #[.pointer (some ⟨R, 0, none⟩), .int .i64 D] (w.alloc (.cells #[.int .i64 0, .bool false, .int .i64 0, .string ⟨#[]⟩, .slice none 0 0, .slice none 0 0] 25)) fun e w' => e = .returned (.int .u8 3) ∧ Got R B ((p : Int) + 1) (w.alloc (.cells #[.int .i64 0, .bool false, .int .i64 0, .string ⟨#[]⟩, .slice none 0 0, .slice none 0 0] 25)) r w'))
    (HP : Hid (parseV (d + 1) p l0 = thenP (numP r) fun x => .ok (.mk 2 false (unfoldN x.1) E0 [] [], p + 1, x.2))) :
    Calls Try.prog 40 #[.pointer (some ⟨R, 0, none⟩), .int .i64 D] w (ValPost R B w (parseV (d + 1) p l0)) := by
  have hA0 : w.heap.size ≠ R := by omega
  have HD := Lib.hid hD
  clear hD
  go_enter Try.func40, Try.ntmps40
  go_wp2_with fail
  refine HT.out.mono ?_
  rintro e w1 ⟨rfl, g1⟩
  obtain ⟨p1, hp⟩ : ∃ q : Int, q = ((p + 1 : Nat) : Int) := ⟨_, rfl⟩
  have e1 : (p : Int) + 1 = p1 := by rw [hp]; rfl
  rw [e1] at g1
  have HBOX : Hid (Box w1 w.heap.size #[.int .i64 0, .bool false, .int .i64 0, .string ⟨#[]⟩, .slice none 0 0, .slice none 0 0]) := Lib.hid (box_keeps (Box.new w _) g1.2 hA0)
  have HG : Hid (Got R B p1 w r w1) := Lib.hid ⟨g1.1, ((Keeps.refl _ w).alloc _).trans g1.2⟩
  clear g1 e1 HT
  subst hp
  obtain ⟨p1, hp⟩ : ∃ q : Int, ((p + 1 : Nat) : Int) = q := ⟨_, rfl⟩
  have HPP := Lib.hid hp
  rw [hp] at HG
  clear hp
  have HN := Lib.hid (number_any R B r p1 w1 HG.out.1)
  go_wp2_with fail
  refine HN.out.mono ?_
  cases hx : numP r with
  | error c =>
    have HP2 : Hid (parseV (d + 1) p l0 = .error c) := Lib.hid (by rw [HP.out, hx]; rfl)
    rintro e w2 ⟨rfl, k2⟩
    refine ⟨rfl, ?_⟩
    rw [HP2.out]
    exact ⟨rfl, HG.out.2.trans k2⟩
  | ok a =>
    obtain ⟨n, r2⟩ := a
    have hn := (numP_ok hx).2
    have HP2 : Hid (parseV (d + 1) p l0 = .ok (.mk 2 false (unfoldN n) E0 [] [], p + 1, r2)) := Lib.hid (by rw [HP.out, hx]; rfl)
    rintro e w2 ⟨rfl, g2⟩
    have HU := Lib.hid (unfold_any n hn w2)
    have HBOX2 := Lib.hid (box_keeps HBOX.out g2.2 hA0)
    have HG2 : Hid (Got R B p1 w r2 w2) := Lib.hid ⟨g2.1, HG.out.2.trans g2.2⟩
    clear g2 hn hx HBOX HG HN HP
    have HBOX := HBOX2
    have HG := HG2
    have HP := HP2
    unfold u64V
    go_wp2_with fail
    refine HU.out.mono ?_
    rintro e w3 ⟨rfl, rfl⟩
    have hf := fun i => box_free HBOX.out i
    obtain ⟨z0, z1, z2, z3, z4, z5⟩ := HBOX.out.cell
    have HE := Lib.hid (box_six HBOX.out (.int .i64 2) (.bool false) (.int .i64 (unfoldN n)) (.string ⟨#[]⟩) (.slice none 0 0) (.slice none 0 0))
    go_wp2
    obtain ⟨q0, q1, q2, q3, q4, q5⟩ := HE.out.cell
    unfold six at q0 q1 q2 q3 q4 q5
    refine bodyPost_ret (v := .agg #[.int .i64 2, .bool false, .int .i64 (unfoldN n), .string ⟨#[]⟩, .slice none 0 0, .slice none 0 0]) (by simp [results, Try.results40, go_sem, q0, q1, q2, q3, q4, q5]) rfl ?_
    rw [HP.out]
    exact ⟨_, rfl, own_leaf _ _ _ _ _ _, (by show Rb _ R B _ ((p + 1 : Nat) : Int); rw [HPP.out]; exact six_rb HG.out.1 hA0 hB _ _ _ _ _ _), keeps_six HG.out.2 (.inr (Nat.le_refl _)) _ _ _ _ _ _⟩
set_option maxRecDepth 100000 in
set_option maxHeartbeats 4000000 in
theorem value_4 (d R B : Nat) (l0 r : List UInt8) (p : Nat) (w : World) (D : Int) (IH : ValIH d) (hR : R < w.heap.size) (hB : B ≤ w.heap.size) (hp1 : p + 1 ≤ 4096) (hd32 : d ≤ 32) (hD : D = 32 - (d : Int))
    (HT : Hid (Calls Try.prog 62 #[.pointer (some ⟨R, 0, none⟩), .int .i64 D] (w.alloc (.cells #[.int .i64 0, .bool false, .int .i64 0, .string ⟨#[]⟩, .slice none 0 0, .slice none 0 0] 25)) fun e w' => e = .returned (.int .u8 4) ∧ Got R B ((p : Int) + 1) (w.alloc (.cells #[.int .i64 0, .bool false, .int .i64 0, .string ⟨#[]⟩, .slice none 0 0, .slice none 0 0] 25)) r w'))
    (HP : Hid (parseV (d + 1) p l0 = thenP (textP r) fun x => .ok (.mk 3 false 0 x.1 [] [], p + 1, x.2))) :
    Calls Try.prog 40 #[.pointer (some ⟨R, 0, none⟩), .int .i64 D] w (ValPost R B w (parseV (d + 1) p l0)) := by
  have hA0 : w.heap.size ≠ R := by omega
  have HD := Lib.hid hD
  clear hD
  go_enter Try.func40, Try.ntmps40
  go_wp2_with fail
  refine HT.out.mono ?_
  rintro e w1 ⟨rfl, g1⟩
  obtain ⟨p1, hp⟩ : ∃ q : Int, q = ((p + 1 : Nat) : Int) := ⟨_, rfl⟩
  have e1 : (p : Int) + 1 = p1 := by rw [hp]; rfl
  rw [e1] at g1
  have HBOX : Hid (Box w1 w.heap.size #[.int .i64 0, .bool false, .int .i64 0, .string ⟨#[]⟩, .slice none 0 0, .slice none 0 0]) := Lib.hid (box_keeps (Box.new w _) g1.2 hA0)
  have HG : Hid (Got R B p1 w r w1) := Lib.hid ⟨g1.1, ((Keeps.refl _ w).alloc _).trans g1.2⟩
  clear g1 e1 HT
  subst hp
  obtain ⟨p1, hp⟩ : ∃ q : Int, ((p + 1 : Nat) : Int) = q := ⟨_, rfl⟩
  have HPP := Lib.hid hp
  rw [hp] at HG
  clear hp
  have HN := Lib.hid (number_any R B r p1 w1 HG.out.1)
  go_wp2_with fail
  refine HN.out.mono ?_
  cases hx : numP r with
  | error c =>
    have HP2 : Hid (parseV (d + 1) p l0 = .error c) := Lib.hid (by rw [HP.out]; unfold textP; rw [hx]; rfl)
    rintro e w2 ⟨rfl, k2⟩
    refine ⟨rfl, ?_⟩
    rw [HP2.out]
    exact ⟨rfl, HG.out.2.trans k2⟩
  | ok a =>
    obtain ⟨n, r2⟩ := a
    have hn := (numP_ok hx).2
    have HP1 : Hid (parseV (d + 1) p l0 = thenP (takeP n r2) fun y => .ok (.mk 3 false 0 (baOf y.1) [] [], p + 1, y.2)) := Lib.hid (by rw [HP.out]; unfold textP; rw [hx, thenP_ok]; cases takeP n r2 <;> rfl)
    rintro e w2 ⟨rfl, g2⟩
    have HT := Lib.hid (take_all R B r2 p1 n w2 g2.1 hn)
    have HBOX2 := Lib.hid (box_keeps HBOX.out g2.2 hA0)
    have HG2 : Hid (Got R B p1 w r2 w2) := Lib.hid ⟨g2.1, HG.out.2.trans g2.2⟩
    clear g2 hn hx HBOX HG HN HP
    have HBOX := HBOX2
    have HG := HG2
    unfold u64V
    go_wp2_with fail
    refine HT.out.mono ?_
    cases hx : takeP n r2 with
    | error c =>
      have HP2 : Hid (parseV (d + 1) p l0 = .error c) := Lib.hid (by rw [HP1.out, hx]; rfl)
      rintro e w3 ⟨rfl, k2⟩
      refine ⟨rfl, ?_⟩
      rw [HP2.out]
      exact ⟨rfl, HG.out.2.trans k2⟩
    | ok a =>
      have HP : Hid (parseV (d + 1) p l0 = .ok (.mk 3 false 0 (baOf a.1) [] [], p + 1, a.2)) := Lib.hid (by rw [HP1.out, hx]; rfl)
      rintro e w3 ⟨v, rfl, g3, hcv⟩
      have HBOX3 := Lib.hid (box_keeps HBOX.out g3.2 hA0)
      have HG3 : Hid (Got R B p1 w a.2 w3) := Lib.hid ⟨g3.1, HG.out.2.trans g3.2⟩
      clear g3 hx HBOX HG HP1 HT
      have HBOX := HBOX3
      have HG := HG3
      obtain ⟨s, hs⟩ : ∃ s, baOf a.1 = s := ⟨_, rfl⟩
      rw [hs] at hcv HP
      clear hs
      have hf := fun i => box_free HBOX.out i
      obtain ⟨z0, z1, z2, z3, z4, z5⟩ := HBOX.out.cell
      have HE := Lib.hid (box_six HBOX.out (.int .i64 3) (.bool false) (.int .i64 0) (.string s) (.slice none 0 0) (.slice none 0 0))
      go_wp2
      obtain ⟨q0, q1, q2, q3, q4, q5⟩ := HE.out.cell
      unfold six at q0 q1 q2 q3 q4 q5
      refine bodyPost_ret (v := .agg #[.int .i64 3, .bool false, .int .i64 0, .string s, .slice none 0 0, .slice none 0 0]) (by simp [results, Try.results40, go_sem, q0, q1, q2, q3, q4, q5]) rfl ?_
      rw [HP.out]
      exact ⟨_, rfl, own_leaf _ _ _ _ _ _, (by show Rb _ R B _ ((p + 1 : Nat) : Int); rw [HPP.out]; exact six_rb HG.out.1 hA0 hB _ _ _ _ _ _), keeps_six HG.out.2 (.inr (Nat.le_refl _)) _ _ _ _ _ _⟩
set_option maxRecDepth 100000 in
set_option maxHeartbeats 4000000 in
theorem value_5 (d R B : Nat) (l0 r : List UInt8) (p : Nat) (w : World) (D : Int) (IH : ValIH d) (hR : R < w.heap.size) (hB : B ≤ w.heap.size) (hp1 : p + 1 ≤ 4096) (hd32 : d ≤ 32) (hD : D = 32 - (d : Int))
    (HT : Hid (Calls Try.prog 62 #[.pointer (some ⟨R, 0, none⟩), .int .i64 D] (w.alloc (.cells #[.int .i64 0, .bool false, .int .i64 0, .string ⟨#[]⟩, .slice none 0 0, .slice none 0 0] 25)) fun e w' => e = .returned (.int .u8 5) ∧ Got R B ((p : Int) + 1) (w.alloc (.cells #[.int .i64 0, .bool false, .int .i64 0, .string ⟨#[]⟩, .slice none 0 0, .slice none 0 0] 25)) r w'))
    (HP : Hid (parseV (d + 1) p l0 = listP d (p + 1) r)) :
    Calls Try.prog 40 #[.pointer (some ⟨R, 0, none⟩), .int .i64 D] w (ValPost R B w (parseV (d + 1) p l0)) := by
  have hA0 : w.heap.size ≠ R := by omega
  have HD := Lib.hid hD
  clear hD
  go_enter Try.func40, Try.ntmps40
  go_wp2_with fail
  refine HT.out.mono ?_
  rintro e w1 ⟨rfl, g1⟩
  obtain ⟨p1, hp⟩ : ∃ q : Int, q = ((p + 1 : Nat) : Int) := ⟨_, rfl⟩
  have e1 : (p : Int) + 1 = p1 := by rw [hp]; rfl
  rw [e1] at g1
  have HBOX : Hid (Box w1 w.heap.size #[.int .i64 0, .bool false, .int .i64 0, .string ⟨#[]⟩, .slice none 0 0, .slice none 0 0]) := Lib.hid (box_keeps (Box.new w _) g1.2 hA0)
  have HG : Hid (Got R B p1 w r w1) := Lib.hid ⟨g1.1, ((Keeps.refl _ w).alloc _).trans g1.2⟩
  clear g1 e1 HT
  subst hp
  obtain ⟨p1, hp⟩ : ∃ q : Int, ((p + 1 : Nat) : Int) = q := ⟨_, rfl⟩
  have HPP := Lib.hid hp
  clear hp HPP
  have HN := Lib.hid (list_any d R B r (p + 1) w1 D (Lib.hid IH) HG.out.1 (by have := HG.out.2.size; omega) hp1 hd32 HD.out)
  go_wp2_with fail
  refine HN.out.mono ?_
  cases hx : listP d (p + 1) r with
  | error c =>
    have HP2 : Hid (parseV (d + 1) p l0 = .error c) := Lib.hid (by rw [HP.out, hx])
    rintro e w2 ⟨rfl, k2⟩
    refine ⟨rfl, ?_⟩
    rw [HP2.out]
    exact ⟨rfl, HG.out.2.trans k2⟩
  | ok a =>
    have HP2 : Hid (parseV (d + 1) p l0 = .ok a) := Lib.hid (by rw [HP.out, hx])
    rintro e w2 ⟨v, rfl, hown, g2⟩
    obtain ⟨yk, yb, yn, ys, ypl, ynl, ycl, ypk, ynk, yck, rfl⟩ := hown.shape
    have HO := Lib.hid hown
    have HBOX2 := Lib.hid (box_keeps HBOX.out g2.2 hA0)
    have HK := Lib.hid g2.2
    have HG2 : Hid (Got R B (a.2.1 : Int) w a.2.2 w2) := Lib.hid ⟨g2.1, HG.out.2.trans g2.2⟩
    have hw1 : w.heap.size + 1 ≤ w1.heap.size := HBOX.out.lt
    clear g2 hx HBOX HG HN HP hown
    have HBOX := HBOX2
    have HG := HG2
    have HP := HP2
    have hf := fun i => box_free HBOX.out i
    obtain ⟨z0, z1, z2, z3, z4, z5⟩ := HBOX.out.cell
    have HE := Lib.hid (box_six HBOX.out (.int .i64 yk) (.bool yb) (.int .i64 yn) (.string ys) (.slice ypl ynl ycl) (.slice ypk ynk yck))
    go_wp2
    obtain ⟨q0, q1, q2, q3, q4, q5⟩ := HE.out.cell
    unfold six at q0 q1 q2 q3 q4 q5
    refine bodyPost_ret (v := .agg #[.int .i64 yk, .bool yb, .int .i64 yn, .string ys, .slice ypl ynl ycl, .slice ypk ynk yck]) (by simp [results, Try.results40, go_sem, q0, q1, q2, q3, q4, q5]) rfl ?_
    rw [HP.out]
    exact ⟨_, rfl, VT.Own.more (fun k hk => ⟨by have := hk.1; omega, Nat.lt_of_lt_of_le hk.2 (keeps_six (Keeps.refl (· = w.heap.size) w2) (.inl rfl) _ _ _ _ _ _).size⟩) (HO.out.keeps (keeps_six (Keeps.refl (· = w.heap.size) w2) (.inl rfl) _ _ _ _ _ _) (fun k hk => ⟨hk.2, by have := hk.1; omega⟩)), six_rb HG.out.1 hA0 hB _ _ _ _ _ _, keeps_six HG.out.2 (.inr (Nat.le_refl _)) _ _ _ _ _ _⟩
set_option maxRecDepth 100000 in
set_option maxHeartbeats 4000000 in
theorem value_6 (d R B : Nat) (l0 r : List UInt8) (p : Nat) (w : World) (D : Int) (IH : ValIH d) (hR : R < w.heap.size) (hB : B ≤ w.heap.size) (hp1 : p + 1 ≤ 4096) (hd32 : d ≤ 32) (hD : D = 32 - (d : Int))
    (HT : Hid (Calls Try.prog 62 #[.pointer (some ⟨R, 0, none⟩), .int .i64 D] (w.alloc (.cells #[.int .i64 0, .bool false, .int .i64 0, .string ⟨#[]⟩, .slice none 0 0, .slice none 0 0] 25)) fun e w' => e = .returned (.int .u8 6) ∧ Got R B ((p : Int) + 1) (w.alloc (.cells #[.int .i64 0, .bool false, .int .i64 0, .string ⟨#[]⟩, .slice none 0 0, .slice none 0 0] 25)) r w'))
    (HP : Hid (parseV (d + 1) p l0 = dictP d (p + 1) r)) :
    Calls Try.prog 40 #[.pointer (some ⟨R, 0, none⟩), .int .i64 D] w (ValPost R B w (parseV (d + 1) p l0)) := by
  have hA0 : w.heap.size ≠ R := by omega
  have HD := Lib.hid hD
  clear hD
  go_enter Try.func40, Try.ntmps40
  go_wp2_with fail
  refine HT.out.mono ?_
  rintro e w1 ⟨rfl, g1⟩
  obtain ⟨p1, hp⟩ : ∃ q : Int, q = ((p + 1 : Nat) : Int) := ⟨_, rfl⟩
  have e1 : (p : Int) + 1 = p1 := by rw [hp]; rfl
  rw [e1] at g1
  have HBOX : Hid (Box w1 w.heap.size #[.int .i64 0, .bool false, .int .i64 0, .string ⟨#[]⟩, .slice none 0 0, .slice none 0 0]) := Lib.hid (box_keeps (Box.new w _) g1.2 hA0)
  have HG : Hid (Got R B p1 w r w1) := Lib.hid ⟨g1.1, ((Keeps.refl _ w).alloc _).trans g1.2⟩
  clear g1 e1 HT
  subst hp
  obtain ⟨p1, hp⟩ : ∃ q : Int, ((p + 1 : Nat) : Int) = q := ⟨_, rfl⟩
  have HPP := Lib.hid hp
  clear hp HPP
  have HN := Lib.hid (dict_any d R B r (p + 1) w1 D (Lib.hid IH) HG.out.1 (by have := HG.out.2.size; omega) hp1 hd32 HD.out)
  go_wp2_with fail
  refine HN.out.mono ?_
  cases hx : dictP d (p + 1) r with
  | error c =>
    have HP2 : Hid (parseV (d + 1) p l0 = .error c) := Lib.hid (by rw [HP.out, hx])
    rintro e w2 ⟨rfl, k2⟩
    refine ⟨rfl, ?_⟩
    rw [HP2.out]
    exact ⟨rfl, HG.out.2.trans k2⟩
  | ok a =>
    have HP2 : Hid (parseV (d + 1) p l0 = .ok a) := Lib.hid (by rw [HP.out, hx])
    rintro e w2 ⟨v, rfl, hown, g2⟩
    obtain ⟨yk, yb, yn, ys, ypl, ynl, ycl, ypk, ynk, yck, rfl⟩ := hown.shape
    have HO := Lib.hid hown
    have HBOX2 := Lib.hid (box_keeps HBOX.out g2.2 hA0)
    have HK := Lib.hid g2.2
    have HG2 : Hid (Got R B (a.2.1 : Int) w a.2.2 w2) := Lib.hid ⟨g2.1, HG.out.2.trans g2.2⟩
    have hw1 : w.heap.size + 1 ≤ w1.heap.size := HBOX.out.lt
    clear g2 hx HBOX HG HN HP hown
    have HBOX := HBOX2
    have HG := HG2
    have HP := HP2
    have hf := fun i => box_free HBOX.out i
    obtain ⟨z0, z1, z2, z3, z4, z5⟩ := HBOX.out.cell
    have HE := Lib.hid (box_six HBOX.out (.int .i64 yk) (.bool yb) (.int .i64 yn) (.string ys) (.slice ypl ynl ycl) (.slice ypk ynk yck))
    go_wp2
    obtain ⟨q0, q1, q2, q3, q4, q5⟩ := HE.out.cell
    unfold six at q0 q1 q2 q3 q4 q5
    refine bodyPost_ret (v := .agg #[.int .i64 yk, .bool yb, .int .i64 yn, .string ys, .slice ypl ynl ycl, .slice ypk ynk yck]) (by simp [results, Try.results40, go_sem, q0, q1, q2, q3, q4, q5]) rfl ?_
    rw [HP.out]
    exact ⟨_, rfl, VT.Own.more (fun k hk => ⟨by have := hk.1; omega, Nat.lt_of_lt_of_le hk.2 (keeps_six (Keeps.refl (· = w.heap.size) w2) (.inl rfl) _ _ _ _ _ _).size⟩) (HO.out.keeps (keeps_six (Keeps.refl (· = w.heap.size) w2) (.inl rfl) _ _ _ _ _ _) (fun k hk => ⟨hk.2, by have := hk.1; omega⟩)), six_rb HG.out.1 hA0 hB _ _ _ _ _ _, keeps_six HG.out.2 (.inr (Nat.le_refl _)) _ _ _ _ _ _⟩
set_option maxRecDepth 100000 in
set_option maxHeartbeats 4000000 in
theorem value_7 (d R B : Nat) (l0 r : List UInt8) (p : Nat) (w : World) (D : Int) (IH : ValIH d) (hR : R < w.heap.size) (hB : B ≤ w.heap.size) (hp1 : p + 1 ≤ 4096) (hd32 : d ≤ 32) (hD : D = 32 - (d : Int))
    (HT : Hid (Calls Try.prog 62 #[.pointer (some ⟨R, 0, none⟩), .int .i64 D] (w.alloc (.cells #[.int .i64 0, .bool false, .int .i64 0, .string ⟨#[]⟩, .slice none 0 0, .slice none 0 0] 25)) fun e w' => e = .returned (.int .u8 7) ∧ Got R B ((p : Int) + 1) (w.alloc (.cells #[.int .i64 0, .bool false, .int .i64 0, .string ⟨#[]⟩, .slice none 0 0, .slice none 0 0] 25)) r w'))
    (HP : Hid (parseV (d + 1) p l0 = thenP (idP r) fun x => .ok (.mk 6 false x.1 E0 [] [], p + 1, x.2))) :
    Calls Try.prog 40 #[.pointer (some ⟨R, 0, none⟩), .int .i64 D] w (ValPost R B w (parseV (d + 1) p l0)) := by
  have hA0 : w.heap.size ≠ R := by omega
  have HD := Lib.hid hD
  clear hD
  go_enter Try.func40, Try.ntmps40
  go_wp2_with fail
  refine HT.out.mono ?_
  rintro e w1 ⟨rfl, g1⟩
  obtain ⟨p1, hp⟩ : ∃ q : Int, q = ((p + 1 : Nat) : Int) := ⟨_, rfl⟩
  have e1 : (p : Int) + 1 = p1 := by rw [hp]; rfl
  rw [e1] at g1
  have HBOX : Hid (Box w1 w.heap.size #[.int .i64 0, .bool false, .int .i64 0, .string ⟨#[]⟩, .slice none 0 0, .slice none 0 0]) := Lib.hid (box_keeps (Box.new w _) g1.2 hA0)
  have HG : Hid (Got R B p1 w r w1) := Lib.hid ⟨g1.1, ((Keeps.refl _ w).alloc _).trans g1.2⟩
  clear g1 e1 HT
  subst hp
  obtain ⟨p1, hp⟩ : ∃ q : Int, ((p + 1 : Nat) : Int) = q := ⟨_, rfl⟩
  have HPP := Lib.hid hp
  rw [hp] at HG
  clear hp
  have HN := Lib.hid (id_any R B r p1 w1 HG.out.1)
  go_wp2_with fail
  refine HN.out.mono ?_
  cases hx : idP r with
  | error c =>
    have HP2 : Hid (parseV (d + 1) p l0 = .error c) := Lib.hid (by rw [HP.out, hx]; rfl)
    rintro e w2 ⟨rfl, k2⟩
    refine ⟨rfl, ?_⟩
    rw [HP2.out]
    exact ⟨rfl, HG.out.2.trans k2⟩
  | ok a =>
    obtain ⟨n, r2⟩ := a
    have HP2 : Hid (parseV (d + 1) p l0 = .ok (.mk 6 false n E0 [] [], p + 1, r2)) := Lib.hid (by rw [HP.out, hx]; rfl)
    rintro e w2 ⟨rfl, g2⟩
    have HBOX2 := Lib.hid (box_keeps HBOX.out g2.2 hA0)
    have HG2 : Hid (Got R B p1 w r2 w2) := Lib.hid ⟨g2.1, HG.out.2.trans g2.2⟩
    clear g2 hx HBOX HG HN HP
    have HBOX := HBOX2
    have HG := HG2
    have HP := HP2
    unfold i64V
    have hf := fun i => box_free HBOX.out i
    obtain ⟨z0, z1, z2, z3, z4, z5⟩ := HBOX.out.cell
    have HE := Lib.hid (box_six HBOX.out (.int .i64 6) (.bool false) (.int .i64 (n : Int)) (.string ⟨#[]⟩) (.slice none 0 0) (.slice none 0 0))
    go_wp2
    obtain ⟨q0, q1, q2, q3, q4, q5⟩ := HE.out.cell
    unfold six at q0 q1 q2 q3 q4 q5
    refine bodyPost_ret (v := .agg #[.int .i64 6, .bool false, .int .i64 (n : Int), .string ⟨#[]⟩, .slice none 0 0, .slice none 0 0]) (by simp [results, Try.results40, go_sem, q0, q1, q2, q3, q4, q5]) rfl ?_
    rw [HP.out]
    exact ⟨_, rfl, own_leaf _ _ _ _ _ _, (by show Rb _ R B _ ((p + 1 : Nat) : Int); rw [HPP.out]; exact six_rb HG.out.1 hA0 hB _ _ _ _ _ _), keeps_six HG.out.2 (.inr (Nat.le_refl _)) _ _ _ _ _ _⟩
set_option maxRecDepth 100000 in
set_option maxHeartbeats 4000000 in
theorem value_8 (d R B : Nat) (l0 r : List UInt8) (p : Nat) (w : World) (D : Int) (IH : ValIH d) (hR : R < w.heap.size) (hB : B ≤ w.heap.size) (hp1 : p + 1 ≤ 4096) (hd32 : d ≤ 32) (hD : D = 32 - (d : Int))
    (HT : Hid (Calls Try.prog 62 #[.pointer (some ⟨R, 0, none⟩), .int .i64 D] (w.alloc (.cells #[.int .i64 0, .bool false, .int .i64 0, .string ⟨#[]⟩, .slice none 0 0, .slice none 0 0] 25)) fun e w' => e = .returned (.int .u8 8) ∧ Got R B ((p : Int) + 1) (w.alloc (.cells #[.int .i64 0, .bool false, .int .i64 0, .string ⟨#[]⟩, .slice none 0 0, .slice none 0 0] 25)) r w'))
    (HP : Hid (parseV (d + 1) p l0 = thenP (idP r) fun x => .ok (.mk 7 false x.1 E0 [] [], p + 1, x.2))) :
    Calls Try.prog 40 #[.pointer (some ⟨R, 0, none⟩), .int .i64 D] w (ValPost R B w (parseV (d + 1) p l0)) := by
  have hA0 : w.heap.size ≠ R := by omega
  have HD := Lib.hid hD
  clear hD
  go_enter Try.func40, Try.ntmps40
  go_wp2_with fail
  refine HT.out.mono ?_
  rintro e w1 ⟨rfl, g1⟩
  obtain ⟨p1, hp⟩ : ∃ q : Int, q = ((p + 1 : Nat) : Int) := ⟨_, rfl⟩
  have e1 : (p : Int) + 1 = p1 := by rw [hp]; rfl
  rw [e1] at g1
  have HBOX : Hid (Box w1 w.heap.size #[.int .i64 0, .bool false, .int .i64 0, .string ⟨#[]⟩, .slice none 0 0, .slice none 0 0]) := Lib.hid (box_keeps (Box.new w _) g1.2 hA0)
  have HG : Hid (Got R B p1 w r w1) := Lib.hid ⟨g1.1, ((Keeps.refl _ w).alloc _).trans g1.2⟩
  clear g1 e1 HT
  subst hp
  obtain ⟨p1, hp⟩ : ∃ q : Int, ((p + 1 : Nat) : Int) = q := ⟨_, rfl⟩
  have HPP := Lib.hid hp
  rw [hp] at HG
  clear hp
  have HN := Lib.hid (id_any R B r p1 w1 HG.out.1)
  go_wp2_with fail
  refine HN.out.mono ?_
  cases hx : idP r with
  | error c =>
    have HP2 : Hid (parseV (d + 1) p l0 = .error c) := Lib.hid (by rw [HP.out, hx]; rfl)
    rintro e w2 ⟨rfl, k2⟩
    refine ⟨rfl, ?_⟩
    rw [HP2.out]
    exact ⟨rfl, HG.out.2.trans k2⟩
  | ok a =>
    obtain ⟨n, r2⟩ := a
    have HP2 : Hid (parseV (d + 1) p l0 = .ok (.mk 7 false n E0 [] [], p + 1, r2)) := Lib.hid (by rw [HP.out, hx]; rfl)
    rintro e w2 ⟨rfl, g2⟩
    have HBOX2 := Lib.hid (box_keeps HBOX.out g2.2 hA0)
    have HG2 : Hid (Got R B p1 w r2 w2) := Lib.hid ⟨g2.1, HG.out.2.trans g2.2⟩
    clear g2 hx HBOX HG HN HP
    have HBOX := HBOX2
    have HG := HG2
    have HP := HP2
    unfold i64V
    have hf := fun i => box_free HBOX.out i
    obtain ⟨z0, z1, z2, z3, z4, z5⟩ := HBOX.out.cell
    have HE := Lib.hid (box_six HBOX.out (.int .i64 7) (.bool false) (.int .i64 (n : Int)) (.string ⟨#[]⟩) (.slice none 0 0) (.slice none 0 0))
    go_wp2
    obtain ⟨q0, q1, q2, q3, q4, q5⟩ := HE.out.cell
    unfold six at q0 q1 q2 q3 q4 q5
    refine bodyPost_ret (v := .agg #[.int .i64 7, .bool false, .int .i64 (n : Int), .string ⟨#[]⟩, .slice none 0 0, .slice none 0 0]) (by simp [results, Try.results40, go_sem, q0, q1, q2, q3, q4, q5]) rfl ?_
    rw [HP.out]
    exact ⟨_, rfl, own_leaf _ _ _ _ _ _, (by show Rb _ R B _ ((p + 1 : Nat) : Int); rw [HPP.out]; exact six_rb HG.out.1 hA0 hB _ _ _ _ _ _), keeps_six HG.out.2 (.inr (Nat.le_refl _)) _ _ _ _ _ _⟩
theorem value_any : ∀ d, d ≤ 33 → ValIH d
  | 0, _ => fun R B l p w h hB hp => by
    cases l with
    | nil => exact value_no 0 R B [] p w _ 22 rfl rfl h hp
    | cons c r => exact value_no 0 R B (c :: r) p w _ 1 (by unfold tagP; simp only; rw [if_neg (fun h => by have := h.2.1; omega)]) rfl h hp
  | d + 1, hd => fun R B l p w h hB hp => by
    have IH := value_any d (by omega)
    have hR := h.lt
    have hT := tag_any R B l p (33 - ((d + 1 : Nat) : Int)) _ (h.alloc (.cells #[.int .i64 0, .bool false, .int .i64 0, .string ⟨#[]⟩, .slice none 0 0, .slice none 0 0] 25)) hp
    have K0 : Keeps (· = R) w (w.alloc (.cells #[.int .i64 0, .bool false, .int .i64 0, .string ⟨#[]⟩, .slice none 0 0, .slice none 0 0] 25)) := (Keeps.refl _ w).alloc _
    obtain ⟨D, hD⟩ : ∃ D : Int, 33 - ((d + 1 : Nat) : Int) = D := ⟨_, rfl⟩
    rw [hD] at hT ⊢
    have hD2 : D = 32 - (d : Int) := by omega
    cases l with
    | nil => exact value_no (d + 1) R B [] p w D 22 rfl rfl h hp
    | cons c r =>
      have e1 : tagP D p (c :: r) = if c.toNat ≤ 8 ∧ D ≤ 32 ∧ p + 1 ≤ 4096 then .ok (c.toNat, r) else .error 1 := rfl
      have e2 : parseV (d + 1) p (c :: r) = if c.toNat ≤ 8 ∧ p + 1 ≤ 4096 then bodyP (parseV d) c.toNat (p + 1) r else .error 1 := rfl
      by_cases hc : c.toNat ≤ 8 ∧ p + 1 ≤ 4096
      · rw [if_pos ⟨hc.1, by omega, hc.2⟩] at e1
        rw [if_pos hc] at e2
        rw [e1] at hT
        have h8 : c.toNat = 0 ∨ c.toNat = 1 ∨ c.toNat = 2 ∨ c.toNat = 3 ∨ c.toNat = 4 ∨ c.toNat = 5 ∨ c.toNat = 6 ∨ c.toNat = 7 ∨ c.toNat = 8 := by omega
        rcases h8 with hq | hq | hq | hq | hq | hq | hq | hq | hq <;> rw [hq] at hT e2
        · exact value_0 d R B (c :: r) r p w D IH hR hB hc.2 (by omega) hD2 (Lib.hid hT) (Lib.hid e2)
        · exact value_1 d R B (c :: r) r p w D IH hR hB hc.2 (by omega) hD2 (Lib.hid hT) (Lib.hid e2)
        · exact value_2 d R B (c :: r) r p w D IH hR hB hc.2 (by omega) hD2 (Lib.hid hT) (Lib.hid e2)
        · exact value_3 d R B (c :: r) r p w D IH hR hB hc.2 (by omega) hD2 (Lib.hid hT) (Lib.hid e2)
        · exact value_4 d R B (c :: r) r p w D IH hR hB hc.2 (by omega) hD2 (Lib.hid hT) (Lib.hid e2)
        · exact value_5 d R B (c :: r) r p w D IH hR hB hc.2 (by omega) hD2 (Lib.hid hT) (Lib.hid e2)
        · exact value_6 d R B (c :: r) r p w D IH hR hB hc.2 (by omega) hD2 (Lib.hid hT) (Lib.hid e2)
        · exact value_7 d R B (c :: r) r p w D IH hR hB hc.2 (by omega) hD2 (Lib.hid hT) (Lib.hid e2)
        · exact value_8 d R B (c :: r) r p w D IH hR hB hc.2 (by omega) hD2 (Lib.hid hT) (Lib.hid e2)
      · rw [if_neg (fun h => hc ⟨h.1, h.2.2⟩)] at e1
        rw [if_neg hc] at e2
        exact value_no (d + 1) R B (c :: r) p w D 1 e1 e2 h hp
end Pk
end Go.Proofs.Ytmhlipncelgmlaa
