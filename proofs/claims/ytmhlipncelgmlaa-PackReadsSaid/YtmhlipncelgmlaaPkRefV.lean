/- The document's reader of values, tag by tag. -/
import Derived.Test.YtmhlipncelgmlaaPkRefL
import Derived.Test.YtmhlipncelgmlaaPkRefM
namespace Go.Proofs.Ytmhlipncelgmlaa
open Go.RowKit
set_option linter.unusedVariables false
set_option linter.unusedSimpArgs false
namespace Pk
open Val (VT Keeps Box StrBlock)
open Rk (info_parts)
theorem DT.start0 (w : World) : DT 0 w [] [] (.slice none 0 0) (.slice none 0 0) [] ((w.alloc (.cells #[.int .i64 0, .bool false, .int .i64 0, .string ⟨#[]⟩, .slice none 0 0, .slice none 0 0] 25)).alloc (.cells #[.int .i64 0, .bool false, .int .i64 0, .string ⟨#[]⟩, .slice none 0 0, .slice none 0 0] 25)) :=
  ⟨(Box.new w _).alloc _, by
    have := Box.new (w.alloc (.cells #[.int .i64 0, .bool false, .int .i64 0, .string ⟨#[]⟩, .slice none 0 0, .slice none 0 0] 25)) #[.int .i64 0, .bool false, .int .i64 0, .string ⟨#[]⟩, .slice none 0 0, .slice none 0 0]
    rwa [World.size_alloc] at this, RowW.nil _ _ _, World.ownsRow_nil _ _ _ _, (((Keeps.refl (fun _ => False) w).alloc _).alloc _).below (fun _ f => f.elim) (Nat.le_refl _)⟩
theorem DT.back {kk : Int} {w V : World} {ts : List VT} {ks : List ByteArray} {lv kv : Value} {xs : List Value} (h : DT kk w ts ks lv kv xs V) {L p' : Nat} {l2 : List UInt8} {q : Int} (hq : (L : Int) - (l2.length : Int) = q) {t : VT} {v0 v1 v2 v3 v4 v5 : Value} (ho : VT.Own (six V w.heap.size v0 v1 v2 v3 v4 v5) t (Made w (six V w.heap.size v0 v1 v2 v3 v4 v5)) (.agg #[v0, v1, v2, v3, v4, v5])) :
    RefPost L w (.ok (t, p', l2)) (.returned (.tuple #[.agg #[v0, v1, v2, v3, v4, v5], .int .i64 q, .int .i64 (p' : Int), .int .i64 0])) (six V w.heap.size v0 v1 v2 v3 v4 v5) := by
  refine ⟨h.low.trans ((keeps_six (Keeps.refl (· = w.heap.size) V) (.inl rfl) v0 v1 v2 v3 v4 v5).below (fun k e => by omega) h.low.size), _, ?_, ho⟩
  subst hq
  rfl
set_option maxRecDepth 100000 in
set_option maxHeartbeats 4000000 in
theorem refRead_0 (d : Nat) (a : Option Addr) (c0 L : Nat) (all : List UInt8) (at_ p at1 p1 : Nat) (w : World) (D : Int) (b : UInt8) (X : Except Int (VT × Nat × List UInt8)) (IH : Hid (ReadIH d a c0 L all)) (h : Data w a c0 L all) (hj : all[at_]? = some b) (hb : b.toNat = 0) (hp : p + 1 = p1) (hat : at_ + 1 = at1) (hple : p1 ≤ 4096) (hd : d ≤ 32) (hD : D = (d : Int) + 1) (HX : Hid (X = .ok (.mk 0 false 0 E0 [] [], p1, all.drop at1))) :
    Calls Try.prog 41 #[.slice a L c0, .int .i64 (at_ : Int), .int .i64 D, .int .i64 (p : Int)] w (RefPost L w X) := by
  have hjl := (List.getElem?_eq_some_iff.1 hj).1
  rw [h.len] at hjl
  have hLs := h.small
  have HDAT := Lib.hid h
  have HLL := Lib.hid h.len
  have HDE := Lib.hid hD
  have HPLE := Lib.hid hple
  have HD32 := Lib.hid hd
  have hD1 : decide (D < 1) = false := by simp; omega
  have hw1 : wrap64 ((at_ : Int) + 1) = (at1 : Int) := by unfold wrap64; omega
  have hw2 : wrap64 ((p : Int) + 1) = (p1 : Int) := by unfold wrap64; omega
  have t3 : decide ((4096 : Int) < (p1 : Int)) = false := by simp; omega
  have HAT1 : Hid (at1 ≤ L) := Lib.hid (by omega)
  have HDT0 := Lib.hid (DT.start0 w)
  obtain ⟨x, hx, hcell⟩ := (h.below HDT0.out.low).at hj
  have hu : (b.toNat : Int) = 0 := by rw [hb]; rfl
  rw [hu] at hcell
  subst hx
  have g1 : decide (L ≤ at_) = false := by simp; omega
  have g2 : decide ((L : Int) ≤ (at_ : Int)) = false := by simp; omega
  have g3 : ¬ (L : Int) ≤ (at_ : Int) := by omega
  have g4 : (at_ : Int) < (L : Int) := by omega
  clear h hj hb hp hat hple hd hD hjl hLs hu
  go_enter Try.func41, Try.ntmps41
  go_upto_region 2 with fail
  generalize ((w.alloc (.cells #[.int .i64 0, .bool false, .int .i64 0, .string ⟨#[]⟩, .slice none 0 0, .slice none 0 0] 25)).alloc (.cells #[.int .i64 0, .bool false, .int .i64 0, .string ⟨#[]⟩, .slice none 0 0, .slice none 0 0] 25)) = V0 at *
  have HDT := HDT0
  clear HDT0
  have hf := fun i => box_free HDT.out.box0 i
  obtain ⟨z0, z1, z2, z3, z4, z5⟩ := HDT.out.box0.cell
  obtain ⟨b0, b1, b2, b3, b4, b5⟩ := HDT.out.box1.cell
  have hlt0 := HDT.out.box0.lt
  have HS := Lib.hid (box_six HDT.out.box0 (.int .i64 0) (.bool false) (.int .i64 0) (.string ⟨#[]⟩) (.slice none 0 0) (.slice none 0 0))
  go_wp2
  obtain ⟨q0, q1, q2, q3, q4, q5⟩ := HS.out.cell
  unfold six at q0 q1 q2 q3 q4 q5
  refine bodyPost_ret (v := .tuple #[.agg #[.int .i64 0, .bool false, .int .i64 0, .string ⟨#[]⟩, .slice none 0 0, .slice none 0 0], .int .i64 (at1 : Int), .int .i64 (p1 : Int), .int .i64 0]) (by simp [results, Try.results41, go_sem, q0, q1, q2, q3, q4, q5]) rfl ?_
  rw [HX.out]
  exact HDT.out.back (by have := HAT1.out; rw [List.length_drop, HLL.out]; omega) (own_leaf _ _ _ _ _ _)
set_option maxRecDepth 100000 in
set_option maxHeartbeats 4000000 in
theorem refRead_1 (d : Nat) (a : Option Addr) (c0 L : Nat) (all : List UInt8) (at_ p at1 p1 : Nat) (w : World) (D : Int) (b : UInt8) (X : Except Int (VT × Nat × List UInt8)) (IH : Hid (ReadIH d a c0 L all)) (h : Data w a c0 L all) (hj : all[at_]? = some b) (hb : b.toNat = 1) (hp : p + 1 = p1) (hat : at_ + 1 = at1) (hple : p1 ≤ 4096) (hd : d ≤ 32) (hD : D = (d : Int) + 1) (HX : Hid (X = .ok (.mk 1 false 0 E0 [] [], p1, all.drop at1))) :
    Calls Try.prog 41 #[.slice a L c0, .int .i64 (at_ : Int), .int .i64 D, .int .i64 (p : Int)] w (RefPost L w X) := by
  have hjl := (List.getElem?_eq_some_iff.1 hj).1
  rw [h.len] at hjl
  have hLs := h.small
  have HDAT := Lib.hid h
  have HLL := Lib.hid h.len
  have HDE := Lib.hid hD
  have HPLE := Lib.hid hple
  have HD32 := Lib.hid hd
  have hD1 : decide (D < 1) = false := by simp; omega
  have hw1 : wrap64 ((at_ : Int) + 1) = (at1 : Int) := by unfold wrap64; omega
  have hw2 : wrap64 ((p : Int) + 1) = (p1 : Int) := by unfold wrap64; omega
  have t3 : decide ((4096 : Int) < (p1 : Int)) = false := by simp; omega
  have HAT1 : Hid (at1 ≤ L) := Lib.hid (by omega)
  have HDT0 := Lib.hid (DT.start0 w)
  obtain ⟨x, hx, hcell⟩ := (h.below HDT0.out.low).at hj
  have hu : (b.toNat : Int) = 1 := by rw [hb]; rfl
  rw [hu] at hcell
  subst hx
  have g1 : decide (L ≤ at_) = false := by simp; omega
  have g2 : decide ((L : Int) ≤ (at_ : Int)) = false := by simp; omega
  have g3 : ¬ (L : Int) ≤ (at_ : Int) := by omega
  have g4 : (at_ : Int) < (L : Int) := by omega
  clear h hj hb hp hat hple hd hD hjl hLs hu
  go_enter Try.func41, Try.ntmps41
  go_upto_region 2 with fail
  generalize ((w.alloc (.cells #[.int .i64 0, .bool false, .int .i64 0, .string ⟨#[]⟩, .slice none 0 0, .slice none 0 0] 25)).alloc (.cells #[.int .i64 0, .bool false, .int .i64 0, .string ⟨#[]⟩, .slice none 0 0, .slice none 0 0] 25)) = V0 at *
  have HDT := HDT0
  clear HDT0
  have hf := fun i => box_free HDT.out.box0 i
  obtain ⟨z0, z1, z2, z3, z4, z5⟩ := HDT.out.box0.cell
  obtain ⟨b0, b1, b2, b3, b4, b5⟩ := HDT.out.box1.cell
  have hlt0 := HDT.out.box0.lt
  have HS := Lib.hid (box_six HDT.out.box0 (.int .i64 1) (.bool false) (.int .i64 0) (.string ⟨#[]⟩) (.slice none 0 0) (.slice none 0 0))
  go_wp2
  obtain ⟨q0, q1, q2, q3, q4, q5⟩ := HS.out.cell
  unfold six at q0 q1 q2 q3 q4 q5
  refine bodyPost_ret (v := .tuple #[.agg #[.int .i64 1, .bool false, .int .i64 0, .string ⟨#[]⟩, .slice none 0 0, .slice none 0 0], .int .i64 (at1 : Int), .int .i64 (p1 : Int), .int .i64 0]) (by simp [results, Try.results41, go_sem, q0, q1, q2, q3, q4, q5]) rfl ?_
  rw [HX.out]
  exact HDT.out.back (by have := HAT1.out; rw [List.length_drop, HLL.out]; omega) (own_leaf _ _ _ _ _ _)
set_option maxRecDepth 100000 in
set_option maxHeartbeats 4000000 in
theorem refRead_2 (d : Nat) (a : Option Addr) (c0 L : Nat) (all : List UInt8) (at_ p at1 p1 : Nat) (w : World) (D : Int) (b : UInt8) (X : Except Int (VT × Nat × List UInt8)) (IH : Hid (ReadIH d a c0 L all)) (h : Data w a c0 L all) (hj : all[at_]? = some b) (hb : b.toNat = 2) (hp : p + 1 = p1) (hat : at_ + 1 = at1) (hple : p1 ≤ 4096) (hd : d ≤ 32) (hD : D = (d : Int) + 1) (HX : Hid (X = .ok (.mk 1 true 0 E0 [] [], p1, all.drop at1))) :
    Calls Try.prog 41 #[.slice a L c0, .int .i64 (at_ : Int), .int .i64 D, .int .i64 (p : Int)] w (RefPost L w X) := by
  have hjl := (List.getElem?_eq_some_iff.1 hj).1
  rw [h.len] at hjl
  have hLs := h.small
  have HDAT := Lib.hid h
  have HLL := Lib.hid h.len
  have HDE := Lib.hid hD
  have HPLE := Lib.hid hple
  have HD32 := Lib.hid hd
  have hD1 : decide (D < 1) = false := by simp; omega
  have hw1 : wrap64 ((at_ : Int) + 1) = (at1 : Int) := by unfold wrap64; omega
  have hw2 : wrap64 ((p : Int) + 1) = (p1 : Int) := by unfold wrap64; omega
  have t3 : decide ((4096 : Int) < (p1 : Int)) = false := by simp; omega
  have HAT1 : Hid (at1 ≤ L) := Lib.hid (by omega)
  have HDT0 := Lib.hid (DT.start0 w)
  obtain ⟨x, hx, hcell⟩ := (h.below HDT0.out.low).at hj
  have hu : (b.toNat : Int) = 2 := by rw [hb]; rfl
  rw [hu] at hcell
  subst hx
  have g1 : decide (L ≤ at_) = false := by simp; omega
  have g2 : decide ((L : Int) ≤ (at_ : Int)) = false := by simp; omega
  have g3 : ¬ (L : Int) ≤ (at_ : Int) := by omega
  have g4 : (at_ : Int) < (L : Int) := by omega
  clear h hj hb hp hat hple hd hD hjl hLs hu
  go_enter Try.func41, Try.ntmps41
  go_upto_region 2 with fail
  generalize ((w.alloc (.cells #[.int .i64 0, .bool false, .int .i64 0, .string ⟨#[]⟩, .slice none 0 0, .slice none 0 0] 25)).alloc (.cells #[.int .i64 0, .bool false, .int .i64 0, .string ⟨#[]⟩, .slice none 0 0, .slice none 0 0] 25)) = V0 at *
  have HDT := HDT0
  clear HDT0
  have hf := fun i => box_free HDT.out.box0 i
  obtain ⟨z0, z1, z2, z3, z4, z5⟩ := HDT.out.box0.cell
  obtain ⟨b0, b1, b2, b3, b4, b5⟩ := HDT.out.box1.cell
  have hlt0 := HDT.out.box0.lt
  have HS := Lib.hid (box_six HDT.out.box0 (.int .i64 1) (.bool true) (.int .i64 0) (.string ⟨#[]⟩) (.slice none 0 0) (.slice none 0 0))
  go_wp2
  obtain ⟨q0, q1, q2, q3, q4, q5⟩ := HS.out.cell
  unfold six at q0 q1 q2 q3 q4 q5
  refine bodyPost_ret (v := .tuple #[.agg #[.int .i64 1, .bool true, .int .i64 0, .string ⟨#[]⟩, .slice none 0 0, .slice none 0 0], .int .i64 (at1 : Int), .int .i64 (p1 : Int), .int .i64 0]) (by simp [results, Try.results41, go_sem, q0, q1, q2, q3, q4, q5]) rfl ?_
  rw [HX.out]
  exact HDT.out.back (by have := HAT1.out; rw [List.length_drop, HLL.out]; omega) (own_leaf _ _ _ _ _ _)
set_option maxRecDepth 100000 in
set_option maxHeartbeats 4000000 in
theorem refRead_3 (d : Nat) (a : Option Addr) (c0 L : Nat) (all : List UInt8) (at_ p at1 p1 : Nat) (w : World) (D : Int) (b : UInt8) (X : Except Int (VT × Nat × List UInt8)) (IH : Hid (ReadIH d a c0 L all)) (h : Data w a c0 L all) (hj : all[at_]? = some b) (hb : b.toNat = 3) (hp : p + 1 = p1) (hat : at_ + 1 = at1) (hple : p1 ≤ 4096) (hd : d ≤ 32) (hD : D = (d : Int) + 1) (HX : Hid (X = thenP (numP (all.drop at1)) fun x => .ok (.mk 2 false (unfoldN x.1) E0 [] [], p1, x.2))) :
    Calls Try.prog 41 #[.slice a L c0, .int .i64 (at_ : Int), .int .i64 D, .int .i64 (p : Int)] w (RefPost L w X) := by
  have hjl := (List.getElem?_eq_some_iff.1 hj).1
  rw [h.len] at hjl
  have hLs := h.small
  have HDAT := Lib.hid h
  have HLL := Lib.hid h.len
  have HDE := Lib.hid hD
  have HPLE := Lib.hid hple
  have HD32 := Lib.hid hd
  have hD1 : decide (D < 1) = false := by simp; omega
  have hw1 : wrap64 ((at_ : Int) + 1) = (at1 : Int) := by unfold wrap64; omega
  have hw2 : wrap64 ((p : Int) + 1) = (p1 : Int) := by unfold wrap64; omega
  have t3 : decide ((4096 : Int) < (p1 : Int)) = false := by simp; omega
  have HAT1 : Hid (at1 ≤ L) := Lib.hid (by omega)
  have HDT0 := Lib.hid (DT.start0 w)
  obtain ⟨x, hx, hcell⟩ := (h.below HDT0.out.low).at hj
  have hu : (b.toNat : Int) = 3 := by rw [hb]; rfl
  rw [hu] at hcell
  subst hx
  have g1 : decide (L ≤ at_) = false := by simp; omega
  have g2 : decide ((L : Int) ≤ (at_ : Int)) = false := by simp; omega
  have g3 : ¬ (L : Int) ≤ (at_ : Int) := by omega
  have g4 : (at_ : Int) < (L : Int) := by omega
  clear h hj hb hp hat hple hd hD hjl hLs hu
  go_enter Try.func41, Try.ntmps41
  go_upto_region 2 with fail
  generalize ((w.alloc (.cells #[.int .i64 0, .bool false, .int .i64 0, .string ⟨#[]⟩, .slice none 0 0, .slice none 0 0] 25)).alloc (.cells #[.int .i64 0, .bool false, .int .i64 0, .string ⟨#[]⟩, .slice none 0 0, .slice none 0 0] 25)) = V0 at *
  have HDT := HDT0
  clear HDT0
  have HN := Lib.hid (refNum_any (some x) c0 L all at1 V0 (HDAT.out.below HDT.out.low) HAT1.out)
  go_wp2_with fail
  refine HN.out.mono ?_
  clear hcell g1 g2 g3 g4 hw1 hw2 t3 hD1
  cases hr : numP (all.drop at1) with
  | error c =>
    have HE : Hid (X = .error c) := Lib.hid (by rw [HX.out, hr]; rfl)
    have hc0 := numP_err hr
    have hc : (c != 0) = true := by unfold bne; rw [hc0]; rfl
    rintro e w1 ⟨rfl, hw1⟩
    subst w1
    simp only [numV]
    clear hr HN
    have hf := fun i => box_free HDT.out.box0 i
    obtain ⟨z0, z1, z2, z3, z4, z5⟩ := HDT.out.box0.cell
    obtain ⟨b0, b1, b2, b3, b4, b5⟩ := HDT.out.box1.cell
    have hlt0 := HDT.out.box0.lt
    have HS := Lib.hid (box_six HDT.out.box0 (.int .i64 0) (.bool false) (.int .i64 0) (.string ⟨#[]⟩) (.slice none 0 0) (.slice none 0 0))
    go_wp2
    obtain ⟨q0, q1, q2, q3, q4, q5⟩ := HS.out.cell
    unfold six at q0 q1 q2 q3 q4 q5
    refine bodyPost_ret (v := .tuple #[.agg #[.int .i64 0, .bool false, .int .i64 0, .string ⟨#[]⟩, .slice none 0 0, .slice none 0 0], .int .i64 0, .int .i64 0, .int .i64 c]) (by simp [results, Try.results41, go_sem, q0, q1, q2, q3, q4, q5]) rfl ?_
    rw [HE.out]
    exact HDT.out.fault L _
  | ok b =>
    obtain ⟨n, r⟩ := b
    have hm64 := (numP_ok hr).2
    obtain ⟨at2, hat2, hr2, hpl, -⟩ := drop_rest HLL.out HAT1.out (numP_ok hr).1
    subst hr2
    rintro e w1 ⟨rfl, hw1⟩
    subst w1
    simp only [numV]
    rw [hpl]
    have HR := Lib.hid hr
    have HM := Lib.hid hm64
    have HAT2 := Lib.hid hat2
    clear hr hm64 hpl hat2 HN
    have hn := HM.out
    by_cases hodd : n % 2 = 1
    · have HX2 : Hid (X = .ok (.mk 2 false (-((n / 2 : Nat) : Int) - 1) E0 [] [], p1, all.drop at2)) := Lib.hid (by rw [HX.out, HR.out, thenP_ok, show unfoldN n = -((n / 2 : Nat) : Int) - 1 from if_pos hodd])
      have m1 : (n : Int).tmod 2 = 1 := by rw [Int.tmod_eq_emod_of_nonneg (by omega)]; omega
      obtain ⟨h2, hh2⟩ : ∃ y, n / 2 = y := ⟨_, rfl⟩
      rw [hh2] at HX2
      have m2 : (n : Int) / 2 = (h2 : Int) := by omega
      have m2b : IntKind.u64.wrap (h2 : Int) = (h2 : Int) := by rw [IntKind.wrap_u64]; omega
      have m3 : wrap64 (h2 : Int) = (h2 : Int) := by unfold wrap64; omega
      have m4 : wrap64 (-(h2 : Int)) = -(h2 : Int) := by unfold wrap64; omega
      have m5 : wrap64 (-(h2 : Int) - 1) = -(h2 : Int) - 1 := by unfold wrap64; omega
      have HX := HX2
      clear hn hodd hh2
      have hf := fun i => box_free HDT.out.box0 i
      obtain ⟨z0, z1, z2, z3, z4, z5⟩ := HDT.out.box0.cell
      obtain ⟨b0, b1, b2, b3, b4, b5⟩ := HDT.out.box1.cell
      have hlt0 := HDT.out.box0.lt
      have HS := Lib.hid (box_six HDT.out.box0 (.int .i64 2) (.bool false) (.int .i64 (-(h2 : Int) - 1)) (.string ⟨#[]⟩) (.slice none 0 0) (.slice none 0 0))
      go_wp2
      obtain ⟨q0, q1, q2, q3, q4, q5⟩ := HS.out.cell
      unfold six at q0 q1 q2 q3 q4 q5
      refine bodyPost_ret (v := .tuple #[.agg #[.int .i64 2, .bool false, .int .i64 (-(h2 : Int) - 1), .string ⟨#[]⟩, .slice none 0 0, .slice none 0 0], .int .i64 (at2 : Int), .int .i64 (p1 : Int), .int .i64 0]) (by simp [results, Try.results41, go_sem, q0, q1, q2, q3, q4, q5]) rfl ?_
      rw [HX.out]
      exact HDT.out.back (by have := HAT2.out; rw [List.length_drop, HLL.out]; omega) (own_leaf _ _ _ _ _ _)
    · have HX2 : Hid (X = .ok (.mk 2 false ((n / 2 : Nat) : Int) E0 [] [], p1, all.drop at2)) := Lib.hid (by rw [HX.out, HR.out, thenP_ok, show unfoldN n = ((n / 2 : Nat) : Int) from if_neg hodd])
      have m1 : (n : Int).tmod 2 = 0 := by rw [Int.tmod_eq_emod_of_nonneg (by omega)]; omega
      obtain ⟨h2, hh2⟩ : ∃ y, n / 2 = y := ⟨_, rfl⟩
      rw [hh2] at HX2
      have m2 : (n : Int) / 2 = (h2 : Int) := by omega
      have m2b : IntKind.u64.wrap (h2 : Int) = (h2 : Int) := by rw [IntKind.wrap_u64]; omega
      have m3 : wrap64 (h2 : Int) = (h2 : Int) := by unfold wrap64; omega
      have HX := HX2
      clear hn hodd hh2
      have hf := fun i => box_free HDT.out.box0 i
      obtain ⟨z0, z1, z2, z3, z4, z5⟩ := HDT.out.box0.cell
      obtain ⟨b0, b1, b2, b3, b4, b5⟩ := HDT.out.box1.cell
      have hlt0 := HDT.out.box0.lt
      have HS := Lib.hid (box_six HDT.out.box0 (.int .i64 2) (.bool false) (.int .i64 (h2 : Int)) (.string ⟨#[]⟩) (.slice none 0 0) (.slice none 0 0))
      go_wp2
      obtain ⟨q0, q1, q2, q3, q4, q5⟩ := HS.out.cell
      unfold six at q0 q1 q2 q3 q4 q5
      refine bodyPost_ret (v := .tuple #[.agg #[.int .i64 2, .bool false, .int .i64 (h2 : Int), .string ⟨#[]⟩, .slice none 0 0, .slice none 0 0], .int .i64 (at2 : Int), .int .i64 (p1 : Int), .int .i64 0]) (by simp [results, Try.results41, go_sem, q0, q1, q2, q3, q4, q5]) rfl ?_
      rw [HX.out]
      exact HDT.out.back (by have := HAT2.out; rw [List.length_drop, HLL.out]; omega) (own_leaf _ _ _ _ _ _)
set_option maxRecDepth 100000 in
set_option maxHeartbeats 4000000 in
theorem refRead_4 (d : Nat) (a : Option Addr) (c0 L : Nat) (all : List UInt8) (at_ p at1 p1 : Nat) (w : World) (D : Int) (b : UInt8) (X : Except Int (VT × Nat × List UInt8)) (IH : Hid (ReadIH d a c0 L all)) (h : Data w a c0 L all) (hj : all[at_]? = some b) (hb : b.toNat = 4) (hp : p + 1 = p1) (hat : at_ + 1 = at1) (hple : p1 ≤ 4096) (hd : d ≤ 32) (hD : D = (d : Int) + 1) (HX : Hid (X = thenP (textP (all.drop at1)) fun x => .ok (.mk 3 false 0 x.1 [] [], p1, x.2))) :
    Calls Try.prog 41 #[.slice a L c0, .int .i64 (at_ : Int), .int .i64 D, .int .i64 (p : Int)] w (RefPost L w X) := by
  have hjl := (List.getElem?_eq_some_iff.1 hj).1
  rw [h.len] at hjl
  have hLs := h.small
  have HDAT := Lib.hid h
  have HLL := Lib.hid h.len
  have HDE := Lib.hid hD
  have HPLE := Lib.hid hple
  have HD32 := Lib.hid hd
  have hD1 : decide (D < 1) = false := by simp; omega
  have hw1 : wrap64 ((at_ : Int) + 1) = (at1 : Int) := by unfold wrap64; omega
  have hw2 : wrap64 ((p : Int) + 1) = (p1 : Int) := by unfold wrap64; omega
  have t3 : decide ((4096 : Int) < (p1 : Int)) = false := by simp; omega
  have HAT1 : Hid (at1 ≤ L) := Lib.hid (by omega)
  have HDT0 := Lib.hid (DT.start0 w)
  obtain ⟨x, hx, hcell⟩ := (h.below HDT0.out.low).at hj
  have hu : (b.toNat : Int) = 4 := by rw [hb]; rfl
  rw [hu] at hcell
  subst hx
  have g1 : decide (L ≤ at_) = false := by simp; omega
  have g2 : decide ((L : Int) ≤ (at_ : Int)) = false := by simp; omega
  have g3 : ¬ (L : Int) ≤ (at_ : Int) := by omega
  have g4 : (at_ : Int) < (L : Int) := by omega
  clear h hj hb hp hat hple hd hD hjl hLs hu
  go_enter Try.func41, Try.ntmps41
  go_upto_region 2 with fail
  generalize ((w.alloc (.cells #[.int .i64 0, .bool false, .int .i64 0, .string ⟨#[]⟩, .slice none 0 0, .slice none 0 0] 25)).alloc (.cells #[.int .i64 0, .bool false, .int .i64 0, .string ⟨#[]⟩, .slice none 0 0, .slice none 0 0] 25)) = V0 at *
  have HDT := HDT0
  clear HDT0
  have HN := Lib.hid (refNum_any (some x) c0 L all at1 V0 (HDAT.out.below HDT.out.low) HAT1.out)
  go_wp2_with fail
  refine HN.out.mono ?_
  clear hcell g1 g2 g3 g4 hw1 hw2 t3 hD1
  cases hr : numP (all.drop at1) with
  | error c =>
    have HE : Hid (X = .error c) := Lib.hid (by rw [HX.out]; unfold textP; rw [hr]; rfl)
    have hc0 := numP_err hr
    have hc : (c != 0) = true := by unfold bne; rw [hc0]; rfl
    rintro e w1 ⟨rfl, hw1⟩
    subst w1
    simp only [numV]
    clear hr HN
    have hf := fun i => box_free HDT.out.box0 i
    obtain ⟨z0, z1, z2, z3, z4, z5⟩ := HDT.out.box0.cell
    obtain ⟨b0, b1, b2, b3, b4, b5⟩ := HDT.out.box1.cell
    have hlt0 := HDT.out.box0.lt
    have HS := Lib.hid (box_six HDT.out.box0 (.int .i64 0) (.bool false) (.int .i64 0) (.string ⟨#[]⟩) (.slice none 0 0) (.slice none 0 0))
    go_wp2
    obtain ⟨q0, q1, q2, q3, q4, q5⟩ := HS.out.cell
    unfold six at q0 q1 q2 q3 q4 q5
    refine bodyPost_ret (v := .tuple #[.agg #[.int .i64 0, .bool false, .int .i64 0, .string ⟨#[]⟩, .slice none 0 0, .slice none 0 0], .int .i64 0, .int .i64 0, .int .i64 c]) (by simp [results, Try.results41, go_sem, q0, q1, q2, q3, q4, q5]) rfl ?_
    rw [HE.out]
    exact HDT.out.fault L _
  | ok b =>
    obtain ⟨n, r⟩ := b
    have hm64 := (numP_ok hr).2
    obtain ⟨at2, hat2, hr2, hpl, -⟩ := drop_rest HLL.out HAT1.out (numP_ok hr).1
    subst hr2
    rintro e w1 ⟨rfl, hw1⟩
    subst w1
    simp only [numV]
    rw [hpl]
    have HR := Lib.hid hr
    have HM := Lib.hid hm64
    have HAT2 := Lib.hid hat2
    clear hr hm64 hpl hat2 HN
    have HX1 : Hid (X = thenP (takeP n (all.drop at2)) fun y => .ok (.mk 3 false 0 (baOf y.1) [] [], p1, y.2)) := Lib.hid (by rw [HX.out]; unfold textP; rw [HR.out, thenP_ok]; cases takeP n (all.drop at2) <;> rfl)
    have HT := Lib.hid (refText_any (some x) c0 L all at2 n V0 (HDAT.out.below HDT.out.low) HAT2.out HM.out)
    go_wp2_with fail
    refine HT.out.mono ?_
    cases ht : takeP n (all.drop at2) with
    | error c =>
      have HE : Hid (X = .error c) := Lib.hid (by rw [HX1.out, ht]; rfl)
      have hc0 := takeP_err ht
      have hc : (c != 0) = true := by unfold bne; rw [hc0]; rfl
      rintro e w1 ⟨rfl, hw1⟩
      subst w1
      simp only [textV]
      clear ht HT
      have hf := fun i => box_free HDT.out.box0 i
      obtain ⟨z0, z1, z2, z3, z4, z5⟩ := HDT.out.box0.cell
      obtain ⟨b0, b1, b2, b3, b4, b5⟩ := HDT.out.box1.cell
      have hlt0 := HDT.out.box0.lt
      have HS := Lib.hid (box_six HDT.out.box0 (.int .i64 0) (.bool false) (.int .i64 0) (.string ⟨#[]⟩) (.slice none 0 0) (.slice none 0 0))
      go_wp2
      obtain ⟨q0, q1, q2, q3, q4, q5⟩ := HS.out.cell
      unfold six at q0 q1 q2 q3 q4 q5
      refine bodyPost_ret (v := .tuple #[.agg #[.int .i64 0, .bool false, .int .i64 0, .string ⟨#[]⟩, .slice none 0 0, .slice none 0 0], .int .i64 0, .int .i64 0, .int .i64 c]) (by simp [results, Try.results41, go_sem, q0, q1, q2, q3, q4, q5]) rfl ?_
      rw [HE.out]
      exact HDT.out.fault L _
    | ok b =>
      obtain ⟨bs, r⟩ := b
      obtain ⟨at3, hat3, hr3, hpl, -⟩ := drop_rest HLL.out HAT2.out (takeP_ok ht).1
      subst hr3
      obtain ⟨s, hs⟩ : ∃ s, baOf bs = s := ⟨_, rfl⟩
      have HX2 : Hid (X = .ok (.mk 3 false 0 s [] [], p1, all.drop at3)) := Lib.hid (by rw [HX1.out, ht, thenP_ok, hs])
      rintro e w1 ⟨rfl, hw1⟩
      subst w1
      simp only [textV]
      rw [hpl, hs]
      have HAT3 := Lib.hid hat3
      have HX := HX2
      clear ht HT hpl hat3 hs HX1
      have hf := fun i => box_free HDT.out.box0 i
      obtain ⟨z0, z1, z2, z3, z4, z5⟩ := HDT.out.box0.cell
      obtain ⟨b0, b1, b2, b3, b4, b5⟩ := HDT.out.box1.cell
      have hlt0 := HDT.out.box0.lt
      have HS := Lib.hid (box_six HDT.out.box0 (.int .i64 3) (.bool false) (.int .i64 0) (.string s) (.slice none 0 0) (.slice none 0 0))
      go_wp2
      obtain ⟨q0, q1, q2, q3, q4, q5⟩ := HS.out.cell
      unfold six at q0 q1 q2 q3 q4 q5
      refine bodyPost_ret (v := .tuple #[.agg #[.int .i64 3, .bool false, .int .i64 0, .string s, .slice none 0 0, .slice none 0 0], .int .i64 (at3 : Int), .int .i64 (p1 : Int), .int .i64 0]) (by simp [results, Try.results41, go_sem, q0, q1, q2, q3, q4, q5]) rfl ?_
      rw [HX.out]
      exact HDT.out.back (by have := HAT3.out; rw [List.length_drop, HLL.out]; omega) (own_leaf _ _ _ _ _ _)
set_option maxRecDepth 100000 in
set_option maxHeartbeats 4000000 in
theorem refRead_5 (d : Nat) (a : Option Addr) (c0 L : Nat) (all : List UInt8) (at_ p at1 p1 : Nat) (w : World) (D : Int) (b : UInt8) (X : Except Int (VT × Nat × List UInt8)) (IH : Hid (ReadIH d a c0 L all)) (h : Data w a c0 L all) (hj : all[at_]? = some b) (hb : b.toNat = 5) (hp : p + 1 = p1) (hat : at_ + 1 = at1) (hple : p1 ≤ 4096) (hd : d ≤ 32) (hD : D = (d : Int) + 1) (HX : Hid (X = thenP (numP (all.drop at1)) fun x => listQ d p1 x.1 x.2)) :
    Calls Try.prog 41 #[.slice a L c0, .int .i64 (at_ : Int), .int .i64 D, .int .i64 (p : Int)] w (RefPost L w X) := by
  have hjl := (List.getElem?_eq_some_iff.1 hj).1
  rw [h.len] at hjl
  have hLs := h.small
  have HDAT := Lib.hid h
  have HLL := Lib.hid h.len
  have HDE := Lib.hid hD
  have HPLE := Lib.hid hple
  have HD32 := Lib.hid hd
  have hD1 : decide (D < 1) = false := by simp; omega
  have hw1 : wrap64 ((at_ : Int) + 1) = (at1 : Int) := by unfold wrap64; omega
  have hw2 : wrap64 ((p : Int) + 1) = (p1 : Int) := by unfold wrap64; omega
  have t3 : decide ((4096 : Int) < (p1 : Int)) = false := by simp; omega
  have HAT1 : Hid (at1 ≤ L) := Lib.hid (by omega)
  have HDT0 := Lib.hid (DT.start0 w)
  obtain ⟨x, hx, hcell⟩ := (h.below HDT0.out.low).at hj
  have hu : (b.toNat : Int) = 5 := by rw [hb]; rfl
  rw [hu] at hcell
  subst hx
  have g1 : decide (L ≤ at_) = false := by simp; omega
  have g2 : decide ((L : Int) ≤ (at_ : Int)) = false := by simp; omega
  have g3 : ¬ (L : Int) ≤ (at_ : Int) := by omega
  have g4 : (at_ : Int) < (L : Int) := by omega
  clear h hj hb hp hat hple hd hD hjl hLs hu
  go_enter Try.func41, Try.ntmps41
  go_upto_region 2 with fail
  generalize ((w.alloc (.cells #[.int .i64 0, .bool false, .int .i64 0, .string ⟨#[]⟩, .slice none 0 0, .slice none 0 0] 25)).alloc (.cells #[.int .i64 0, .bool false, .int .i64 0, .string ⟨#[]⟩, .slice none 0 0, .slice none 0 0] 25)) = V0 at *
  have HDT := HDT0
  clear HDT0
  have HN := Lib.hid (refNum_any (some x) c0 L all at1 V0 (HDAT.out.below HDT.out.low) HAT1.out)
  go_wp2_with fail
  refine HN.out.mono ?_
  clear hcell g1 g2 g3 g4 hw1 hw2 t3 hD1
  cases hr : numP (all.drop at1) with
  | error c =>
    have HE : Hid (X = .error c) := Lib.hid (by rw [HX.out, hr]; rfl)
    have hc0 := numP_err hr
    have hc : (c != 0) = true := by unfold bne; rw [hc0]; rfl
    rintro e w1 ⟨rfl, hw1⟩
    subst w1
    simp only [numV]
    clear hr HN
    have hf := fun i => box_free HDT.out.box0 i
    obtain ⟨z0, z1, z2, z3, z4, z5⟩ := HDT.out.box0.cell
    obtain ⟨b0, b1, b2, b3, b4, b5⟩ := HDT.out.box1.cell
    have hlt0 := HDT.out.box0.lt
    have HS := Lib.hid (box_six HDT.out.box0 (.int .i64 0) (.bool false) (.int .i64 0) (.string ⟨#[]⟩) (.slice none 0 0) (.slice none 0 0))
    go_wp2
    obtain ⟨q0, q1, q2, q3, q4, q5⟩ := HS.out.cell
    unfold six at q0 q1 q2 q3 q4 q5
    refine bodyPost_ret (v := .tuple #[.agg #[.int .i64 0, .bool false, .int .i64 0, .string ⟨#[]⟩, .slice none 0 0, .slice none 0 0], .int .i64 0, .int .i64 0, .int .i64 c]) (by simp [results, Try.results41, go_sem, q0, q1, q2, q3, q4, q5]) rfl ?_
    rw [HE.out]
    exact HDT.out.fault L _
  | ok b =>
    obtain ⟨n, r⟩ := b
    have hm64 := (numP_ok hr).2
    obtain ⟨at2, hat2, hr2, hpl, -⟩ := drop_rest HLL.out HAT1.out (numP_ok hr).1
    subst hr2
    rintro e w1 ⟨rfl, hw1⟩
    subst w1
    simp only [numV]
    rw [hpl]
    have HR := Lib.hid hr
    have HM := Lib.hid hm64
    have HAT2 := Lib.hid hat2
    clear hr hm64 hpl hat2 HN
    have HX1 : Hid (X = listQ d p1 n (all.drop at2)) := Lib.hid (by rw [HX.out, HR.out, thenP_ok])
    have HC := Lib.hid (refList_any d (some x) c0 L all at2 p1 n V0 D IH (HDAT.out.below HDT.out.low) HAT2.out HPLE.out HM.out HD32.out HDE.out)
    go_wp2_with fail
    refine HC.out.mono ?_
    cases ht : listQ d p1 n (all.drop at2) with
    | error c =>
      have HE : Hid (X = .error c) := Lib.hid (by rw [HX1.out, ht])
      rintro e w1 ⟨hb1, rfl⟩
      have D1 := Lib.hid (HDT.out.got hb1)
      clear ht HC hb1
      have hf := fun i => box_free D1.out.box0 i
      obtain ⟨z0, z1, z2, z3, z4, z5⟩ := D1.out.box0.cell
      obtain ⟨b0, b1, b2, b3, b4, b5⟩ := D1.out.box1.cell
      have hlt0 := D1.out.box0.lt
      have HS := Lib.hid (box_six D1.out.box0 (.int .i64 0) (.bool false) (.int .i64 0) (.string ⟨#[]⟩) (.slice none 0 0) (.slice none 0 0))
      go_wp2
      obtain ⟨q0, q1, q2, q3, q4, q5⟩ := HS.out.cell
      unfold six at q0 q1 q2 q3 q4 q5
      refine bodyPost_ret (v := .tuple #[.agg #[.int .i64 0, .bool false, .int .i64 0, .string ⟨#[]⟩, .slice none 0 0, .slice none 0 0], .int .i64 0, .int .i64 0, .int .i64 c]) (by simp [results, Try.results41, go_sem, q0, q1, q2, q3, q4, q5]) rfl ?_
      rw [HE.out]
      exact D1.out.fault L _
    | ok b =>
      obtain ⟨t, p2, l2⟩ := b
      have HX2 : Hid (X = .ok (t, p2, l2)) := Lib.hid (by rw [HX1.out, ht])
      rintro e w1 ⟨hb1, v, rfl, hown⟩
      obtain ⟨yk, yb, yn, ys, ypl, ynl, ycl, ypk, ynk, yck, rfl⟩ := hown.shape
      have D1 := Lib.hid (HDT.out.got hb1)
      have HO := Lib.hid hown
      have HV0 := Lib.hid HDT.out.box1.lt
      simp only
      obtain ⟨q, hq⟩ : ∃ q : Int, (L : Int) - (l2.length : Int) = q := ⟨_, rfl⟩
      rw [hq]
      have HQ := Lib.hid hq
      obtain ⟨p1, hp2⟩ : ∃ q, p2 = q := ⟨_, rfl⟩
      subst hp2
      have HX := HX2
      clear ht HC hb1 hown hq
      have hf := fun i => box_free D1.out.box0 i
      obtain ⟨z0, z1, z2, z3, z4, z5⟩ := D1.out.box0.cell
      obtain ⟨b0, b1, b2, b3, b4, b5⟩ := D1.out.box1.cell
      have hlt0 := D1.out.box0.lt
      have HS := Lib.hid (box_six D1.out.box0 (.int .i64 yk) (.bool yb) (.int .i64 yn) (.string ys) (.slice ypl ynl ycl) (.slice ypk ynk yck))
      go_wp2
      obtain ⟨q0, q1, q2, q3, q4, q5⟩ := HS.out.cell
      unfold six at q0 q1 q2 q3 q4 q5
      refine bodyPost_ret (v := .tuple #[.agg #[.int .i64 yk, .bool yb, .int .i64 yn, .string ys, .slice ypl ynl ycl, .slice ypk ynk yck], .int .i64 q, .int .i64 (p2 : Int), .int .i64 0]) (by simp [results, Try.results41, go_sem, q0, q1, q2, q3, q4, q5]) rfl ?_
      rw [HX.out]
      exact D1.out.back HQ.out (VT.Own.more (fun k hk => ⟨by have := hk.1; have := HV0.out; omega, Nat.lt_of_lt_of_le hk.2 (keeps_six (Keeps.refl (· = w.heap.size) w1) (.inl rfl) _ _ _ _ _ _).size⟩) (HO.out.keeps (keeps_six (Keeps.refl (· = w.heap.size) w1) (.inl rfl) _ _ _ _ _ _) (fun k hk => ⟨hk.2, by have := hk.1; have := HV0.out; omega⟩)))
set_option maxRecDepth 100000 in
set_option maxHeartbeats 4000000 in
theorem refRead_6 (d : Nat) (a : Option Addr) (c0 L : Nat) (all : List UInt8) (at_ p at1 p1 : Nat) (w : World) (D : Int) (b : UInt8) (X : Except Int (VT × Nat × List UInt8)) (IH : Hid (ReadIH d a c0 L all)) (h : Data w a c0 L all) (hj : all[at_]? = some b) (hb : b.toNat = 6) (hp : p + 1 = p1) (hat : at_ + 1 = at1) (hple : p1 ≤ 4096) (hd : d ≤ 32) (hD : D = (d : Int) + 1) (HX : Hid (X = thenP (numP (all.drop at1)) fun x => dictQ d p1 x.1 x.2)) :
    Calls Try.prog 41 #[.slice a L c0, .int .i64 (at_ : Int), .int .i64 D, .int .i64 (p : Int)] w (RefPost L w X) := by
  have hjl := (List.getElem?_eq_some_iff.1 hj).1
  rw [h.len] at hjl
  have hLs := h.small
  have HDAT := Lib.hid h
  have HLL := Lib.hid h.len
  have HDE := Lib.hid hD
  have HPLE := Lib.hid hple
  have HD32 := Lib.hid hd
  have hD1 : decide (D < 1) = false := by simp; omega
  have hw1 : wrap64 ((at_ : Int) + 1) = (at1 : Int) := by unfold wrap64; omega
  have hw2 : wrap64 ((p : Int) + 1) = (p1 : Int) := by unfold wrap64; omega
  have t3 : decide ((4096 : Int) < (p1 : Int)) = false := by simp; omega
  have HAT1 : Hid (at1 ≤ L) := Lib.hid (by omega)
  have HDT0 := Lib.hid (DT.start0 w)
  obtain ⟨x, hx, hcell⟩ := (h.below HDT0.out.low).at hj
  have hu : (b.toNat : Int) = 6 := by rw [hb]; rfl
  rw [hu] at hcell
  subst hx
  have g1 : decide (L ≤ at_) = false := by simp; omega
  have g2 : decide ((L : Int) ≤ (at_ : Int)) = false := by simp; omega
  have g3 : ¬ (L : Int) ≤ (at_ : Int) := by omega
  have g4 : (at_ : Int) < (L : Int) := by omega
  clear h hj hb hp hat hple hd hD hjl hLs hu
  go_enter Try.func41, Try.ntmps41
  go_upto_region 2 with fail
  generalize ((w.alloc (.cells #[.int .i64 0, .bool false, .int .i64 0, .string ⟨#[]⟩, .slice none 0 0, .slice none 0 0] 25)).alloc (.cells #[.int .i64 0, .bool false, .int .i64 0, .string ⟨#[]⟩, .slice none 0 0, .slice none 0 0] 25)) = V0 at *
  have HDT := HDT0
  clear HDT0
  have HN := Lib.hid (refNum_any (some x) c0 L all at1 V0 (HDAT.out.below HDT.out.low) HAT1.out)
  go_wp2_with fail
  refine HN.out.mono ?_
  clear hcell g1 g2 g3 g4 hw1 hw2 t3 hD1
  cases hr : numP (all.drop at1) with
  | error c =>
    have HE : Hid (X = .error c) := Lib.hid (by rw [HX.out, hr]; rfl)
    have hc0 := numP_err hr
    have hc : (c != 0) = true := by unfold bne; rw [hc0]; rfl
    rintro e w1 ⟨rfl, hw1⟩
    subst w1
    simp only [numV]
    clear hr HN
    have hf := fun i => box_free HDT.out.box0 i
    obtain ⟨z0, z1, z2, z3, z4, z5⟩ := HDT.out.box0.cell
    obtain ⟨b0, b1, b2, b3, b4, b5⟩ := HDT.out.box1.cell
    have hlt0 := HDT.out.box0.lt
    have HS := Lib.hid (box_six HDT.out.box0 (.int .i64 0) (.bool false) (.int .i64 0) (.string ⟨#[]⟩) (.slice none 0 0) (.slice none 0 0))
    go_wp2
    obtain ⟨q0, q1, q2, q3, q4, q5⟩ := HS.out.cell
    unfold six at q0 q1 q2 q3 q4 q5
    refine bodyPost_ret (v := .tuple #[.agg #[.int .i64 0, .bool false, .int .i64 0, .string ⟨#[]⟩, .slice none 0 0, .slice none 0 0], .int .i64 0, .int .i64 0, .int .i64 c]) (by simp [results, Try.results41, go_sem, q0, q1, q2, q3, q4, q5]) rfl ?_
    rw [HE.out]
    exact HDT.out.fault L _
  | ok b =>
    obtain ⟨n, r⟩ := b
    have hm64 := (numP_ok hr).2
    obtain ⟨at2, hat2, hr2, hpl, -⟩ := drop_rest HLL.out HAT1.out (numP_ok hr).1
    subst hr2
    rintro e w1 ⟨rfl, hw1⟩
    subst w1
    simp only [numV]
    rw [hpl]
    have HR := Lib.hid hr
    have HM := Lib.hid hm64
    have HAT2 := Lib.hid hat2
    clear hr hm64 hpl hat2 HN
    have HX1 : Hid (X = dictQ d p1 n (all.drop at2)) := Lib.hid (by rw [HX.out, HR.out, thenP_ok])
    have HC := Lib.hid (refDict_any d (some x) c0 L all at2 p1 n V0 D IH (HDAT.out.below HDT.out.low) HAT2.out HPLE.out HM.out HD32.out HDE.out)
    go_wp2_with fail
    refine HC.out.mono ?_
    cases ht : dictQ d p1 n (all.drop at2) with
    | error c =>
      have HE : Hid (X = .error c) := Lib.hid (by rw [HX1.out, ht])
      rintro e w1 ⟨hb1, rfl⟩
      have D1 := Lib.hid (HDT.out.got hb1)
      clear ht HC hb1
      have hf := fun i => box_free D1.out.box0 i
      obtain ⟨z0, z1, z2, z3, z4, z5⟩ := D1.out.box0.cell
      obtain ⟨b0, b1, b2, b3, b4, b5⟩ := D1.out.box1.cell
      have hlt0 := D1.out.box0.lt
      have HS := Lib.hid (box_six D1.out.box0 (.int .i64 0) (.bool false) (.int .i64 0) (.string ⟨#[]⟩) (.slice none 0 0) (.slice none 0 0))
      go_wp2
      obtain ⟨q0, q1, q2, q3, q4, q5⟩ := HS.out.cell
      unfold six at q0 q1 q2 q3 q4 q5
      refine bodyPost_ret (v := .tuple #[.agg #[.int .i64 0, .bool false, .int .i64 0, .string ⟨#[]⟩, .slice none 0 0, .slice none 0 0], .int .i64 0, .int .i64 0, .int .i64 c]) (by simp [results, Try.results41, go_sem, q0, q1, q2, q3, q4, q5]) rfl ?_
      rw [HE.out]
      exact D1.out.fault L _
    | ok b =>
      obtain ⟨t, p2, l2⟩ := b
      have HX2 : Hid (X = .ok (t, p2, l2)) := Lib.hid (by rw [HX1.out, ht])
      rintro e w1 ⟨hb1, v, rfl, hown⟩
      obtain ⟨yk, yb, yn, ys, ypl, ynl, ycl, ypk, ynk, yck, rfl⟩ := hown.shape
      have D1 := Lib.hid (HDT.out.got hb1)
      have HO := Lib.hid hown
      have HV0 := Lib.hid HDT.out.box1.lt
      simp only
      obtain ⟨q, hq⟩ : ∃ q : Int, (L : Int) - (l2.length : Int) = q := ⟨_, rfl⟩
      rw [hq]
      have HQ := Lib.hid hq
      obtain ⟨p1, hp2⟩ : ∃ q, p2 = q := ⟨_, rfl⟩
      subst hp2
      have HX := HX2
      clear ht HC hb1 hown hq
      have hf := fun i => box_free D1.out.box0 i
      obtain ⟨z0, z1, z2, z3, z4, z5⟩ := D1.out.box0.cell
      obtain ⟨b0, b1, b2, b3, b4, b5⟩ := D1.out.box1.cell
      have hlt0 := D1.out.box0.lt
      have HS := Lib.hid (box_six D1.out.box0 (.int .i64 yk) (.bool yb) (.int .i64 yn) (.string ys) (.slice ypl ynl ycl) (.slice ypk ynk yck))
      go_wp2
      obtain ⟨q0, q1, q2, q3, q4, q5⟩ := HS.out.cell
      unfold six at q0 q1 q2 q3 q4 q5
      refine bodyPost_ret (v := .tuple #[.agg #[.int .i64 yk, .bool yb, .int .i64 yn, .string ys, .slice ypl ynl ycl, .slice ypk ynk yck], .int .i64 q, .int .i64 (p2 : Int), .int .i64 0]) (by simp [results, Try.results41, go_sem, q0, q1, q2, q3, q4, q5]) rfl ?_
      rw [HX.out]
      exact D1.out.back HQ.out (VT.Own.more (fun k hk => ⟨by have := hk.1; have := HV0.out; omega, Nat.lt_of_lt_of_le hk.2 (keeps_six (Keeps.refl (· = w.heap.size) w1) (.inl rfl) _ _ _ _ _ _).size⟩) (HO.out.keeps (keeps_six (Keeps.refl (· = w.heap.size) w1) (.inl rfl) _ _ _ _ _ _) (fun k hk => ⟨hk.2, by have := hk.1; have := HV0.out; omega⟩)))
set_option maxRecDepth 100000 in
set_option maxHeartbeats 4000000 in
theorem refRead_7 (d : Nat) (a : Option Addr) (c0 L : Nat) (all : List UInt8) (at_ p at1 p1 : Nat) (w : World) (D : Int) (b : UInt8) (X : Except Int (VT × Nat × List UInt8)) (IH : Hid (ReadIH d a c0 L all)) (h : Data w a c0 L all) (hj : all[at_]? = some b) (hb : b.toNat = 7) (hp : p + 1 = p1) (hat : at_ + 1 = at1) (hple : p1 ≤ 4096) (hd : d ≤ 32) (hD : D = (d : Int) + 1) (HX : Hid (X = thenP (idP (all.drop at1)) fun x => .ok (.mk 6 false x.1 E0 [] [], p1, x.2))) :
    Calls Try.prog 41 #[.slice a L c0, .int .i64 (at_ : Int), .int .i64 D, .int .i64 (p : Int)] w (RefPost L w X) := by
  have hjl := (List.getElem?_eq_some_iff.1 hj).1
  rw [h.len] at hjl
  have hLs := h.small
  have HDAT := Lib.hid h
  have HLL := Lib.hid h.len
  have HDE := Lib.hid hD
  have HPLE := Lib.hid hple
  have HD32 := Lib.hid hd
  have hD1 : decide (D < 1) = false := by simp; omega
  have hw1 : wrap64 ((at_ : Int) + 1) = (at1 : Int) := by unfold wrap64; omega
  have hw2 : wrap64 ((p : Int) + 1) = (p1 : Int) := by unfold wrap64; omega
  have t3 : decide ((4096 : Int) < (p1 : Int)) = false := by simp; omega
  have HAT1 : Hid (at1 ≤ L) := Lib.hid (by omega)
  have HDT0 := Lib.hid (DT.start0 w)
  obtain ⟨x, hx, hcell⟩ := (h.below HDT0.out.low).at hj
  have hu : (b.toNat : Int) = 7 := by rw [hb]; rfl
  rw [hu] at hcell
  subst hx
  have g1 : decide (L ≤ at_) = false := by simp; omega
  have g2 : decide ((L : Int) ≤ (at_ : Int)) = false := by simp; omega
  have g3 : ¬ (L : Int) ≤ (at_ : Int) := by omega
  have g4 : (at_ : Int) < (L : Int) := by omega
  clear h hj hb hp hat hple hd hD hjl hLs hu
  go_enter Try.func41, Try.ntmps41
  go_upto_region 2 with fail
  generalize ((w.alloc (.cells #[.int .i64 0, .bool false, .int .i64 0, .string ⟨#[]⟩, .slice none 0 0, .slice none 0 0] 25)).alloc (.cells #[.int .i64 0, .bool false, .int .i64 0, .string ⟨#[]⟩, .slice none 0 0, .slice none 0 0] 25)) = V0 at *
  have HDT := HDT0
  clear HDT0
  have HN := Lib.hid (refNum_any (some x) c0 L all at1 V0 (HDAT.out.below HDT.out.low) HAT1.out)
  go_wp2_with fail
  refine HN.out.mono ?_
  clear hcell g1 g2 g3 g4 hw1 hw2 t3 hD1
  cases hr : numP (all.drop at1) with
  | error c =>
    have HE : Hid (X = .error c) := Lib.hid (by rw [HX.out]; unfold idP; rw [hr]; rfl)
    have hc0 := numP_err hr
    have hc : (c != 0) = true := by unfold bne; rw [hc0]; rfl
    rintro e w1 ⟨rfl, hw1⟩
    subst w1
    simp only [numV]
    clear hr HN
    have hf := fun i => box_free HDT.out.box0 i
    obtain ⟨z0, z1, z2, z3, z4, z5⟩ := HDT.out.box0.cell
    obtain ⟨b0, b1, b2, b3, b4, b5⟩ := HDT.out.box1.cell
    have hlt0 := HDT.out.box0.lt
    have HS := Lib.hid (box_six HDT.out.box0 (.int .i64 0) (.bool false) (.int .i64 0) (.string ⟨#[]⟩) (.slice none 0 0) (.slice none 0 0))
    go_wp2
    obtain ⟨q0, q1, q2, q3, q4, q5⟩ := HS.out.cell
    unfold six at q0 q1 q2 q3 q4 q5
    refine bodyPost_ret (v := .tuple #[.agg #[.int .i64 0, .bool false, .int .i64 0, .string ⟨#[]⟩, .slice none 0 0, .slice none 0 0], .int .i64 0, .int .i64 0, .int .i64 c]) (by simp [results, Try.results41, go_sem, q0, q1, q2, q3, q4, q5]) rfl ?_
    rw [HE.out]
    exact HDT.out.fault L _
  | ok b =>
    obtain ⟨n, r⟩ := b
    have hm64 := (numP_ok hr).2
    obtain ⟨at2, hat2, hr2, hpl, -⟩ := drop_rest HLL.out HAT1.out (numP_ok hr).1
    subst hr2
    rintro e w1 ⟨rfl, hw1⟩
    subst w1
    simp only [numV]
    rw [hpl]
    have HR := Lib.hid hr
    have HM := Lib.hid hm64
    have HAT2 := Lib.hid hat2
    clear hr hm64 hpl hat2 HN
    have HI : Hid (X = thenP (if 1 ≤ n ∧ n ≤ 9223372036854775807 then .ok (n, all.drop at2) else .error 1) fun x => .ok (.mk 6 false x.1 E0 [] [], p1, x.2)) := Lib.hid (by rw [HX.out]; unfold idP; rw [HR.out, thenP_ok])
    by_cases h1 : n < 1
    · have HE : Hid (X = .error 1) := Lib.hid (by rw [HI.out, if_neg (by omega)]; rfl)
      have t1 : decide ((n : Int) < 1) = true := by simp; omega
      clear h1
      have hf := fun i => box_free HDT.out.box0 i
      obtain ⟨z0, z1, z2, z3, z4, z5⟩ := HDT.out.box0.cell
      obtain ⟨b0, b1, b2, b3, b4, b5⟩ := HDT.out.box1.cell
      have hlt0 := HDT.out.box0.lt
      have HS := Lib.hid (box_six HDT.out.box0 (.int .i64 0) (.bool false) (.int .i64 0) (.string ⟨#[]⟩) (.slice none 0 0) (.slice none 0 0))
      go_wp2
      obtain ⟨q0, q1, q2, q3, q4, q5⟩ := HS.out.cell
      unfold six at q0 q1 q2 q3 q4 q5
      refine bodyPost_ret (v := .tuple #[.agg #[.int .i64 0, .bool false, .int .i64 0, .string ⟨#[]⟩, .slice none 0 0, .slice none 0 0], .int .i64 0, .int .i64 0, .int .i64 1]) (by simp [results, Try.results41, go_sem, q0, q1, q2, q3, q4, q5]) rfl ?_
      rw [HE.out]
      exact HDT.out.fault L _
    · by_cases h2 : 9223372036854775808 ≤ n
      · have HE : Hid (X = .error 1) := Lib.hid (by rw [HI.out, if_neg (by omega)]; rfl)
        have t1 : decide ((n : Int) < 1) = false := by simp; omega
        have t2 : decide ((9223372036854775808 : Int) ≤ (n : Int)) = true := by simp; omega
        clear h1 h2
        have hf := fun i => box_free HDT.out.box0 i
        obtain ⟨z0, z1, z2, z3, z4, z5⟩ := HDT.out.box0.cell
        obtain ⟨b0, b1, b2, b3, b4, b5⟩ := HDT.out.box1.cell
        have hlt0 := HDT.out.box0.lt
        have HS := Lib.hid (box_six HDT.out.box0 (.int .i64 0) (.bool false) (.int .i64 0) (.string ⟨#[]⟩) (.slice none 0 0) (.slice none 0 0))
        go_wp2
        obtain ⟨q0, q1, q2, q3, q4, q5⟩ := HS.out.cell
        unfold six at q0 q1 q2 q3 q4 q5
        refine bodyPost_ret (v := .tuple #[.agg #[.int .i64 0, .bool false, .int .i64 0, .string ⟨#[]⟩, .slice none 0 0, .slice none 0 0], .int .i64 0, .int .i64 0, .int .i64 1]) (by simp [results, Try.results41, go_sem, q0, q1, q2, q3, q4, q5]) rfl ?_
        rw [HE.out]
        exact HDT.out.fault L _
      · have HX2 : Hid (X = .ok (.mk 6 false n E0 [] [], p1, all.drop at2)) := Lib.hid (by rw [HI.out, if_pos (by omega)]; rfl)
        have t1 : decide ((n : Int) < 1) = false := by simp; omega
        have t2 : decide ((9223372036854775808 : Int) ≤ (n : Int)) = false := by simp; omega
        have m3 : wrap64 (n : Int) = (n : Int) := by unfold wrap64; omega
        have HX := HX2
        clear h1 h2 HI
        have hf := fun i => box_free HDT.out.box0 i
        obtain ⟨z0, z1, z2, z3, z4, z5⟩ := HDT.out.box0.cell
        obtain ⟨b0, b1, b2, b3, b4, b5⟩ := HDT.out.box1.cell
        have hlt0 := HDT.out.box0.lt
        have HS := Lib.hid (box_six HDT.out.box0 (.int .i64 6) (.bool false) (.int .i64 (n : Int)) (.string ⟨#[]⟩) (.slice none 0 0) (.slice none 0 0))
        go_wp2
        obtain ⟨q0, q1, q2, q3, q4, q5⟩ := HS.out.cell
        unfold six at q0 q1 q2 q3 q4 q5
        refine bodyPost_ret (v := .tuple #[.agg #[.int .i64 6, .bool false, .int .i64 (n : Int), .string ⟨#[]⟩, .slice none 0 0, .slice none 0 0], .int .i64 (at2 : Int), .int .i64 (p1 : Int), .int .i64 0]) (by simp [results, Try.results41, go_sem, q0, q1, q2, q3, q4, q5]) rfl ?_
        rw [HX.out]
        exact HDT.out.back (by have := HAT2.out; rw [List.length_drop, HLL.out]; omega) (own_leaf _ _ _ _ _ _)
set_option maxRecDepth 100000 in
set_option maxHeartbeats 4000000 in
theorem refRead_8 (d : Nat) (a : Option Addr) (c0 L : Nat) (all : List UInt8) (at_ p at1 p1 : Nat) (w : World) (D : Int) (b : UInt8) (X : Except Int (VT × Nat × List UInt8)) (IH : Hid (ReadIH d a c0 L all)) (h : Data w a c0 L all) (hj : all[at_]? = some b) (hb : b.toNat = 8) (hp : p + 1 = p1) (hat : at_ + 1 = at1) (hple : p1 ≤ 4096) (hd : d ≤ 32) (hD : D = (d : Int) + 1) (HX : Hid (X = thenP (idP (all.drop at1)) fun x => .ok (.mk 7 false x.1 E0 [] [], p1, x.2))) :
    Calls Try.prog 41 #[.slice a L c0, .int .i64 (at_ : Int), .int .i64 D, .int .i64 (p : Int)] w (RefPost L w X) := by
  have hjl := (List.getElem?_eq_some_iff.1 hj).1
  rw [h.len] at hjl
  have hLs := h.small
  have HDAT := Lib.hid h
  have HLL := Lib.hid h.len
  have HDE := Lib.hid hD
  have HPLE := Lib.hid hple
  have HD32 := Lib.hid hd
  have hD1 : decide (D < 1) = false := by simp; omega
  have hw1 : wrap64 ((at_ : Int) + 1) = (at1 : Int) := by unfold wrap64; omega
  have hw2 : wrap64 ((p : Int) + 1) = (p1 : Int) := by unfold wrap64; omega
  have t3 : decide ((4096 : Int) < (p1 : Int)) = false := by simp; omega
  have HAT1 : Hid (at1 ≤ L) := Lib.hid (by omega)
  have HDT0 := Lib.hid (DT.start0 w)
  obtain ⟨x, hx, hcell⟩ := (h.below HDT0.out.low).at hj
  have hu : (b.toNat : Int) = 8 := by rw [hb]; rfl
  rw [hu] at hcell
  subst hx
  have g1 : decide (L ≤ at_) = false := by simp; omega
  have g2 : decide ((L : Int) ≤ (at_ : Int)) = false := by simp; omega
  have g3 : ¬ (L : Int) ≤ (at_ : Int) := by omega
  have g4 : (at_ : Int) < (L : Int) := by omega
  clear h hj hb hp hat hple hd hD hjl hLs hu
  go_enter Try.func41, Try.ntmps41
  go_upto_region 2 with fail
  generalize ((w.alloc (.cells #[.int .i64 0, .bool false, .int .i64 0, .string ⟨#[]⟩, .slice none 0 0, .slice none 0 0] 25)).alloc (.cells #[.int .i64 0, .bool false, .int .i64 0, .string ⟨#[]⟩, .slice none 0 0, .slice none 0 0] 25)) = V0 at *
  have HDT := HDT0
  clear HDT0
  have HN := Lib.hid (refNum_any (some x) c0 L all at1 V0 (HDAT.out.below HDT.out.low) HAT1.out)
  go_wp2_with fail
  refine HN.out.mono ?_
  clear hcell g1 g2 g3 g4 hw1 hw2 t3 hD1
  cases hr : numP (all.drop at1) with
  | error c =>
    have HE : Hid (X = .error c) := Lib.hid (by rw [HX.out]; unfold idP; rw [hr]; rfl)
    have hc0 := numP_err hr
    have hc : (c != 0) = true := by unfold bne; rw [hc0]; rfl
    rintro e w1 ⟨rfl, hw1⟩
    subst w1
    simp only [numV]
    clear hr HN
    have hf := fun i => box_free HDT.out.box0 i
    obtain ⟨z0, z1, z2, z3, z4, z5⟩ := HDT.out.box0.cell
    obtain ⟨b0, b1, b2, b3, b4, b5⟩ := HDT.out.box1.cell
    have hlt0 := HDT.out.box0.lt
    have HS := Lib.hid (box_six HDT.out.box0 (.int .i64 0) (.bool false) (.int .i64 0) (.string ⟨#[]⟩) (.slice none 0 0) (.slice none 0 0))
    go_wp2
    obtain ⟨q0, q1, q2, q3, q4, q5⟩ := HS.out.cell
    unfold six at q0 q1 q2 q3 q4 q5
    refine bodyPost_ret (v := .tuple #[.agg #[.int .i64 0, .bool false, .int .i64 0, .string ⟨#[]⟩, .slice none 0 0, .slice none 0 0], .int .i64 0, .int .i64 0, .int .i64 c]) (by simp [results, Try.results41, go_sem, q0, q1, q2, q3, q4, q5]) rfl ?_
    rw [HE.out]
    exact HDT.out.fault L _
  | ok b =>
    obtain ⟨n, r⟩ := b
    have hm64 := (numP_ok hr).2
    obtain ⟨at2, hat2, hr2, hpl, -⟩ := drop_rest HLL.out HAT1.out (numP_ok hr).1
    subst hr2
    rintro e w1 ⟨rfl, hw1⟩
    subst w1
    simp only [numV]
    rw [hpl]
    have HR := Lib.hid hr
    have HM := Lib.hid hm64
    have HAT2 := Lib.hid hat2
    clear hr hm64 hpl hat2 HN
    have HI : Hid (X = thenP (if 1 ≤ n ∧ n ≤ 9223372036854775807 then .ok (n, all.drop at2) else .error 1) fun x => .ok (.mk 7 false x.1 E0 [] [], p1, x.2)) := Lib.hid (by rw [HX.out]; unfold idP; rw [HR.out, thenP_ok])
    by_cases h1 : n < 1
    · have HE : Hid (X = .error 1) := Lib.hid (by rw [HI.out, if_neg (by omega)]; rfl)
      have t1 : decide ((n : Int) < 1) = true := by simp; omega
      clear h1
      have hf := fun i => box_free HDT.out.box0 i
      obtain ⟨z0, z1, z2, z3, z4, z5⟩ := HDT.out.box0.cell
      obtain ⟨b0, b1, b2, b3, b4, b5⟩ := HDT.out.box1.cell
      have hlt0 := HDT.out.box0.lt
      have HS := Lib.hid (box_six HDT.out.box0 (.int .i64 0) (.bool false) (.int .i64 0) (.string ⟨#[]⟩) (.slice none 0 0) (.slice none 0 0))
      go_wp2
      obtain ⟨q0, q1, q2, q3, q4, q5⟩ := HS.out.cell
      unfold six at q0 q1 q2 q3 q4 q5
      refine bodyPost_ret (v := .tuple #[.agg #[.int .i64 0, .bool false, .int .i64 0, .string ⟨#[]⟩, .slice none 0 0, .slice none 0 0], .int .i64 0, .int .i64 0, .int .i64 1]) (by simp [results, Try.results41, go_sem, q0, q1, q2, q3, q4, q5]) rfl ?_
      rw [HE.out]
      exact HDT.out.fault L _
    · by_cases h2 : 9223372036854775808 ≤ n
      · have HE : Hid (X = .error 1) := Lib.hid (by rw [HI.out, if_neg (by omega)]; rfl)
        have t1 : decide ((n : Int) < 1) = false := by simp; omega
        have t2 : decide ((9223372036854775808 : Int) ≤ (n : Int)) = true := by simp; omega
        clear h1 h2
        have hf := fun i => box_free HDT.out.box0 i
        obtain ⟨z0, z1, z2, z3, z4, z5⟩ := HDT.out.box0.cell
        obtain ⟨b0, b1, b2, b3, b4, b5⟩ := HDT.out.box1.cell
        have hlt0 := HDT.out.box0.lt
        have HS := Lib.hid (box_six HDT.out.box0 (.int .i64 0) (.bool false) (.int .i64 0) (.string ⟨#[]⟩) (.slice none 0 0) (.slice none 0 0))
        go_wp2
        obtain ⟨q0, q1, q2, q3, q4, q5⟩ := HS.out.cell
        unfold six at q0 q1 q2 q3 q4 q5
        refine bodyPost_ret (v := .tuple #[.agg #[.int .i64 0, .bool false, .int .i64 0, .string ⟨#[]⟩, .slice none 0 0, .slice none 0 0], .int .i64 0, .int .i64 0, .int .i64 1]) (by simp [results, Try.results41, go_sem, q0, q1, q2, q3, q4, q5]) rfl ?_
        rw [HE.out]
        exact HDT.out.fault L _
      · have HX2 : Hid (X = .ok (.mk 7 false n E0 [] [], p1, all.drop at2)) := Lib.hid (by rw [HI.out, if_pos (by omega)]; rfl)
        have t1 : decide ((n : Int) < 1) = false := by simp; omega
        have t2 : decide ((9223372036854775808 : Int) ≤ (n : Int)) = false := by simp; omega
        have m3 : wrap64 (n : Int) = (n : Int) := by unfold wrap64; omega
        have HX := HX2
        clear h1 h2 HI
        have hf := fun i => box_free HDT.out.box0 i
        obtain ⟨z0, z1, z2, z3, z4, z5⟩ := HDT.out.box0.cell
        obtain ⟨b0, b1, b2, b3, b4, b5⟩ := HDT.out.box1.cell
        have hlt0 := HDT.out.box0.lt
        have HS := Lib.hid (box_six HDT.out.box0 (.int .i64 7) (.bool false) (.int .i64 (n : Int)) (.string ⟨#[]⟩) (.slice none 0 0) (.slice none 0 0))
        go_wp2
        obtain ⟨q0, q1, q2, q3, q4, q5⟩ := HS.out.cell
        unfold six at q0 q1 q2 q3 q4 q5
        refine bodyPost_ret (v := .tuple #[.agg #[.int .i64 7, .bool false, .int .i64 (n : Int), .string ⟨#[]⟩, .slice none 0 0, .slice none 0 0], .int .i64 (at2 : Int), .int .i64 (p1 : Int), .int .i64 0]) (by simp [results, Try.results41, go_sem, q0, q1, q2, q3, q4, q5]) rfl ?_
        rw [HX.out]
        exact HDT.out.back (by have := HAT2.out; rw [List.length_drop, HLL.out]; omega) (own_leaf _ _ _ _ _ _)
end Pk
end Go.Proofs.Ytmhlipncelgmlaa
