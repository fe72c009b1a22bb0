/- The document's reader of values, whole; Decode. -/
import Derived.Test.YtmhlipncelgmlaaPkRefV
namespace Go.Proofs.Ytmhlipncelgmlaa
open Go.RowKit
set_option linter.unusedVariables false
set_option linter.unusedSimpArgs false
namespace Pk
open Val (VT Keeps Box StrBlock)
open Rk (info_parts)
set_option maxRecDepth 100000 in
set_option maxHeartbeats 4000000 in
theorem refRead_more (a : Option Addr) (c0 L : Nat) (all : List UInt8) (at_ p : Nat) (w : World) (D : Int) (X : Except Int (VT × Nat × List UInt8)) (h : Data w a c0 L all) (hat : at_ = L) (HE : Hid (X = .error 22)) :
    Calls Try.prog 41 #[.slice a L c0, .int .i64 (at_ : Int), .int .i64 D, .int .i64 (p : Int)] w (RefPost L w X) := by
  have HDT0 := Lib.hid (DT.start0 w)
  subst hat
  have g1 : decide (at_ ≤ at_) = true := by simp
  have g2 : decide ((at_ : Int) ≤ (at_ : Int)) = true := by simp
  clear h
  go_enter Try.func41, Try.ntmps41
  go_upto_region 2 with fail
  generalize ((w.alloc (.cells #[.int .i64 0, .bool false, .int .i64 0, .string ⟨#[]⟩, .slice none 0 0, .slice none 0 0] 25)).alloc (.cells #[.int .i64 0, .bool false, .int .i64 0, .string ⟨#[]⟩, .slice none 0 0, .slice none 0 0] 25)) = V0 at *
  have HDT := HDT0
  clear HDT0
  have hf := fun i => box_free HDT.out.box0 i
  obtain ⟨z0, z1, z2, z3, z4, z5⟩ := HDT.out.box0.cell
  obtain ⟨b0, b1, b2, b3, b4, b5⟩ := HDT.out.box1.cell
  have hlt0 := HDT.out.box0.lt
  have HS := Lib.hid (box_six HDT.out.box0 (.int .i64 0) (.bool false) (.int .i64 0) (.string ⟨#[]⟩) (.slice none 0 0) (.slice none 0 0))
  go_wp2
  obtain ⟨q0, q1, q2, q3, q4, q5⟩ := HS.out.cell
  unfold six at q0 q1 q2 q3 q4 q5
  refine bodyPost_ret (v := .tuple #[.agg #[.int .i64 0, .bool false, .int .i64 0, .string ⟨#[]⟩, .slice none 0 0, .slice none 0 0], .int .i64 0, .int .i64 0, .int .i64 22]) (by simp [results, Try.results41, go_sem, q0, q1, q2, q3, q4, q5]) rfl ?_
  rw [HE.out]
  exact HDT.out.fault at_ _
set_option maxRecDepth 100000 in
set_option maxHeartbeats 4000000 in
theorem refRead_bad (a : Option Addr) (c0 L : Nat) (all : List UInt8) (at_ p : Nat) (w : World) (D : Int) (X : Except Int (VT × Nat × List UInt8)) (h : Data w a c0 L all) (b : UInt8) (hj : all[at_]? = some b) (hp : p ≤ 4096) (hbad : 8 < b.toNat ∨ D < 1 ∨ 4096 < p + 1) (HE : Hid (X = .error 1)) :
    Calls Try.prog 41 #[.slice a L c0, .int .i64 (at_ : Int), .int .i64 D, .int .i64 (p : Int)] w (RefPost L w X) := by
  have hjl := (List.getElem?_eq_some_iff.1 hj).1
  rw [h.len] at hjl
  have hLs := h.small
  obtain ⟨m, hm⟩ : ∃ m, b.toNat = m := ⟨_, rfl⟩
  have hm256 : m < 256 := by rw [← hm]; exact b.toNat_lt
  rw [hm] at hbad
  have hw1 : wrap64 ((at_ : Int) + 1) = ((at_ : Int) + 1) := by unfold wrap64; omega
  obtain ⟨p1, hp1⟩ : ∃ x, p + 1 = x := ⟨_, rfl⟩
  have hw2 : wrap64 ((p : Int) + 1) = (p1 : Int) := by unfold wrap64; omega
  have HDT0 := Lib.hid (DT.start0 w)
  obtain ⟨x, hx, hcell⟩ := (h.below HDT0.out.low).at hj
  rw [hm] at hcell
  subst hx
  have g1 : decide (L ≤ at_) = false := by simp; omega
  have g2 : decide ((L : Int) ≤ (at_ : Int)) = false := by simp; omega
  have g3 : ¬ (L : Int) ≤ (at_ : Int) := by omega
  have g4 : (at_ : Int) < (L : Int) := by omega
  have hbad2 : 8 < m ∨ (m ≤ 8 ∧ D < 1) ∨ (m ≤ 8 ∧ ¬ D < 1 ∧ 4096 < p1) := by omega
  clear h hj hbad hp hjl hLs hm hm256 hp1
  rcases hbad2 with q | ⟨q, r⟩ | ⟨q, r, s⟩
  · have t1 : decide ((8 : Int) < (m : Int)) = true := by simp; omega
    clear q
    go_enter Try.func41, Try.ntmps41
    go_upto_region 2 with fail
    generalize ((w.alloc (.cells #[.int .i64 0, .bool false, .int .i64 0, .string ⟨#[]⟩, .slice none 0 0, .slice none 0 0] 25)).alloc (.cells #[.int .i64 0, .bool false, .int .i64 0, .string ⟨#[]⟩, .slice none 0 0, .slice none 0 0] 25)) = V0 at *
    have HDT := HDT0
    clear HDT0
    have hf := fun i => box_free HDT.out.box0 i
    obtain ⟨z0, z1, z2, z3, z4, z5⟩ := HDT.out.box0.cell
    obtain ⟨b0, b1, b2, b3, b4, b5⟩ := HDT.out.box1.cell
    have hlt0 := HDT.out.box0.lt
    have HS := Lib.hid (box_six HDT.out.box0 (.int .i64 0) (.bool false) (.int .i64 0) (.string ⟨#[]⟩) (.slice none 0 0) (.slice none 0 0))
    go_wp2
    obtain ⟨q0, q1, q2, q3, q4, q5⟩ := HS.out.cell
    unfold six at q0 q1 q2 q3 q4 q5
    refine bodyPost_ret (v := .tuple #[.agg #[.int .i64 0, .bool false, .int .i64 0, .string ⟨#[]⟩, .slice none 0 0, .slice none 0 0], .int .i64 0, .int .i64 0, .int .i64 1]) (by simp [results, Try.results41, go_sem, q0, q1, q2, q3, q4, q5]) rfl ?_
    rw [HE.out]
    exact HDT.out.fault L _
  · have t1 : decide ((8 : Int) < (m : Int)) = false := by simp; omega
    have t2 : decide (D < 1) = true := by simp; omega
    clear q r
    go_enter Try.func41, Try.ntmps41
    go_upto_region 2 with fail
    generalize ((w.alloc (.cells #[.int .i64 0, .bool false, .int .i64 0, .string ⟨#[]⟩, .slice none 0 0, .slice none 0 0] 25)).alloc (.cells #[.int .i64 0, .bool false, .int .i64 0, .string ⟨#[]⟩, .slice none 0 0, .slice none 0 0] 25)) = V0 at *
    have HDT := HDT0
    clear HDT0
    have hf := fun i => box_free HDT.out.box0 i
    obtain ⟨z0, z1, z2, z3, z4, z5⟩ := HDT.out.box0.cell
    obtain ⟨b0, b1, b2, b3, b4, b5⟩ := HDT.out.box1.cell
    have hlt0 := HDT.out.box0.lt
    have HS := Lib.hid (box_six HDT.out.box0 (.int .i64 0) (.bool false) (.int .i64 0) (.string ⟨#[]⟩) (.slice none 0 0) (.slice none 0 0))
    go_wp2
    obtain ⟨q0, q1, q2, q3, q4, q5⟩ := HS.out.cell
    unfold six at q0 q1 q2 q3 q4 q5
    refine bodyPost_ret (v := .tuple #[.agg #[.int .i64 0, .bool false, .int .i64 0, .string ⟨#[]⟩, .slice none 0 0, .slice none 0 0], .int .i64 0, .int .i64 0, .int .i64 1]) (by simp [results, Try.results41, go_sem, q0, q1, q2, q3, q4, q5]) rfl ?_
    rw [HE.out]
    exact HDT.out.fault L _
  · have t1 : decide ((8 : Int) < (m : Int)) = false := by simp; omega
    have t2 : decide (D < 1) = false := by simp; omega
    have t3 : decide ((4096 : Int) < (p1 : Int)) = true := by simp; omega
    clear q r s
    go_enter Try.func41, Try.ntmps41
    go_upto_region 2 with fail
    generalize ((w.alloc (.cells #[.int .i64 0, .bool false, .int .i64 0, .string ⟨#[]⟩, .slice none 0 0, .slice none 0 0] 25)).alloc (.cells #[.int .i64 0, .bool false, .int .i64 0, .string ⟨#[]⟩, .slice none 0 0, .slice none 0 0] 25)) = V0 at *
    have HDT := HDT0
    clear HDT0
    have hf := fun i => box_free HDT.out.box0 i
    obtain ⟨z0, z1, z2, z3, z4, z5⟩ := HDT.out.box0.cell
    obtain ⟨b0, b1, b2, b3, b4, b5⟩ := HDT.out.box1.cell
    have hlt0 := HDT.out.box0.lt
    have HS := Lib.hid (box_six HDT.out.box0 (.int .i64 0) (.bool false) (.int .i64 0) (.string ⟨#[]⟩) (.slice none 0 0) (.slice none 0 0))
    go_wp2
    obtain ⟨q0, q1, q2, q3, q4, q5⟩ := HS.out.cell
    unfold six at q0 q1 q2 q3 q4 q5
    refine bodyPost_ret (v := .tuple #[.agg #[.int .i64 0, .bool false, .int .i64 0, .string ⟨#[]⟩, .slice none 0 0, .slice none 0 0], .int .i64 0, .int .i64 0, .int .i64 1]) (by simp [results, Try.results41, go_sem, q0, q1, q2, q3, q4, q5]) rfl ?_
    rw [HE.out]
    exact HDT.out.fault L _
theorem Data.cons {w : World} {a : Option Addr} {c L : Nat} {all : List UInt8} {at_ : Nat} (h : Data w a c L all) (hlt : at_ < L) : ∃ b, all[at_]? = some b ∧ all.drop at_ = b :: all.drop (at_ + 1) := by
  have hjl : at_ < all.length := by rw [h.len]; exact hlt
  exact ⟨all[at_], List.getElem?_eq_getElem hjl, List.drop_eq_getElem_cons hjl⟩
theorem refRead_any (a : Option Addr) (c L : Nat) (all : List UInt8) : ∀ d, d ≤ 32 → ReadIH d a c L all
  | 0, _ => fun at_ p w h hat hp => by
    by_cases he : at_ = L
    · refine refRead_more a c L all at_ p w _ _ h he (Lib.hid ?_)
      rw [he, ← h.len, List.drop_length]
      rfl
    · obtain ⟨b, hj, hc⟩ := h.cons (show at_ < L by omega)
      refine refRead_bad a c L all at_ p w _ _ h b hj hp (.inr (.inl (by decide))) (Lib.hid ?_)
      rw [hc]
      rfl
  | d + 1, hd => fun at_ p w h hat hp => by
    have IH := Lib.hid (refRead_any a c L all d (by omega))
    by_cases he : at_ = L
    · refine refRead_more a c L all at_ p w _ _ h he (Lib.hid ?_)
      rw [he, ← h.len, List.drop_length]
      rfl
    · obtain ⟨b, hj, hc⟩ := h.cons (show at_ < L by omega)
      have e2 : parseV (d + 1) p (b :: all.drop (at_ + 1)) = if b.toNat ≤ 8 ∧ p + 1 ≤ 4096 then bodyP (parseV d) b.toNat (p + 1) (all.drop (at_ + 1)) else .error 1 := rfl
      rw [hc]
      by_cases hok : b.toNat ≤ 8 ∧ p + 1 ≤ 4096
      · rw [if_pos hok] at e2
        have h8 : b.toNat = 0 ∨ b.toNat = 1 ∨ b.toNat = 2 ∨ b.toNat = 3 ∨ b.toNat = 4 ∨ b.toNat = 5 ∨ b.toNat = 6 ∨ b.toNat = 7 ∨ b.toNat = 8 := by omega
        have hD : ((d + 1 : Nat) : Int) = (d : Int) + 1 := by omega
        rcases h8 with hq | hq | hq | hq | hq | hq | hq | hq | hq <;> rw [hq] at e2
        · exact refRead_0 d a c L all at_ p (at_ + 1) (p + 1) w _ b _ IH h hj hq rfl rfl hok.2 (by omega) hD (Lib.hid e2)
        · exact refRead_1 d a c L all at_ p (at_ + 1) (p + 1) w _ b _ IH h hj hq rfl rfl hok.2 (by omega) hD (Lib.hid e2)
        · exact refRead_2 d a c L all at_ p (at_ + 1) (p + 1) w _ b _ IH h hj hq rfl rfl hok.2 (by omega) hD (Lib.hid e2)
        · exact refRead_3 d a c L all at_ p (at_ + 1) (p + 1) w _ b _ IH h hj hq rfl rfl hok.2 (by omega) hD (Lib.hid e2)
        · exact refRead_4 d a c L all at_ p (at_ + 1) (p + 1) w _ b _ IH h hj hq rfl rfl hok.2 (by omega) hD (Lib.hid e2)
        · exact refRead_5 d a c L all at_ p (at_ + 1) (p + 1) w _ b _ IH h hj hq rfl rfl hok.2 (by omega) hD (Lib.hid e2)
        · exact refRead_6 d a c L all at_ p (at_ + 1) (p + 1) w _ b _ IH h hj hq rfl rfl hok.2 (by omega) hD (Lib.hid e2)
        · exact refRead_7 d a c L all at_ p (at_ + 1) (p + 1) w _ b _ IH h hj hq rfl rfl hok.2 (by omega) hD (Lib.hid e2)
        · exact refRead_8 d a c L all at_ p (at_ + 1) (p + 1) w _ b _ IH h hj hq rfl rfl hok.2 (by omega) hD (Lib.hid e2)
      · rw [if_neg hok] at e2
        exact refRead_bad a c L all at_ p w _ _ h b hj hp (by omega) (Lib.hid e2)
/-- What the document's Decode comes to. -/
def RefDec (L : Nat) (l : List UInt8) (w : World) (e : Ending) (w' : World) : Prop :=
  Below w.heap.size w w' ∧ match parseV 32 0 l with
  | .error c => e = .returned (.tuple #[.agg #[.int .i64 0, .bool false, .int .i64 0, .string ⟨#[]⟩, .slice none 0 0, .slice none 0 0], .int .i64 0, .int .i64 c])
  | .ok a => ∃ v, e = .returned (.tuple #[v, .int .i64 ((L : Int) - (a.2.2.length : Int)), .int .i64 0]) ∧ VT.Own w' a.1 (Made w w') v
theorem data_of {w : World} {a : Option Addr} {c : Nat} {l : List UInt8} (hs : Fr.Src w (fun _ => False) a l) (hle : l.length ≤ c) (hsm : l.length ≤ 4611686018427387904) : Data w a c l.length l :=
  ⟨rfl, hle, hsm, fun h0 => by
    obtain ⟨x, e, h1, h2, h3⟩ := hs h0
    exact ⟨x, e, h1, by omega, h3⟩⟩
set_option maxRecDepth 100000 in
set_option maxHeartbeats 4000000 in
theorem refDecode_any (a : Option Addr) (c L : Nat) (l : List UInt8) (w : World) (h : Data w a c L l) :
    Calls Try.prog 19 #[.slice a L c] w (RefDec L l w) := by
  have hb0 : Below w.heap.size w (w.alloc (.cells #[.int .i64 0, .bool false, .int .i64 0, .string ⟨#[]⟩, .slice none 0 0, .slice none 0 0] 25)) := (Below.refl _ w).alloc (Nat.le_refl _) _
  have HRD : Hid (Calls Try.prog 41 #[.slice a L c, .int .i64 0, .int .i64 32, .int .i64 0] (w.alloc (.cells #[.int .i64 0, .bool false, .int .i64 0, .string ⟨#[]⟩, .slice none 0 0, .slice none 0 0] 25)) (RefPost L (w.alloc (.cells #[.int .i64 0, .bool false, .int .i64 0, .string ⟨#[]⟩, .slice none 0 0, .slice none 0 0] 25)) (parseV 32 0 l))) := Lib.hid (refRead_any a c L l 32 (Nat.le_refl _) 0 0 _ (h.below hb0) (Nat.zero_le _) (by decide))
  have HB0 := Lib.hid (Box.new w #[.int .i64 0, .bool false, .int .i64 0, .string ⟨#[]⟩, .slice none 0 0, .slice none 0 0])
  have HW0 := Lib.hid hb0
  clear h hb0
  go_enter Try.func19, Try.ntmps19
  go_wp2_with fail
  refine HRD.out.mono ?_
  cases hp : parseV 32 0 l with
  | error x =>
    have hc : (x != 0) = true := by unfold bne; rw [parse_err hp]; rfl
    rintro e w1 ⟨hb1, rfl⟩
    have hb2 := hb1.trans (((Keeps.refl (fun _ => False) w1).alloc (.cells #[.int .i64 0, .bool false, .int .i64 0, .string ⟨#[]⟩, .slice none 0 0, .slice none 0 0] 25)).below (fun _ f => f.elim) hb1.size)
    have HB : Hid (Box (w1.alloc (.cells #[.int .i64 0, .bool false, .int .i64 0, .string ⟨#[]⟩, .slice none 0 0, .slice none 0 0] 25)) w.heap.size #[.int .i64 0, .bool false, .int .i64 0, .string ⟨#[]⟩, .slice none 0 0, .slice none 0 0]) := Lib.hid ((hb2.block _ HB0.out.lt).trans HB0.out)
    have HL := Lib.hid (HW0.out.trans (hb2.mono HW0.out.size))
    have HP := Lib.hid hp
    clear hb1 hb2 hp HRD
    have hf := fun i => box_free HB.out i
    obtain ⟨z0, z1, z2, z3, z4, z5⟩ := HB.out.cell
    have hlt0 := HB.out.lt
    have HS := Lib.hid (box_six HB.out (.int .i64 0) (.bool false) (.int .i64 0) (.string ⟨#[]⟩) (.slice none 0 0) (.slice none 0 0))
    go_wp2
    obtain ⟨q0, q1, q2, q3, q4, q5⟩ := HS.out.cell
    unfold six at q0 q1 q2 q3 q4 q5
    refine bodyPost_ret (v := .tuple #[.agg #[.int .i64 0, .bool false, .int .i64 0, .string ⟨#[]⟩, .slice none 0 0, .slice none 0 0], .int .i64 0, .int .i64 x]) (by simp [results, Try.results19, go_sem, q0, q1, q2, q3, q4, q5]) rfl ?_
    unfold RefDec
    rw [HP.out]
    exact ⟨HL.out.trans ((keeps_six (Keeps.refl (· = w.heap.size) _) (.inl rfl) _ _ _ _ _ _).below (fun k e => by omega) HL.out.size), rfl⟩
  | ok y =>
    obtain ⟨t, p2, r⟩ := y
    rintro e w1 ⟨hb1, v, rfl, hown⟩
    obtain ⟨yk, yb, yn, ys, ypl, ynl, ycl, ypk, ynk, yck, rfl⟩ := hown.shape
    have hb2 := hb1.trans (((Keeps.refl (fun _ => False) w1).alloc (.cells #[.int .i64 yk, .bool yb, .int .i64 yn, .string ys, .slice ypl ynl ycl, .slice ypk ynk yck] 25)).below (fun _ f => f.elim) hb1.size)
    have HB : Hid (Box (w1.alloc (.cells #[.int .i64 yk, .bool yb, .int .i64 yn, .string ys, .slice ypl ynl ycl, .slice ypk ynk yck] 25)) w.heap.size #[.int .i64 0, .bool false, .int .i64 0, .string ⟨#[]⟩, .slice none 0 0, .slice none 0 0]) := Lib.hid ((hb2.block _ HB0.out.lt).trans HB0.out)
    have HL := Lib.hid (HW0.out.trans (hb2.mono HW0.out.size))
    have HO := Lib.hid (hown.keeps ((Keeps.refl (fun _ => False) w1).alloc (.cells #[.int .i64 yk, .bool yb, .int .i64 yn, .string ys, .slice ypl ynl ycl, .slice ypk ynk yck] 25)) (fun q hq => ⟨hq.2, fun h => h⟩))
    have HW1 := Lib.hid (show w.heap.size + 1 ≤ w1.heap.size from Nat.le_trans HB0.out.lt hb1.size)
    obtain ⟨b0, b1, b2, b3, b4, b5⟩ := (Box.new w1 #[.int .i64 yk, .bool yb, .int .i64 yn, .string ys, .slice ypl ynl ycl, .slice ypk ynk yck]).cell
    simp only
    obtain ⟨q, hq⟩ : ∃ q : Int, (L : Int) - (r.length : Int) = q := ⟨_, rfl⟩
    rw [hq]
    have HP := Lib.hid hp
    have HQ := Lib.hid hq
    clear hb1 hb2 hp HRD hown hq
    have hf := fun i => box_free HB.out i
    obtain ⟨z0, z1, z2, z3, z4, z5⟩ := HB.out.cell
    have hlt0 := HB.out.lt
    have HS := Lib.hid (box_six HB.out (.int .i64 yk) (.bool yb) (.int .i64 yn) (.string ys) (.slice ypl ynl ycl) (.slice ypk ynk yck))
    go_wp2
    obtain ⟨q0, q1, q2, q3, q4, q5⟩ := HS.out.cell
    unfold six at q0 q1 q2 q3 q4 q5
    refine bodyPost_ret (v := .tuple #[.agg #[.int .i64 yk, .bool yb, .int .i64 yn, .string ys, .slice ypl ynl ycl, .slice ypk ynk yck], .int .i64 q, .int .i64 0]) (by simp [results, Try.results19, go_sem, q0, q1, q2, q3, q4, q5]) rfl ?_
    have hk6 := keeps_six (Keeps.refl (· = w.heap.size) (w1.alloc (.cells #[.int .i64 yk, .bool yb, .int .i64 yn, .string ys, .slice ypl ynl ycl, .slice ypk ynk yck] 25))) (.inl rfl) (.int .i64 yk) (.bool yb) (.int .i64 yn) (.string ys) (.slice ypl ynl ycl) (.slice ypk ynk yck)
    have h1 := HW1.out
    have hsa : w1.heap.size ≤ (w1.alloc (.cells #[.int .i64 yk, .bool yb, .int .i64 yn, .string ys, .slice ypl ynl ycl, .slice ypk ynk yck] 25)).heap.size := by rw [World.size_alloc]; omega
    unfold RefDec
    rw [HP.out]
    simp only
    rw [HQ.out]
    exact ⟨HL.out.trans (hk6.below (fun k e => by omega) HL.out.size), _, rfl, VT.Own.more (fun k hk => ⟨by have := hk.1; rw [World.size_alloc] at this; omega, Nat.lt_of_lt_of_le hk.2 (Nat.le_trans hsa hk6.size)⟩) (HO.out.keeps hk6 (fun k hk => ⟨by have := hk.2; rw [World.size_alloc]; omega, by have h2 := hk.1; rw [World.size_alloc] at h2; omega⟩))⟩
end Pk
end Go.Proofs.Ytmhlipncelgmlaa
