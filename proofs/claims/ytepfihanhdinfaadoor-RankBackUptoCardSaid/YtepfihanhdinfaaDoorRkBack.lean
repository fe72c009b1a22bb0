/- Keys: the value of any text. -/
import Derived.Test.YtepfihanhdinfaaDoorRkVC
import Derived.Test.YtepfihanhdinfaaDoorRkWorks
namespace Go.Proofs.YtepfihanhdinfaaDoor
open Go.RowKit
set_option linter.unusedVariables false
set_option linter.unusedSimpArgs false
namespace Rk
open Val (VT Keeps Box StrBlock okN okNL mayB allV formedV)
mutual
theorem raw_ok : ∀ t : VT, rawV t → okN t
  | .mk k b n s l ks, h => by
    unfold rawV at h
    unfold okN
    exact ⟨h.1.2.1, raw_okL l h.2⟩
theorem raw_okL : ∀ l : List VT, rawL l → okNL l
  | [], _ => by unfold okNL; trivial
  | t :: ts, h => by
    unfold rawL at h
    unfold okNL
    exact ⟨raw_ok t h.1, raw_okL ts h.2⟩
end
theorem may_raw {t : VT} (hm : mayB t = true) (ho : okN t) : rawV t ∧ keyR t = keyB t ∧ t.parts ≤ 4096 :=
  ⟨formed_raw t (Val.may_formed hm) ho, key_raw t (mayB_good t hm).1 ho, (mayB_good t hm).2⟩
/-- What rank.Back says of s. -/
def BackPost (s : ByteArray) (w : World) (e : Ending) (w' : World) : Prop :=
  Below w.heap.size w w' ∧ ((∃ t v, e = .returned (.tuple #[v, .int .i64 0]) ∧ mayB t = true ∧ okN t ∧ s.data.toList = keyB t ∧ VT.Own w' t (Made w w') v) ∨
    (e = .returned (.tuple #[ZV, .int .i64 1]) ∧ ∀ t, mayB t = true → okN t → s.data.toList ≠ keyB t))
theorem back_low {w w3 : World} (h : Below w.heap.size w w3) (d0 d1 d2 d3 d4 d5 : Value) : Below w.heap.size w (six w3 w.heap.size d0 d1 d2 d3 d4 d5) :=
  h.trans ((Keeps.six (Keeps.refl (· = w.heap.size) w3) (.inl rfl) _ _ _ _ _ _).below (fun k (hk : k = w.heap.size) => by omega) h.size)
theorem back_no {s : ByteArray} {w w3 : World} (h : Below w.heap.size w w3) (hno : ∀ t, mayB t = true → okN t → s.data.toList ≠ keyB t) :
    BackPost s w (.returned (.tuple #[.agg #[.int .i64 0, .bool false, .int .i64 0, .string ⟨#[]⟩, .slice none 0 0, .slice none 0 0], .int .i64 1])) (six w3 w.heap.size (.int .i64 0) (.bool false) (.int .i64 0) (.string ⟨#[]⟩) (.slice none 0 0) (.slice none 0 0)) :=
  ⟨back_low h _ _ _ _ _ _, .inr ⟨rfl, hno⟩⟩
theorem back_ok {s : ByteArray} {w w1 w3 : World} {t : VT} {v0 v1 v2 v3 v4 v5 : Value} (h : Below w.heap.size w w3) (hb : Below w1.heap.size w1 w3) (hm : mayB t = true) (ho : okN t) (hk : s.data.toList = keyB t) (hown : VT.Own w1 t (fun k => w.heap.size < k ∧ k < w1.heap.size) (.agg #[v0, v1, v2, v3, v4, v5])) :
    BackPost s w (.returned (.tuple #[.agg #[v0, v1, v2, v3, v4, v5], .int .i64 0])) (six w3 w.heap.size v0 v1 v2 v3 v4 v5) := by
  have h6 : Keeps (· = w.heap.size) w3 (six w3 w.heap.size v0 v1 v2 v3 v4 v5) := Keeps.six (Keeps.refl (· = w.heap.size) w3) (.inl rfl) _ _ _ _ _ _
  have h7 : Keeps (· = w.heap.size) w1 (six w3 w.heap.size v0 v1 v2 v3 v4 v5) := (Keeps.of_below hb).trans h6
  refine ⟨back_low h _ _ _ _ _ _, .inl ⟨t, _, rfl, hm, ho, hk, ?_⟩⟩
  exact VT.Own.more (fun k hk => ⟨by omega, Nat.lt_of_lt_of_le hk.2 h7.size⟩) (hown.keeps h7 (fun k hk => ⟨hk.2, fun e => by omega⟩))
set_option maxRecDepth 100000 in
set_option maxHeartbeats 8000000 in
theorem Back_any (s : ByteArray) (w : World) (hs : s.size ≤ 1073741824) (hX : MaxAt w) : Calls Tryd.prog 15 #[.string s] w (BackPost s w) := by
  have hM := hX.zero
  have hR0 : RdAt ((w.alloc (.cells #[.int .i64 0, .bool false, .int .i64 0, .string ⟨#[]⟩, .slice none 0 0, .slice none 0 0] 26)).alloc (.cells #[.string s, .int .i64 0] 52)) (w.heap.size + 1) s ((0 : Nat) : Int) := by
    have := RdAt.new (w.alloc (.cells #[.int .i64 0, .bool false, .int .i64 0, .string ⟨#[]⟩, .slice none 0 0, .slice none 0 0] 26)) s 0
    rwa [show (w.alloc (.cells #[.int .i64 0, .bool false, .int .i64 0, .string ⟨#[]⟩, .slice none 0 0, .slice none 0 0] 26)).heap.size = w.heap.size + 1 by simp] at this
  have hK0 : Below w.heap.size w ((w.alloc (.cells #[.int .i64 0, .bool false, .int .i64 0, .string ⟨#[]⟩, .slice none 0 0, .slice none 0 0] 26)).alloc (.cells #[.string s, .int .i64 0] 52)) := ((Below.refl _ w).alloc (Nat.le_refl _) _).alloc (by simp) _
  have hB0 : Box ((w.alloc (.cells #[.int .i64 0, .bool false, .int .i64 0, .string ⟨#[]⟩, .slice none 0 0, .slice none 0 0] 26)).alloc (.cells #[.string s, .int .i64 0] 52)) w.heap.size #[.int .i64 0, .bool false, .int .i64 0, .string ⟨#[]⟩, .slice none 0 0, .slice none 0 0] := (Box.new w _).alloc _
  have hS0 : w.heap.size + 2 ≤ ((w.alloc (.cells #[.int .i64 0, .bool false, .int .i64 0, .string ⟨#[]⟩, .slice none 0 0, .slice none 0 0] 26)).alloc (.cells #[.string s, .int .i64 0] 52)).heap.size := by simp
  have VC := Lib.hid (value_all 4096 (w.heap.size + 1) s 0 ((w.alloc (.cells #[.int .i64 0, .bool false, .int .i64 0, .string ⟨#[]⟩, .slice none 0 0, .slice none 0 0] 26)).alloc (.cells #[.string s, .int .i64 0] 52)) hR0 (by omega) (by omega) hs (hX.low hK0 hM) (by omega))
  have HS0 := Lib.hid hS0
  have HK0 := Lib.hid hK0
  have HB0 := Lib.hid hB0
  clear hR0 hK0 hB0 hs hX hM hS0
  go_enter Tryd.func15, Tryd.ntmps15
  go_wp2_with fail
  refine VC.out.mono ?_
  rintro e w1 ⟨k1, ⟨t, v, s', rfl, hraw, hown, htx, hrd, hle⟩ | ⟨⟨yk, yb, yn, ys, ypl, ynl, ycl, ypk, ynk, yck, rfl⟩, hno⟩⟩
  · obtain ⟨yk, yb, yn, ys, ypl, ynl, ycl, ypk, ynk, yck, rfl⟩ := hown.shape
    have hb1 : Box w1 w.heap.size #[.int .i64 0, .bool false, .int .i64 0, .string ⟨#[]⟩, .slice none 0 0, .slice none 0 0] := (k1.block _ HB0.out.lt (by omega)).trans HB0.out
    have hlt1 := hrd.lt
    have hbl1 : Below w.heap.size w w1 := HK0.out.trans (k1.below (fun k (hk : k = w.heap.size + 1) => by omega) HK0.out.size)
    have hne : ¬ w.heap.size + 1 = w1.heap.size := by omega
    have hne2 : ¬ w.heap.size = w1.heap.size := by omega
    have HO : Hid (VT.Own w1 t (fun k => w.heap.size < k ∧ k < w1.heap.size) (.agg #[.int .i64 yk, .bool yb, .int .i64 yn, .string ys, .slice ypl ynl ycl, .slice ypk ynk yck])) := Lib.hid (VT.Own.more (fun k hk => ⟨by have h1 := HS0.out; have h2 := hk.1; omega, hk.2⟩) hown)
    have HB2 : Hid (Below w.heap.size w (w1.alloc (.cells #[.int .i64 yk, .bool yb, .int .i64 yn, .string ys, .slice ypl ynl ycl, .slice ypk ynk yck] 26)) ∧ Box (w1.alloc (.cells #[.int .i64 yk, .bool yb, .int .i64 yn, .string ys, .slice ypl ynl ycl, .slice ypk ynk yck] 26)) w.heap.size #[.int .i64 0, .bool false, .int .i64 0, .string ⟨#[]⟩, .slice none 0 0, .slice none 0 0] ∧ Box (w1.alloc (.cells #[.int .i64 yk, .bool yb, .int .i64 yn, .string ys, .slice ypl ynl ycl, .slice ypk ynk yck] 26)) w1.heap.size #[.int .i64 yk, .bool yb, .int .i64 yn, .string ys, .slice ypl ynl ycl, .slice ypk ynk yck]) := Lib.hid ⟨hbl1.alloc hbl1.size _, hb1.alloc _, Box.new w1 _⟩
    have HI : Hid (VT.In (w1.alloc (.cells #[.int .i64 yk, .bool yb, .int .i64 yn, .string ys, .slice ypl ynl ycl, .slice ypk ynk yck] 26)) w1.heap.size t (.agg #[.int .i64 yk, .bool yb, .int .i64 yn, .string ys, .slice ypl ynl ycl, .slice ypk ynk yck])) := Lib.hid ((hown.toIn (fun k hk => hk.2)).below ((Below.refl w1.heap.size w1).alloc (Nat.le_refl _) _))
    have CC0 := Val.check_any t _ w1.heap.size _ HI.out (by simp)
    rw [Val.may_walk] at CC0
    obtain ⟨c0, c1, f0, f1⟩ := hrd.cell
    have HRAW := Lib.hid hraw
    have HTX := Lib.hid htx
    clear k1 hraw hown htx hrd hle hbl1
    by_cases hz : s'.size = 0
    · obtain rfl := empty_of hz
      have he := toList_e
      by_cases hm : mayB t = true
      · have CC : Hid (Calls Tryd.prog 22 #[.agg #[.int .i64 yk, .bool yb, .int .i64 yn, .string ys, .slice ypl ynl ycl, .slice ypk ynk yck]] (w1.alloc (.cells #[.int .i64 yk, .bool yb, .int .i64 yn, .string ys, .slice ypl ynl ycl, .slice ypk ynk yck] 26)) fun e w' => e = .returned (.int .i64 0) ∧ Below (w1.alloc (.cells #[.int .i64 yk, .bool yb, .int .i64 yn, .string ys, .slice ypl ynl ycl, .slice ypk ynk yck] 26)).heap.size (w1.alloc (.cells #[.int .i64 yk, .bool yb, .int .i64 yn, .string ys, .slice ypl ynl ycl, .slice ypk ynk yck] 26)) w') := Lib.hid (by rw [hm] at CC0; exact CC0)
        have HM := Lib.hid hm
        clear CC0 hm hz
        go_wp2_with fail
        refine CC.out.mono ?_
        rintro e w3 ⟨rfl, hb3⟩
        have hlt3 : w1.heap.size + 1 ≤ w3.heap.size := by have := hb3.size; simpa using this
        have hz3 : Box w3 w.heap.size #[.int .i64 0, .bool false, .int .i64 0, .string ⟨#[]⟩, .slice none 0 0, .slice none 0 0] := (hb3.block _ HB2.out.2.1.lt).trans HB2.out.2.1
        have ht3 : Box w3 w1.heap.size #[.int .i64 yk, .bool yb, .int .i64 yn, .string ys, .slice ypl ynl ycl, .slice ypk ynk yck] := (hb3.block _ HB2.out.2.2.lt).trans HB2.out.2.2
        have HB3 := Lib.hid (HB2.out.1.trans (hb3.mono HB2.out.1.size))
        have HB13 : Hid (Below w1.heap.size w1 w3) := Lib.hid (((Below.refl w1.heap.size w1).alloc (Nat.le_refl _) _).trans (hb3.mono (by simp)))
        have hf := fun i => box_free hz3 i
        obtain ⟨z0, z1, z2, z3, z4, z5⟩ := hz3.cell
        obtain ⟨t0, t1, t2, t3, t4, t5⟩ := ht3.cell
        have HE : Hid (Box (six w3 w.heap.size (.int .i64 yk) (.bool yb) (.int .i64 yn) (.string ys) (.slice ypl ynl ycl) (.slice ypk ynk yck)) w.heap.size #[.int .i64 yk, .bool yb, .int .i64 yn, .string ys, .slice ypl ynl ycl, .slice ypk ynk yck]) := Lib.hid (Box.six hz3 _ _ _ _ _ _)
        clear hb3 hz3 ht3 c0 c1 f0 f1 hb1
        go_wp2
        obtain ⟨q0, q1, q2, q3, q4, q5⟩ := HE.out.cell
        unfold six at q0 q1 q2 q3 q4 q5
        refine bodyPost_ret (v := .tuple #[.agg #[.int .i64 yk, .bool yb, .int .i64 yn, .string ys, .slice ypl ynl ycl, .slice ypk ynk yck], .int .i64 0]) (by simp [results, Tryd.results15, go_sem, q0, q1, q2, q3, q4, q5]) rfl ?_
        exact back_ok HB3.out HB13.out HM.out (raw_ok t HRAW.out) (by rw [HTX.out, (may_raw HM.out (raw_ok t HRAW.out)).2.1]; exact List.append_nil _) HO.out
      · obtain hm := Bool.eq_false_iff.2 hm
        have CC : Hid (Calls Tryd.prog 22 #[.agg #[.int .i64 yk, .bool yb, .int .i64 yn, .string ys, .slice ypl ynl ycl, .slice ypk ynk yck]] (w1.alloc (.cells #[.int .i64 yk, .bool yb, .int .i64 yn, .string ys, .slice ypl ynl ycl, .slice ypk ynk yck] 26)) fun e w' => e = .returned (.int .i64 20) ∧ Below (w1.alloc (.cells #[.int .i64 yk, .bool yb, .int .i64 yn, .string ys, .slice ypl ynl ycl, .slice ypk ynk yck] 26)).heap.size (w1.alloc (.cells #[.int .i64 yk, .bool yb, .int .i64 yn, .string ys, .slice ypl ynl ycl, .slice ypk ynk yck] 26)) w') := Lib.hid (by rw [hm] at CC0; exact CC0)
        have HN : Hid (∀ u, mayB u = true → okN u → s.data.toList ≠ keyB u) := Lib.hid fun u hu ho he => by
          obtain ⟨r1, r2, -⟩ := may_raw hu ho
          rw [HTX.out, ← r2] at he
          have h9 := (keyR_inj t u _ [] HRAW.out r1 (by rw [he, List.append_nil])).1
          rw [h9, hu] at hm
          cases hm
        clear CC0 hm hz
        go_wp2_with fail
        refine CC.out.mono ?_
        rintro e w3 ⟨rfl, hb3⟩
        have hlt3 : w1.heap.size + 1 ≤ w3.heap.size := by have := hb3.size; simpa using this
        have HZ : Hid (Box w3 w.heap.size #[.int .i64 0, .bool false, .int .i64 0, .string ⟨#[]⟩, .slice none 0 0, .slice none 0 0]) := Lib.hid ((hb3.block _ HB2.out.2.1.lt).trans HB2.out.2.1)
        have HB3 := Lib.hid (HB2.out.1.trans (hb3.mono HB2.out.1.size))
        clear hb3 c0 c1 f0 f1 hb1
        have HE : Hid (Box (six w3 w.heap.size (.int .i64 0) (.bool false) (.int .i64 0) (.string ⟨#[]⟩) (.slice none 0 0) (.slice none 0 0)) w.heap.size #[.int .i64 0, .bool false, .int .i64 0, .string ⟨#[]⟩, .slice none 0 0, .slice none 0 0]) := Lib.hid (Box.six HZ.out _ _ _ _ _ _)
        have hf := fun i => box_free HZ.out i
        obtain ⟨z0, z1, z2, z3, z4, z5⟩ := HZ.out.cell
        go_wp2
        obtain ⟨q0, q1, q2, q3, q4, q5⟩ := HE.out.cell
        unfold six at q0 q1 q2 q3 q4 q5
        refine bodyPost_ret (v := .tuple #[.agg #[.int .i64 0, .bool false, .int .i64 0, .string ⟨#[]⟩, .slice none 0 0, .slice none 0 0], .int .i64 1]) (by simp [results, Tryd.results15, go_sem, q0, q1, q2, q3, q4, q5]) rfl ?_
        exact back_no HB3.out HN.out
    · have hsp : 0 < s'.size := by omega
      have hse : s'.toList.isEmpty = false := toList_ne s' hsp
      have hsi : 0 < (s'.size : Int) := by omega
      have HN : Hid (∀ u, mayB u = true → okN u → s.data.toList ≠ keyB u) := Lib.hid fun u hu ho he => by
        obtain ⟨r1, r2, -⟩ := may_raw hu ho
        rw [HTX.out, ← r2] at he
        have h9 := (keyR_inj t u _ [] HRAW.out r1 (by rw [he, List.append_nil])).2
        have := congrArg List.length h9
        rw [ba_len] at this
        exact hz this
      have HZ : Hid (Box (w1.alloc (.cells #[.int .i64 yk, .bool yb, .int .i64 yn, .string ys, .slice ypl ynl ycl, .slice ypk ynk yck] 26)) w.heap.size #[.int .i64 0, .bool false, .int .i64 0, .string ⟨#[]⟩, .slice none 0 0, .slice none 0 0]) := Lib.hid HB2.out.2.1
      clear CC0 hz hb1
      have HE : Hid (Box (six (w1.alloc (.cells #[.int .i64 yk, .bool yb, .int .i64 yn, .string ys, .slice ypl ynl ycl, .slice ypk ynk yck] 26)) w.heap.size (.int .i64 0) (.bool false) (.int .i64 0) (.string ⟨#[]⟩) (.slice none 0 0) (.slice none 0 0)) w.heap.size #[.int .i64 0, .bool false, .int .i64 0, .string ⟨#[]⟩, .slice none 0 0, .slice none 0 0]) := Lib.hid (Box.six HZ.out _ _ _ _ _ _)
      have hf := fun i => box_free HZ.out i
      obtain ⟨z0, z1, z2, z3, z4, z5⟩ := HZ.out.cell
      go_wp2
      obtain ⟨q0, q1, q2, q3, q4, q5⟩ := HE.out.cell
      unfold six at q0 q1 q2 q3 q4 q5
      refine bodyPost_ret (v := .tuple #[.agg #[.int .i64 0, .bool false, .int .i64 0, .string ⟨#[]⟩, .slice none 0 0, .slice none 0 0], .int .i64 1]) (by simp [results, Tryd.results15, go_sem, q0, q1, q2, q3, q4, q5]) rfl ?_
      exact back_no HB2.out.1 HN.out
  · have hb1 : Box w1 w.heap.size #[.int .i64 0, .bool false, .int .i64 0, .string ⟨#[]⟩, .slice none 0 0, .slice none 0 0] := (k1.block _ HB0.out.lt (by omega)).trans HB0.out
    have hbl1 : Below w.heap.size w w1 := HK0.out.trans (k1.below (fun k (hk : k = w.heap.size + 1) => by omega) HK0.out.size)
    have hlt1 : w.heap.size + 1 < w1.heap.size := by have h1 := HS0.out; have h2 := k1.size; omega
    have hne : ¬ w.heap.size + 1 = w1.heap.size := by omega
    have hne2 : ¬ w.heap.size = w1.heap.size := by omega
    have HN : Hid (∀ u, mayB u = true → okN u → s.data.toList ≠ keyB u) := Lib.hid fun u hu ho he => by
      obtain ⟨r1, r2, r3⟩ := may_raw hu ho
      exact hno u [] r1 (by omega) (by rw [he, ← r2, List.append_nil])
    have HBL : Hid (Below w.heap.size w (w1.alloc (.cells #[.int .i64 yk, .bool yb, .int .i64 yn, .string ys, .slice ypl ynl ycl, .slice ypk ynk yck] 26))) := Lib.hid (hbl1.alloc hbl1.size _)
    have HZ : Hid (Box (w1.alloc (.cells #[.int .i64 yk, .bool yb, .int .i64 yn, .string ys, .slice ypl ynl ycl, .slice ypk ynk yck] 26)) w.heap.size #[.int .i64 0, .bool false, .int .i64 0, .string ⟨#[]⟩, .slice none 0 0, .slice none 0 0]) := Lib.hid (hb1.alloc _)
    clear k1 hno hbl1 hb1
    go_upto_region 4 with fail
    generalize (w1.alloc (.cells #[.int .i64 yk, .bool yb, .int .i64 yn, .string ys, .slice ypl ynl ycl, .slice ypk ynk yck] 26)) = w3 at *
    have HE : Hid (Box (six w3 w.heap.size (.int .i64 0) (.bool false) (.int .i64 0) (.string ⟨#[]⟩) (.slice none 0 0) (.slice none 0 0)) w.heap.size #[.int .i64 0, .bool false, .int .i64 0, .string ⟨#[]⟩, .slice none 0 0, .slice none 0 0]) := Lib.hid (Box.six HZ.out _ _ _ _ _ _)
    have hf := fun i => box_free HZ.out i
    obtain ⟨z0, z1, z2, z3, z4, z5⟩ := HZ.out.cell
    go_wp2
    obtain ⟨q0, q1, q2, q3, q4, q5⟩ := HE.out.cell
    unfold six at q0 q1 q2 q3 q4 q5
    refine bodyPost_ret (v := .tuple #[.agg #[.int .i64 0, .bool false, .int .i64 0, .string ⟨#[]⟩, .slice none 0 0, .slice none 0 0], .int .i64 1]) (by simp [results, Tryd.results15, go_sem, q0, q1, q2, q3, q4, q5]) rfl ?_
    exact back_no HBL.out HN.out
end Rk
end Go.Proofs.YtepfihanhdinfaaDoor
