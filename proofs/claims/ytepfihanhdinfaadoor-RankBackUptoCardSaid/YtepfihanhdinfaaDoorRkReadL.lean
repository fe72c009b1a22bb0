/- The reader of keys: a list. -/
import Derived.Test.YtepfihanhdinfaaDoorRkReadP
namespace Go.Proofs.YtepfihanhdinfaaDoor
open Go.RowKit
set_option linter.unusedVariables false
set_option linter.unusedSimpArgs false
namespace Rk
open Val (VT Keeps Box StrBlock)
set_option maxRecDepth 100000 in
set_option maxHeartbeats 8000000 in
theorem list_any (N R : Nat) (s : ByteArray) (p : Nat) (w : World) (IH : Hid (ValIH N)) (h : RdAt w R s (p : Int)) (hN : 4096 - p ≤ N) (hp : p ≤ 4096) (hs : s.size ≤ 1073741824) (hX : MaxAt w) (hMR : 0 ≠ R) :
    Calls Tryd.prog 49 #[.pointer (some ⟨R, 0, none⟩)] w (ListPost R s p w) := by
  obtain ⟨i0, hi0, hz0, hz1, hz2⟩ := info_parts info26
  have hRw := h.lt
  have H0 : Hid (LRel R s p w [] s (.slice none 0 0) [] ((w.alloc (.cells #[.int .i64 0, .bool false, .int .i64 0, .string ⟨#[]⟩, .slice none 0 0, .slice none 0 0] 26)).alloc (.cells #[.int .i64 4, .bool false, .int .i64 0, .string ⟨#[]⟩, .slice none 0 0, .slice none 0 0] 26))) := Lib.hid
    ⟨by rw [VT.partsL, Nat.add_zero]; exact (h.alloc _).alloc _, by unfold partsR; rfl, by unfold rawL; trivial, by rw [VT.partsL]; omega, (Box.new w _).alloc _, by
      have := Box.new (w.alloc (.cells #[.int .i64 0, .bool false, .int .i64 0, .string ⟨#[]⟩, .slice none 0 0, .slice none 0 0] 26)) #[.int .i64 4, .bool false, .int .i64 0, .string ⟨#[]⟩, .slice none 0 0, .slice none 0 0]
      rwa [World.size_alloc] at this, RowW.nil _ _ _, ((Keeps.refl _ w).alloc _).alloc _⟩
  have HX := Lib.hid hX
  clear h hX
  go_enter Tryd.func49, Tryd.ntmps49
  go_wp2
  go_loopw [] (fun wr => ∃ ts cur lv xs, Hid (LRel R s p w ts cur lv xs wr)) (fun wr => restSize wr R)
  case atStart => exact ⟨_, _, _, _, H0⟩
  case round =>
    obtain ⟨ts, cur, lv, xs, HL⟩ := hrel
    clear H0
    have hrs := HL.out.rd.rest
    have hcl : cur.size ≤ 1073741824 := by
      have := congrArg List.length HL.out.text
      rw [List.length_append, ba_len, ba_len] at this
      omega
    go_wp2_with fail
    refine (skip_any R cur _ 0 wr HL.out.rd).mono ?_
    rintro e w1 ⟨rfl, r1, k1⟩
    have hA0 : w.heap.size ≠ R := by omega
    have hA1 : w.heap.size + 1 ≠ R := by omega
    have B0 := Lib.hid (box_keeps HL.out.box0 k1 hA0)
    have B1 := Lib.hid (box_keeps HL.out.box1 k1 hA1)
    have K1 := Lib.hid (HL.out.keeps.trans k1)
    have W1 := Lib.hid (HL.out.row.keeps k1 (fun k hk => .inl (by omega)))
    have R1 := Lib.hid r1
    clear r1 k1
    cases hp0 : hasP cur 0 with
    | true =>
      have hyes := cutP_yes hp0
      have HE : Hid (s.data.toList = partsR ts false [] ++ ([0] ++ (cutP cur 0).data.toList)) := Lib.hid (by rw [HL.out.text, hyes]; rfl)
      clear hyes hp0
      have hf := fun i => box_free B0.out i
      obtain ⟨b0, b1, b2, b3, b4, b5⟩ := B1.out.cell
      obtain ⟨z0, z1, z2, z3, z4, z5⟩ := B0.out.cell
      have hlt0 := B0.out.lt
      have HS : Hid (Box (six w1 w.heap.size (.int .i64 4) (.bool false) (.int .i64 0) (.string ⟨#[]⟩) lv (.slice none 0 0)) w.heap.size #[.int .i64 4, .bool false, .int .i64 0, .string ⟨#[]⟩, lv, .slice none 0 0]) := Lib.hid (Box.six B0.out _ _ _ _ _ _)
      obtain ⟨pl, cl, hlv, -⟩ := W1.out.slice
      subst hlv
      go_wp2
      obtain ⟨q0, q1, q2, q3, q4, q5⟩ := HS.out.cell
      unfold six at q0 q1 q2 q3 q4 q5
      refine bodyPost_ret (v := .tuple #[.agg #[.int .i64 4, .bool false, .int .i64 0, .string ⟨#[]⟩, .slice pl ts.length cl, .slice none 0 0], .bool true]) (by simp [results, Tryd.results49, go_sem, q0, q1, q2, q3, q4, q5]) rfl ?_
      exact ⟨Keeps.six K1.out (.inr (Nat.le_refl _)) _ _ _ _ _ _, .inl ⟨ts, _, _, rfl, HL.out.raw, own_list (R := R) W1.out (by omega) (Keeps.six (Keeps.refl (· = w.heap.size) w1) (.inl rfl) _ _ _ _ _ _) (by omega), HE.out, R1.out.six (Ne.symm hA0) _ _ _ _ _ _, HL.out.le⟩⟩
    | false =>
      obtain ⟨hcut, hno⟩ := cutP_no hp0
      rw [hcut] at R1
      have NO := Lib.hid hno
      have hpn := HL.out.le
      have VC := Lib.hid (IH.out R cur (p + VT.partsL ts) w1 R1.out (by omega) hpn hcl (HX.out.keeps K1.out hMR) hMR)
      clear hno hcut hp0 hpn
      go_wp2_with fail
      refine VC.out.mono ?_
      rintro e w3 ⟨k3, hv | hv⟩
      · obtain ⟨t, v, s', rfl, hraw, hown, htx, hrd, hle⟩ := hv
        obtain ⟨yk, yb, yn, ys, ypl, ynl, ycl, ypk, ynk, yck, rfl⟩ := hown.shape
        have hsl := W1.out.slice
        obtain ⟨pl, cl, hlv, -⟩ := hsl
        subst hlv
        have hlen : ts.length ≤ 4096 := by
          have := parts_ge ts
          have := HL.out.le
          omega
        have HT : Hid (s.data.toList = partsR (ts ++ [t]) false [] ++ s'.data.toList) := Lib.hid (by rw [HL.out.text, htx, partsR_snocL, List.append_assoc])
        have hcs : s'.size < cur.size := by
          have h1 := congrArg List.length htx
          rw [List.length_append, ba_len, ba_len] at h1
          obtain ⟨c, x, e, _⟩ := tagR t hraw
          rw [e, List.length_cons] at h1
          omega
        have HR : Hid (rawL (ts ++ [t]) ∧ p + VT.partsL (ts ++ [t]) ≤ 4096 ∧ RdAt w3 R s' ((p + VT.partsL (ts ++ [t]) : Nat) : Int)) := Lib.hid (by
          have e : p + VT.partsL (ts ++ [t]) = p + VT.partsL ts + t.parts := by rw [partsL_append, VT.partsL, VT.partsL]; omega
          exact ⟨rawL_append.2 ⟨HL.out.raw, by unfold rawL; exact ⟨hraw, by unfold rawL; trivial⟩⟩, by rw [e]; exact hle, by rw [e]; exact hrd⟩)
        have B03 := Lib.hid (box_keeps B0.out k3 hA0)
        have B13 := Lib.hid (box_keeps B1.out k3 hA1)
        have K3 := Lib.hid (K1.out.trans k3)
        have HK3 := Lib.hid k3
        have HO := Lib.hid hown
        clear hown hrd htx hraw hle k3
        go_upto_region 6 with fail
        have B04 := Lib.hid (B03.out.alloc (.cells #[.int .i64 yk, .bool yb, .int .i64 yn, .string ys, .slice ypl ynl ycl, .slice ypk ynk yck] 26))
        have B14 := Lib.hid (B13.out.alloc (.cells #[.int .i64 yk, .bool yb, .int .i64 yn, .string ys, .slice ypl ynl ycl, .slice ypk ynk yck] 26))
        have BP4 := Lib.hid (Box.new w3 #[.int .i64 yk, .bool yb, .int .i64 yn, .string ys, .slice ypl ynl ycl, .slice ypk ynk yck])
        have K4 := Lib.hid (K3.out.alloc (.cells #[.int .i64 yk, .bool yb, .int .i64 yn, .string ys, .slice ypl ynl ycl, .slice ypk ynk yck] 26))
        have HK4 := Lib.hid (HK3.out.alloc (.cells #[.int .i64 yk, .bool yb, .int .i64 yn, .string ys, .slice ypl ynl ycl, .slice ypk ynk yck] 26))
        have R4 := Lib.hid (HR.out.2.2.alloc (.cells #[.int .i64 yk, .bool yb, .int .i64 yn, .string ys, .slice ypl ynl ycl, .slice ypk ynk yck] 26))
        have O4 : Hid (VT.Own (w3.alloc (.cells #[.int .i64 yk, .bool yb, .int .i64 yn, .string ys, .slice ypl ynl ycl, .slice ypk ynk yck] 26)) t (Made w1 w3) (.agg #[.int .i64 yk, .bool yb, .int .i64 yn, .string ys, .slice ypl ynl ycl, .slice ypk ynk yck])) := Lib.hid (HO.out.keeps ((Keeps.refl (fun _ => False) w3).alloc _) (fun q hq => ⟨hq.2, fun h => h⟩))
        have hs34 : w3.heap.size ≤ (w3.alloc (.cells #[.int .i64 yk, .bool yb, .int .i64 yn, .string ys, .slice ypl ynl ycl, .slice ypk ynk yck] 26)).heap.size := by simp
        have hp4 : w3.heap.size < (w3.alloc (.cells #[.int .i64 yk, .bool yb, .int .i64 yn, .string ys, .slice ypl ynl ycl, .slice ypk ynk yck] 26)).heap.size := by simp
        have HO2 := Lib.hid (show Made w1 w3 = Made w1 w3 from rfl)
        generalize hw4 : w3.alloc (.cells #[.int .i64 yk, .bool yb, .int .i64 yn, .string ys, .slice ypl ynl ycl, .slice ypk ynk yck] 26) = w4 at *
        have hx4 := six_cells w4 (.int .i64 yk) (.bool yb) (.int .i64 yn) (.string ys) (.slice ypl ynl ycl) (.slice ypk ynk yck)
        have HX4 := Lib.hid hx4
        have HK5 := Lib.hid (HK4.out.alloc (.cells #[.int .i64 yk, .bool yb, .int .i64 yn, .string ys, .slice ypl ynl ycl, .slice ypk ynk yck] 26))
        have W5 := Lib.hid (W1.out.keeps HK5.out (fun k hk => .inl (by omega)))
        have hb5 : w.heap.size + 2 ≤ w4.heap.size := by have := B14.out.lt; omega
        have hb6 : w.heap.size + 2 ≤ (w4.alloc (.cells #[.int .i64 yk, .bool yb, .int .i64 yn, .string ys, .slice ypl ynl ycl, .slice ypk ynk yck] 26)).heap.size := by rw [World.size_alloc]; omega
        obtain ⟨b0, b1, b2, b3, b4, b5⟩ := B14.out.cell
        obtain ⟨p0, p1, p2, p3, p4, p5⟩ := BP4.out.cell
        clear hx4
        go_wp2_with (at_builtin; refine wpList_append_lies _ rfl (.tmp 20) (.tmp 22) 23 rfl (w.heap.size + 2) 26 i0 _ 6 88 Tryd.underlying23 hi0 hz0 hz1 hz2 rfl (by decide) (.slice pl ts.length cl) ts.length xs rfl W5.out.1 ⟨w4.heap.size, 0, none⟩ 1 1 [.int .i64 yk, .bool yb, .int .i64 yn, .string ys, .slice ypl ynl ycl, .slice ypk ynk yck] rfl rfl HX4.out (six_one yk yn yb ys ypl ypk ynl ycl ynk yck) (by decide) ?c2 ?c3 hb6 _ rfl ?_)
        case c2 => unfold maxLen; omega
        case c3 => omega
        intro g' cap' w5 hrow5 hg5 hl5 hlt5
        have hown := fun k (hk : (Value.slice pl ts.length cl).ownBlock = some k) => (W5.out.block k hk).2
        have hk5 : Keeps (fun k => (Value.slice pl ts.length cl).ownBlock = some k) (w4.alloc (.cells #[.int .i64 yk, .bool yb, .int .i64 yn, .string ys, .slice ypl ynl ycl, .slice ypk ynk yck] 26)) w5 := ⟨hg5.os, hg5.tape, hg5.output, hg5.size, fun k hk hn => hg5.block k hk (fun e => hn e.symm)⟩
        have B15 : Hid (Box w5 (w.heap.size + 1) #[.int .i64 4, .bool false, .int .i64 0, .string ⟨#[]⟩, .slice pl ts.length cl, .slice none 0 0]) := Lib.hid ((hk5.block _ (B14.out.alloc _).lt (fun e => by have := (hown _ e).1; omega)).trans (B14.out.alloc _))
        have B05 : Hid (Box w5 w.heap.size #[.int .i64 0, .bool false, .int .i64 0, .string ⟨#[]⟩, .slice none 0 0, .slice none 0 0]) := Lib.hid ((hk5.block _ (B04.out.alloc _).lt (fun e => by have := (hown _ e).1; omega)).trans (B04.out.alloc _))
        have R5 : Hid (RdAt w5 R s' ((p + VT.partsL (ts ++ [t]) : Nat) : Int)) := Lib.hid ((hk5.block _ (R4.out.alloc _).lt (fun e => by have := (hown _ e).1; omega)).trans (R4.out.alloc _))
        have K5 : Hid (Keeps (· = R) w w5) := Lib.hid ((K4.out.alloc _).grown hg5 (fun q e => .inr (by have := (hown q e).1; omega)))
        have hO5 : VT.Own (w4.alloc (.cells #[.int .i64 yk, .bool yb, .int .i64 yn, .string ys, .slice ypl ynl ycl, .slice ypk ynk yck] 26)) t (fun k => w1.heap.size ≤ k ∧ k < (w4.alloc (.cells #[.int .i64 yk, .bool yb, .int .i64 yn, .string ys, .slice ypl ynl ycl, .slice ypk ynk yck] 26)).heap.size) (.agg #[.int .i64 yk, .bool yb, .int .i64 yn, .string ys, .slice ypl ynl ycl, .slice ypk ynk yck]) :=
          VT.Own.more (fun k hk => ⟨hk.1, by rw [World.size_alloc]; have := hk.2; omega⟩) (O4.out.keeps ((Keeps.refl (fun _ => False) w4).alloc _) (fun q hq => ⟨by have := hq.2; omega, fun h => h⟩))
        have hw1 : w.heap.size + 2 ≤ w1.heap.size := B1.out.lt
        have WN := Lib.hid (W1.out.snoc (x := t) (N := fun _ => False) HK5.out (fun k hk => .inl (by omega)) hrow5 hg5 hl5 (World.size_alloc _ _) (fun k hk => hk.elim) (fun k hk => hk.elim) hw1 (fun k hk => ⟨hk.1, hk.2, fun h => h⟩) hO5)
        clear hrow5 hg5 hl5 hlt5 hown hk5 hO5
        have hf := fun i => box_free B15.out i
        obtain ⟨z0, z1, z2, z3, z4, z5⟩ := B15.out.cell
        have hR1 : R ≠ w.heap.size + 1 := by omega
        have h01 : w.heap.size ≠ w.heap.size + 1 := by omega
        have HF : Hid (LRel R s p w (ts ++ [t]) s' (.slice (some ⟨g', 0, none⟩) (ts.length + 1) cap') _ (w5.setCell ⟨w.heap.size + 1, 4, none⟩ (.slice (some ⟨g', 0, none⟩) (ts.length + 1) cap'))) := Lib.hid
          ⟨R5.out.far hR1 _, HT.out, HR.out.1, HR.out.2.1, B05.out.far h01 _, Box.set4 B15.out _, WN.out.keeps (X := (· = w.heap.size + 1)) ((Keeps.refl (· = w.heap.size + 1) w5).setCell (.inl rfl) _) (fun k (hk : k = w.heap.size + 1) => .inl (by omega)), K5.out.setCell (p := ⟨w.heap.size + 1, 4, none⟩) (.inr (Nat.le_succ _)) _⟩
        go_wp2
        go_roundw
        case rel => exact ⟨_, _, _, _, HF⟩
        case measure => rw [HF.out.rd.rest, hrs]; exact hcs
      · obtain ⟨⟨yk, yb, yn, ys, ypl, ynl, ycl, ypk, ynk, yck, rfl⟩, hnone⟩ := hv
        have B03 := Lib.hid (box_keeps B0.out k3 hA0)
        have K3 : Hid (Keeps (· = R) w (w3.alloc (.cells #[.int .i64 yk, .bool yb, .int .i64 yn, .string ys, .slice ypl ynl ycl, .slice ypk ynk yck] 26))) := Lib.hid ((K1.out.trans k3).alloc _)
        have HN : Hid (∀ l r, rawL l → p + VT.partsL l ≤ 4096 → s.data.toList ≠ partsR l false [] ++ ([0] ++ r)) := Lib.hid fun l r hl hlp heq => by
          rw [HL.out.text] at heq
          obtain ⟨l2, ks2, e1, -, e3, -, e5, e6⟩ := parts_split false ts l [] [] cur.data.toList r HL.out.raw hl (by simp) (by simp) heq.symm
          rw [e3 rfl] at e6
          cases l2 with
          | nil =>
            unfold partsR at e6
            exact NO.out _ e6
          | cons u us =>
            unfold rawL at e5
            unfold partsR at e6
            simp only [Bool.false_eq_true, if_false, List.nil_append, List.append_assoc] at e6
            refine hnone u _ e5.1 ?_ e6
            rw [e1, partsL_append, VT.partsL] at hlp
            omega
        have hz := B03.out.alloc (.cells #[.int .i64 yk, .bool yb, .int .i64 yn, .string ys, .slice ypl ynl ycl, .slice ypk ynk yck] 26)
        have HS : Hid (Box (six (w3.alloc (.cells #[.int .i64 yk, .bool yb, .int .i64 yn, .string ys, .slice ypl ynl ycl, .slice ypk ynk yck] 26)) w.heap.size (.int .i64 0) (.bool false) (.int .i64 0) (.string ⟨#[]⟩) (.slice none 0 0) (.slice none 0 0)) w.heap.size #[.int .i64 0, .bool false, .int .i64 0, .string ⟨#[]⟩, .slice none 0 0, .slice none 0 0]) := Lib.hid (Box.six hz _ _ _ _ _ _)
        have hlt3 : w.heap.size < w3.heap.size := B03.out.lt
        have hne3 : ¬ w.heap.size = w3.heap.size := by omega
        clear k3 hnone
        go_upto_region 4 with fail
        generalize (w3.alloc (.cells #[.int .i64 yk, .bool yb, .int .i64 yn, .string ys, .slice ypl ynl ycl, .slice ypk ynk yck] 26)) = w4 at *
        have hf := fun i => box_free hz i
        obtain ⟨z0, z1, z2, z3, z4, z5⟩ := hz.cell
        clear hz
        go_wp2
        obtain ⟨q0, q1, q2, q3, q4, q5⟩ := HS.out.cell
        unfold six at q0 q1 q2 q3 q4 q5
        refine bodyPost_ret (v := .tuple #[ZV, .bool false]) (by unfold ZV; simp [results, Tryd.results49, go_sem, q0, q1, q2, q3, q4, q5]) rfl ?_
        exact ⟨Keeps.six K3.out (.inr (Nat.le_refl _)) _ _ _ _ _ _, .inr ⟨rfl, HN.out⟩⟩
end Rk
end Go.Proofs.YtepfihanhdinfaaDoor
