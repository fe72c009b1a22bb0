/- The reader of keys: a map. -/
import Derived.Test.YtepfihanhdinfaaDoorRkReadP
namespace Go.Proofs.YtepfihanhdinfaaDoor
open Go.RowKit
set_option linter.unusedVariables false
set_option linter.unusedSimpArgs false
namespace Rk
open Val (VT Keeps Box StrBlock)
def DictPost (R : Nat) (s : ByteArray) (p : Nat) (w : World) (e : Ending) (w' : World) : Prop :=
  Keeps (· = R) w w' ∧ ((∃ ts ks v s', e = .returned (.tuple #[v, .bool true]) ∧ rawL ts ∧ ks.length = ts.length ∧ VT.Own w' (.mk 5 false 0 ⟨#[]⟩ ts ks) (Made w w') v ∧ s.data.toList = partsR ts true ks ++ ([0] ++ s'.data.toList) ∧ RdAt w' R s' ((p + VT.partsL ts : Nat) : Int) ∧ p + VT.partsL ts ≤ 4096) ∨
    (e = .returned (.tuple #[ZV, .bool false]) ∧ ∀ ts ks r, rawL ts → ks.length = ts.length → p + VT.partsL ts ≤ 4096 → s.data.toList ≠ partsR ts true ks ++ ([0] ++ r)))
structure DRel (R : Nat) (s : ByteArray) (p : Nat) (w : World) (ts : List VT) (ks : List ByteArray) (cur : ByteArray) (lv kv : Value) (xs : List Value) (wr : World) : Prop where
  rd : RdAt wr R cur ((p + VT.partsL ts : Nat) : Int)
  text : s.data.toList = partsR ts true ks ++ cur.data.toList
  raw : rawL ts
  klen : ks.length = ts.length
  le : p + VT.partsL ts ≤ 4096
  box0 : Box wr w.heap.size #[.int .i64 0, .bool false, .int .i64 0, .string ⟨#[]⟩, .slice none 0 0, .slice none 0 0]
  box1 : Box wr (w.heap.size + 1) #[.int .i64 5, .bool false, .int .i64 0, .string ⟨#[]⟩, lv, kv]
  row : RowW (w.heap.size + 2) (fun k => kv.ownBlock = some k) ts wr lv xs
  keys : wr.ownsRow (w.heap.size + 2) 9 1 kv ks.length (ks.map Value.string)
  keeps : Keeps (· = R) w wr
theorem infoS : (Tryd.prog.info? 9).map (fun i => (i.zero, i.size, i.bytes)) = some (some (.string ⟨#[]⟩), 1, 16) := by kernel_rfl
theorem lit_str (V : World) (x : ByteArray) : ∀ j u, ([.string x] : List Value)[j]? = some u → (V.alloc (.cells #[.string x] 9)).cell? ((⟨V.heap.size, 0, none⟩ : Addr).add j) = some u := by
  intro j u hj
  match j, hj with
  | 0, hj => simp at hj; subst hj; simp [Addr.add]
  | (j + 1), hj => simp at hj
theorem str_one (x : ByteArray) : ∀ u ∈ ([.string x] : List Value), u.oneCell' = true := by
  intro u hu; simp at hu; subst hu; rfl
theorem keys_form {w : World} {b n : Nat} {kv : Value} {ks : List ByteArray} (h : w.ownsRow b 9 1 kv n (ks.map Value.string)) (hn : ks.length = n) : ∃ (pk : Option Addr) (ck : Nat), kv = .slice pk n ck ∧ n ≤ ck ∧ ck ≤ maxLen ∧ (0 < n → ∃ kb, pk = some ⟨kb, 0, none⟩ ∧ b ≤ kb ∧ kb < w.heap.size ∧ StrBlock w kb ks) ∧ (n = 0 ∨ ∃ kb, pk = some ⟨kb, 0, none⟩) := by
  have hlt := h.lt
  rcases h.2 with ⟨rfl, h0⟩ | ⟨g, cap, cur, rfl, hb, hg, hnc, hm, hs, ht⟩
  · exact ⟨none, 0, by rw [h0], by omega, by unfold maxLen; omega, fun h => absurd h (by omega), .inl h0⟩
  · refine ⟨some ⟨g, 0, none⟩, cap, rfl, hnc, hm, fun _ => ⟨g, rfl, hb, (hlt g rfl).2, cur, hg, by omega, fun i hi => ?_⟩, .inr ⟨g, rfl⟩⟩
    have h1 : (cur.toList.take (n * 1))[i]? = (ks.map Value.string)[i]? := by rw [ht]
    rw [List.getElem?_take, if_pos (by omega), List.getElem?_map] at h1
    rw [← Array.getElem?_toList, h1, List.getD_eq_getElem?_getD, List.getElem?_eq_getElem hi]
    rfl
theorem own_map {b : Nat} {w w1 w2 : World} {ts : List VT} {ks : List ByteArray} {lv kv : Value} {xs : List Value} (hrow : RowW b (fun k => kv.ownBlock = some k) ts w1 lv xs) (hkey : w1.ownsRow b 9 1 kv ks.length (ks.map Value.string)) (hk : Keeps (· = w.heap.size) w1 w2) (hbb : w.heap.size < b) :
    VT.Own w2 (.mk 5 false 0 ⟨#[]⟩ ts ks) (Made w w2) (.agg #[.int .i64 5, .bool false, .int .i64 0, .string ⟨#[]⟩, lv, kv]) := by
  obtain ⟨pl, cl, rfl, h1, h2, h3⟩ := hrow.slice
  obtain ⟨pk, ck, rfl, h4, h5, h6, h7⟩ := keys_form hkey rfl
  have hsz := hk.size
  unfold VT.Own
  refine ⟨pl, cl, pk, ck, rfl, h1, h2, h4, h5, fun h0 => ?_, fun h0 => ?_⟩
  · obtain ⟨kb, e, hb, hlt, cs, hc, hz, hat⟩ := h6 h0
    exact ⟨kb, e, ⟨by omega, by omega⟩, cs, (hk.block kb hlt (by omega)).trans hc, hz, hat⟩
  · obtain ⟨g, cs, e, hg, hlt, _, hc, hz, hL⟩ := h3 h0
    have hX : ¬ (g = w.heap.size) := by omega
    refine ⟨g, fun j => b ≤ j ∧ j < w1.heap.size ∧ j ≠ g ∧ ¬ (Value.slice pk ks.length ck).ownBlock = some j, e, ⟨by omega, by omega⟩, ⟨cs, (hk.block g hlt hX).trans hc, hz⟩, fun j hj => ⟨⟨by omega, by omega⟩, hj.2.2.1, fun ep => hj.2.2.2 (by rw [ep]; rfl)⟩, ?_⟩
    exact VT.OwnL.keeps hk (fun i _ => hk.cell (p := ⟨g, i, none⟩) hlt hX) hL (fun j hj => ⟨hj.2.1, by omega⟩)
set_option maxRecDepth 100000 in
set_option maxHeartbeats 8000000 in
theorem dict_any (N R : Nat) (s : ByteArray) (p : Nat) (w : World) (IH : Hid (ValIH N)) (h : RdAt w R s (p : Int)) (hN : 4096 - p ≤ N) (hp : p ≤ 4096) (hs : s.size ≤ 1073741824) (hX : MaxAt w) (hMR : 0 ≠ R) :
    Calls Tryd.prog 47 #[.pointer (some ⟨R, 0, none⟩)] w (DictPost R s p w) := by
  obtain ⟨i0, hi0, hz0, hz1, hz2⟩ := info_parts info26
  obtain ⟨j0, hj0, jz0, jz1, jz2⟩ := info_parts infoS
  have hRw := h.lt
  have H0 : Hid (DRel R s p w [] [] s (.slice none 0 0) (.slice none 0 0) [] ((w.alloc (.cells #[.int .i64 0, .bool false, .int .i64 0, .string ⟨#[]⟩, .slice none 0 0, .slice none 0 0] 26)).alloc (.cells #[.int .i64 5, .bool false, .int .i64 0, .string ⟨#[]⟩, .slice none 0 0, .slice none 0 0] 26))) := Lib.hid
    ⟨by rw [VT.partsL, Nat.add_zero]; exact (h.alloc _).alloc _, by unfold partsR; rfl, by unfold rawL; trivial, rfl, by rw [VT.partsL]; omega, (Box.new w _).alloc _, by
      have := Box.new (w.alloc (.cells #[.int .i64 0, .bool false, .int .i64 0, .string ⟨#[]⟩, .slice none 0 0, .slice none 0 0] 26)) #[.int .i64 5, .bool false, .int .i64 0, .string ⟨#[]⟩, .slice none 0 0, .slice none 0 0]
      rwa [World.size_alloc] at this, RowW.nil _ _ _, World.ownsRow_nil _ _ _ _, ((Keeps.refl _ w).alloc _).alloc _⟩
  have HX := Lib.hid hX
  clear h hX
  go_enter Tryd.func47, Tryd.ntmps47
  go_wp2
  go_loopw [] (fun wr => ∃ ts ks cur lv kv xs, Hid (DRel R s p w ts ks cur lv kv xs wr)) (fun wr => restSize wr R)
  case atStart => exact ⟨_, _, _, _, _, _, H0⟩
  case round =>
    obtain ⟨ts, ks, cur, lv, kv, xs, HL⟩ := hrel
    clear H0
    have hrs := HL.out.rd.rest
    have hcl : cur.size ≤ 1073741824 := by
      have := congrArg List.length HL.out.text
      rw [List.length_append, ba_len, ba_len] at this
      omega
    have hA0 : w.heap.size ≠ R := by omega
    have hA1 : w.heap.size + 1 ≠ R := by omega
    go_wp2_with fail
    refine (skip_any R cur _ 0 wr HL.out.rd).mono ?_
    rintro e w1 ⟨rfl, r1, k1⟩
    have B01 := Lib.hid (box_keeps HL.out.box0 k1 hA0)
    have B11 := Lib.hid (box_keeps HL.out.box1 k1 hA1)
    have K1 := Lib.hid (HL.out.keeps.trans k1)
    have W1 := Lib.hid (HL.out.row.keeps k1 (fun j (hj : j = R) => .inl (by omega)))
    have V1 := Lib.hid (own_keeps HL.out.keys k1 (fun j (hj : j = R) => .inl (by omega)))
    have R1 := Lib.hid r1
    clear r1 k1
    cases hp0 : hasP cur 0 with
    | true =>
      have hyes := cutP_yes hp0
      have HE : Hid (s.data.toList = partsR ts true ks ++ ([0] ++ (cutP cur 0).data.toList)) := Lib.hid (by rw [HL.out.text, hyes]; rfl)
      clear hyes hp0
      have hf := fun i => box_free B01.out i
      have HS : Hid (Box (six w1 w.heap.size (.int .i64 5) (.bool false) (.int .i64 0) (.string ⟨#[]⟩) lv kv) w.heap.size #[.int .i64 5, .bool false, .int .i64 0, .string ⟨#[]⟩, lv, kv]) := Lib.hid (Box.six B01.out _ _ _ _ _ _)
      obtain ⟨pl, cl, hlv, -⟩ := W1.out.slice
      obtain ⟨pk, ck, hkv, -⟩ := keys_form V1.out rfl
      subst hlv hkv
      obtain ⟨b0, b1, b2, b3, b4, b5⟩ := B11.out.cell
      obtain ⟨z0, z1, z2, z3, z4, z5⟩ := B01.out.cell
      go_wp2
      obtain ⟨q0, q1, q2, q3, q4, q5⟩ := HS.out.cell
      unfold six at q0 q1 q2 q3 q4 q5
      refine bodyPost_ret (v := .tuple #[.agg #[.int .i64 5, .bool false, .int .i64 0, .string ⟨#[]⟩, .slice pl ts.length cl, .slice pk ks.length ck], .bool true]) (by simp [results, Tryd.results47, go_sem, q0, q1, q2, q3, q4, q5]) rfl ?_
      exact ⟨Keeps.six K1.out (.inr (Nat.le_refl _)) _ _ _ _ _ _, .inl ⟨ts, ks, _, _, rfl, HL.out.raw, HL.out.klen, own_map W1.out V1.out (Keeps.six (Keeps.refl (· = w.heap.size) w1) (.inl rfl) _ _ _ _ _ _) (by omega), HE.out, R1.out.six (Ne.symm hA0) _ _ _ _ _ _, HL.out.le⟩⟩
    | false =>
      obtain ⟨hcut, hno⟩ := cutP_no hp0
      rw [hcut] at R1
      have NO := Lib.hid hno
      clear hno hcut hp0
      go_wp2_with fail
      refine (skip_any R cur _ 1 w1 R1.out).mono ?_
      rintro e w2 ⟨rfl, r2, k2⟩
      have B02 := Lib.hid (box_keeps B01.out k2 hA0)
      have B12 := Lib.hid (box_keeps B11.out k2 hA1)
      have K2 := Lib.hid (K1.out.trans k2)
      have W2 := Lib.hid (W1.out.keeps k2 (fun j (hj : j = R) => .inl (by omega)))
      have V2 := Lib.hid (own_keeps V1.out k2 (fun j (hj : j = R) => .inl (by omega)))
      have R2 := Lib.hid r2
      clear r2 k2
      cases hp1 : hasP cur 1 with
      | false =>
        obtain ⟨-, hno1⟩ := cutP_no hp1
        have HN : Hid (∀ l ks' r, rawL l → ks'.length = l.length → p + VT.partsL l ≤ 4096 → s.data.toList ≠ partsR l true ks' ++ ([0] ++ r)) := Lib.hid fun l ks' r hl hkl hlp heq => by
          rw [HL.out.text] at heq
          obtain ⟨l2, ks2, e1, e2, -, e4, e5, e6⟩ := parts_split true ts l ks ks' cur.data.toList r HL.out.raw hl (by simp) (fun _ => ⟨HL.out.klen, hkl⟩) heq.symm
          have e4 := e4 rfl
          cases l2 with
          | nil =>
            unfold partsR at e6
            exact NO.out _ e6
          | cons u us =>
            match ks2, e4 with
            | q :: qs, e4 =>
              unfold rawL at e5
              unfold partsR at e6
              simp only [if_true, List.headD_cons, List.tail_cons, List.cons_append, List.append_assoc] at e6
              rw [e1, partsL_append, VT.partsL] at hlp
              exact hno1 _ e6
        have hz := B02.out
        clear hno1 hp1
        have hf := fun i => box_free hz i
        obtain ⟨z0, z1, z2, z3, z4, z5⟩ := hz.cell
        have HS : Hid (Box (six w2 w.heap.size (.int .i64 0) (.bool false) (.int .i64 0) (.string ⟨#[]⟩) (.slice none 0 0) (.slice none 0 0)) w.heap.size #[.int .i64 0, .bool false, .int .i64 0, .string ⟨#[]⟩, .slice none 0 0, .slice none 0 0]) := Lib.hid (Box.six hz _ _ _ _ _ _)
        clear hz
        go_wp2
        obtain ⟨q0, q1, q2, q3, q4, q5⟩ := HS.out.cell
        unfold six at q0 q1 q2 q3 q4 q5
        refine bodyPost_ret (v := .tuple #[ZV, .bool false]) (by unfold ZV; simp [results, Tryd.results47, go_sem, q0, q1, q2, q3, q4, q5]) rfl ?_
        exact ⟨Keeps.six K2.out (.inr (Nat.le_refl _)) _ _ _ _ _ _, .inr ⟨rfl, HN.out⟩⟩
      | true =>
        have hyes := cutP_yes hp1
        obtain ⟨cu2, hcu2⟩ : ∃ q, cutP cur 1 = q := ⟨_, rfl⟩
        rw [hcu2] at R2 hyes
        have hcs2 : cur.size = cu2.size + 1 := by
          have := congrArg List.length hyes
          rw [List.length_cons, ba_len, ba_len] at this
          exact this
        have HY := Lib.hid hyes
        have TC := Lib.hid (text_any R cu2 _ w2 R2.out (by omega) (HX.out.keeps K2.out hMR) hMR)
        clear hyes hp1 hcu2
        go_wp2_with fail
        refine TC.out.mono ?_
        rintro e w3 ⟨k3, ⟨hnone, rfl, sx, r3⟩ | ⟨key, cu3, hsome, rfl, r3⟩⟩
        · 
          have B03 := Lib.hid (box_keeps B02.out k3 hA0)
          have B13 := Lib.hid (box_keeps B12.out k3 hA1)
          have K3 := Lib.hid (K2.out.trans k3)
          have W3 := Lib.hid (W2.out.keeps k3 (fun j (hj : j = R) => .inl (by omega)))
          have V3 := Lib.hid (own_keeps V2.out k3 (fun j (hj : j = R) => .inl (by omega)))
          clear r3 k3
          have HN : Hid (∀ l ks' r, rawL l → ks'.length = l.length → p + VT.partsL l ≤ 4096 → s.data.toList ≠ partsR l true ks' ++ ([0] ++ r)) := Lib.hid fun l ks' r hl hkl hlp heq => by
            rw [HL.out.text] at heq
            obtain ⟨l2, ks2, e1, e2, -, e4, e5, e6⟩ := parts_split true ts l ks ks' cur.data.toList r HL.out.raw hl (by simp) (fun _ => ⟨HL.out.klen, hkl⟩) heq.symm
            have e4 := e4 rfl
            cases l2 with
            | nil =>
              unfold partsR at e6
              exact NO.out _ e6
            | cons u us =>
              match ks2, e4 with
              | q :: qs, e4 =>
                unfold rawL at e5
                unfold partsR at e6
                simp only [if_true, List.headD_cons, List.tail_cons, List.cons_append, List.append_assoc] at e6
                rw [e1, partsL_append, VT.partsL] at hlp
                rw [HY.out] at e6
                injection e6 with _ e6
                rw [e6, txt_end] at hnone
                cases hnone
          have hz := B03.out
          clear hnone
          have hf := fun i => box_free hz i
          obtain ⟨z0, z1, z2, z3, z4, z5⟩ := hz.cell
          have HS : Hid (Box (six w3 w.heap.size (.int .i64 0) (.bool false) (.int .i64 0) (.string ⟨#[]⟩) (.slice none 0 0) (.slice none 0 0)) w.heap.size #[.int .i64 0, .bool false, .int .i64 0, .string ⟨#[]⟩, .slice none 0 0, .slice none 0 0]) := Lib.hid (Box.six hz _ _ _ _ _ _)
          clear hz
          go_wp2
          obtain ⟨q0, q1, q2, q3, q4, q5⟩ := HS.out.cell
          unfold six at q0 q1 q2 q3 q4 q5
          refine bodyPost_ret (v := .tuple #[ZV, .bool false]) (by unfold ZV; simp [results, Tryd.results47, go_sem, q0, q1, q2, q3, q4, q5]) rfl ?_
          exact ⟨Keeps.six K3.out (.inr (Nat.le_refl _)) _ _ _ _ _ _, .inr ⟨rfl, HN.out⟩⟩
        · 
          have B03 := Lib.hid (box_keeps B02.out k3 hA0)
          have B13 := Lib.hid (box_keeps B12.out k3 hA1)
          have K3 := Lib.hid (K2.out.trans k3)
          have W3 := Lib.hid (W2.out.keeps k3 (fun j (hj : j = R) => .inl (by omega)))
          have V3 := Lib.hid (own_keeps V2.out k3 (fun j (hj : j = R) => .inl (by omega)))
          have R3 := Lib.hid r3
          have htx := txt_sound _ _ _ hsome
          obtain ⟨kb, hkb⟩ : ∃ kb : ByteArray, (⟨key.toArray⟩ : ByteArray) = kb := ⟨_, rfl⟩
          have hkd : key = kb.data.toList := by rw [← hkb]
          rw [hkb]
          rw [hkd] at htx
          have hcs3 : cu3.size < cur.size := by
            have := congrArg List.length htx
            rw [List.length_append, ba_len, ba_len] at this
            omega
          have HTX := Lib.hid htx
          have hpn := HL.out.le
          have VC := Lib.hid (IH.out R cu3 (p + VT.partsL ts) w3 R3.out (by omega) hpn (by omega) (HX.out.keeps K3.out hMR) hMR)
          clear r3 k3 hsome htx hkb hkd hpn
          go_wp2_with fail
          refine VC.out.mono ?_
          rintro e w4 ⟨k4, hv | hv⟩
          · obtain ⟨t, v, s', rfl, hraw, hown, htx4, hrd, hle⟩ := hv
            obtain ⟨yk, yb, yn, ys, ypl, ynl, ycl, ypk, ynk, yck, rfl⟩ := hown.shape
            obtain ⟨pl, cl, hlv, -⟩ := W3.out.slice
            obtain ⟨pk, ck, hkv, -⟩ := keys_form V3.out rfl
            subst hlv hkv
            have hlen : ts.length ≤ 4096 := by
              have := parts_ge ts
              have := HL.out.le
              omega
            have hklen : ks.length ≤ 4096 := by have := HL.out.klen; omega
            have HT : Hid (s.data.toList = partsR (ts ++ [t]) true (ks ++ [kb]) ++ s'.data.toList) := Lib.hid (by
              rw [HL.out.text, HY.out, HTX.out, htx4, partsR_snocM ts ks t kb HL.out.klen]
              simp [List.append_assoc])
            have hcs : s'.size < cur.size := by
              have h1 := congrArg List.length htx4
              rw [List.length_append, ba_len, ba_len] at h1
              omega
            have HR : Hid (rawL (ts ++ [t]) ∧ p + VT.partsL (ts ++ [t]) ≤ 4096 ∧ RdAt w4 R s' ((p + VT.partsL (ts ++ [t]) : Nat) : Int)) := Lib.hid (by
              have e : p + VT.partsL (ts ++ [t]) = p + VT.partsL ts + t.parts := by rw [partsL_append, VT.partsL, VT.partsL]; omega
              exact ⟨rawL_append.2 ⟨HL.out.raw, by unfold rawL; exact ⟨hraw, by unfold rawL; trivial⟩⟩, by rw [e]; exact hle, by rw [e]; exact hrd⟩)
            have B04 := Lib.hid (box_keeps B03.out k4 hA0)
            have B14 := Lib.hid (box_keeps B13.out k4 hA1)
            have K4 := Lib.hid (K3.out.trans k4)
            have W4 := Lib.hid (W3.out.keeps k4 (fun j (hj : j = R) => .inl (by omega)))
            have V4 := Lib.hid (own_keeps V3.out k4 (fun j (hj : j = R) => .inl (by omega)))
            have HK4 := Lib.hid k4
            have HO := Lib.hid hown
            have hs34 := k4.size
            have hA3 : w.heap.size + 1 < w3.heap.size := B13.out.lt
            have kown : ∀ q, (Value.slice pk ks.length ck).ownBlock = some q → w.heap.size + 2 ≤ q ∧ q < w3.heap.size := fun q e => V3.out.lt q e
            have KO := Lib.hid kown
            clear hown hrd htx4 hraw hle k4 kown
            go_upto_region 11 with fail
            have B05 := Lib.hid (B04.out.alloc (.cells #[.int .i64 yk, .bool yb, .int .i64 yn, .string ys, .slice ypl ynl ycl, .slice ypk ynk yck] 26))
            have B15 := Lib.hid (B14.out.alloc (.cells #[.int .i64 yk, .bool yb, .int .i64 yn, .string ys, .slice ypl ynl ycl, .slice ypk ynk yck] 26))
            have BP5 := Lib.hid (Box.new w4 #[.int .i64 yk, .bool yb, .int .i64 yn, .string ys, .slice ypl ynl ycl, .slice ypk ynk yck])
            have K5 := Lib.hid (K4.out.alloc (.cells #[.int .i64 yk, .bool yb, .int .i64 yn, .string ys, .slice ypl ynl ycl, .slice ypk ynk yck] 26))
            have K45 : Hid (Keeps (fun k => (Value.slice pk ks.length ck).ownBlock = some k ∨ k = w.heap.size + 1) w4 (w4.alloc (.cells #[.int .i64 yk, .bool yb, .int .i64 yn, .string ys, .slice ypl ynl ycl, .slice ypk ynk yck] 26))) := Lib.hid ((Keeps.refl _ w4).alloc _)
            have R5 := Lib.hid (HR.out.2.2.alloc (.cells #[.int .i64 yk, .bool yb, .int .i64 yn, .string ys, .slice ypl ynl ycl, .slice ypk ynk yck] 26))
            have V5 := Lib.hid (own_keeps V4.out ((Keeps.refl (fun _ => False) w4).alloc (.cells #[.int .i64 yk, .bool yb, .int .i64 yn, .string ys, .slice ypl ynl ycl, .slice ypk ynk yck] 26)) (fun j hj => hj.elim))
            have hp5 : w4.heap.size + 1 ≤ (w4.alloc (.cells #[.int .i64 yk, .bool yb, .int .i64 yn, .string ys, .slice ypl ynl ycl, .slice ypk ynk yck] 26)).heap.size := Nat.le_of_eq (World.size_alloc _ _).symm
            generalize (w4.alloc (.cells #[.int .i64 yk, .bool yb, .int .i64 yn, .string ys, .slice ypl ynl ycl, .slice ypk ynk yck] 26)) = w5 at *
            have V5a := Lib.hid (own_keeps V5.out ((Keeps.refl (fun _ => False) w5).alloc (.cells #[.string kb] 9)) (fun j hj => hj.elim))
            have HLS := Lib.hid (lit_str w5 kb)
            have hb6 : w.heap.size + 2 ≤ (w5.alloc (.cells #[.string kb] 9)).heap.size := by rw [World.size_alloc]; omega
            obtain ⟨b0, b1, b2, b3, b4, b5⟩ := B15.out.cell
            go_wp2_with (at_builtin; refine wpList_append_lies _ rfl (.tmp 33) (.tmp 35) 22 rfl (w.heap.size + 2) 9 j0 (.string ⟨#[]⟩) 1 16 Tryd.underlying22 hj0 jz0 jz1 jz2 rfl (by decide) (.slice pk ks.length ck) ks.length (ks.map Value.string) rfl V5a.out ⟨w5.heap.size, 0, none⟩ 1 1 [.string kb] rfl rfl HLS.out (str_one kb) (by decide) ?c2 ?c3 hb6 _ rfl ?_)
            case c2 => unfold maxLen; omega
            case c3 => omega
            intro g6 cap6 w6 hrow6 hg6 hl6 hlt6
            have hsz6 := hg6.size
            rw [World.size_alloc] at hsz6
            have hk6 : Keeps (fun k => (Value.slice pk ks.length ck).ownBlock = some k) (w5.alloc (.cells #[.string kb] 9)) w6 := ⟨hg6.os, hg6.tape, hg6.output, hg6.size, fun k hk hn => hg6.block k hk (fun e => hn e.symm)⟩
            have B06 : Hid (Box w6 w.heap.size #[.int .i64 0, .bool false, .int .i64 0, .string ⟨#[]⟩, .slice none 0 0, .slice none 0 0]) := Lib.hid ((hk6.block _ (B05.out.alloc _).lt (fun e => by have := (KO.out _ e).1; omega)).trans (B05.out.alloc _))
            have B16 : Hid (Box w6 (w.heap.size + 1) #[.int .i64 5, .bool false, .int .i64 0, .string ⟨#[]⟩, .slice pl ts.length cl, .slice pk ks.length ck]) := Lib.hid ((hk6.block _ (B15.out.alloc _).lt (fun e => by have := (KO.out _ e).1; omega)).trans (B15.out.alloc _))
            have BP6 : Hid (Box w6 w4.heap.size #[.int .i64 yk, .bool yb, .int .i64 yn, .string ys, .slice ypl ynl ycl, .slice ypk ynk yck]) := Lib.hid ((hk6.block _ (BP5.out.alloc _).lt (fun e => by have := (KO.out _ e).2; omega)).trans (BP5.out.alloc _))
            have R6 : Hid (RdAt w6 R s' ((p + VT.partsL (ts ++ [t]) : Nat) : Int)) := Lib.hid ((hk6.block _ (R5.out.alloc _).lt (fun e => by have := (KO.out _ e).1; omega)).trans (R5.out.alloc _))
            have K6 : Hid (Keeps (· = R) w w6) := Lib.hid ((K5.out.alloc _).grown hg6 (fun q e => .inr (by have := (KO.out q e).1; omega)))
            have K46 : Hid (Keeps (fun k => (Value.slice pk ks.length ck).ownBlock = some k ∨ k = w.heap.size + 1) w4 w6) := Lib.hid ((K45.out.alloc _).grown hg6 (fun q e => .inl (.inl e)))
            have V6 : Hid (w6.ownsRow (w.heap.size + 2) 9 1 (.slice (some ⟨g6, 0, none⟩) (ks.length + 1) cap6) (ks ++ [kb]).length ((ks ++ [kb]).map Value.string)) := Lib.hid (by
              rw [List.length_append, List.map_append]
              exact hrow6)
            have HG6 : Hid (((Value.slice pk ks.length ck).ownBlock = some g6 ∨ g6 = w5.heap.size + 1) ∧ g6 < w6.heap.size) := Lib.hid ⟨hl6, hlt6⟩
            clear hrow6 hg6 hl6 hlt6 hk6 b0 b1 b2 b3 b4 b5
            have hf := fun i => box_free B16.out i
            obtain ⟨b0, b1, b2, b3, b4, b5⟩ := B16.out.cell
            go_upto_region 12 with fail
            clear hf b0 b1 b2 b3 b4 b5
            have hR1 : R ≠ w.heap.size + 1 := by omega
            have h01 : w.heap.size ≠ w.heap.size + 1 := by omega
            have hP1 : w4.heap.size ≠ w.heap.size + 1 := by omega
            have hsetk : Keeps (· = w.heap.size + 1) w6 (w6.setCell ⟨w.heap.size + 1, 5, none⟩ (.slice (some ⟨g6, 0, none⟩) (ks.length + 1) cap6)) := (Keeps.refl (· = w.heap.size + 1) w6).setCell (.inl rfl) _
            have B07 := Lib.hid (B06.out.far (p := ⟨w.heap.size + 1, 5, none⟩) h01 (.slice (some ⟨g6, 0, none⟩) (ks.length + 1) cap6))
            have B17 := Lib.hid (Box.set5 B16.out (.slice (some ⟨g6, 0, none⟩) (ks.length + 1) cap6))
            have BP7 := Lib.hid (BP6.out.far (p := ⟨w.heap.size + 1, 5, none⟩) hP1 (.slice (some ⟨g6, 0, none⟩) (ks.length + 1) cap6))
            have R7 := Lib.hid (R6.out.far (q := ⟨w.heap.size + 1, 5, none⟩) hR1 (.slice (some ⟨g6, 0, none⟩) (ks.length + 1) cap6))
            have K7 : Hid (Keeps (· = R) w (w6.setCell ⟨w.heap.size + 1, 5, none⟩ (.slice (some ⟨g6, 0, none⟩) (ks.length + 1) cap6))) := Lib.hid (K6.out.setCell (p := ⟨w.heap.size + 1, 5, none⟩) (.inr (Nat.le_succ _)) _)
            have K47 : Hid (Keeps (fun k => (Value.slice pk ks.length ck).ownBlock = some k ∨ k = w.heap.size + 1) w4 (w6.setCell ⟨w.heap.size + 1, 5, none⟩ (.slice (some ⟨g6, 0, none⟩) (ks.length + 1) cap6))) := Lib.hid (K46.out.setCell (p := ⟨w.heap.size + 1, 5, none⟩) (.inl (.inr rfl)) _)
            have V7 := Lib.hid (own_keeps V6.out hsetk (fun j (hj : j = w.heap.size + 1) => .inl (by omega)))
            have HG7 : Hid (((Value.slice pk ks.length ck).ownBlock = some g6 ∨ g6 = w5.heap.size + 1) ∧ g6 < (w6.setCell ⟨w.heap.size + 1, 5, none⟩ (.slice (some ⟨g6, 0, none⟩) (ks.length + 1) cap6)).heap.size) := Lib.hid ⟨HG6.out.1, Nat.lt_of_lt_of_le HG6.out.2 hsetk.size⟩
            have hsz7 : w5.heap.size + 1 ≤ (w6.setCell ⟨w.heap.size + 1, 5, none⟩ (.slice (some ⟨g6, 0, none⟩) (ks.length + 1) cap6)).heap.size := Nat.le_trans hsz6 hsetk.size
            clear hsetk
            generalize (w6.setCell ⟨w.heap.size + 1, 5, none⟩ (.slice (some ⟨g6, 0, none⟩) (ks.length + 1) cap6)) = w7 at *
            have W7r := Lib.hid (own_keeps W4.out.1 K47.out (fun j hj => by
              rcases hj with hj | hj
              · exact .inr fun e => (W4.out.block j e).1 hj
              · exact .inl (by omega)))
            have W8 := Lib.hid (own_keeps W7r.out ((Keeps.refl (fun _ => False) w7).alloc (.cells #[.int .i64 yk, .bool yb, .int .i64 yn, .string ys, .slice ypl ynl ycl, .slice ypk ynk yck] 26)) (fun j hj => hj.elim))
            have HX7 := Lib.hid (six_cells w7 (.int .i64 yk) (.bool yb) (.int .i64 yn) (.string ys) (.slice ypl ynl ycl) (.slice ypk ynk yck))
            have hb8 : w.heap.size + 2 ≤ (w7.alloc (.cells #[.int .i64 yk, .bool yb, .int .i64 yn, .string ys, .slice ypl ynl ycl, .slice ypk ynk yck] 26)).heap.size := by rw [World.size_alloc]; omega
            obtain ⟨b0, b1, b2, b3, b4, b5⟩ := B17.out.cell
            obtain ⟨p0, p1, p2, p3, p4, p5⟩ := BP7.out.cell
            go_wp2_with (at_builtin; refine wpList_append_lies _ rfl (.tmp 39) (.tmp 41) 23 rfl (w.heap.size + 2) 26 i0 _ 6 88 Tryd.underlying23 hi0 hz0 hz1 hz2 rfl (by decide) (.slice pl ts.length cl) ts.length xs rfl W8.out ⟨w7.heap.size, 0, none⟩ 1 1 [.int .i64 yk, .bool yb, .int .i64 yn, .string ys, .slice ypl ynl ycl, .slice ypk ynk yck] rfl rfl HX7.out (six_one yk yn yb ys ypl ypk ynl ycl ynk yck) (by decide) ?c2 ?c3 hb8 _ rfl ?_)
            case c2 => unfold maxLen; omega
            case c3 => omega
            intro g' cap' w8 hrow8 hg8 hl8 hlt8
            have lown := fun k (hk : (Value.slice pl ts.length cl).ownBlock = some k) => W8.out.lt k hk
            have hk8 : Keeps (fun k => (Value.slice pl ts.length cl).ownBlock = some k) (w7.alloc (.cells #[.int .i64 yk, .bool yb, .int .i64 yn, .string ys, .slice ypl ynl ycl, .slice ypk ynk yck] 26)) w8 := ⟨hg8.os, hg8.tape, hg8.output, hg8.size, fun k hk hn => hg8.block k hk (fun e => hn e.symm)⟩
            have B18 : Hid (Box w8 (w.heap.size + 1) #[.int .i64 5, .bool false, .int .i64 0, .string ⟨#[]⟩, .slice pl ts.length cl, .slice (some ⟨g6, 0, none⟩) (ks.length + 1) cap6]) := Lib.hid ((hk8.block _ (B17.out.alloc _).lt (fun e => by have := (lown _ e).1; omega)).trans (B17.out.alloc _))
            have B08 : Hid (Box w8 w.heap.size #[.int .i64 0, .bool false, .int .i64 0, .string ⟨#[]⟩, .slice none 0 0, .slice none 0 0]) := Lib.hid ((hk8.block _ (B07.out.alloc _).lt (fun e => by have := (lown _ e).1; omega)).trans (B07.out.alloc _))
            have R8 : Hid (RdAt w8 R s' ((p + VT.partsL (ts ++ [t]) : Nat) : Int)) := Lib.hid ((hk8.block _ (R7.out.alloc _).lt (fun e => by have := (lown _ e).1; omega)).trans (R7.out.alloc _))
            have K8 : Hid (Keeps (· = R) w w8) := Lib.hid ((K7.out.alloc _).grown hg8 (fun q e => .inr (by have := (lown q e).1; omega)))
            have hne6 : ¬ (Value.slice pl ts.length cl).ownBlock = some g6 := fun e => by
              rcases HG7.out.1 with h1 | h1
              · exact (W4.out.block g6 e).1 h1
              · have := (W4.out.block g6 e).2.2; omega
            have V8 := Lib.hid (own_keeps V7.out (((Keeps.refl (fun k => (Value.slice pl ts.length cl).ownBlock = some k) w7).alloc (.cells #[.int .i64 yk, .bool yb, .int .i64 yn, .string ys, .slice ypl ynl ycl, .slice ypk ynk yck] 26)).trans hk8) (fun j hj => .inr fun e => hne6 (by
              simp only [Value.ownBlock, Option.some.injEq] at e
              rw [e]; exact hj)))
            have K38 : Keeps (fun k => k < w.heap.size + 2 ∨ (Value.slice pk ks.length ck).ownBlock = some k) w3 (w7.alloc (.cells #[.int .i64 yk, .bool yb, .int .i64 yn, .string ys, .slice ypl ynl ycl, .slice ypk ynk yck] 26)) := ((HK4.out.mono (fun k (hk : k = R) _ => .inl (by omega))).trans (K47.out.mono (fun k hk _ => by
              rcases hk with hk | hk
              · exact .inr hk
              · exact .inl (by omega)))).alloc _
            have hO8 : VT.Own (w7.alloc (.cells #[.int .i64 yk, .bool yb, .int .i64 yn, .string ys, .slice ypl ynl ycl, .slice ypk ynk yck] 26)) t (Made w3 w4) (.agg #[.int .i64 yk, .bool yb, .int .i64 yn, .string ys, .slice ypl ynl ycl, .slice ypk ynk yck]) := HO.out.keeps (K47.out.alloc _) (fun q hq => ⟨hq.2, fun h => by
              have h1 := hq.1
              rcases h with h | h
              · have := (KO.out q h).2; omega
              · omega⟩)
            have N6 : ∀ k, (Value.slice (some ⟨g6, 0, none⟩) (ks.length + 1) cap6).ownBlock = some k → k = g6 := fun k e => by
              simp only [Value.ownBlock, Option.some.injEq] at e
              exact e.symm
            have WN := Lib.hid (W3.out.snoc (x := t) (N := fun k => (Value.slice (some ⟨g6, 0, none⟩) (ks.length + 1) cap6).ownBlock = some k) K38 (fun k hk => by
              rcases hk with hk | hk
              · exact .inl hk
              · exact .inr (.inl hk)) hrow8 hg8 hl8 (World.size_alloc _ _) (fun k hk => by
              obtain rfl := N6 k hk
              rcases HG7.out.1 with h1 | h1
              · exact .inl h1
              · exact .inr (by omega)) (fun k hk => by
              obtain rfl := N6 k hk
              rw [World.size_alloc]
              have := HG7.out.2
              omega) hA3 (fun k hk => by
              have h1 := hk.1
              have h2 := hk.2
              refine ⟨h1, by rw [World.size_alloc]; omega, fun hn => ?_⟩
              obtain rfl := N6 k hn
              rcases HG7.out.1 with h3 | h3
              · have := (KO.out _ h3).2; omega
              · omega) hO8)
            clear hrow8 hg8 hl8 hlt8 lown hk8 hO8 K38
            have hf := fun i => box_free B18.out i
            obtain ⟨z0, z1, z2, z3, z4, z5⟩ := B18.out.cell
            have hset8 : Keeps (· = w.heap.size + 1) w8 (w8.setCell ⟨w.heap.size + 1, 4, none⟩ (.slice (some ⟨g', 0, none⟩) (ts.length + 1) cap')) := (Keeps.refl (· = w.heap.size + 1) w8).setCell (.inl rfl) _
            have HF : Hid (DRel R s p w (ts ++ [t]) (ks ++ [kb]) s' (.slice (some ⟨g', 0, none⟩) (ts.length + 1) cap') (.slice (some ⟨g6, 0, none⟩) (ks.length + 1) cap6) _ (w8.setCell ⟨w.heap.size + 1, 4, none⟩ (.slice (some ⟨g', 0, none⟩) (ts.length + 1) cap'))) := Lib.hid
              ⟨R8.out.far hR1 _, HT.out, HR.out.1, by rw [List.length_append, List.length_append, HL.out.klen]; rfl, HR.out.2.1, B08.out.far h01 _, Box.set4 B18.out _, WN.out.keeps hset8 (fun k (hk : k = w.heap.size + 1) => .inl (by omega)), own_keeps V8.out hset8 (fun k (hk : k = w.heap.size + 1) => .inl (by omega)), K8.out.setCell (p := ⟨w.heap.size + 1, 4, none⟩) (.inr (Nat.le_succ _)) _⟩
            clear hset8
            go_wp2
            go_roundw
            case rel => exact ⟨_, _, _, _, _, _, HF⟩
            case measure => rw [HF.out.rd.rest, hrs]; exact hcs
          · obtain ⟨⟨yk, yb, yn, ys, ypl, ynl, ycl, ypk, ynk, yck, rfl⟩, hnone⟩ := hv
            have B04 := Lib.hid (box_keeps B03.out k4 hA0)
            have B14 := Lib.hid (box_keeps B13.out k4 hA1)
            have K4 := Lib.hid (K3.out.trans k4)
            have W4 := Lib.hid (W3.out.keeps k4 (fun j (hj : j = R) => .inl (by omega)))
            have V4 := Lib.hid (own_keeps V3.out k4 (fun j (hj : j = R) => .inl (by omega)))
            have K5 := Lib.hid (K4.out.alloc (.cells #[.int .i64 yk, .bool yb, .int .i64 yn, .string ys, .slice ypl ynl ycl, .slice ypk ynk yck] 26))
            have HN : Hid (∀ l ks' r, rawL l → ks'.length = l.length → p + VT.partsL l ≤ 4096 → s.data.toList ≠ partsR l true ks' ++ ([0] ++ r)) := Lib.hid fun l ks' r hl hkl hlp heq => by
              rw [HL.out.text] at heq
              obtain ⟨l2, ks2, e1, e2, -, e4, e5, e6⟩ := parts_split true ts l ks ks' cur.data.toList r HL.out.raw hl (by simp) (fun _ => ⟨HL.out.klen, hkl⟩) heq.symm
              have e4 := e4 rfl
              cases l2 with
              | nil =>
                unfold partsR at e6
                exact NO.out _ e6
              | cons u us =>
                match ks2, e4 with
                | q :: qs, e4 =>
                  unfold rawL at e5
                  unfold partsR at e6
                  simp only [if_true, List.headD_cons, List.tail_cons, List.cons_append, List.append_assoc] at e6
                  rw [e1, partsL_append, VT.partsL] at hlp
                  rw [HY.out, HTX.out] at e6
                  injection e6 with _ e6
                  obtain ⟨-, e7⟩ := end_inj e6
                  refine hnone u _ e5.1 (by omega) e7
            have hz := B04.out.alloc (.cells #[.int .i64 yk, .bool yb, .int .i64 yn, .string ys, .slice ypl ynl ycl, .slice ypk ynk yck] 26)
            clear k4 hnone
            go_upto_region 9 with fail
            generalize (w4.alloc (.cells #[.int .i64 yk, .bool yb, .int .i64 yn, .string ys, .slice ypl ynl ycl, .slice ypk ynk yck] 26)) = w5 at *
            have hf := fun i => box_free hz i
            obtain ⟨z0, z1, z2, z3, z4, z5⟩ := hz.cell
            have HS : Hid (Box (six w5 w.heap.size (.int .i64 0) (.bool false) (.int .i64 0) (.string ⟨#[]⟩) (.slice none 0 0) (.slice none 0 0)) w.heap.size #[.int .i64 0, .bool false, .int .i64 0, .string ⟨#[]⟩, .slice none 0 0, .slice none 0 0]) := Lib.hid (Box.six hz _ _ _ _ _ _)
            clear hz
            go_wp2
            obtain ⟨q0, q1, q2, q3, q4, q5⟩ := HS.out.cell
            unfold six at q0 q1 q2 q3 q4 q5
            refine bodyPost_ret (v := .tuple #[ZV, .bool false]) (by unfold ZV; simp [results, Tryd.results47, go_sem, q0, q1, q2, q3, q4, q5]) rfl ?_
            exact ⟨Keeps.six K5.out (.inr (Nat.le_refl _)) _ _ _ _ _ _, .inr ⟨rfl, HN.out⟩⟩
end Rk
end Go.Proofs.YtepfihanhdinfaaDoor
