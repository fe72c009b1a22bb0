/- The law FrameReads: its walk. -/
import Derived.Test.YtbejacmbbkdbnaaFrRefFeed
namespace Go.Proofs.Ytbejacmbbkdbnaa
open Go.RowKit
set_option linter.unusedVariables false
set_option linter.unusedSimpArgs false
namespace Fr
/-- Both readers were fed the same. -/
structure ReadsInv (w : World) (R1 R2 : Nat) (V : World) : Prop where
  low : Below w.heap.size w V
  ex : ∃ (hv : Value) (held : List UInt8) (br : Bool) (q : Option Addr) (n c : Nat), Rdr w.heap.size V R1 hv held br ∧ (br = true → held = []) ∧ Part held ∧ RefR (Ft R1 hv) V R2 q n c held br ∧ ¬ Ft R1 hv R2
/-- The row of bytes, whatever they are now. -/
def ByteRow (b : Nat) (w : World) (v : Value) (n : Nat) : Prop := ∃ zs : List Int, w.ownsRow b 5 1 v n (zs.map (Value.int .u8)) ∧ zs.length = n ∧ ∀ z ∈ zs, 0 ≤ z ∧ z < 256
theorem Buf.byteRow {b : Nat} {w : World} {v : Value} {bs : List UInt8} (h : Buf b w v bs) : ByteRow b w v bs.length := ⟨bs.map fun c => (c.toNat : Int), by
  unfold Buf Lib.byteCells at h
  rw [List.map_map]
  exact h, List.length_map _, fun z hz => by
    obtain ⟨c, -, rfl⟩ := List.mem_map.1 hz
    have := c.toNat_lt
    omega⟩
theorem ByteRow.keeps {b n : Nat} {X : Nat → Prop} {w w' : World} {v : Value} (h : ByteRow b w v n) (hk : Keeps X w w') (hX : ∀ g, v.ownBlock = some g → ¬ X g) : ByteRow b w' v n := by
  obtain ⟨zs, h1, h2, h3⟩ := h
  exact ⟨zs, owns_keeps h1 hk hX, h2, h3⟩
/-- One byte of it is written. -/
theorem ByteRow.at_ {b n c : Nat} {w : World} {q : Option Addr} (h : ByteRow b w (.slice q n c) n) (k : Nat) (hk : k < n) : ∃ g z, q = some ⟨g, 0, none⟩ ∧ w.cell? ⟨g, k, none⟩ = some (.int .u8 z) ∧ 0 ≤ z ∧ z < 256 ∧ w.frozen? ⟨g, k, none⟩ = false ∧
    ∀ z', 0 ≤ z' → z' < 256 → ByteRow b (w.setCell ⟨g, k, none⟩ (.int .u8 z')) (.slice q n c) n ∧ Keeps (fun i => (Value.slice q n c).ownBlock = some i) w (w.setCell ⟨g, k, none⟩ (.int .u8 z')) := by
  obtain ⟨zs, h1, h2, h3⟩ := h
  rcases h1.2 with ⟨hn, hn0⟩ | ⟨g, cap, cur, hn, -⟩
  · omega
  · injection hn with e1 e2 e3
    subst e1 e3
    have hkz : k < zs.length := by omega
    have hc := World.ownsRow.cellAt h1 k (by omega)
    rw [List.getElem?_map, List.getElem?_eq_getElem hkz] at hc
    have hz := h3 _ (List.getElem_mem hkz)
    refine ⟨g, zs[k], rfl, hc, hz.1, hz.2, World.ownsRow.frozenAt h1 k, fun z' z1 z2 => ⟨⟨zs.set k z', ?_, by rw [List.length_set, h2], fun z hz => ?_⟩, (Keeps.refl (fun i => (Value.slice (some ⟨g, 0, none⟩) n c).ownBlock = some i) w).setCell (p := ⟨g, k, none⟩) (.inl rfl) _⟩⟩
    · have := (World.ownsRow.stored h1 k (.int .u8 z')).1
      rwa [← List.map_set] at this
    · rcases List.mem_or_eq_of_mem_set hz with h | h
      · exact h3 z h
      · rw [h]; exact ⟨z1, z2⟩
/-- The loads' blocks can be written. -/
def LOpen (V : World) (L : List Ld) : Prop := ∀ e ∈ L, ∃ cur, V.heap[e.1]? = some (.cells cur 5 (0, 0)) ∧ ∀ j, j < e.2.2.length → 4 + j < cur.size
theorem Lies.open_ {V : World} {g : Nat} {x : List UInt8} (h : Lies V g x) : ∃ cur, V.heap[g]? = some (.cells cur 5 (0, 0)) ∧ ∀ j, j < x.length → 4 + j < cur.size := by
  obtain ⟨cur, hc, hx⟩ := h
  refine ⟨cur, hc, fun j hj => ?_⟩
  have h1 := congrArg List.length hx
  rw [List.length_take, List.length_drop, Lib.byteCells_length] at h1
  have h9 : cur.toList.length = cur.size := Array.length_toList
  omega
theorem LOpen.keeps {X : Nat → Prop} {V V' : World} {L : List Ld} (h : LOpen V L) (hk : Keeps X V V') (hX : ∀ e ∈ L, ¬ X e.1) : LOpen V' L := fun e he => by
  obtain ⟨cur, h1, h2⟩ := h e he
  exact ⟨cur, (hk.block _ (Array.getElem?_eq_some_iff.1 h1).1 (hX e he)).trans h1, h2⟩
theorem LOpen.at_ {V : World} {L : List Ld} (h : LOpen V L) (e : Ld) (he : e ∈ L) (j : Nat) (hj : j < e.2.2.length) : ∃ u, V.cell? ⟨e.1, 4 + j, none⟩ = some u ∧ V.frozen? ⟨e.1, 4 + j, none⟩ = false ∧ ∀ v, LOpen (V.setCell ⟨e.1, 4 + j, none⟩ v) L ∧ Keeps (fun k => ∃ x ∈ L, x.1 = k) V (V.setCell ⟨e.1, 4 + j, none⟩ v) := by
  obtain ⟨cur, h1, h2⟩ := h e he
  have hlt := h2 j hj
  refine ⟨cur[4 + j], by rw [cell_of_row V e.1 (4 + j) cur _ _ h1]; exact Array.getElem?_eq_getElem hlt, frozen_of_row V e.1 (4 + j) cur _ h1, fun v => ⟨fun x hx => ?_, (Keeps.refl (fun k => ∃ x ∈ L, x.1 = k) V).setCell (p := ⟨e.1, 4 + j, none⟩) (.inl ⟨e, he, rfl⟩) v⟩⟩
  obtain ⟨cur2, k1, k2⟩ := h x hx
  by_cases hxe : x.1 = e.1
  · rw [hxe] at k1 ⊢
    rw [h1] at k1
    injection k1 with k1
    injection k1 with k1
    subst k1
    exact ⟨cur.setIfInBounds (4 + j) v, heap_setCell_same V e.1 (4 + j) cur _ v h1, fun i hi => by rw [Array.size_setIfInBounds]; exact k2 i hi⟩
  · exact ⟨cur2, (heap_setCell_other V ⟨e.1, 4 + j, none⟩ x.1 v hxe).trans k1, k2⟩
theorem parse_ok : ∀ (n : Nat) (s : List UInt8), s.length ≤ n → ∀ l ∈ (parse s).1, l.length ≤ 32768 := by
  intro n
  induction n with
  | zero =>
    intro s h l hl
    rw [parse_short (by omega)] at hl
    cases hl
  | succ n ih =>
    intro s h l hl
    by_cases a : s.length < 4
    · rw [parse_short a] at hl; cases hl
    · cases hb : okN (num4 s) with
      | false => rw [parse_bad (by omega) hb] at hl; cases hl
      | true =>
        by_cases hp : s.length < 4 + num4 s
        · rw [parse_part (by omega) hb hp] at hl; cases hl
        · rw [parse_whole (by omega) hb (by omega)] at hl
          rcases List.mem_cons.1 hl with e | hl
          · rw [e, List.length_take]
            have := (okN_true.1 hb).2
            omega
          · exact ih _ (by rw [List.length_drop]; omega) l hl
theorem told_ok (br : Bool) (s l : List UInt8) (h : l ∈ (told br s).1) : l.length ≤ 32768 := by
  cases br with
  | false => exact parse_ok s.length s (Nat.le_refl _) l h
  | true => cases h
theorem refFeed_any (R : Nat) (q : Option Addr) (n c : Nat) (held bs : List UInt8) (br : Bool) (X Y : Nat → Prop) (p : Option Addr) (cp : Nat) (w : World) (hR : RefR X w R q n c held br) (hbr : br = true → held = []) (hs : Src w Y p bs) (hz : (held ++ bs).length ≤ 1099511627776) :
    Calls Try.prog 13 #[.pointer (some ⟨R, 0, none⟩), .slice p bs.length cp] w (RefPost R w (told br (held ++ bs))) := by
  cases br with
  | false => exact refFeed_open R q n c held bs X Y p cp w hR hs hz
  | true =>
    obtain rfl := hbr rfl
    exact refFeed_broken R q n c X _ p _ cp w hR
theorem reads_end {w w4 V : World} {R1 R2 B n c : Nat} {hv : Value} {held : List UInt8} {br : Bool} {q : Option Addr} {Wr : Nat → Prop} (hlow : Below w.heap.size w w4) (hR : Rdr w.heap.size w4 R1 hv held br) (hbr : br = true → held = []) (hp : Part held) (hRef : RefR (fun k => k < B) w4 R2 q n c held br) (hFB : ∀ k, Ft R1 hv k → k < B) (hR2 : ¬ Ft R1 hv R2)
    (hk : Keeps Wr w4 V) (hW : ∀ k, Wr k → k < B ∧ w.heap.size ≤ k ∧ ¬ Ft R1 hv k ∧ k ≠ R2) : ReadsInv w R1 R2 V :=
  ⟨hlow.trans (hk.below (fun k x => (hW k x).2.1) hlow.size), hv, held, br, q, n, c, hR.keeps hk (fun x => (hW R1 x).2.2.1 (.inl rfl)) (fun g e x => (hW g x).2.2.1 (.inr e)), hbr, hp, hRef.keeps hk (fun x => (hW R2 x).2.2.2 rfl) (fun k x _ => (hW k x).1) (fun k x _ => hFB k x), hR2⟩
set_option maxHeartbeats 4000000 in
set_option maxRecDepth 100000 in
theorem frameReads_any (p0 : Option Addr) (c0 : Nat) (LS : List Ar) (w : World) (h0 : RowsIn w.heap.size w p0 LS) (hz0 : total LS ≤ 1048576) :
    Calls Try.prog 4 #[.slice p0 LS.length c0] w fun e w' => e = .returned (.bool true) ∧ Below w.heap.size w w' := by
  obtain ⟨n0, hn0⟩ : ∃ n, LS.length = n := ⟨_, rfl⟩
  have hn0z : n0 ≤ 1048576 := by rw [← hn0]; exact Nat.le_trans (len_small LS) hz0
  rw [hn0]
  have HN0Z := Lib.hid hn0z
  have HN0 := Lib.hid hn0
  have H0 := Lib.hid h0
  have HZ0 := Lib.hid hz0
  clear h0 hz0 hn0 hn0z
  go_enter Try.func4, Try.ntmps4
  go_wp2_with fail
  refine (new_any _).mono ?_
  rintro e w1 ⟨rfl, hw1⟩
  have hR1 : Rdr w.heap.size w1 w.heap.size (.slice none 0 0) [] false := by rw [hw1]; exact Rdr.new w _ (Nat.le_refl _)
  have hl1 : Below w.heap.size w w1 := by rw [hw1]; exact (Below.refl _ w).alloc (Nat.le_refl _) _
  have hlt1 : w.heap.size < w1.heap.size := hR1.lt
  have HI : Hid (ReadsInv w w.heap.size w1.heap.size (w1.alloc (.cells #[.slice none 0 0, .bool false] 33))) := Lib.hid (by
    have hk : Keeps (fun _ => False) w1 (w1.alloc (.cells #[.slice none 0 0, .bool false] 33)) := (Keeps.refl (fun _ => False) w1).alloc _
    exact ⟨hl1.alloc hl1.size _, .slice none 0 0, [], false, none, 0, 0, hR1.keeps hk (fun f => f) (fun _ _ f => f), (fun h => by cases h), .nil, ⟨heap_alloc_new w1 _, rfl, Nat.le_refl _, by unfold maxLen; omega, fun h => absurd h (by simp)⟩, fun x => x.elim (fun e => by omega) (fun e => by cases e)⟩)
  have HLT1 := Lib.hid hlt1
  obtain ⟨R2, hR2⟩ : ∃ R2, w1.heap.size = R2 := ⟨_, rfl⟩
  rw [hR2] at HI HLT1
  have HR2 := Lib.hid hR2
  clear hR1 hl1 hlt1 hw1 hR2
  go_wp2
  rw [HR2.out]
  go_loopw [5] (fun i wr => ∃ j : Nat, i = .int .i64 (j : Int) ∧ j ≤ n0 ∧ Hid (ReadsInv w w.heap.size R2 wr)) (fun i _ => n0 - (intOf i).toNat)
  case atStart => exact ⟨0, rfl, by omega, HI⟩
  case round =>
    obtain ⟨j, rfl, hj, HV⟩ := hrel
    by_cases hlt : j < n0
    · obtain ⟨w0, hw0⟩ : ∃ x, x = wr := ⟨_, rfl⟩
      subst hw0
      have hji : (j : Int) < (n0 : Int) := by omega
      have hjz : (j : Int) < 1048576 := by have := HN0Z.out; omega
      obtain ⟨hv, held, br, qh, nh, ch, hR, hbr, hpart, hRef, hR2⟩ := HV.out.ex
      obtain ⟨e, he⟩ : ∃ e, LS[j]? = some e := ⟨_, List.getElem?_eq_getElem (by rw [HN0.out]; exact hlt)⟩
      obtain ⟨a, ha, hab, hac, hag⟩ := (H0.out.low HV.out.low) j e he
      subst ha
      obtain ⟨p, cap, bs⟩ := e
      have hbz : bs.length ≤ 1048576 := Nat.le_trans (item_small LS j _ he) HZ0.out
      obtain ⟨nb, hnb⟩ : ∃ n, bs.length = n := ⟨_, rfl⟩
      unfold hdr at hac
      simp only at hac
      rw [hnb] at hac hbz
      have hbl : ∀ i, (a.add i).block = a.block := fun i => by unfold Addr.add; split <;> rfl
      have hac' : (w0.alloc (.cells #[] 5)).cell? (a.add j) = some (.slice p nb cap) := by
        have hk : Below w0.heap.size w0 (w0.alloc (.cells #[] 5)) := (Below.refl _ w0).alloc (Nat.le_refl _) _
        exact (hk.cell (p := a.add j) (by rw [hbl]; exact Nat.lt_of_lt_of_le hab HV.out.low.size)).trans hac
      have HB0 : Hid (Buf w0.heap.size (w0.alloc (.cells #[] 5)) (.slice (some ⟨w0.heap.size, 0, none⟩) 0 0) []) := Lib.hid (World.ownsRow_lit (e := 5) (size := 1) w0 #[] 0 (Nat.le_refl _) (by unfold maxLen; omega) rfl)
      have HLA : Hid (Below w0.heap.size w0 (w0.alloc (.cells #[] 5))) := Lib.hid ((Below.refl _ w0).alloc (Nat.le_refl _) _)
      have HAC : Hid (∀ V, Below w.heap.size w0 V → V.cell? (a.add j) = some (.slice p nb cap)) := Lib.hid (fun V hV => (hV.cell (p := a.add j) (by rw [hbl]; exact hab)).trans hac)
      have HAG : Hid (∀ V, Below w.heap.size w0 V → Src V (fun k => w.heap.size ≤ k) p bs) := Lib.hid (fun V hV => (hag.low hV).src)
      have HNB := Lib.hid hnb
      have HBZ := Lib.hid hbz
      have HR := Lib.hid hR
      have HBR := Lib.hid hbr
      have HPART := Lib.hid hpart
      have HREF := Lib.hid hRef
      have HNR2 := Lib.hid hR2
      have HLV := Lib.hid HV.out.low
      clear hR hbr hpart hRef hR2 he hab hac hag hnb hbz hbl HV
      go_wp2_with (at_builtin; go_loud (refine wpList_append_src rfl (.tmp 25) (.tmp 29) rfl w0.heap.size (fun k => w.heap.size ≤ k) (.slice (some ⟨w0.heap.size, 0, none⟩) 0 0) [] bs p nb cap nb rfl rfl HNB.out.symm HB0.out (HAG.out _ (HLA.out.mono HLV.out.size)) (by rw [HNB.out]; have := HBZ.out; simp; omega) HLA.out.size (by rw [HNB.out]; simp) (fun q1 c1 w3 hb3 hg3 _ => ?_)); have hl3 : Below w0.heap.size w0 w3 := HLA.out.grown hg3 HLA.out.size (fun k hk => (HB0.out.lt k hk).1); have HB3 := Lib.hid hb3; have HL3 := Lib.hid hl3; clear hb3 hg3 hl3 hac')
      have hb3 : Buf w0.heap.size w3 (.slice q1 nb c1) bs := by have := HB3.out; rwa [List.nil_append] at this
      have hR3 := HR.out.keeps (Keeps.of_below (X := fun _ => False) HL3.out) (fun f => f) (fun _ _ f => f)
      have hw3 : w.heap.size ≤ w3.heap.size := Nat.le_trans HLV.out.size HL3.out.size
      have hown3 : ∀ g, (Value.slice q1 nb c1).ownBlock = some g → ¬ Ft w.heap.size hv g := fun g e x => by
        have h1 := (hb3.lt g e).1
        have h2 := HR.out.ft_lt g x
        omega
      obtain ⟨q7, c7, hq7, hc7, hm7, -⟩ := hb3.shape
      injection hq7 with e1 e2 e3
      rw [← e3] at hc7 hm7
      have FC := Lib.hid (feed_any w.heap.size w.heap.size hv held bs br q1 c1 w3 hR3 HBR.out (hb3.src rfl hown3) hc7 hm7 HPART.out hw3 (by rw [List.length_append, HNB.out]; have := HPART.out.len; have := HBZ.out; omega))
      rw [HNB.out] at FC
      have HB3' := Lib.hid hb3
      have HR3 := Lib.hid hR3
      have HOWN3 := Lib.hid hown3
      have HW3 := Lib.hid hw3
      clear hb3 hR3 hown3 hw3 hc7 hm7 e1 e2 e3
      go_wp2_with fail
      refine FC.out.mono ?_
      rintro e w4 ⟨q4, n4, c4, L, hv4, rfl, hn4, hrow4, hmap4, hR4, hh4, hk4⟩
      have hw34 : Below w.heap.size w0 w4 := (HL3.out.mono HLV.out.size).trans (hk4.below HR3.out.ft_ge HW3.out)
      have hR2lt : R2 < w0.heap.size := HREF.out.lt
      have hR23 : R2 < w3.heap.size := Nat.lt_of_lt_of_le hR2lt HL3.out.size
      have hRef3 : RefR (Ft w.heap.size hv) w3 R2 qh nh ch held br := HREF.out.keeps (Keeps.of_below (X := fun _ => False) HL3.out) (fun f => f) (fun _ f _ => f.elim) (fun k x _ => x)
      have hRef4 : RefR (Ft w.heap.size hv4) w4 R2 qh nh ch held br := hRef3.keeps hk4 HNR2.out (fun k x _ => x) (Ft.heir hh4)
      have hN24 : ¬ Ft w.heap.size hv4 R2 := fun x => HNR2.out (Ft.heir hh4 R2 x hR23)
      have RC := Lib.hid (refFeed_any R2 qh nh ch held bs br _ _ p cap w4 hRef4 HBR.out (HAG.out w4 hw34) (by rw [List.length_append, HNB.out]; have := HPART.out.len; have := HBZ.out; omega))
      rw [HNB.out] at RC
      have hac4 := HAC.out w4 hw34
      have HW34 := Lib.hid hw34
      have HR2LT := Lib.hid hR2lt
      have HN24 := Lib.hid hN24
      have HH4 := Lib.hid hh4
      have HROW4 := Lib.hid hrow4
      have HMAP4 := Lib.hid hmap4
      have HN4 := Lib.hid hn4
      have HR4 := Lib.hid hR4
      have HK4 := Lib.hid hk4
      have HSZ34 := Lib.hid hk4.size
      obtain ⟨E, hE⟩ : ∃ E : Int, (if (told br (held ++ bs)).2.1 = true then (9 : Int) else 0) = E := ⟨_, rfl⟩
      rw [hE]
      have HE := Lib.hid hE
      clear hw34 hR2lt hR23 hRef3 hRef4 hN24 hrow4 hmap4 hn4 hR4 hh4 hk4 hE
      go_wp2_with fail
      refine RC.out.mono ?_
      rintro e w5 ⟨q5, n5, c5, A, q6, n6, c6, rfl, hn5, hrd5, hmap5, hRef5, hk5⟩
      rw [HE.out]
      have hnn : n5 = n4 := by
        have h1 := congrArg List.length HMAP4.out
        have h2 := congrArg List.length hmap5
        rw [List.length_map] at h1 h2
        rw [HN4.out, hn5, h1, h2]
      subst hnn
      have hMR : ∀ k, Mine w3 hv k → k ≠ R2 := fun k x e => by
        rcases x with x | x
        · have := HR2LT.out; have := HL3.out.size; omega
        · exact HNR2.out (.inr (e ▸ x))
      have hrow5 : RowL w3.heap.size (Mine w3 hv) (fun k => k = R2) w5 (.slice q4 n5 c4) L := HROW4.out.aside (fun g e1 e2 => by have := (HROW4.out.lt g e1).1; have := HR2LT.out; have := HL3.out.size; omega) hMR hk5
      have hR5 : Rdr w.heap.size w5 w.heap.size hv4 (told br (held ++ bs)).2.2 (told br (held ++ bs)).2.1 := HR4.out.keeps hk5 (fun e => HN24.out (.inl e.symm)) (fun g e1 e2 => HN24.out (.inr (e2 ▸ e1)))
      have hlow4 : w.heap.size ≤ w4.heap.size := Nat.le_trans HLV.out.size HW34.out.size
      have hw35 : Below w.heap.size w0 w5 := HW34.out.trans (hk5.below (fun k e => by rw [e]; exact Nat.le_of_lt HLT1.out) hlow4)
      have hlow5 : Below w.heap.size w w5 := HLV.out.trans hw35
      have hac5 := HAC.out w5 hw35
      have hown4 : Buf w0.heap.size w4 (.slice q1 nb c1) bs := HB3'.out.keeps HK4.out HOWN3.out
      have hown5 : Buf w0.heap.size w5 (.slice q1 nb c1) bs := hown4.keeps hk5 (fun g e1 e2 => by have := (HB3'.out.lt g e1).1; have := HR2LT.out; omega)
      obtain ⟨T, hT⟩ : ∃ T : ByteArray, (⟨bs.toArray⟩ : ByteArray) = T := ⟨_, rfl⟩
      have hcO : ∀ k, (convert 22 9 (.slice q1 nb c1)).run Try.prog (w5.drewN k) = .ok (.string T) (w5.drewN k) := fun k => by
        have h7 := conv_src (c := c1) (Src.drewN (hown5.src (X := fun _ => False) rfl (fun _ _ f => f)) k) HNB.out
        rwa [hT] at h7
      have hcP : ∀ k, (convert 22 9 (.slice p nb cap)).run Try.prog (w5.drewN k) = .ok (.string T) (w5.drewN k) := fun k => by
        have h7 := conv_src (c := cap) (Src.drewN (HAG.out w5 hw35) k) HNB.out
        rwa [hT] at h7
      have hnz : n5 ≤ 1099511627776 := by
        have h1 := congrArg List.length HMAP4.out
        have h2 := told_len br (held ++ bs)
        rw [List.length_map, ← HN4.out] at h1
        rw [List.length_append, HNB.out] at h2
        have := HPART.out.len
        have := HBZ.out
        omega
      have HSAME := Lib.hid (fun k => same_quiet q4 q5 n5 c4 c5 (L.map arL) A (w5.drewN k) (hrow5.rd.drewN k) (hrd5.drewN k) (by rw [List.length_map, HN4.out]) hn5.symm (by rw [List.map_map, hmap5]; exact HMAP4.out) hnz)
      obtain ⟨d0, d1, d2, d3⟩ := hRef5.cell
      have hl6 : (told br (held ++ bs)).2.2.length = n6 := hRef5.len.symm
      obtain ⟨bb, hbb⟩ : ∃ b, (told br (held ++ bs)).2.1 = b := ⟨_, rfl⟩
      rw [hbb] at d1
      have hR5d : ∀ k, Rdr w.heap.size (w5.drewN k) w.heap.size hv4 (told br (held ++ bs)).2.2 (told br (held ++ bs)).2.1 := fun k => ⟨hR5.at_, hR5.ge, hR5.buf, hR5.ne⟩
      have HHELD : Hid (∀ k, Calls Try.prog 15 #[.pointer (some ⟨w.heap.size, 0, none⟩)] (w5.drewN k) fun e w' => e = .returned (.int .i64 (n6 : Int)) ∧ w' = w5.drewN k) := Lib.hid (fun k => by rw [← hl6]; exact held_any _ _ _ _ _ _ (hR5d k))
      have HBROKE : Hid (∀ k, Calls Try.prog 16 #[.pointer (some ⟨w.heap.size, 0, none⟩)] (w5.drewN k) fun e w' => e = .returned (.bool bb) ∧ w' = w5.drewN k) := Lib.hid (fun k => by rw [← hbb]; exact broken_any _ _ _ _ _ _ (hR5d k))
      have HROW5 := Lib.hid hrow5
      have HR5 := Lib.hid hR5
      have HREF5 := Lib.hid hRef5
      have HLOW5 := Lib.hid hlow5
      have HW35 := Lib.hid hw35
      have HOWN5 := Lib.hid hown5
      have HN5 := Lib.hid hn5
      have HSZ45 := Lib.hid hk5.size
      have HNZ := Lib.hid hnz
      have HMR := Lib.hid hMR
      clear hrow5 hR5 hRef5 hlow5 hw35 hown4 hown5 hn5 hrd5 hmap5 hk5 hT hnz hl6 hbb hR5d hMR hlow4 d2 d3
      go_upto_region 11 with fail
      go_quiet (first | (go_at_call 14; exact Calls.quiet_of (HSAME.out _)) | (go_at_call 15; exact Calls.quiet_of_same (HHELD.out _)) | (go_at_call 16; exact Calls.quiet_of_same (HBROKE.out _)))
      obtain ⟨w6, hw6⟩ : ∃ x, x = w5.drewN nq := ⟨_, rfl⟩
      rw [← hw6]
      have hk56 : Keeps (fun _ => False) w5 w6 := by rw [hw6]; exact ⟨rfl, rfl, rfl, Nat.le_refl _, fun _ _ _ => rfl⟩
      have HB6 : Hid (ByteRow w0.heap.size w6 (.slice q1 nb c1) nb) := Lib.hid (by
        have h7 := (HOWN5.out.keeps hk56 (fun _ _ f => f)).byteRow
        rwa [HNB.out] at h7)
      have HROW6 := Lib.hid (HROW5.out.keeps (N' := fun k => k = R2) hk56 (fun _ f _ => f.elim) (fun _ x _ => x))
      have HK56 := Lib.hid hk56
      obtain ⟨Wr, hWr⟩ : ∃ Wr : Nat → Prop, Wr = fun i => (Value.slice q1 nb c1).ownBlock = some i ∨ ∃ x ∈ L, x.1 = i := ⟨_, rfl⟩
      have HWR := Lib.hid hWr
      have HEND : Hid (∀ V, Keeps Wr w6 V → ReadsInv w w.heap.size R2 V) := Lib.hid (fun V hV => by
        have hown : ∀ g, (Value.slice q1 nb c1).ownBlock = some g → w0.heap.size ≤ g ∧ g < w3.heap.size := fun g e => HB3'.out.lt g e
        have hlt4 : ∀ k, Ft w.heap.size hv4 k → k < w4.heap.size := HR4.out.ft_lt
        refine reads_end (B := w4.heap.size) (HLOW5.out.trans (HK56.out.below (fun _ f => f.elim) HLOW5.out.size)) (HR5.out.keeps HK56.out (fun f => f) (fun _ _ f => f)) (told_rest br (held ++ bs)).2 (told_rest br (held ++ bs)).1 (HREF5.out.keeps HK56.out (fun f => f) (fun _ f _ => f.elim) (fun _ x _ => x)) hlt4 HN24.out hV (fun k x => ?_)
        rw [HWR.out] at x
        have hw0 := HLV.out.size
        have h03 := HL3.out.size
        have h34 := HSZ34.out
        have hr2 := HR2LT.out
        rcases x with x | ⟨e, he, rfl⟩
        · have h1 := hown k x
          refine ⟨by omega, by omega, fun y => ?_, by omega⟩
          have h9 := HR.out.ft_lt k (Ft.heir HH4.out k y h1.2)
          omega
        · obtain ⟨m1, m2, m3, m4⟩ := HROW4.out.each e he
          have hge : w.heap.size ≤ e.1 := m1.elim (fun h => by omega) (fun h => (HR.out.buf.lt _ h).1)
          exact ⟨m4.lt, hge, m3, HMR.out _ m1⟩)
      have HAO : Hid (∀ V, Keeps Wr w6 V → V.ownsRow w3.heap.size 22 1 (.slice q4 n5 c4) n5 (heads L)) := Lib.hid (fun V hV => by
        have h7 := HROW6.out.own
        rw [← HN4.out] at h7
        refine owns_keeps h7 hV (fun g e x => ?_)
        rw [HWR.out] at x
        rcases x with x | ⟨y, hy, hyg⟩
        · have := (HB3'.out.lt g x).2; have := (HROW6.out.lt g e).1; omega
        · exact (HROW6.out.each y hy).2.1 (by rw [hyg]; exact e))
      have HLO6 : Hid (LOpen w6 L) := Lib.hid (fun e he => (HROW6.out.each e he).2.2.2.open_)
      have HOL : Hid (∀ e ∈ L, (Value.slice q1 nb c1).ownBlock ≠ some e.1) := Lib.hid (fun e he x => by
        have h1 := HB3'.out.lt e.1 x
        have h2 := (HROW4.out.each e he).1
        rcases h2 with h2 | h2
        · omega
        · have := (HR.out.buf.lt _ h2).2; omega)
      clear hw6 hk56 hcO hcP d0 d1 hac4 hac5 hWr
      go_wp2
      go_loopw [11] (fun k wr => ∃ kk : Nat, k = .int .i64 (kk : Int) ∧ kk ≤ nb ∧ Hid (Keeps (fun i => (Value.slice q1 nb c1).ownBlock = some i) w6 wr ∧ ByteRow w0.heap.size wr (.slice q1 nb c1) nb)) (fun k _ => nb - (intOf k).toNat)
      case atStart => exact ⟨0, rfl, by omega, Lib.hid ⟨Keeps.refl _ _, HB6.out⟩⟩
      case round =>
        obtain ⟨kk, rfl, hkk, HC⟩ := hrel
        by_cases hlt2 : kk < nb
        · have hki : (kk : Int) < (nb : Int) := by omega
          have hkz : (kk : Int) < 1048577 := by have := HBZ.out; omega
          obtain ⟨g, z, hq, hcell, z0, z1, hfz, hset⟩ := HC.out.2.at_ kk hlt2
          subst hq
          have HSET := Lib.hid (hset ((z + 1) % 256) (by omega) (by omega))
          clear hset
          go_wp2
          exact ⟨⟨kk + 1, by go_num, by omega, Lib.hid ⟨HC.out.1.trans HSET.out.2, HSET.out.1⟩⟩, by simp [intOf]; omega⟩
        · have hki : ¬ (kk : Int) < (nb : Int) := by omega
          obtain ⟨w7, hw7⟩ : ∃ x, x = wr := ⟨_, rfl⟩
          subst hw7
          have HK7 : Hid (Keeps Wr w6 w7) := Lib.hid (HC.out.1.mono (fun k x _ => by rw [HWR.out]; exact .inl x))
          have HLO7 : Hid (LOpen w7 L) := Lib.hid (HLO6.out.keeps HC.out.1 (fun e he x => HOL.out e he x))
          have HN5L : Hid (n5 = L.length) := HN4
          go_wp2
          clear hki hlt2 hkk
          go_loopw [12] (fun k wr => ∃ kk : Nat, k = .int .i64 (kk : Int) ∧ kk ≤ n5 ∧ Hid (Keeps Wr w6 wr ∧ LOpen wr L)) (fun k _ => n5 - (intOf k).toNat)
          case atStart => exact ⟨0, rfl, by omega, Lib.hid ⟨HK7.out, HLO7.out⟩⟩
          case round =>
            obtain ⟨k2, rfl, hk2, HD⟩ := hrel
            by_cases hlt3 : k2 < n5
            · have hki : (k2 : Int) < (n5 : Int) := by omega
              have hkz : (k2 : Int) < 1099511627777 := by have := HNZ.out; omega
              obtain ⟨w8, hw8⟩ : ∃ x, x = wr := ⟨_, rfl⟩
              subst hw8
              obtain ⟨e, he⟩ : ∃ e, L[k2]? = some e := ⟨_, List.getElem?_eq_getElem (by rw [← HN5L.out]; exact hlt3)⟩
              have HEM := Lib.hid (List.mem_of_getElem? he)
              have hA8 := HAO.out w8 HD.out.1
              obtain ⟨ga, hga⟩ : ∃ ga, q4 = some ⟨ga, 0, none⟩ := by
                rcases hA8.2 with ⟨h1, h2⟩ | ⟨g, cap', cur, h1, -⟩
                · omega
                · injection h1 with h1; exact ⟨g, h1⟩
              subst hga
              have HHD : Hid (∀ V, Keeps Wr w6 V → V.cell? ⟨ga, k2, none⟩ = some (headV e)) := Lib.hid (fun V hV => by
                have h7 := World.ownsRow.cells (HAO.out V hV) (g := ga) rfl k2 (headV e) (by unfold heads; rw [List.getElem?_map, he]; rfl)
                rwa [Addr.add_lit, Nat.zero_add] at h7)
              obtain ⟨ge, ce, xe⟩ := e
              obtain ⟨ne, hne⟩ : ∃ n, xe.length = n := ⟨_, rfl⟩
              have HNE := Lib.hid hne
              have hnez : ne ≤ 1099511627776 := by
                have h1 : xe ∈ (told br (held ++ bs)).1 := by rw [← HMAP4.out]; exact List.mem_map.2 ⟨_, HEM.out, rfl⟩
                have h2 := told_ok br _ xe h1
                omega
              have HNEZ := Lib.hid hnez
              clear hA8 he hne hnez
              go_wp2
              go_loopw [13] (fun k wr => ∃ jj : Nat, k = .int .i64 (jj : Int) ∧ jj ≤ ne ∧ Hid (Keeps Wr w6 wr ∧ LOpen wr L)) (fun k _ => ne - (intOf k).toNat)
              case atStart => exact ⟨0, rfl, by omega, HD⟩
              case round =>
                obtain ⟨jj, rfl, hjj, HE2⟩ := hrel
                have hcell := HHD.out wr HE2.out.1
                unfold headV at hcell
                simp only at hcell
                rw [HNE.out] at hcell
                by_cases hlt4 : jj < ne
                · have hji2 : (jj : Int) < (ne : Int) := by omega
                  have hjz2 : (jj : Int) < 1099511627777 := by have := HNEZ.out; omega
                  obtain ⟨u, hcu, hfu, hset⟩ := HE2.out.2.at_ (ge, ce, xe) HEM.out jj (by simp only; rw [HNE.out]; exact hlt4)
                  simp only at hcu hfu hset
                  have HSET := Lib.hid (hset (.int .u8 (((k2 : Int) + 7) % 256)))
                  clear hset
                  go_wp2
                  exact ⟨⟨jj + 1, by go_num, by omega, Lib.hid ⟨HE2.out.1.trans (HSET.out.2.mono (fun i x _ => by rw [HWR.out]; exact .inr x)), HSET.out.1⟩⟩, by simp [intOf]; omega⟩
                · have hji2 : ¬ (jj : Int) < (ne : Int) := by omega
                  go_wp2
                  exact ⟨⟨k2 + 1, by go_num, by omega, HE2⟩, by simp [intOf]; omega⟩
            · have hki : ¬ (k2 : Int) < (n5 : Int) := by omega
              have HF := Lib.hid (HEND.out wr HD.out.1)
              go_wp2
              exact ⟨⟨j + 1, by go_num, by omega, HF⟩, by simp [intOf]; omega⟩
    · have hji : ¬ (j : Int) < (n0 : Int) := by omega
      have HL7 := Lib.hid HV.out.low
      go_wp2_with fail
      refine (works_any _).mono ?_
      rintro e w9 ⟨rfl, hb9⟩
      have HL9 := Lib.hid (HL7.out.trans (hb9.mono HL7.out.size))
      clear hb9
      go_wp2
      go_ret
      exact ⟨rfl, HL9.out⟩
end Fr
end Go.Proofs.Ytbejacmbbkdbnaa
