/- The reader of keys: what is skipped, numbers, ended texts. -/
import Derived.Test.YtepfihanhdinfaaDoorRkRead
import Derived.Test.YtepfihanhdinfaaDoorRkKey
import Derived.Test.YtepfihanhdinfaaDoorRkRaw
import Derived.Laws.BitsLemmas
namespace Go.Proofs.YtepfihanhdinfaaDoor
open Go.RowKit
set_option linter.unusedVariables false
set_option linter.unusedSimpArgs false
namespace Rk
open Val (VT Keeps Box)
def cutP (s : ByteArray) (c : UInt8) : ByteArray := ⟨(Lib.trimPrefix s.data.toList [c]).toArray⟩
def hasP (s : ByteArray) (c : UInt8) : Bool := Lib.hasPrefix s.data.toList [c]
theorem cutP_yes {s : ByteArray} {c : UInt8} (h : hasP s c = true) : s.data.toList = c :: (cutP s c).data.toList := by
  unfold hasP at h
  unfold cutP Lib.trimPrefix
  rw [if_pos h]
  unfold Lib.hasPrefix at h
  cases hs : s.data.toList with
  | nil => rw [hs] at h; cases h
  | cons d l =>
    rw [hs] at h
    simp [List.isPrefixOf] at h
    subst h
    simp
theorem cutP_no {s : ByteArray} {c : UInt8} (h : hasP s c = false) : cutP s c = s ∧ ∀ l, s.data.toList ≠ c :: l := by
  unfold hasP at h
  refine ⟨?_, fun l hl => ?_⟩
  · unfold cutP Lib.trimPrefix
    rw [if_neg (by rw [h]; decide)]
  · rw [hl] at h
    simp [Lib.hasPrefix, List.isPrefixOf] at h
set_option maxRecDepth 100000 in
theorem skip_any (R : Nat) (s : ByteArray) (p : Int) (c : UInt8) (w : World) (h : RdAt w R s p) : Calls Tryd.prog 69 #[.pointer (some ⟨R, 0, none⟩), .string ⟨#[c]⟩] w fun e w' => e = .returned (.bool (hasP s c)) ∧ RdAt w' R (cutP s c) p ∧ Keeps (· = R) w w' := by
  obtain ⟨c0, c1, f0, f1⟩ := h.cell
  have H := Lib.hid h
  have HC := Lib.hid (fun V => (Tryd.strings_CutPrefix s ⟨#[c]⟩ V).mono fun _ _ h => And.intro h.1 h.2.symm)
  obtain ⟨q, hq⟩ : ∃ q, cutP s c = q := ⟨_, rfl⟩
  obtain ⟨x, hx⟩ : ∃ x, hasP s c = x := ⟨_, rfl⟩
  have HQ : Hid ((⟨(Lib.trimPrefix s.data.toList (ByteArray.mk #[c]).data.toList).toArray⟩ : ByteArray) = q) := Lib.hid hq
  have HX : Hid (Lib.hasPrefix s.data.toList (ByteArray.mk #[c]).data.toList = x) := Lib.hid hx
  rw [hq, hx]
  clear h hq hx
  go_enter Tryd.func69, Tryd.ntmps69
  go_wp2_with fail
  refine (HC.out _).mono ?_
  rintro e w1 ⟨rfl, rfl⟩
  rw [HQ.out, HX.out]
  go_wp2
  go_ret
  exact ⟨rfl, H.out.set0 _, (Keeps.refl (· = R) w).setCell (.inl rfl) _⟩
/-! ### Numbers -/
set_option maxRecDepth 100000 in
theorem number_none (R : Nat) (s : ByteArray) (p : Int) (w : World) (h : RdAt w R s p) (hs : s.size < 8) : Calls Tryd.prog 48 #[.pointer (some ⟨R, 0, none⟩)] w fun e w' => e = .returned (.tuple #[.int .u64 0, .bool false]) ∧ w' = w := by
  obtain ⟨c0, c1, f0, f1⟩ := h.cell
  have hsi : (s.size : Int) < 8 := by omega
  clear h
  go_enter Tryd.func48, Tryd.ntmps48
  go_wp2
  go_ret2
  exact ⟨rfl, rfl⟩
theorem numL_snoc (l : List UInt8) (c : UInt8) : numL (l ++ [c]) = numL l * 256 + c.toNat := by unfold numL; rw [List.foldl_append]; rfl
theorem numL_lt : ∀ l : List UInt8, numL l < 256 ^ l.length := by
  have h : ∀ (l : List UInt8) (a : Nat), l.foldl (fun a c => a * 256 + c.toNat) a < (a + 1) * 256 ^ l.length := by
    intro l
    induction l with
    | nil => intro a; simp
    | cons c l ih =>
      intro a
      have := ih (a * 256 + c.toNat)
      have hc := c.toNat_lt
      rw [List.foldl_cons, List.length_cons, Nat.pow_succ]
      refine Nat.lt_of_lt_of_le this ?_
      rw [Nat.mul_comm (256 ^ l.length) 256, ← Nat.mul_assoc]
      exact Nat.mul_le_mul_right _ (by omega)
  intro l
  have := h l 0
  simpa [numL] using this
theorem take_at (s : ByteArray) (j : Nat) (h : j < s.size) : s.data.toList.take (j + 1) = s.data.toList.take j ++ [s[j]] := by
  have hl : j < s.data.toList.length := by simpa using h
  rw [List.take_succ_eq_append_getElem hl]
  simp [ByteArray.getElem_eq_getElem_data]
set_option maxRecDepth 100000 in
theorem number_some (R : Nat) (s : ByteArray) (p : Int) (w : World) (h : RdAt w R s p) (hs : 8 ≤ s.size) (hz : s.size ≤ 4611686018427387904) : Calls Tryd.prog 48 #[.pointer (some ⟨R, 0, none⟩)] w fun e w' => e = .returned (.tuple #[.int .u64 (numL (s.data.toList.take 8) : Int), .bool true]) ∧ RdAt w' R (s.extract 8 s.size) p ∧ Keeps (· = R) w w' := by
  obtain ⟨c0, c1, f0, f1⟩ := h.cell
  have H := Lib.hid h
  have hsi : 8 ≤ (s.size : Int) := by omega
  have hsi' : decide ((s.size : Int) < 8) = false := decide_eq_false (by omega)
  have hzi : (s.size : Int) ≤ 4611686018427387904 := by omega
  clear h
  go_enter Tryd.func48, Tryd.ntmps48
  go_wp2
  go_loopw [4, 12] (fun m i wr => ∃ j q : Nat, i = .int .i64 (j : Int) ∧ j ≤ 8 ∧ m = .int .u64 (q : Int) ∧ Hid (q = numL (s.data.toList.take j)) ∧ wr = w) (fun _ i _ => 8 - (intOf i).toNat)
  case atStart => exact ⟨0, 0, rfl, by omega, rfl, Lib.hid rfl, rfl⟩
  case round =>
    obtain ⟨j, q, rfl, hj, rfl, HQ, rfl⟩ := hrel
    by_cases hlt : j < 8
    · have hji : (j : Int) < 8 := by omega
      have hjs : j < s.size := by omega
      have hjsi : (j : Int) < s.size := by omega
      have hq : q < 72057594037927936 := by
        have h1 := numL_lt (s.data.toList.take j)
        rw [← HQ.out] at h1
        refine Nat.lt_of_lt_of_le h1 ?_
        have h2 : (s.data.toList.take j).length ≤ 7 := by rw [List.length_take]; omega
        exact Nat.le_trans (Nat.pow_le_pow_right (by decide) h2) (by decide)
      have hqi : (q : Int) < 72057594037927936 := by omega
      have hc := (s[j]).toNat_lt
      have hor : bits .or .u64 ((q : Int) * 256) ((s[j]).toNat : Int) = (q : Int) * 256 + ((s[j]).toNat : Int) := bits_join .u64 64 (by decide) (fun n h0 h1 => by rw [IntKind.wrap_u64]; omega) 8 _ _ (by omega) (by omega) (by omega) (by omega) (by omega) (by omega)
      have HN : Hid (q * 256 + (s[j]).toNat = numL (s.data.toList.take (j + 1))) := Lib.hid (by rw [take_at s j hjs, numL_snoc, HQ.out])
      clear hq
      go_wp2
      refine ⟨⟨j + 1, q * 256 + (s[j]).toNat, by go_num, by omega, by go_num, HN, trivial⟩, by simp [intOf]; omega⟩
    · have hj8 : j = 8 := by omega
      have HJ := Lib.hid hj8
      have hji : ¬ (j : Int) < 8 := by omega
      clear hj8
      go_wp2
      go_ret2
      refine ⟨?_, H.out.set0 _, (Keeps.refl (· = R) _).setCell (.inl rfl) _⟩
      rw [HQ.out, HJ.out]
      rfl
/-! ### Ended texts -/
theorem txt_skip : ∀ (a b : List UInt8), (∀ c ∈ a, c ≠ 0) → txt (a ++ 0 :: b) = (txt (0 :: b)).map (fun x => (a ++ x.1, x.2))
  | [], b, _ => by
    rw [List.nil_append]
    cases h : txt (0 :: b) <;> simp
  | c :: a, b, h => by
    have ih := txt_skip a b (fun d hd => h d (List.mem_cons_of_mem _ hd))
    have hc := h c (List.mem_cons_self)
    cases hl : a ++ 0 :: b with
    | nil => simp at hl
    | cons d l =>
      rw [List.cons_append, hl, txt, if_neg hc, ← hl, ih]
      cases txt (0 :: b) <;> simp
theorem txt_no : ∀ (a : List UInt8), (∀ c ∈ a, c ≠ 0) → txt a = none
  | [], _ => by simp [txt]
  | [_], _ => by simp [txt]
  | c :: d :: l, h => by
    have ih := txt_no (d :: l) (fun x hx => h x (List.mem_cons_of_mem _ hx))
    rw [txt, if_neg (h c List.mem_cons_self), ih]
    rfl
/-- What Cut tells at a byte 00. -/
theorem cut_zero : ∀ l : List UInt8, (Lib.cut l [0] = (l, [], false) ∧ Lib.index l [0] = -1 ∧ ∀ c ∈ l, c ≠ 0) ∨ ∃ a b, Lib.cut l [0] = (a, b, true) ∧ Lib.index l [0] = (a.length : Int) ∧ l = a ++ 0 :: b ∧ ∀ c ∈ a, c ≠ 0
  | [] => by
    left
    refine ⟨?_, ?_, by simp⟩ <;> simp [Lib.cut, Lib.index]
  | c :: l => by
    by_cases hc : c = 0
    · subst hc
      right
      refine ⟨[], l, ?_, index_one_zero l, rfl, by simp⟩
      unfold Lib.cut
      rw [index_one_zero]
      simp
    · have hi := index_one_ne hc l
      rcases cut_zero l with ⟨h1, h2, h3⟩ | ⟨a, b, h1, h2, h3, h4⟩
      · left
        rw [h2] at hi
        simp at hi
        refine ⟨?_, hi, ?_⟩
        · unfold Lib.cut; rw [hi]; rfl
        · intro d hd
          rcases List.mem_cons.1 hd with rfl | hd
          · exact hc
          · exact h3 d hd
      · right
        rw [h2] at hi
        have e1 : (((a.length : Int)) == -1) = false := by simp
        rw [e1] at hi
        simp only [Bool.false_eq_true, if_false] at hi
        refine ⟨c :: a, b, ?_, by rw [hi, List.length_cons]; omega, by rw [h3]; rfl, ?_⟩
        · unfold Lib.cut
          rw [hi, if_pos (by omega), h3, show ((a.length : Int) + 1).toNat = a.length + 1 by omega]
          simp
        · intro d hd
          rcases List.mem_cons.1 hd with rfl | hd
          · exact hc
          · exact h4 d hd
/-- What a call comes to that reads an ended text. -/
def TextPost (R : Nat) (s : ByteArray) (p : Int) (w : World) (e : Ending) (w' : World) : Prop :=
  Keeps (· = R) w w' ∧ ((txt s.data.toList = none ∧ e = .returned (.tuple #[.string ⟨#[]⟩, .bool false]) ∧ ∃ s', RdAt w' R s' p) ∨
    ∃ x s', txt s.data.toList = some (x, s'.data.toList) ∧ e = .returned (.tuple #[.string ⟨x.toArray⟩, .bool true]) ∧ RdAt w' R s' p)
def restSize (w : World) (R : Nat) : Nat := match w.cell? ⟨R, 0, none⟩ with | some (.string s) => s.size | _ => 0
theorem RdAt.rest {w : World} {R : Nat} {s : ByteArray} {p : Int} (h : RdAt w R s p) : restSize w R = s.size := by unfold restSize; rw [h.cell.1]
structure TRel (R : Nat) (s : ByteArray) (p : Int) (w : World) (acc : List UInt8) (cur : ByteArray) (u : Value) (wr : World) : Prop where
  rd : RdAt wr R cur p
  buf : Buf w.heap.size wr u acc
  keeps : Keeps (· = R) w wr
  text : txt s.data.toList = (txt cur.data.toList).map (fun x => (acc ++ x.1, x.2))
  len : acc.length + cur.size ≤ s.size
theorem Buf.keeps {C R : Nat} {w w' : World} {v : Value} {bs : List UInt8} (h : Buf C w v bs) (hk : Keeps (· = R) w w') (hR : R < C) : Buf C w' v bs := by
  refine ⟨h.1, ?_⟩
  rcases h.2 with hn | ⟨g, cap, cur, hv, hg0, hg, rest⟩
  · exact .inl hn
  · exact .inr ⟨g, cap, cur, hv, hg0, (hk.block g (Array.getElem?_eq_some_iff.1 hg).1 (by omega)).trans hg, rest⟩
theorem Buf.grew {C : Nat} {w w' : World} {v v' : Value} {bs : List UInt8} {s : ByteArray} (h : Buf C w v bs) (ho : w'.ownsRow C 5 1 v' (bs.length + s.size) (Lib.byteCells bs ++ Lib.strCells s)) : Buf C w' v' (bs ++ s.data.toList) :=
  Buf.append ho (by rw [List.length_append, ba_len]) (by rw [Lib.byteCells_append]; rfl)
theorem RdAt.grown {w w' : World} {R : Nat} {s : ByteArray} {p : Int} {v : Value} {C : Nat} {bs : List UInt8} (h : RdAt w R s p) (hb : Buf C w v bs) (hg : w.grownBy w' v.ownBlock) (hR : R < C) : RdAt w' R s p :=
  (hg.block R h.lt (fun e => by have := (World.ownsRow.lt hb R e.symm).1; omega)).trans h
theorem keeps_buf {w a b : World} {R : Nat} {v : Value} {bs : List UInt8} (h : Keeps (· = R) w a) (hb : Buf w.heap.size a v bs) (hg : a.grownBy b v.ownBlock) : Keeps (· = R) w b :=
  h.grown hg (fun k e => .inr (World.ownsRow.lt hb k e).1)
set_option maxRecDepth 100000 in
set_option maxHeartbeats 4000000 in
theorem text_any (R : Nat) (s : ByteArray) (p : Int) (w : World) (h : RdAt w R s p) (hs : s.size ≤ 4294967000) (hX : MaxAt w) (hMR : 0 ≠ R) : Calls Tryd.prog 50 #[.pointer (some ⟨R, 0, none⟩)] w (TextPost R s p w) := by
  obtain ⟨i0, hi0, hz0, hz1, hz2⟩ := info_parts infoB
  have hRw := h.lt
  have H0 : Hid (TRel R s p w [] s (.slice none 0 0) w) := Lib.hid ⟨h, Buf.nil _ _, Keeps.refl _ _, by cases txt s.data.toList <;> simp, by simp⟩
  have HX := Lib.hid hX
  clear h hX
  go_enter Tryd.func50, Tryd.ntmps50
  go_wp2
  go_loopw [4] (fun u wr => ∃ (acc : List UInt8) (cur : ByteArray), Hid (TRel R s p w acc cur u wr)) (fun _ wr => restSize wr R)
  case atStart => exact ⟨_, _, H0⟩
  case round =>
    obtain ⟨acc, cur, HT⟩ := hrel
    clear H0
    obtain ⟨c0, c1, f0, f1⟩ := HT.out.rd.cell
    obtain ⟨m, hm0⟩ := HX.out
    have hzero : 0 < w.heap.size := HX.out.zero
    have hm : wr.cell? ⟨0, 0, none⟩ = some (.int .i64 m) := (HT.out.keeps.cell (p := ⟨0, 0, none⟩) hzero hMR).trans hm0
    have hlen := HT.out.len
    have hcs : cur.size ≤ 4294967000 := by omega
    have HC := Lib.hid (Tryd.strings_Cut cur ⟨#[0]⟩ m wr (by omega) hm)
    clear hm hm0 hzero
    rcases cut_zero cur.data.toList with ⟨h1, -, h3⟩ | ⟨a, b, h1, h2, h3, h4⟩
    · have hno := txt_no _ h3
      have HN : Hid (txt s.data.toList = none) := Lib.hid (by rw [HT.out.text, hno]; rfl)
      clear h3 hno
      rw [show (ByteArray.mk #[0]).data.toList = [0] from rfl, h1] at HC
      go_wp2_with fail
      refine HC.out.mono ?_
      rintro e w1 ⟨rfl, n1, rfl⟩
      go_wp2
      go_ret2
      exact ⟨HT.out.keeps.drewN n1, .inl ⟨HN.out, rfl, _, HT.out.rd⟩⟩
    · rw [show (ByteArray.mk #[0]).data.toList = [0] from rfl, h1] at HC
      obtain ⟨ab, hab⟩ : ∃ ab : ByteArray, (⟨a.toArray⟩ : ByteArray) = ab := ⟨_, rfl⟩
      obtain ⟨bb, hbb⟩ : ∃ bb : ByteArray, (⟨b.toArray⟩ : ByteArray) = bb := ⟨_, rfl⟩
      have hab2 : ab.data.toList = a := by rw [← hab]
      have hbb2 : bb.data.toList = b := by rw [← hbb]
      rw [hab, hbb] at HC
      have hsk := txt_skip a b h4
      have hcl : cur.size = ab.size + 1 + bb.size := by
        have := congrArg List.length h3
        rw [List.length_append, List.length_cons, ← hab2, ← hbb2, ba_len, ba_len, ba_len] at this
        omega
      have HT2 : Hid (txt s.data.toList = (txt (0 :: bb.data.toList)).map (fun x => ((acc ++ ab.data.toList) ++ x.1, x.2))) := Lib.hid (by
        rw [HT.out.text, h3, hsk, hbb2, hab2]
        cases txt (0 :: b) <;> simp)
      have hrs := HT.out.rd.rest
      clear h1 h2 h3 h4 hab hbb hab2 hbb2 hsk
      go_wp2_with fail
      refine HC.out.mono ?_
      rintro e w1 ⟨rfl, n1, rfl⟩
      have B1 : Hid (Buf w.heap.size (wr.drewN n1) u4 acc) := Lib.hid HT.out.buf
      have hal : acc.length + ab.size ≤ 4294967000 := by omega
      have hCw : w.heap.size ≤ (wr.drewN n1).heap.size := HT.out.keeps.size
      go_wp2_with (at_builtin; refine Lib.wpList_append_own_string _ rfl (.tmp 19) (.tmp 20) 56 9 rfl w.heap.size 5 i0 Tryd.underlying56 Tryd.underlying9 hi0 hz0 hz1 hz2 u4 acc.length (Lib.byteCells acc) rfl B1.out ab rfl (by unfold maxLen; omega) (by omega) hCw (fun v2 w2 ho hg hx => ?_); have R2 := Lib.hid ((show RdAt (wr.drewN n1) R cur p from HT.out.rd).grown B1.out hg hRw); have K2 := Lib.hid (keeps_buf (HT.out.keeps.drewN n1) B1.out hg); have B2 := Lib.hid (B1.out.grew ho); clear ho hg hx; obtain ⟨d0, d1, g0, g1⟩ := R2.out.cell)
      have R3 := Lib.hid (R2.out.set0 bb)
      have K3 : Hid (Keeps (· = R) w (w2.setCell ⟨R, 0, none⟩ (.string bb))) := Lib.hid (K2.out.setCell (.inl rfl) _)
      have B3 : Hid (Buf w.heap.size (w2.setCell ⟨R, 0, none⟩ (.string bb)) v2 (acc ++ ab.data.toList)) := Lib.hid (B2.out.keeps ((Keeps.refl (· = R) w2).setCell (.inl rfl) _) hRw)
      clear d0 d1 g0 g1
      refine (skip_any R bb p 0 _ R3.out).mono ?_
      rintro e w4 ⟨rfl, r4, k4⟩
      have R4 := Lib.hid r4
      have K4 := Lib.hid (K3.out.trans k4)
      have B4 := Lib.hid (B3.out.keeps k4 hRw)
      have hl4 : (acc ++ ab.data.toList).length = acc.length + ab.size := by rw [List.length_append, ba_len]
      clear r4 k4
      cases hp : hasP bb 0 with
      | true =>
        have hyes := cutP_yes hp
        have hcv := conv_buf w.heap.size w4 v2 _ B4.out 9 Tryd.underlying9
        have HE : Hid (txt s.data.toList = some (acc ++ ab.data.toList, (cutP bb 0).data.toList)) := Lib.hid (by
          rw [HT2.out, hyes, txt, if_pos rfl, if_pos rfl]
          simp)
        clear hyes hp
        go_wp2
        go_ret2
        exact ⟨K4.out, .inr ⟨_, _, HE.out, rfl, R4.out⟩⟩
      | false =>
        obtain ⟨hno1, hno2⟩ := cutP_no hp
        rw [hno1] at R4
        go_wp2_with fail
        refine (skip_any R bb p 255 _ R4.out).mono ?_
        rintro e w5 ⟨rfl, r5, k5⟩
        have R5 := Lib.hid r5
        have K5 := Lib.hid (K4.out.trans k5)
        have B5 := Lib.hid (B4.out.keeps k5 hRw)
        clear r5 k5
        cases hq : hasP bb 255 with
        | true =>
          have hyes := cutP_yes hq
          have HE : Hid (txt s.data.toList = (txt (cutP bb 255).data.toList).map (fun x => ((acc ++ ab.data.toList ++ [0]) ++ x.1, x.2))) := Lib.hid (by
            rw [HT2.out, hyes, txt, if_pos rfl, if_neg (by decide), if_pos rfl]
            cases txt (cutP bb 255).data.toList <;> simp)
          have hbl : bb.size = (cutP bb 255).size + 1 := by
            have := congrArg List.length hyes
            rw [List.length_cons, ba_len, ba_len] at this
            exact this
          have hCw5 : w.heap.size ≤ w5.heap.size := K5.out.size
          clear hyes hp hq hno1 hno2
          go_wp2_with (at_builtin; refine Lib.wpList_append_own_string _ rfl (.tmp 33) _ 56 9 rfl w.heap.size 5 i0 Tryd.underlying56 Tryd.underlying9 hi0 hz0 hz1 hz2 v2 (acc ++ ab.data.toList).length (Lib.byteCells (acc ++ ab.data.toList)) rfl B5.out ⟨#[0]⟩ rfl (by unfold maxLen; show _ + 1 ≤ _; omega) (by show _ + 1 ≤ _; omega) hCw5 (fun v6 w6 ho hg hx => ?_); have R6 := Lib.hid (R5.out.grown B5.out hg hRw); have K6 := Lib.hid (keeps_buf K5.out B5.out hg); have B6 := Lib.hid (B5.out.grew (s := ⟨#[0]⟩) ho); clear ho hg hx)
          go_roundw
          case rel => exact ⟨_, _, Lib.hid ⟨R6.out, B6.out, K6.out, HE.out, by rw [List.length_append, hl4]; show acc.length + ab.size + 1 + _ ≤ _; omega⟩⟩
          case measure => rw [R6.out.rest, hrs]; omega
        | false =>
          obtain ⟨-, hno3⟩ := cutP_no hq
          have HE : Hid (txt s.data.toList = none) := Lib.hid (by
            rw [HT2.out]
            cases hbb : bb.data.toList with
            | nil => rfl
            | cons d l =>
              rw [txt, if_pos rfl, if_neg (fun e => hno2 l (by rw [hbb, e])), if_neg (fun e => hno3 l (by rw [hbb, e]))]
              rfl)
          clear hp hq hno1 hno2 hno3
          go_wp2
          go_ret2
          exact ⟨K5.out, .inl ⟨HE.out, rfl, _, R5.out⟩⟩
end Rk
end Go.Proofs.YtepfihanhdinfaaDoor
