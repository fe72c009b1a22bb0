/- Show: what stands in quotes. -/
import Derived.Test.YtoaliaohbpdibaaDoorShUnqPlain
import Derived.Test.YtoaliaohbpdibaaDoorShQuote
namespace Go.Proofs.YtoaliaohbpdibaaDoor
open Go.RowKit
set_option linter.unusedVariables false
set_option linter.unusedSimpArgs false
namespace Sh
theorem Buf.below {B : Nat} {w w' : World} {v : Value} {bs : List UInt8} (h : Buf B w v bs) (hb : Below w.heap.size w w') : Buf B w' v bs := by
  refine ⟨h.1, ?_⟩
  rcases h.2 with hn | ⟨g, cap, cur, hv, hg0, hg, rest⟩
  · exact .inl hn
  · exact .inr ⟨g, cap, cur, hv, hg0, (hb.block g (Array.getElem?_eq_some_iff.1 hg).1).trans hg, rest⟩
theorem kept_below (e : TypeId) {w w' : World} (hb : Below w.heap.size w w') : Lib.OthersKept e none w w' := fun k o hk _ _ =>
  (hb.block k (Array.getElem?_eq_some_iff.1 hk).1).trans hk
def URel (w : World) (t : ByteArray) (v n : Value) (wr : World) : Prop :=
  ∃ (pos nx fuel : Nat) (acc : List UInt8), Buf w.heap.size wr v acc ∧ n = .int .i64 (nx : Int) ∧ wr.heap[w.heap.size]? = some (.stringIter t pos) ∧ Below w.heap.size w wr ∧ Lib.OthersKept 5 none w wr ∧ nx ≤ t.size ∧ pos ≤ t.size ∧
    (∀ j, pos ≤ j → j < nx → (t.data.toList.getD j 0).toNat < 128) ∧ unqF t.size t.data.toList = (unqF fuel (t.data.toList.drop (max pos nx))).map (acc ++ ·) ∧ t.size ≤ max pos nx + fuel ∧ acc.length ≤ max pos nx
def UPost (w : World) (r : Option (List UInt8)) (e : Ending) (w' : World) : Prop := e = .returned (unqT r) ∧ Below w.heap.size w w' ∧ Lib.OthersKept 5 none w w'
set_option maxRecDepth 100000 in
theorem unq_wrong (s : ByteArray) (w : World) (hs : s.size ≤ 35184372088000) (h : s.size < 2 ∨ ((s.data.toList.getD 0 0).toNat : Int) ≠ 39 ∨ ((s.data.toList.getD (s.size - 1) 0).toNat : Int) ≠ 39) :
    Calls Tryd.prog 8 #[.string s] w (UPost w none) := by
  by_cases h1 : s.size < 2
  · have h2 : (s.size : Int) < 2 := by omega
    clear h hs
    go_enter Tryd.func8, Tryd.ntmps8
    go_wp2
    go_ret2
    exact ⟨rfl, Below.refl _ _, Lib.OthersKept.refl _ _ _⟩
  · have h2 : 2 ≤ (s.size : Int) := by omega
    have hlt : (0 : Nat) < s.size := by omega
    rw [getD_at s 0 (by omega), getD_at s (s.size - 1) (by omega)] at h
    by_cases h3 : (s[0].toNat : Int) = 39
    · have h4 : (s[s.size - 1].toNat : Int) ≠ 39 := by omega
      have h5 : ((s[s.size - 1].toNat : Int) == 39) = false := by simpa using h4
      have h6 : ((s[s.size - 1].toNat : Int) != 39) = true := by simpa using h4
      have h7 : (s.size : Int) - 1 < s.size := by omega
      have h8 : ((s.size : Int) - 1).toNat = s.size - 1 := by omega
      clear h h4
      go_enter Tryd.func8, Tryd.ntmps8
      go_wp2
      go_ret2
      exact ⟨rfl, Below.refl _ _, Lib.OthersKept.refl _ _ _⟩
    · have h5 : ((s[0].toNat : Int) == 39) = false := by simpa using h3
      have h6 : ((s[0].toNat : Int) != 39) = true := by simpa using h3
      clear h h3 h1
      go_enter Tryd.func8, Tryd.ntmps8
      go_wp2
      go_ret2
      exact ⟨rfl, Below.refl _ _, Lib.OthersKept.refl _ _ _⟩
set_option maxHeartbeats 4000000 in
set_option maxRecDepth 100000 in
theorem unq_right (s : ByteArray) (w : World) (hs : s.size ≤ 35184372088000) (hE : Err w) (h2 : 2 ≤ s.size) (h0 : (s[0].toNat : Int) = 39) (h1 : (s[s.size - 1].toNat : Int) = 39) (t : ByteArray) (ht : s.extract 1 (s.size - 1) = t) :
    Calls Tryd.prog 8 #[.string s] w (UPost w (unqF t.size t.data.toList)) := by
  obtain ⟨i0, hi0, hz0, hz1, hz2⟩ := info_parts infoB
  have hts : t.size = s.size - 2 := by rw [← ht]; simp; omega
  have h2i : 2 ≤ (s.size : Int) := by omega
  have hlt : (0 : Nat) < s.size := by omega
  have h7 : (s.size : Int) - 1 < s.size := by omega
  have h8 : ((s.size : Int) - 1).toNat = s.size - 1 := by omega
  have htb : t.size ≤ 35184372088000 := by omega
  have HT := Lib.hid hts
  have HE := Lib.hid hE
  clear hts hE
  go_enter Tryd.func8, Tryd.ntmps8
  go_wp2
  go_loopw [4, 5] (fun v n wr => URel w t v n wr) (fun _ _ wr => t.size - wr.iterPos w.heap.size)
  case atStart =>
    refine ⟨0, 0, t.size, [], Buf.nil _ _, rfl, World.iter_heap w t 0, (Below.refl _ w).alloc (Nat.le_refl _) _, (Lib.OthersKept.refl _ _ w).alloc _, by omega, by omega, by intro j h1 h2; omega, ?_, by simp, by simp⟩
    simp only [Nat.max_self, List.drop_zero, List.nil_append]
    cases unqF t.size t.data.toList <;> rfl
  case round =>
    obtain ⟨pos, nx, fuel, acc, hI, rfl, hit, hbw, hok, hnt, hpt, hasc, hacc, hfu, hal⟩ := hrel
    have hsz : w.heap.size < wr.heap.size := (Array.getElem?_eq_some_iff.1 hit).1
    by_cases hp : pos < t.size
    · obtain ⟨hl, hc0, hst, hrr, hsl⟩ := at_place t pos hp
      have hpos := stL_pos (t.data.toList.drop pos)
      have hle := sgL_le (t.data.toList.drop pos)
      have hr := decode_le t pos
      have hnx0 : ∀ ty, (Instr.next (.pointer (some ⟨w.heap.size, 0, none⟩)) true ty).run Tryd.prog wr = _ := fun ty => Lib.run_next_any_at wr (w.heap.size) t pos ty hit hp
      rw [hst] at hnx0
      have hbr : ∀ W, Calls Tryd.prog 22 #[.int .i32 ((Utf8.decode t pos).1 : Int), .string (t.extract pos t.size)] W fun e w' => e = .returned (.bool (bareL (t.data.toList.drop pos))) ∧ W = w' := fun W => by
        have := bare_any (Utf8.decode t pos).1 (t.extract pos t.size) W hr
        rw [Lib.extract_to_end, hrr, bare_eq _ hl, ← hrr] at this
        exact this
      have hes : ∀ W, Err W → Calls Tryd.prog 24 #[.string (t.extract pos t.size)] W (EscPost W (escR (t.data.toList.drop pos)).1 (escR (t.data.toList.drop pos)).2) := fun W hW => by
        have := escape_any (t.extract pos t.size) W hW
        rw [Lib.extract_to_end] at this
        exact this
      have henc := decodeL_enc (t.data.toList.drop pos)
      rw [← hrr] at henc
      have hLl : (t.data.toList.drop pos).length = t.size - pos := by simp
      have hLg : ∀ j, (t.data.toList.drop pos).getD j 0 = t.data.toList.getD (pos + j) 0 := fun j => Lib.getD_dropU _ _ _
      have hdd : ∀ k, (t.data.toList.drop pos).drop k = t.data.toList.drop (pos + k) := fun k => by rw [List.drop_drop]
      have hcur : (t.data.toList.getD pos 0).toNat < 128 → sgL (t.data.toList.drop pos) = 1 := fun h => (decodeL_one _ (by rw [Lib.getD_dropU, Nat.add_zero]; exact h) hl).2
      obtain ⟨r, hre⟩ : ∃ r, (Utf8.decode t pos).1 = r := ⟨_, rfl⟩
      rw [hre] at hr hnx0 hbr henc
      have hL : ∃ L, t.data.toList.drop pos = L := ⟨_, rfl⟩
      obtain ⟨L, hL⟩ := hL
      rw [hL] at hl hc0 hst hrr hsl hpos hle hnx0 hbr henc hLl hcur hes
      simp only [hL] at hLg hdd
      obtain ⟨W2, hW2⟩ : ∃ W, wr.iterAt w.heap.size t (pos + stL L) = W := ⟨_, rfl⟩
      have HI2 : Hid (Buf w.heap.size W2 u4 acc) := by rw [← hW2]; exact Buf.iterAt hI hit _
      have HIT : Hid (W2.heap[w.heap.size]? = some (.stringIter t (pos + stL L))) := by rw [← hW2]; exact Lib.iterAt_heap wr _ t pos _ hit
      have HBW : Hid (Below w.heap.size w W2) := by rw [← hW2]; exact Lib.below_iterAt hbw (by omega) _ _
      have HOK : Hid (Lib.OthersKept 5 none w W2) := by rw [← hW2]; exact kept_iterAt hok hbw.size (Nat.le_refl _) _ _
      have HB2 : w.heap.size ≤ W2.heap.size := HBW.out.size
      have HE2 : Hid (Err W2) := HE.out.below HBW.out HE.out.lt
      have hnx : ∀ ty, (Instr.next (.pointer (some ⟨w.heap.size, 0, none⟩)) true ty).run Tryd.prog wr = .ok (.tuple #[.bool true, .int .i64 pos, .int .i32 r]) W2 := fun ty => by rw [hnx0, hW2]
      have HIP : Hid (wr.iterPos w.heap.size = pos) := by show World.iterPos _ _ = _; simp only [World.iterPos, hit]
      have HES := Lib.hid (hes W2 HE2.out)
      have HC := Lib.hid hc0
      have HA := Lib.hid hacc
      have HN := Lib.hid henc
      have HASC := Lib.hid hasc
      have HL := Lib.hid hL
      have HLL := Lib.hid hLl
      have HLG := Lib.hid hLg
      have HDD := Lib.hid hdd
      have HCU := Lib.hid hcur
      have HNE := Lib.hid hl
      clear hnx0 hacc hc0 hst hrr hdd hre hW2 hI hit hbw hok hL henc hl hes hasc hLl hLg hcur
      have hpp : (pos : Int) < t.size := by omega
      have stay : ∀ (u' : Value) (w3 : World) (nx' f' : Nat) (acc' : List UInt8), Buf w.heap.size w3 u' acc' → Below w.heap.size W2 w3 → Lib.OthersKept 5 none W2 w3 → nx' ≤ t.size → pos + stL L ≤ t.size →
          (∀ j, pos + stL L ≤ j → j < nx' → (t.data.toList.getD j 0).toNat < 128) → unqF t.size t.data.toList = (unqF f' (t.data.toList.drop (max (pos + stL L) nx'))).map (acc' ++ ·) → t.size ≤ max (pos + stL L) nx' + f' → acc'.length ≤ max (pos + stL L) nx' →
          URel w t u' (.int .i64 (nx' : Int)) w3 ∧ w3.iterPos w.heap.size = pos + stL L := by
        intro u' w3 nx' f' acc' h5 h6 h7 h9 h10 h11 h12 h13 h14
        have h8 := kept_iter h7 HIT.out
        refine ⟨⟨pos + stL L, nx', f', acc', h5, rfl, h8, HBW.out.trans h6, HOK.out.trans h7, h9, h10, h11, h12, h13, h14⟩, ?_⟩
        show World.iterPos _ _ = _
        simp only [World.iterPos, h8]
      have ST := Lib.hid stay
      clear stay
      by_cases hpn : pos < nx
      · have hpn' : (pos : Int) < nx := by omega
        have hs1 : stL L = 1 := by
          have := HCU.out (HASC.out pos (Nat.le_refl _) hpn)
          unfold stL
          rw [this]; rfl
        have HF := Lib.hid (ST.out u4 W2 nx fuel acc HI2.out (Below.refl _ _) (Lib.OthersKept.refl _ _ _) hnt (by omega) (fun j h1 h2 => HASC.out j (by omega) h2) (by rw [hs1]; have := HA.out; rwa [show max (pos + 1) nx = max pos nx by omega]) (by omega) (by omega))
        clear hs1 hbr
        go_wp2
        go_roundw
        case rel => exact HF.out.1
        case measure => rw [HF.out.2, HIP.out]; omega
      · have hpn' : ¬ (pos : Int) < nx := by omega
        have hmx : max pos nx = pos := by omega
        obtain ⟨f, rfl⟩ : ∃ f, fuel = f + 1 := ⟨fuel - 1, by omega⟩
        have hA2 := HA.out
        rw [hmx, HL.out] at hA2
        have HA2 := Lib.hid hA2
        clear hA2
        rw [hmx] at hal hfu
        clear hmx
        by_cases hb : bareL L = true
        · rw [hb] at hbr
          have h0 : 0 < sgL L := by
            have := hb
            unfold bareL at this
            simp at this
            omega
          have hst2 : stL L = sgL L := by unfold stL; rw [if_neg (by omega)]
          have hA3 := HA2.out
          rw [unqF_bare f L HNE.out hb, Option.map_map] at hA3
          have HA3 := Lib.hid hA3
          have HBB := Lib.hid hb
          have HS2 := Lib.hid hst2
          clear hb hA3 hst2
          go_wp2_with (go_at_call 22; refine (hbr _).mono ?_; rintro e w' ⟨rfl, rfl⟩)
          refine (appendRune_any w.heap.size u4 acc (r : Int) (by omega) (by omega) W2 HI2.out (by omega) HB2).mono ?_
          rintro e w3 ⟨v', rfl, hb3, hbl3, hk3, _⟩
          rw [HN.out h0] at hb3
          have HF := Lib.hid (ST.out v' w3 nx f (acc ++ L.take (sgL L)) hb3 hbl3 hk3 hnt (by omega) (fun j h1 h2 => by omega) (by
            have := HA3.out
            rw [show max (pos + stL L) nx = pos + sgL L by rw [HS2.out]; omega, ← HDD.out, this]
            simp only [Function.comp_def, List.append_assoc]) (by rw [HS2.out]; omega) (by rw [List.length_append, List.length_take, HS2.out]; omega))
          clear hb3 hbl3 hk3 hbr h0
          go_wp2
          go_roundw
          case rel => exact HF.out.1
          case measure => rw [HF.out.2, HIP.out]; omega
        · have hb : bareL L = false := by simpa using hb
          rw [hb] at hbr
          by_cases he : (escR L).2 = 0
          · have HF : Hid (unqF t.size t.data.toList = none) := by
              have := HA2.out
              rw [unqF_none f L HNE.out hb he] at this
              exact this
            have hes := HES.out
            rw [he] at hes
            have HES2 := Lib.hid hes
            clear hes he hb
            go_wp2_with (go_at_call 22; refine (hbr _).mono ?_; rintro e w' ⟨rfl, rfl⟩)
            refine HES2.out.mono ?_
            rintro e w3 ⟨rfl, hb3⟩
            have H3 := Lib.hid hb3
            clear hb3 hbr
            go_wp2
            go_ret2
            exact ⟨by rw [HF.out]; rfl, HBW.out.trans (H3.out.mono HB2), HOK.out.trans (kept_below _ H3.out)⟩
          · obtain ⟨hn2, hn4, hnl, hna⟩ := escR_ascii L he
            have hA3 := HA2.out
            rw [unqF_esc f L HNE.out hb he, Option.map_map] at hA3
            have HA3 := Lib.hid hA3
            have hes := HES.out
            obtain ⟨n, hn⟩ : ∃ n, (escR L).2 = n := ⟨_, rfl⟩
            obtain ⟨c, hc⟩ : ∃ c, (escR L).1 = c := ⟨_, rfl⟩
            rw [hn, hc] at hes
            rw [hn] at hn2 hn4 hnl hna
            have HES2 := Lib.hid hes
            have HNN := Lib.hid hn
            have HCC := Lib.hid hc
            have HNA := Lib.hid hna
            rw [HLL.out] at hnl
            have hn0 : ((n : Int) == 0) = false := by simp; omega
            have hn3 : 0 < (n : Int) := by omega
            have hn5 : (n : Int) ≤ 4 := by omega
            have hs1 : stL L = 1 := by
              have h0 := hna 0 (by omega)
              have h1 := HLG.out 0
              rw [Nat.add_zero] at h1
              rw [h1] at h0
              have := HCU.out h0
              unfold stL
              rw [this]; rfl
            have HS1 := Lib.hid hs1
            clear hes hA3 hn hc hna he hb hs1
            have hpt' : (pos : Int) ≤ 35184372088000 := by omega
            go_wp2_with (go_at_call 22; refine (hbr _).mono ?_; rintro e w' ⟨rfl, rfl⟩)
            refine HES2.out.mono ?_
            rintro e w3 ⟨rfl, hb3⟩
            have H3 := Lib.hid hb3
            have HI3 := Lib.hid (HI2.out.below hb3)
            have HB3 : w.heap.size ≤ w3.heap.size := Nat.le_trans HB2 hb3.size
            clear hb3 hbr
            go_wp2_with (at_builtin; refine wpList_append_lies _ rfl (.tmp 46) (.tmp 48) 36 rfl w.heap.size 5 i0 (.int .u8 0) 1 1 Tryd.underlying36 hi0 hz0 hz1 hz2 rfl (by decide) u4 acc.length (Lib.byteCells acc) rfl (World.ownsRow.alloc HI3.out _) ⟨w3.heap.size, 0, none⟩ 1 1 [.int .u8 (c.toNat : Int)] rfl rfl (one_lit _ w3) one_one (by omega) (by unfold maxLen; omega) (by omega) (by simp; omega) _ rfl (fun g2 cap2 w4 ho hg hx3 hx4 => ?_))
            have G4 := Lib.hid (Buf.grown HI3.out HB3 hg)
            have O4 : Buf w.heap.size w4 (.slice (some ⟨g2, 0, none⟩) (acc.length + 1) cap2) (acc ++ [c]) := Buf.append ho (by simp) (by rw [Lib.byteCells_append]; rfl)
            have HF := Lib.hid (ST.out _ w4 (pos + n) f (acc ++ [c]) O4 ((H3.out.mono HB2).trans G4.out.1) ((kept_below _ H3.out).trans G4.out.2) (by omega) (by rw [HS1.out]; omega) (fun j h1 h2 => by
              have h3 := HNA.out (j - pos) (by omega)
              rw [HLG.out, show pos + (j - pos) = j by rw [HS1.out] at h1; omega] at h3
              exact h3) (by
                have := HA3.out
                rw [show max (pos + stL L) (pos + n) = pos + n by rw [HS1.out]; omega, ← HDD.out, this, HNN.out, HCC.out]
                simp only [Function.comp_def, List.append_assoc, List.cons_append, List.nil_append]) (by rw [HS1.out]; omega) (by rw [List.length_append, List.length_singleton, HS1.out]; omega))
            clear ho hg hx3 hx4 O4
            go_wp2
            go_roundw
            case rel => exact HF.out.1
            case measure => rw [HF.out.2, HIP.out, HS1.out]; omega
    · have hnx : ∀ ty, (Instr.next (.pointer (some ⟨w.heap.size, 0, none⟩)) true ty).run Tryd.prog wr = _ := fun ty => Lib.run_next_end_at wr (w.heap.size) t pos ty hit hp
      have hacc2 : unqF t.size t.data.toList = some acc := by
        have h2 : t.data.toList.length = t.size := by simp
        have : t.data.toList.drop (max pos nx) = [] := List.drop_eq_nil_of_le (by omega)
        rw [this, unqF_nil] at hacc
        rw [hacc]
        simp
      have HA := Lib.hid hacc2
      have HBW := Lib.hid hbw
      have HOK := Lib.hid hok
      have hcv := conv_buf w.heap.size wr u4 _ hI 9 Tryd.underlying9
      have HCV := Lib.hid hcv
      clear hI hacc hacc2 hbw hok hit hasc hcv
      go_wp2
      rw [HCV.out]
      go_wp2
      go_ret2
      exact ⟨by rw [HA.out]; rfl, HBW.out, HOK.out⟩
/-- What a text in quotes stands for, or that it is none. -/
theorem unquote_any (s : ByteArray) (w : World) (hs : s.size ≤ 35184372088000) (hE : Err w) : Calls Tryd.prog 8 #[.string s] w (UPost w (unqL s.data.toList)) := by
  have hlen : s.data.toList.length = s.size := by simp
  unfold unqL
  rw [hlen]
  by_cases h : s.size < 2 ∨ s.data.toList.getD 0 0 ≠ 39 ∨ s.data.toList.getD (s.size - 1) 0 ≠ 39
  · rw [if_pos h]
    refine unq_wrong s w hs ?_
    rcases h with h | h | h
    · exact .inl h
    · exact .inr (.inl fun e => h (UInt8.toNat_inj.1 (by simpa using (by omega : (s.data.toList.getD 0 0).toNat = 39))))
    · exact .inr (.inr fun e => h (UInt8.toNat_inj.1 (by simpa using (by omega : (s.data.toList.getD (s.size - 1) 0).toNat = 39))))
  · rw [if_neg h]
    have h2 : 2 ≤ s.size := by omega
    have h0 : s[0] = 39 := by
      have : s.data.toList.getD 0 0 = 39 := by
        apply Classical.byContradiction
        intro hn; exact h (.inr (.inl hn))
      rw [getD_at s 0 (by omega)] at this
      exact this
    have h1 : s[s.size - 1] = 39 := by
      have : s.data.toList.getD (s.size - 1) 0 = 39 := by
        apply Classical.byContradiction
        intro hn; exact h (.inr (.inr hn))
      rw [getD_at s (s.size - 1) (by omega)] at this
      exact this
    have := unq_right s w hs hE h2 (by rw [h0]; rfl) (by rw [h1]; rfl) _ rfl
    have hsz : (s.extract 1 (s.size - 1)).size = s.size - 2 := by simp; omega
    rw [hsz, Lib.extract_data, show s.size - 1 - 1 = s.size - 2 by omega] at this
    exact this
end Sh
end Go.Proofs.YtoaliaohbpdibaaDoor
