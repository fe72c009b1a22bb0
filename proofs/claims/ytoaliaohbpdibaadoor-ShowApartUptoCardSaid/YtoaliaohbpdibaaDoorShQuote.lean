/- Show: a text in quotes. -/
import Derived.Test.YtoaliaohbpdibaaDoorShEsc
import Derived.LoopTactic
import Derived.Lib.IndexBytes
import Derived.Lib.SlBytesRow
import Derived.Lib.BufferRead
namespace Go.Proofs.YtoaliaohbpdibaaDoor
open Go.RowKit
set_option linter.unusedVariables false
set_option linter.unusedSimpArgs false
namespace Sh
theorem one_lit (a : Int) (w : World) : ∀ j u, ([Value.int .u8 a] : List Value)[j]? = some u → (w.alloc (.cells #[.int .u8 a] 5)).cell? ((⟨w.heap.size, 0, none⟩ : Addr).add j) = some u := by
  intro j u hj
  match j, hj with
  | 0, hj => simp at hj; subst hj; simp [Addr.add]
  | (j + 1), hj => simp at hj
theorem one_one {a : Int} : ∀ u ∈ ([Value.int .u8 a] : List Value), u.oneCell' = true := by
  intro u hu; simp at hu; subst hu; rfl
theorem kept_iterAt {e : TypeId} {w wr : World} (h : Lib.OthersKept e none w wr) (hb : w.heap.size ≤ wr.heap.size) {k : Nat} (hk : w.heap.size ≤ k) (s : ByteArray) (p : Nat) : Lib.OthersKept e none w (wr.iterAt k s p) := by
  intro i o hi hn ho
  have hlt : i < w.heap.size := (Array.getElem?_eq_some_iff.1 hi).1
  rw [Lib.iterAt_other _ _ _ _ _ (by omega)]
  exact h i o hi hn ho
theorem kept_iter {e : TypeId} {w w' : World} (h : Lib.OthersKept e none w w') {k : Nat} {s : ByteArray} {pos : Nat} (hk : w.heap[k]? = some (.stringIter s pos)) : w'.heap[k]? = some (.stringIter s pos) :=
  h k _ hk (by simp) (fun _ _ e1 => by cases e1)
/-- The sign at a place of a text. -/
theorem at_place (s : ByteArray) (pos : Nat) (h : pos < s.size) : s.data.toList.drop pos ≠ [] ∧ (s.data.toList.drop pos).getD 0 0 = s[pos] ∧ (Utf8.decode s pos).2 = stL (s.data.toList.drop pos) ∧ (Utf8.decode s pos).1 = (Lib.decodeL (s.data.toList.drop pos)).1 ∧ stL (s.data.toList.drop pos) ≤ s.size - pos := by
  have hl : s.data.toList.drop pos ≠ [] := by
    intro h0
    have := congrArg List.length h0
    simp [List.length_drop] at this
    have h2 : s.size = s.data.size := rfl
    omega
  have hd := Lib.decodeL_drop s pos
  have hs := stL_le _ hl
  refine ⟨hl, ?_, ?_, ?_, ?_⟩
  · rw [Lib.getD_dropU, Nat.add_zero]
    rw [List.getD_eq_getElem?_getD, List.getElem?_eq_getElem (by simpa using h)]
    rfl
  · rw [← hd]; exact decodeL_step _ hl
  · rw [← hd]
  · rw [List.length_drop] at hs
    have h2 : s.size = s.data.toList.length := by simp
    omega
theorem quoteF_step (f : Nat) (l : List UInt8) (hl : l ≠ []) : quoteF (f + 1) l = (if bareL l then l.take (sgL l) else escL (l.getD 0 0)) ++ quoteF f (l.drop (stL l)) := by
  rw [quoteF, if_neg hl]
theorem one_alloc {w : World} {D : Nat} {x : Value} (h : One w D x) (o : Obj) : One (w.alloc o) D x := (Below.heap_alloc w o D (Array.getElem?_eq_some_iff.1 h).1).trans h
theorem one_iterAt {w : World} {D k : Nat} {x : Value} {s : ByteArray} {pos : Nat} (h : One w D x) (hk : w.heap[k]? = some (.stringIter s pos)) (p : Nat) : One (w.iterAt k s p) D x := by
  unfold One at h ⊢
  rw [Lib.iterAt_other _ _ _ _ _ (fun e => by rw [e, hk] at h; cases h)]
  exact h
def QRel (B K : Nat) (w : World) (v0 : Value) (bs : List UInt8) (s : ByteArray) (v : Value) (wr : World) : Prop :=
  ∃ (pos fuel : Nat) (acc : List UInt8), Buf B wr v acc ∧ wr.heap[K]? = some (.stringIter s pos) ∧ Below B w wr ∧ Lib.OthersKept 5 none w wr ∧ acc ++ quoteF fuel (s.data.toList.drop pos) = bs ++ (39 :: quoteF s.size s.data.toList) ∧ s.size ≤ pos + fuel ∧ acc.length ≤ bs.length + 1 + 4 * pos ∧ (1 ≤ bs.length → 2 ≤ acc.length) ∧ OneK v0 bs.length w wr
set_option maxHeartbeats 2000000 in
set_option maxRecDepth 100000 in
theorem putQuoted_any (B : Nat) (v : Value) (bs : List UInt8) (s : ByteArray) (w : World) (h : Buf B w v bs) (hlen : bs.length + 4 * s.size + 8 ≤ 140737488355328) (hB : B ≤ w.heap.size) :
    Calls Tryd.prog 26 #[v, .string s] w fun e w' => RowPost B w v bs.length (bs ++ quoteL s.data.toList) e w' := by
  obtain ⟨i0, hi0, hz0, hz1, hz2⟩ := info_parts infoB
  have H := Lib.hid h
  clear h
  have hss : s.size ≤ 9223372036854775807 := by omega
  go_enter Tryd.func26, Tryd.ntmps26
  go_wp2_with (at_builtin; refine wpList_append_lies _ rfl (.tmp 7) (.tmp 8) 36 rfl B 5 i0 (.int .u8 0) 1 1 Tryd.underlying36 hi0 hz0 hz1 hz2 rfl (by decide) v bs.length (Lib.byteCells bs) rfl (World.ownsRow.alloc H.out _) ⟨w.heap.size, 0, none⟩ 1 1 [.int .u8 39] rfl rfl (one_lit 39 w) one_one (by omega) (by unfold maxLen; omega) (by omega) (by simp; omega) _ rfl (fun g cap w1 ho hg hx1 hx2 => ?_))
  have G1 := Lib.hid (H.out.grown hB hg)
  have O1 : Hid (Buf B w1 (.slice (some ⟨g, 0, none⟩) (bs.length + 1) cap) (bs ++ [39])) := Buf.append ho (by simp) (by rw [Lib.byteCells_append]; rfl)
  have hs1 : w.heap.size ≤ w1.heap.size := G1.out.1.size
  have K1 : Hid (OneK v bs.length w w1) := Lib.hid (OneK.grown hg)
  clear ho hg hx1 hx2
  go_loopw [0] (fun u wr => QRel B w1.heap.size w v bs s u wr) (fun _ wr => s.size - wr.iterPos w1.heap.size)
  case atStart =>
    refine ⟨0, s.size, bs ++ [39], World.ownsRow.alloc O1.out _, World.iter_heap w1 s 0, G1.out.1.alloc (by omega) _, G1.out.2.alloc _, by simp, by omega, by simp, by intro h; simp; omega, fun h D x h1 h2 => one_alloc (K1.out h D x h1 h2) _⟩
  case round =>
    obtain ⟨pos, fuel, acc, hI, hit, hbw, hok, hacc, hfu, hal, hac2, hone⟩ := hrel
    have hsz : w1.heap.size < wr.heap.size := (Array.getElem?_eq_some_iff.1 hit).1
    by_cases hp : pos < s.size
    · obtain ⟨hl, hc0, hst, hrr, hsl⟩ := at_place s pos hp
      have hpos := stL_pos (s.data.toList.drop pos)
      have hle := sgL_le (s.data.toList.drop pos)
      have hr := decode_le s pos
      have hnx0 : ∀ ty, (Instr.next (.pointer (some ⟨w1.heap.size, 0, none⟩)) true ty).run Tryd.prog wr = _ := fun ty => Lib.run_next_any_at wr (w1.heap.size) s pos ty hit hp
      rw [hst] at hnx0
      have hbr : ∀ W, Calls Tryd.prog 22 #[.int .i32 ((Utf8.decode s pos).1 : Int), .string (s.extract pos s.size)] W fun e w' => e = .returned (.bool (bareL (s.data.toList.drop pos))) ∧ W = w' := fun W => by
        have := bare_any (Utf8.decode s pos).1 (s.extract pos s.size) W hr
        rw [Lib.extract_to_end, hrr, bare_eq _ hl, ← hrr] at this
        exact this
      obtain ⟨f, rfl⟩ : ∃ f, fuel = f + 1 := ⟨fuel - 1, by omega⟩
      rw [quoteF_step _ _ hl] at hacc
      have henc := decodeL_enc (s.data.toList.drop pos)
      rw [← hrr] at henc
      have hdd : (s.data.toList.drop pos).drop (stL (s.data.toList.drop pos)) = s.data.toList.drop (pos + stL (s.data.toList.drop pos)) := by rw [List.drop_drop]
      rw [hdd] at hacc
      obtain ⟨L, hL⟩ : ∃ L, s.data.toList.drop pos = L := ⟨_, rfl⟩
      rw [hL] at hl hc0 hst hrr hsl hpos hle hnx0 hbr hacc henc hdd
      obtain ⟨r, hre⟩ : ∃ r, (Utf8.decode s pos).1 = r := ⟨_, rfl⟩
      rw [hre] at hr hnx0 hbr henc
      obtain ⟨W2, hW2⟩ : ∃ W, wr.iterAt w1.heap.size s (pos + stL L) = W := ⟨_, rfl⟩
      have HI2 : Hid (Buf B W2 u0 acc) := by rw [← hW2]; exact Buf.iterAt hI hit _
      have HIT : Hid (W2.heap[w1.heap.size]? = some (.stringIter s (pos + stL L))) := by rw [← hW2]; exact Lib.iterAt_heap wr _ s pos _ hit
      have HBW : Hid (Below B w W2) := by rw [← hW2]; exact Lib.below_iterAt hbw (by omega) _ _
      have HOK : Hid (Lib.OthersKept 5 none w W2) := by rw [← hW2]; exact kept_iterAt hok hbw.size hs1 _ _
      have HB2 : B ≤ W2.heap.size := Nat.le_trans hB HBW.out.size
      have HON : Hid (OneK v bs.length w W2) := by rw [← hW2]; exact Lib.hid fun h D x h1 h2 => one_iterAt (hone h D x h1 h2) hit _
      have HI3 := Lib.hid HI2.out.ne_one
      have HAC := Lib.hid hac2
      have hnx : ∀ ty, (Instr.next (.pointer (some ⟨w1.heap.size, 0, none⟩)) true ty).run Tryd.prog wr = .ok (.tuple #[.bool true, .int .i64 pos, .int .i32 r]) W2 := fun ty => by rw [hnx0, hW2]
      have HIP : Hid (wr.iterPos w1.heap.size = pos) := by show World.iterPos _ _ = _; simp only [World.iterPos, hit]
      have HC := Lib.hid hc0
      have HA := Lib.hid hacc
      have HE := Lib.hid henc
      clear hnx0 hacc hc0 hst hrr hdd hre hW2 hI hit hbw hok hL henc hl hac2 hone
      have hpp : (pos : Int) < s.size := by omega
      have fin : ∀ (u' : Value) (w3 : World) (new : List UInt8), (if bareL L then L.take (sgL L) else escL (L.getD 0 0)) = new → new.length ≤ 4 → Buf B w3 u' (acc ++ new) → Below B W2 w3 → Lib.OthersKept 5 none W2 w3 → OneK u0 acc.length W2 w3 → QRel B w1.heap.size w v bs s u' w3 ∧ w3.iterPos w1.heap.size = pos + stL L := by
        intro u' w3 new hn h4 h5 h6 h7 h9
        have h8 := kept_iter h7 HIT.out
        refine ⟨⟨pos + stL L, f, acc ++ new, h5, h8, HBW.out.trans h6, HOK.out.trans h7, ?_, by omega, by rw [List.length_append]; omega, by intro h; have := HAC.out h; rw [List.length_append]; omega, fun h D x h1 h2 => h9 (by have := HAC.out h; omega) D x (HON.out h D x h1 h2) (HI3.out (HAC.out h) (HON.out h D x h1 h2))⟩, ?_⟩
        · have := HA.out
          rw [hn, ← List.append_assoc] at this
          exact this
        · show World.iterPos _ _ = _
          simp only [World.iterPos, h8]
      have FIN := Lib.hid fin
      clear fin
      by_cases hb : bareL L = true
      · rw [hb] at hbr
        have HBB := Lib.hid hb
        clear hb
        go_wp2_with (go_at_call 22; refine (hbr _).mono ?_; rintro e w' ⟨rfl, rfl⟩)
        refine (appendRune_any B u0 acc (r : Int) (by omega) (by omega) W2 HI2.out (by omega) HB2).mono ?_
        rintro e w3 ⟨v', rfl, hb3, hbl3, hk3, hone3⟩
        have h0 : 0 < sgL L := by
          have := HBB.out
          unfold bareL at this
          simp at this
          omega
        rw [HE.out h0] at hb3
        have HF := Lib.hid (FIN.out v' w3 (L.take (sgL L)) (by rw [HBB.out]; rfl) (by rw [List.length_take]; omega) hb3 hbl3 hk3 hone3)
        clear hb3 hbl3 hk3 hone3 h0 hbr
        go_wp2
        go_roundw
        case rel => exact HF.out.1
        case measure => rw [HF.out.2, HIP.out]; omega
      · have hb : bareL L = false := by simpa using hb
        rw [hb] at hbr
        have HBB := Lib.hid hb
        clear hb
        go_wp2_with (go_at_call 22; refine (hbr _).mono ?_; rintro e w' ⟨rfl, rfl⟩)
        refine (putEscape_any B u0 acc s[pos] W2 HI2.out (by omega) HB2).mono ?_
        rintro e w3 ⟨v', rfl, hb3, hbl3, hk3, hone3⟩
        have HF := Lib.hid (FIN.out v' w3 (escL s[pos]) (by rw [HBB.out, HC.out]; rfl) (escL_len _) hb3 hbl3 hk3 hone3)
        clear hb3 hbl3 hk3 hone3 hbr
        go_wp2
        go_roundw
        case rel => exact HF.out.1
        case measure => rw [HF.out.2, HIP.out]; omega
    · have hnx : ∀ ty, (Instr.next (.pointer (some ⟨w1.heap.size, 0, none⟩)) true ty).run Tryd.prog wr = _ := fun ty => Lib.run_next_end_at wr (w1.heap.size) s pos ty hit hp
      have hacc2 : acc = bs ++ (39 :: quoteF s.size s.data.toList) := by
        rw [← hacc]
        have h2 : s.size = s.data.toList.length := by simp
        have : s.data.toList.drop pos = [] := List.drop_eq_nil_of_le (by omega)
        rw [this, quoteF_nil, List.append_nil]
      have HI := Lib.hid hI
      have HA := Lib.hid hacc2
      have HBW := Lib.hid hbw
      have HOK := Lib.hid hok
      have hQ : acc.length ≤ bs.length + 1 + 4 * s.size := by
        rw [hacc2, List.length_append, List.length_cons]
        have h3 := quoteF_len s.size s.data.toList
        have h2 : s.size = s.data.toList.length := by simp
        omega
      have HB2 : B ≤ wr.heap.size := Nat.le_trans hB hbw.size
      have HON := Lib.hid hone
      have HAC := Lib.hid hac2
      clear hI hacc hacc2 hbw hok hit hone hac2
      go_wp2_with (at_builtin; refine wpList_append_lies _ rfl (.tmp 29) (.tmp 30) 36 rfl B 5 i0 (.int .u8 0) 1 1 Tryd.underlying36 hi0 hz0 hz1 hz2 rfl (by decide) u0 acc.length (Lib.byteCells acc) rfl (World.ownsRow.alloc HI.out _) ⟨wr.heap.size, 0, none⟩ 1 1 [.int .u8 39] rfl rfl (one_lit 39 wr) one_one (by omega) (by unfold maxLen; omega) (by omega) (by simp; omega) _ rfl (fun g2 cap2 w3 ho hg hx3 hx4 => ?_))
      have G3 := Lib.hid (Buf.grown HI.out HB2 hg)
      have O3 : Hid (Buf B w3 (.slice (some ⟨g2, 0, none⟩) (acc.length + 1) cap2) (acc ++ [39])) := Buf.append ho (by simp) (by rw [Lib.byteCells_append]; rfl)
      have K3 : Hid (OneK u0 acc.length wr w3) := Lib.hid (OneK.grown hg)
      clear ho hg hx3 hx4
      go_wp2
      go_ret
      refine ⟨_, rfl, ?_, HBW.out.trans G3.out.1, HOK.out.trans G3.out.2, fun h D x h1 h2 => K3.out (by have := HAC.out h; omega) D x (HON.out h D x h1 h2) (HI.out.ne_one (HAC.out h) (HON.out h D x h1 h2))⟩
      have hq : bs ++ quoteL s.data.toList = acc ++ [39] := by
        rw [HA.out]
        have h2 : s.data.toList.length = s.size := by simp
        simp only [quoteL, h2, List.append_assoc, List.cons_append]
      rw [hq]
      exact O3.out
theorem str_eq {a b : ByteArray} (h : a = b) : Ending.returned (.string a) = .returned (.string b) := by rw [h]
theorem bytes_eq {a : ByteArray} {l : List UInt8} (h : a.data.toList = l) : a = ⟨l.toArray⟩ := by
  subst h; cases a; simp
/-- A row of the call's own as a text. -/
theorem conv_buf (B : Nat) (w : World) (v : Value) (bs : List UInt8) (h : Buf B w v bs) (ty : TypeId) (hty : Tryd.prog.underlying ty = some .string) :
    (convert 36 ty v).run Tryd.prog w = .ok (.string ⟨bs.toArray⟩) w := by
  rcases h.2 with ⟨rfl, hn⟩ | ⟨g, cap, cur, rfl, hb, hg, hl, hm, hc, ht⟩
  · have : bs = [] := List.length_eq_zero_iff.1 hn
    subst this
    exact Lib.run_convert_nil_bytes w 36 ty 5 0 Tryd.underlying36 Tryd.underlying5 hty
  · rw [Nat.mul_one] at ht
    exact run_convert_bytes_back w 36 ty 5 ⟨g, 0, none⟩ cap bs Tryd.underlying36 Tryd.underlying5 hty (Lib.bytes_of_row hg ht)
set_option maxRecDepth 100000 in
/-- A text in quotes. -/
theorem quote_any (s : ByteArray) (w : World) (hs : s.size ≤ 35184372088000) :
    Calls Tryd.prog 10 #[.string s] w fun e w' => e = .returned (.string ⟨(quoteL s.data.toList).toArray⟩) ∧ Below w.heap.size w w' ∧ Lib.OthersKept 5 none w w' := by
  have hp := Lib.hid (putQuoted_any w.heap.size (.slice none 0 0) [] s w (Buf.nil _ _) (by rw [List.length_nil]; omega) (Nat.le_refl _))
  clear hs
  go_enter Tryd.func10, Tryd.ntmps10
  go_wp2_with (go_at_call 26; refine hp.out.mono ?_; rintro e w1 ⟨v, rfl, hb, hbl, hk, _⟩)
  have hcv := conv_buf w.heap.size w1 v _ hb 9 Tryd.underlying9
  rw [List.nil_append] at hcv
  have HB := Lib.hid hbl
  have HK := Lib.hid hk
  clear hb hbl hk
  go_wp2
  rw [hcv]
  go_wp2
  go_ret
  exact ⟨rfl, HB.out, HK.out⟩
end Sh
end Go.Proofs.YtoaliaohbpdibaaDoor
