/- Frame: the small example of layer 7. -/
import Derived.Test.YtbejacmbbkdbnaaFrEnc
import Derived.Lib.SlBytesConst
namespace Go.Proofs.Ytbejacmbbkdbnaa
open Go.RowKit
set_option linter.unusedVariables false
set_option linter.unusedSimpArgs false
namespace Fr
/-- A load as a source of bytes. -/
theorem Lies.src {w : World} {g : Nat} {x : List UInt8} (h : Lies w g x) (X : Nat → Prop) (hX : ¬ X g) : Src w X (some ⟨g, 4, none⟩) x := fun _ => by
  have hlt := h.lt
  obtain ⟨cur, hc, hx⟩ := h
  refine ⟨⟨g, 4, none⟩, rfl, hlt, hX, fun j u hu => ?_⟩
  rw [← hx, List.getElem?_take] at hu
  split at hu
  · rw [List.getElem?_drop] at hu
    rw [Addr.add_lit, cell_of_row w g (4 + j) cur _ _ hc]
    simpa using hu
  · cases hu
theorem RowL.cellAt {b gL n c : Nat} {M N : Nat → Prop} {w : World} {L : List Ld} (h : RowL b M N w (.slice (some ⟨gL, 0, none⟩) n c) L) (i : Nat) (e : Ld) (he : L[i]? = some e) : w.cell? ⟨gL, i, none⟩ = some (headV e) := by
  have h1 := World.ownsRow.cells h.own (g := gL) rfl i (headV e) (by unfold heads; rw [List.getElem?_map, he]; rfl)
  rwa [Addr.add_lit, Nat.zero_add] at h1
theorem parse_example : told false ([] ++ [0, 0, 0, 1, 120, 0]) = ([[120]], false, [0]) := by decide
theorem enc_example : encB [97, 98] = [0, 0, 0, 2, 97, 98] := by decide
set_option maxHeartbeats 1000000 in
set_option maxRecDepth 100000 in
theorem works_any (w : World) : Calls Try.prog 10 #[] w fun e w' => e = .returned (.bool true) ∧ Below w.heap.size w w' := by
  have EC := Lib.hid (encode_any (some ⟨w.heap.size, 0, none⟩) 2 [97, 98] (fun _ => False) (w.alloc (.cells #[.int .u8 97, .int .u8 98] 5 (2, 3))) (lit_src w #[.int .u8 97, .int .u8 98] [97, 98] (fun _ => False) w.heap.size rfl rfl (fun f => f)) (by decide))
  have hcv := Lib.run_convert_bytes_const (P := Try.prog) w 22 5 #[.int .u8 97, .int .u8 98] 2 2 Try.underlying22 Try.underlying5
  simp only [List.size_toArray, List.length_cons, List.length_nil, Nat.zero_add] at hcv
  go_enter Try.func10, Try.ntmps10
  go_wp2_with fail
  refine EC.out.mono ?_
  rintro e w1 ⟨q1, n1, c1, rfl, hn1, hb1, hl1⟩
  rw [enc_example] at hn1 hb1
  have e1 : encE [97, 98] = 0 := by decide
  rw [e1]
  subst hn1
  have L1 : Below w.heap.size w w1 := ((Below.refl _ w).alloc (Nat.le_refl _) _).trans (hl1.mono (by simp))
  have HB1 := Lib.hid hb1
  have HL1 := Lib.hid L1
  clear hb1 hl1 L1 e1 hcv
  go_wp2_with fail
  refine (new_any w1).mono ?_
  rintro e w2 ⟨rfl, hw2⟩
  have hR2 : Rdr w.heap.size w2 w1.heap.size (.slice none 0 0) [] false := by rw [hw2]; exact Rdr.new w1 _ HL1.out.size
  have L2 : Below w.heap.size w w2 := by rw [hw2]; exact HL1.out.alloc HL1.out.size _
  have hk12 : Below w1.heap.size w1 w2 := by rw [hw2]; exact (Below.refl _ w1).alloc (Nat.le_refl _) _
  have hsz2 : w1.heap.size < w2.heap.size := hR2.lt
  have hcv := Lib.run_convert_bytes_const (P := Try.prog) w2 22 5 #[.int .u8 0, .int .u8 0, .int .u8 0, .int .u8 1, .int .u8 120, .int .u8 0] 6 6 Try.underlying22 Try.underlying5
  simp only [List.size_toArray, List.length_cons, List.length_nil, Nat.zero_add] at hcv
  have hR3 : Rdr w.heap.size (w2.alloc (.cells #[.int .u8 0, .int .u8 0, .int .u8 0, .int .u8 1, .int .u8 120, .int .u8 0] 5 (6, 7))) w1.heap.size (.slice none 0 0) [] false := hR2.keeps ((Keeps.refl (fun _ => False) w2).alloc _) (fun f => f) (fun _ _ f => f)
  have FC := Lib.hid (feed_any w.heap.size w1.heap.size (.slice none 0 0) [] [0, 0, 0, 1, 120, 0] false (some ⟨w2.heap.size, 0, none⟩) 6 _ hR3 (fun h => by cases h) (lit_src w2 #[.int .u8 0, .int .u8 0, .int .u8 0, .int .u8 1, .int .u8 120, .int .u8 0] [0, 0, 0, 1, 120, 0] (Ft w1.heap.size (.slice none 0 0)) w2.heap.size rfl rfl (fun f => f.elim (fun f => by omega) (fun f => by cases f))) (by decide) (by decide) .nil (L2.alloc L2.size _).size (by decide))
  rw [parse_example] at FC
  have HL2 := Lib.hid L2
  have HK12 := Lib.hid hk12
  have HSZ := Lib.hid hsz2
  clear hw2 hR2 L2 hk12 hR3 hsz2
  go_wp2_with fail
  refine FC.out.mono ?_
  rintro e w3 ⟨q3, n3, c3, L, hv3, rfl, hn3, hrow, hmap, hR3, -, hk3⟩
  have hlow3 : Below w.heap.size w w3 := (HL2.out.alloc HL2.out.size _).trans (hk3.below (fun k h => h.elim (fun e => by rw [e]; exact HL1.out.size) (fun e => by cases e)) (HL2.out.alloc HL2.out.size _).size)
  have hsz3 : w2.heap.size < w3.heap.size := by have := hk3.size; simp at this; omega
  obtain ⟨⟨g, cp, x⟩, rfl⟩ : ∃ e, L = [e] := by
    cases L with
    | nil => simp at hmap
    | cons e L => cases L with
      | nil => exact ⟨e, rfl⟩
      | cons e' L => simp at hmap
  simp only [List.map_cons, List.map_nil, List.cons.injEq, and_true] at hmap
  subst hmap
  simp only [List.length_cons, List.length_nil, Nat.zero_add] at hn3
  subst hn3
  obtain ⟨q', c', hq, -, -, hg⟩ := hrow.shape
  obtain ⟨gL, hgL⟩ := hg (by simp)
  injection hq with hq1 hq2 hq3
  rw [hgL] at hq1
  subst hq1
  have c0 := hrow.cellAt 0 _ rfl
  have hsrcL := (hrow.each _ (List.mem_singleton.2 rfl)).2.2.2.src (fun _ => False) (fun f => f)
  have hcx : (convert 22 9 (.slice (some ⟨g, 4, none⟩) 1 cp)).run Try.prog w3 = .ok (.string ⟨#[120]⟩) w3 := conv_src (c := cp) hsrcL (n := 1) rfl
  have hl13 : Below w1.heap.size w1 w3 := (HK12.out.alloc HK12.out.size _).trans (hk3.below (fun k h => h.elim (fun e => by omega) (fun e => by cases e)) (HK12.out.alloc HK12.out.size _).size)
  have hb3 := HB1.out.keeps (Keeps.of_below (X := fun _ => False) hl13) (fun _ _ f => f)
  have hcb : (convert 22 9 (.slice q1 6 c1)).run Try.prog w3 = .ok (.string ⟨#[0, 0, 0, 2, 97, 98]⟩) w3 := conv_src (c := c1) (hb3.src (X := fun _ => False) rfl (fun _ _ f => f)) (n := 6) rfl
  have HC := Lib.hid (held_any w.heap.size w1.heap.size hv3 [0] false w3 hR3)
  have HL3 := Lib.hid hlow3
  clear hrow hR3 hk3 hlow3 hsrcL hb3 hl13 hcv hq2 hq3 hg hgL hsz3
  unfold headV at c0
  go_wp2_with fail
  refine HC.out.mono ?_
  rintro e w4 ⟨rfl, rfl⟩
  go_wp2
  go_ret
  exact ⟨rfl, HL3.out⟩
end Fr
end Go.Proofs.Ytbejacmbbkdbnaa
