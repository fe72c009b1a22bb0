/- Show: a byte's escape is written behind. -/
import Derived.Test.YtoaliaohbpdibaaDoorShBase
import Derived.Laws.BitsLemmas
namespace Go.Proofs.YtoaliaohbpdibaaDoor
open Go.RowKit
set_option linter.unusedVariables false
set_option linter.unusedSimpArgs false
namespace Sh
theorem index_lettered (c : UInt8) (h1 : c ≠ 92) (h2 : c ≠ 39) (h3 : c ≠ 10) (h4 : c ≠ 9) (h5 : c ≠ 13) : Lib.indexByte [92, 39, 10, 9, 13] c = -1 := by
  simp [Lib.indexByte, Ne.symm h1, Ne.symm h2, Ne.symm h3, Ne.symm h4, Ne.symm h5]
theorem two_one {a b : Int} : ∀ u ∈ ([Value.int .u8 a, .int .u8 b] : List Value), u.oneCell' = true := by
  intro u hu; simp at hu; rcases hu with rfl | rfl <;> rfl
theorem two_lits (B : Nat) (a b : Int) (w : World) : ∀ j u, ([Value.int .u8 a, .int .u8 b] : List Value)[j]? = some u → (w.alloc (.cells #[.int .u8 a, .int .u8 b] 5)).cell? ((⟨w.heap.size, 0, none⟩ : Addr).add j) = some u := by
  intro j u hj
  match j, hj with
  | 0, hj => simp at hj; subst hj; simp [Addr.add]
  | 1, hj => simp at hj; subst hj; simp [Addr.add]
  | (j + 2), hj => simp at hj
set_option maxRecDepth 100000 in
theorem lettered_any (B : Nat) (v : Value) (bs : List UInt8) (c l : UInt8) (w : World) (h : Buf B w v bs) (hlen : bs.length + 4 ≤ 140737488355328) (hB : B ≤ w.heap.size)
    (i : Nat) (hi5 : i < 5) (hi : Lib.indexByte [92, 39, 10, 9, 13] c = i) (hl : (⟨#[92, 39, 110, 116, 114]⟩ : ByteArray).data.toList.getD i 0 = l) (he : escL c = [92, l]) :
    Calls Tryd.prog 44 #[v, .int .u8 (c.toNat : Int)] w fun e w' => RowPost B w v bs.length (bs ++ escL c) e w' := by
  obtain ⟨i0, hi0, hz0, hz1, hz2⟩ := info_parts infoB
  rw [he]
  have HE := Lib.hid he
  have H := Lib.hid h
  have HI := fun V => (Tryd.strings_IndexByte ⟨#[92, 39, 10, 9, 13]⟩ (c.toNat : Int) V).mono fun _ _ h => And.intro h.1 h.2.symm
  have hc : ((c.toNat : Int).toNat.toUInt8) = c := by simp
  rw [hc] at HI
  rw [show (⟨#[92, 39, 10, 9, 13]⟩ : ByteArray).data.toList = [92, 39, 10, 9, 13] from rfl, hi] at HI
  clear hc he h hi
  have hi6 : (i : Int) < 5 := by omega
  have hi7 : 0 ≤ (i : Int) ∧ (i : Int) < 5 := by omega
  have HL := Lib.hid hl
  clear hl
  go_enter Tryd.func44, Tryd.ntmps44
  go_wp2_with (first | (go_at_call 41; refine (HI _).mono ?_; rintro e w' ⟨rfl, rfl⟩) | (at_builtin; go_loud (refine wpList_append_lies _ rfl _ _ 36 rfl B 5 i0 (.int .u8 0) 1 1 Tryd.underlying36 hi0 hz0 hz1 hz2 rfl (by decide) v bs.length (Lib.byteCells bs) rfl (World.ownsRow.alloc H.out _) ⟨w.heap.size, 0, none⟩ 2 2 [.int .u8 92, _] rfl rfl (two_lits B _ _ w) two_one (by omega) (by unfold maxLen; omega) (by omega) (by simp; omega) _ rfl (fun g cap w2 ho hg _ _ => ?_))))
  go_ret
  refine ⟨_, rfl, Buf.append ho (by simp) ?_, (H.out.grown hB hg).1, (H.out.grown hB hg).2, OneK.grown hg⟩
  rw [Lib.byteCells_append]
  have h5 : i = 0 ∨ i = 1 ∨ i = 2 ∨ i = 3 ∨ i = 4 := by omega
  rw [← HL.out]
  rcases h5 with rfl | rfl | rfl | rfl | rfl <;> rfl
theorem four_lits (a b c d : Int) (w : World) : ∀ j u, ([Value.int .u8 a, .int .u8 b, .int .u8 c, .int .u8 d] : List Value)[j]? = some u → (w.alloc (.cells #[.int .u8 a, .int .u8 b, .int .u8 c, .int .u8 d] 5)).cell? ((⟨w.heap.size, 0, none⟩ : Addr).add j) = some u := by
  intro j u hj
  match j, hj with
  | 0, hj => simp at hj; subst hj; simp [Addr.add]
  | 1, hj => simp at hj; subst hj; simp [Addr.add]
  | 2, hj => simp at hj; subst hj; simp [Addr.add]
  | 3, hj => simp at hj; subst hj; simp [Addr.add]
  | (j + 4), hj => simp at hj
theorem four_one {a b c d : Int} : ∀ u ∈ ([Value.int .u8 a, .int .u8 b, .int .u8 c, .int .u8 d] : List Value), u.oneCell' = true := by
  intro u hu; simp at hu; rcases hu with rfl | rfl | rfl | rfl <;> rfl
def hexes : ByteArray := ⟨#[48, 49, 50, 51, 52, 53, 54, 55, 56, 57, 97, 98, 99, 100, 101, 102]⟩
theorem hex_at (n : Nat) (hn : n < 16) (z : Int) (hz : z = n) (h : z.toNat < (ByteArray.mk #[48, 49, 50, 51, 52, 53, 54, 55, 56, 57, 97, 98, 99, 100, 101, 102]).size) : (ByteArray.mk #[48, 49, 50, 51, 52, 53, 54, 55, 56, 57, 97, 98, 99, 100, 101, 102])[z.toNat]'h = hx n := by
  subst hz
  have h16 : n = 0 ∨ n = 1 ∨ n = 2 ∨ n = 3 ∨ n = 4 ∨ n = 5 ∨ n = 6 ∨ n = 7 ∨ n = 8 ∨ n = 9 ∨ n = 10 ∨ n = 11 ∨ n = 12 ∨ n = 13 ∨ n = 14 ∨ n = 15 := by omega
  clear hn
  rcases h16 with rfl | rfl | rfl | rfl | rfl | rfl | rfl | rfl | rfl | rfl | rfl | rfl | rfl | rfl | rfl | rfl <;> rfl
set_option maxHeartbeats 1000000 in
set_option maxRecDepth 100000 in
theorem hexed_any (B : Nat) (v : Value) (bs : List UInt8) (c : UInt8) (w : World) (h : Buf B w v bs) (hlen : bs.length + 4 ≤ 140737488355328) (hB : B ≤ w.heap.size)
    (hi : Lib.indexByte [92, 39, 10, 9, 13] c = -1) (he : escL c = [92, 120, hx (c.toNat / 16), hx (c.toNat % 16)]) :
    Calls Tryd.prog 44 #[v, .int .u8 (c.toNat : Int)] w fun e w' => RowPost B w v bs.length (bs ++ escL c) e w' := by
  obtain ⟨i0, hi0, hz0, hz1, hz2⟩ := info_parts infoB
  rw [he]
  have HE := Lib.hid he
  have H := Lib.hid h
  have HI := fun V => (Tryd.strings_IndexByte ⟨#[92, 39, 10, 9, 13]⟩ (c.toNat : Int) V).mono fun _ _ h => And.intro h.1 h.2.symm
  have hc : ((c.toNat : Int).toNat.toUInt8) = c := by simp
  rw [hc] at HI
  rw [show (⟨#[92, 39, 10, 9, 13]⟩ : ByteArray).data.toList = [92, 39, 10, 9, 13] from rfl, hi] at HI
  have hc2 := u8_lt c
  clear hc he h hi
  obtain ⟨n, hn⟩ : ∃ n, c.toNat = n := ⟨_, rfl⟩
  rw [hn] at HI hc2 HE ⊢
  have HN := Lib.hid hn
  clear hn
  have hx1 := fun h => hex_at (n / 16) (by omega) ((n : Int) / 16) (by omega) h
  have hx2 := fun h => hex_at (n % 16) (by omega) ((n : Int) % 16) (by omega) h
  have HX1 := Lib.hid hx1
  have HX2 := Lib.hid hx2
  clear HE hx1 hx2
  have hb1 : 0 ≤ (n : Int) / 16 ∧ (n : Int) / 16 < 16 := by omega
  have hb2 : 0 ≤ (n : Int) % 16 ∧ (n : Int) % 16 < 16 := by omega
  have hand : bits .and .u8 (n : Int) 15 = (n : Int) % 16 := u8_and15 _ (by omega) (by omega)
  go_enter Tryd.func44, Tryd.ntmps44
  go_upto_region 4 with (go_at_call 41; refine (HI _).mono ?_; rintro e w' ⟨rfl, rfl⟩)
  go_region_law (refine step_append_lies _ rfl (.tmp 15) (.tmp 22) 36 rfl B 5 i0 (.int .u8 0) 1 1 Tryd.underlying36 hi0 hz0 hz1 hz2 rfl (by decide) v bs.length (Lib.byteCells bs) rfl (World.ownsRow.alloc (w := w.drew) H.out _) ⟨w.heap.size, 0, none⟩ 4 4 [.int .u8 92, .int .u8 120, _, _] rfl rfl (four_lits _ _ _ _ _) four_one (by omega) (by unfold maxLen; omega) (by omega) (by simp; omega) _ rfl (fun g cap w' ho hg _ _ => ?_))
  all_goals
    go_wp2
    go_ret
    refine ⟨_, rfl, Buf.append ho (by simp) ?_, (Below.refl B w).drew.trans (H.out.grown (w := w.drew) hB hg).1, (H.out.grown (w := w.drew) hB hg).2, OneK.grown (w := w.drew) hg⟩
    rw [Lib.byteCells_append, HX1.out, HX2.out]
    rfl
/-- A byte's escape is written behind. -/
theorem putEscape_any (B : Nat) (v : Value) (bs : List UInt8) (c : UInt8) (w : World) (h : Buf B w v bs) (hlen : bs.length + 4 ≤ 140737488355328) (hB : B ≤ w.heap.size) :
    Calls Tryd.prog 44 #[v, .int .u8 (c.toNat : Int)] w fun e w' => RowPost B w v bs.length (bs ++ escL c) e w' := by
  by_cases h1 : c = 92
  · subst h1; exact lettered_any B v bs 92 92 w h hlen hB 0 (by omega) rfl rfl rfl
  by_cases h2 : c = 39
  · subst h2; exact lettered_any B v bs 39 39 w h hlen hB 1 (by omega) rfl rfl rfl
  by_cases h3 : c = 10
  · subst h3; exact lettered_any B v bs 10 110 w h hlen hB 2 (by omega) rfl rfl rfl
  by_cases h4 : c = 9
  · subst h4; exact lettered_any B v bs 9 116 w h hlen hB 3 (by omega) rfl rfl rfl
  by_cases h5 : c = 13
  · subst h5; exact lettered_any B v bs 13 114 w h hlen hB 4 (by omega) rfl rfl rfl
  exact hexed_any B v bs c w h hlen hB (index_lettered c h1 h2 h3 h4 h5) (by unfold escL; rw [if_neg h1, if_neg h2, if_neg h3, if_neg h4, if_neg h5])
end Sh
end Go.Proofs.YtoaliaohbpdibaaDoor
