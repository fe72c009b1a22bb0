/- Show: null as a text, and the small example of layer 5. -/
import Derived.Test.YtoaliaohbpdibaaDoorShName
import Derived.Test.YtoaliaohbpdibaaDoorShUnq
import Derived.Lib.AppendStr
import Derived.LoopN
namespace Go.Proofs.YtoaliaohbpdibaaDoor
open Go.RowKit
set_option linter.unusedVariables false
set_option linter.unusedSimpArgs false
namespace Sh
def nullV : Value := .agg #[.int .i64 0, .bool false, .int .i64 0, .string ⟨#[]⟩, .slice none 0 0, .slice none 0 0]
set_option maxHeartbeats 2000000 in
set_option maxRecDepth 100000 in
theorem bounded_null (b : Nat) (w : World) (h : w.cell? ⟨b, 0, none⟩ = some (.int .i64 4096)) (hf : w.frozen? ⟨b, 0, none⟩ = false) :
    Calls Tryd.prog 33 #[.agg #[.int .i64 0, .bool false, .int .i64 0, .string ⟨#[]⟩, .slice none 0 0, .slice none 0 0], .pointer (some ⟨b, 0, none⟩)] w fun e w' => e = .returned (.bool true) ∧ Below b w w' := by
  have hb := World.block_lt_of_cell? _ _ h
  go_enter Tryd.func33, Tryd.ntmps33
  go_wp2
  refine wp_loop_rounds 1 ?_
  rw [rounds_succ]
  go_wp2
  go_ret
  exact ⟨rfl, ((Below.refl b w).setCell (Nat.le_refl _) _).alloc (by simp; omega) _⟩
set_option maxHeartbeats 2000000 in
set_option maxRecDepth 100000 in
theorem put_nil0 (w : World) :
    Calls Tryd.prog 34 #[.slice none 0 0, .agg #[.int .i64 0, .bool false, .int .i64 0, .string ⟨#[]⟩, .slice none 0 0, .slice none 0 0]] w fun e w' => RowPost w.heap.size w (.slice none 0 0) 0 [110, 117, 108, 108] e w' := by
  obtain ⟨i0, hi0, hz0, hz1, hz2⟩ := info_parts infoB
  go_enter Tryd.func34, Tryd.ntmps34
  go_wp2_with (at_builtin; refine Lib.wpList_append_own_string _ rfl _ _ 36 9 rfl w.heap.size 5 i0 Tryd.underlying36 Tryd.underlying9 hi0 hz0 hz1 hz2 (.slice none 0 0) 0 [] rfl (World.ownsRow_nil _ _ _ _) ⟨#[110, 117, 108, 108]⟩ rfl (by decide) (by decide) (by simp) (fun v' w1 ho hg hx => ?_))
  have hB : Below w.heap.size w w1 := ((Below.refl _ w).alloc (Nat.le_refl _) _).grown hg (by simp) (fun k hk => by cases hk)
  have hK : Lib.OthersKept 5 none w w1 := kept_below _ hB
  have HO : Hid (Buf w.heap.size w1 v' [110, 117, 108, 108]) := ho
  have HB := Lib.hid hB
  have HK := Lib.hid hK
  clear hB hK ho hg hx
  go_wp2
  go_ret
  exact ⟨_, rfl, HO.out, HB.out, HK.out, fun h => absurd h (by omega)⟩
set_option maxHeartbeats 2000000 in
set_option maxRecDepth 100000 in
theorem show_null (w : World) :
    Calls Tryd.prog 18 #[.agg #[.int .i64 0, .bool false, .int .i64 0, .string ⟨#[]⟩, .slice none 0 0, .slice none 0 0]] w fun e w' => e = .returned (.string ⟨#[110, 117, 108, 108]⟩) ∧ Below w.heap.size w w' := by
  go_enter Tryd.func18, Tryd.ntmps18
  go_wp2_with fail
  refine (bounded_null (w.heap.size + 1) _ (by go_simp) (by go_simp)).mono ?_
  rintro e w1 ⟨rfl, hb⟩
  have hz : w.heap.size + 1 < w1.heap.size := by have := hb.size; simp at this; omega
  have hc : ∀ o, w1.cell? ⟨w.heap.size, o, none⟩ = (#[Value.int .i64 0, .bool false, .int .i64 0, .string ⟨#[]⟩, .slice none 0 0, .slice none 0 0] : Array Value)[o]? := fun o => by
    rw [hb.cell (p := ⟨w.heap.size, o, none⟩) (by simp)]
    simp
  have h0 := hc 0
  have h1 := hc 1
  have h2 := hc 2
  have h3 := hc 3
  have h4 := hc 4
  have h5 := hc 5
  simp at h0 h1 h2 h3 h4 h5
  have HB := Lib.hid hb
  clear hb hc
  go_wp2_with fail
  refine (put_nil0 w1).mono ?_
  rintro e w2 ⟨v, rfl, hb2, hbl2, hk2, _⟩
  have hcv := conv_buf w1.heap.size w2 v _ hb2 9 Tryd.underlying9
  have HB2 := Lib.hid hbl2
  clear h0 h1 h2 h3 h4 h5 hb2 hbl2 hk2
  go_wp2
  go_ret
  refine ⟨rfl, Below.trans ?_ (HB2.out.mono (by omega))⟩
  exact (((Below.refl _ w).alloc (Nat.le_refl _) _).alloc (by simp) _).trans (HB.out.mono (by omega))
set_option maxHeartbeats 2000000 in
set_option maxRecDepth 100000 in
/-- The small example of layer 5 comes out true. -/
theorem works_any (w : World) (hE : Err w) : Calls Tryd.prog 16 #[] w (NPost w true) := by
  have HE := Lib.hid hE
  clear hE
  have u1 : unqL [39, 97, 92, 120, 48, 48, 39] = some [97, 0] := by decide +kernel
  have q1 : quoteL [97, 39, 10] = [39, 97, 92, 39, 92, 110, 39] := by decide +kernel
  have n1 : nameL [97, 95, 49] = true := by decide +kernel
  have n2 : nameL [49, 97] = false := by decide +kernel
  have U := Lib.hid (fun V hV => unquote_any ⟨#[39, 97, 92, 120, 48, 48, 39]⟩ V (by decide) hV)
  have Q := Lib.hid (fun V => quote_any ⟨#[97, 39, 10]⟩ V (by decide))
  have N1 := Lib.hid (fun V => name_any ⟨#[97, 95, 49]⟩ V (by decide))
  have N2 := Lib.hid (fun V => name_any ⟨#[49, 97]⟩ V (by decide))
  rw [show (⟨#[39, 97, 92, 120, 48, 48, 39]⟩ : ByteArray).data.toList = [39, 97, 92, 120, 48, 48, 39] from rfl, u1] at U
  rw [show (⟨#[97, 39, 10]⟩ : ByteArray).data.toList = [97, 39, 10] from rfl, q1] at Q
  rw [show (⟨#[97, 95, 49]⟩ : ByteArray).data.toList = [97, 95, 49] from rfl, n1] at N1
  rw [show (⟨#[49, 97]⟩ : ByteArray).data.toList = [49, 97] from rfl, n2] at N2
  clear u1 q1 n1 n2
  go_enter Tryd.func16, Tryd.ntmps16
  go_wp2_with fail
  refine (U.out _ HE.out).mono ?_
  rintro e w1 ⟨rfl, hb1, _⟩
  have HB1 := Lib.hid hb1
  clear hb1
  simp only [unqT]
  go_wp2_with fail
  refine (Q.out _).mono ?_
  rintro e w2 ⟨rfl, hb2, _⟩
  have HB2 := Lib.hid (HB1.out.trans (hb2.mono HB1.out.size))
  clear hb2
  go_wp2_with fail
  refine (show_null _).mono ?_
  rintro e w3 ⟨rfl, hb3⟩
  have HB3 := Lib.hid (HB2.out.trans (hb3.mono HB2.out.size))
  clear hb3
  go_wp2_with fail
  refine (N1.out _).mono ?_
  rintro e w4 ⟨rfl, hb4⟩
  have HB4 := Lib.hid (HB3.out.trans (hb4.mono HB3.out.size))
  clear hb4
  go_wp2_with fail
  refine (N2.out _).mono ?_
  rintro e w5 ⟨rfl, hb5⟩
  have HB5 := Lib.hid (HB4.out.trans (hb5.mono HB4.out.size))
  clear hb5
  go_wp2_with fail
  go_ret
  exact ⟨rfl, HB5.out⟩
end Sh
end Go.Proofs.YtoaliaohbpdibaaDoor
