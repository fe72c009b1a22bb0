/- The law PackReads: its walk. -/
import Derived.Test.YtmhlipncelgmlaaPkRefW
import Derived.Test.YtmhlipncelgmlaaPkBackL
namespace Go.Proofs.Ytmhlipncelgmlaa
open Go.RowKit
set_option linter.unusedVariables false
set_option linter.unusedSimpArgs false
namespace Pk
open Val (VT Keeps Box okN okNL szV szL szK mayB sameV)
open Rk (Buf Sk goodV goodL ba_len)
set_option maxRecDepth 100000 in
set_option maxHeartbeats 4000000 in
theorem packReads_any (l : List UInt8) (a : Option Addr) (c : Nat) (w : World) (hle : l.length ≤ c) (hcm : c ≤ maxLen) (hs : Fr.Src w (fun _ => False) a l) (hll : l.length ≤ 140737488355328) :
    Calls Try.prog 4 #[.slice a l.length c] w fun e w' => e = .returned (.bool true) ∧ Below w.heap.size w w' := by
  have hc2 : c ≤ 9223372036854775807 := by unfold maxLen at hcm; omega
  clear hcm
  obtain ⟨L, hL⟩ : ∃ L, l.length = L := ⟨_, rfl⟩
  have HL := Lib.hid hL
  have HLB : Hid ((L : Int) ≤ 140737488355328) := Lib.hid (by omega)
  cases hp : parseV 32 0 l with
  | error x =>
    have HD : Hid (∀ (q : Option Addr) (c2 : Nat) (V : World), Fr.Src V (fun _ => False) q l → l.length ≤ c2 → c2 ≤ 9223372036854775807 → Calls Try.prog 18 #[.slice q L c2] V fun e w' => e = .returned (.tuple #[.agg #[.int .i64 0, .bool false, .int .i64 0, .string ⟨#[]⟩, .slice none 0 0, .slice none 0 0], .int .i64 0, .int .i64 x]) ∧ Below V.heap.size V w') := Lib.hid fun q c2 V h1 h2 h3 => by
      have := decode_no q c2 l x V h1 h2 h3 hp
      rwa [hL] at this
    have HR : Hid (∀ V, Data V a c L l → Calls Try.prog 19 #[.slice a L c] V fun e w' => e = .returned (.tuple #[.agg #[.int .i64 0, .bool false, .int .i64 0, .string ⟨#[]⟩, .slice none 0 0, .slice none 0 0], .int .i64 0, .int .i64 x]) ∧ Below V.heap.size V w') := Lib.hid fun V h => by
      refine (refDecode_any a c L l V h).mono fun e w' g => ?_
      unfold RefDec at g
      rw [hp] at g
      exact ⟨g.2, g.1⟩
    rw [hL] at hle ⊢
    have hb1 : Below w.heap.size w (w.alloc (.cells #[] 5)) := (Below.refl _ w).alloc (Nat.le_refl _) _
    have HB1 := Lib.hid hb1
    have HSRC1 := Lib.hid (src_below hs hb1)
    have HSR := Lib.hid hs
    have HLE := Lib.hid hle
    clear hs hle hc2 hp hL hll hb1
    go_enter Try.func4, Try.ntmps4
    go_wp2_with (at_builtin; go_must (refine Fr.wpList_append_src rfl (.tmp 10) (.tmp 11) rfl w.heap.size (fun _ => False) _ [] l a L c L rfl rfl HL.out.symm (empty_buf w) HSRC1.out (by have := HLB.out; have := HL.out; simp only [List.length_nil]; omega) (by simp) (by rw [HL.out]; simp) (fun q2 c2 w3 hb3 hg3 _ => ?_)); have L3 : Below w.heap.size w w3 := HB1.out.grown hg3 (by simp) (fun k hk => by have := (empty_buf w).lt k hk; omega); have HB3 := Lib.hid hb3; have HL3 := Lib.hid L3; clear hb3 hg3 L3)
    have HS3 : Hid (OneS w w.heap.size (.slice q2 L c2) l a l w3) := Lib.hid ⟨HL3.out, HB3.out, src_below HSR.out HL3.out⟩
    obtain ⟨e1, e2, e3, e4⟩ := buf_src (show Buf _ w3 (.slice q2 L c2) l from HB3.out)
    have HDEC := Lib.hid (HD.out q2 c2 w3 e4 e2 e3)
    clear e1 e2 e3 e4
    refine HDEC.out.mono ?_
    rintro e w5 ⟨rfl, h1⟩
    have HS5 := Lib.hid (HS3.out.step h1)
    have hb6 : Below w5.heap.size w5 (w5.alloc (.cells #[.int .i64 0, .bool false, .int .i64 0, .string ⟨#[]⟩, .slice none 0 0, .slice none 0 0] 25)) := (Below.refl _ w5).alloc (Nat.le_refl _) _
    have HS6 := Lib.hid (HS5.out.step hb6)
    have HB6 := Lib.hid hb6
    have hbx := Box.new w5 #[.int .i64 0, .bool false, .int .i64 0, .string ⟨#[]⟩, .slice none 0 0, .slice none 0 0]
    have HBX := Lib.hid hbx
    have HREF := Lib.hid (HR.out _ (by have := data_of HS6.out.src (by rw [HL.out]; exact HLE.out) (by have := HLB.out; rw [HL.out]; omega); rwa [HL.out] at this))
    clear h1 hb6 hbx
    go_wp2_with fail
    refine HREF.out.mono ?_
    rintro e w7 ⟨rfl, h7⟩
    have HS7 := Lib.hid (HS6.out.step h7)
    have hb8 : Below w7.heap.size w7 (w7.alloc (.cells #[.int .i64 0, .bool false, .int .i64 0, .string ⟨#[]⟩, .slice none 0 0, .slice none 0 0] 25)) := (Below.refl _ w7).alloc (Nat.le_refl _) _
    have HS8 := Lib.hid (HS7.out.step hb8)
    have hbx : Box (w7.alloc (.cells #[.int .i64 0, .bool false, .int .i64 0, .string ⟨#[]⟩, .slice none 0 0, .slice none 0 0] 25)) w5.heap.size #[.int .i64 0, .bool false, .int .i64 0, .string ⟨#[]⟩, .slice none 0 0, .slice none 0 0] := ((h7.trans (hb8.mono h7.size)).block _ HBX.out.lt).trans HBX.out
    obtain ⟨b0, b1, b2, b3, b4, b5⟩ := hbx.cell
    obtain ⟨t0, t1, t2, t3, t4, t5⟩ := (Box.new w7 #[.int .i64 0, .bool false, .int .i64 0, .string ⟨#[]⟩, .slice none 0 0, .slice none 0 0]).cell
    have hsm := Val.same_any (VT.mk 0 false 0 ⟨#[]⟩ [] []).parts (.mk 0 false 0 ⟨#[]⟩ [] []) (.mk 0 false 0 ⟨#[]⟩ [] []) _ _ w7.heap.size _ (Nat.le_refl _) (leaf_in 0 false 0 ⟨#[]⟩ w7.heap.size (w7.alloc (.cells #[.int .i64 0, .bool false, .int .i64 0, .string ⟨#[]⟩, .slice none 0 0, .slice none 0 0] 25))) (leaf_in 0 false 0 ⟨#[]⟩ w7.heap.size _) hb8.size
    rw [same_refl] at hsm
    have HSM := Lib.hid hsm
    clear hsm h7 hb8 hbx
    go_wp2_with fail
    refine HSM.out.mono ?_
    rintro e w9 ⟨rfl, h9⟩
    have HS9 := Lib.hid (HS8.out.step h9)
    clear h9 b0 b1 b2 b3 b4 b5 t0 t1 t2 t3 t4 t5
    obtain ⟨z, hz⟩ : ∃ q : ByteArray, (⟨l.toArray⟩ : ByteArray) = q := ⟨_, rfl⟩
    have hcv := conv_buf _ w9 _ l HS9.out.buf 9 Try.underlying9
    have hcw := conv_src (c := c) HS9.out.src HL.out
    rw [hz] at hcv
    rw [show baOf l = z from hz] at hcw
    clear hz
    go_wp2_with fail
    refine (works_any _).mono ?_
    rintro e w10 ⟨rfl, hF⟩
    have HF := Lib.hid (HS9.out.low.trans (hF.mono HS9.out.low.size))
    clear hF hcv hcw
    go_wp2
    go_ret
    exact ⟨rfl, HF.out⟩
  | ok x =>
    obtain ⟨t, p2, r⟩ := x
    obtain ⟨n, hn⟩ : ∃ n : Int, (L : Int) - (r.length : Int) = n := ⟨_, rfl⟩
    have HD : Hid (∀ (q : Option Addr) (c2 : Nat) (V : World), Fr.Src V (fun _ => False) q l → l.length ≤ c2 → c2 ≤ 9223372036854775807 → Calls Try.prog 18 #[.slice q L c2] V fun e w' => ∃ v, e = .returned (.tuple #[v, .int .i64 n, .int .i64 0]) ∧ VT.Own w' t (Made V w') v ∧ Below V.heap.size V w') := Lib.hid fun q c2 V h1 h2 h3 => by
      have := decode_ok q c2 l r t p2 V h1 h2 h3 hp
      rwa [hL, hn] at this
    have HR : Hid (∀ V, Data V a c L l → Calls Try.prog 19 #[.slice a L c] V fun e w' => ∃ v, e = .returned (.tuple #[v, .int .i64 n, .int .i64 0]) ∧ VT.Own w' t (Made V w') v ∧ Below V.heap.size V w') := Lib.hid fun V h => by
      refine (refDecode_any a c L l V h).mono fun e w' g => ?_
      unfold RefDec at g
      rw [hp] at g
      obtain ⟨g1, v, g2, g3⟩ := g
      simp only at g2
      rw [hn] at g2
      exact ⟨v, g2, g3, g1⟩
    clear hn
    rw [hL] at hle ⊢
    have hb1 : Below w.heap.size w (w.alloc (.cells #[] 5)) := (Below.refl _ w).alloc (Nat.le_refl _) _
    have HB1 := Lib.hid hb1
    have HSRC1 := Lib.hid (src_below hs hb1)
    have HSR := Lib.hid hs
    have HLE := Lib.hid hle
    clear hs hle hc2 hp hL hll hb1
    go_enter Try.func4, Try.ntmps4
    go_wp2_with (at_builtin; go_must (refine Fr.wpList_append_src rfl (.tmp 10) (.tmp 11) rfl w.heap.size (fun _ => False) _ [] l a L c L rfl rfl HL.out.symm (empty_buf w) HSRC1.out (by have := HLB.out; have := HL.out; simp only [List.length_nil]; omega) (by simp) (by rw [HL.out]; simp) (fun q2 c2 w3 hb3 hg3 _ => ?_)); have L3 : Below w.heap.size w w3 := HB1.out.grown hg3 (by simp) (fun k hk => by have := (empty_buf w).lt k hk; omega); have HB3 := Lib.hid hb3; have HL3 := Lib.hid L3; clear hb3 hg3 L3)
    have HS3 : Hid (OneS w w.heap.size (.slice q2 L c2) l a l w3) := Lib.hid ⟨HL3.out, HB3.out, src_below HSR.out HL3.out⟩
    obtain ⟨e1, e2, e3, e4⟩ := buf_src (show Buf _ w3 (.slice q2 L c2) l from HB3.out)
    have HDEC := Lib.hid (HD.out q2 c2 w3 e4 e2 e3)
    clear e1 e2 e3 e4
    refine HDEC.out.mono ?_
    rintro e w5 ⟨v, rfl, hown, h1⟩
    obtain ⟨yk, yb, yn, ys, ypl, ynl, ycl, ypk, ynk, yck, rfl⟩ := hown.shape
    have HI5 := Lib.hid (own_in hown)
    clear hown
    have HS5 := Lib.hid (HS3.out.step h1)
    have hb6 : Below w5.heap.size w5 (w5.alloc (.cells #[.int .i64 yk, .bool yb, .int .i64 yn, .string ys, .slice ypl ynl ycl, .slice ypk ynk yck] 25)) := (Below.refl _ w5).alloc (Nat.le_refl _) _
    have HS6 := Lib.hid (HS5.out.step hb6)
    have HB6 := Lib.hid hb6
    have hbx := Box.new w5 #[.int .i64 yk, .bool yb, .int .i64 yn, .string ys, .slice ypl ynl ycl, .slice ypk ynk yck]
    have HBX := Lib.hid hbx
    have HREF := Lib.hid (HR.out _ (by have := data_of HS6.out.src (by rw [HL.out]; exact HLE.out) (by have := HLB.out; rw [HL.out]; omega); rwa [HL.out] at this))
    clear h1 hb6 hbx
    go_wp2_with fail
    refine HREF.out.mono ?_
    rintro e w7 ⟨v, rfl, hown, h7⟩
    obtain ⟨uk, ub, un, us, upl, unl, ucl, upk, unk, uck, rfl⟩ := hown.shape
    have HI7 := Lib.hid (own_in hown)
    clear hown
    have HS7 := Lib.hid (HS6.out.step h7)
    have hb8 : Below w7.heap.size w7 (w7.alloc (.cells #[.int .i64 uk, .bool ub, .int .i64 un, .string us, .slice upl unl ucl, .slice upk unk uck] 25)) := (Below.refl _ w7).alloc (Nat.le_refl _) _
    have HS8 := Lib.hid (HS7.out.step hb8)
    have hbx : Box (w7.alloc (.cells #[.int .i64 uk, .bool ub, .int .i64 un, .string us, .slice upl unl ucl, .slice upk unk uck] 25)) w5.heap.size #[.int .i64 yk, .bool yb, .int .i64 yn, .string ys, .slice ypl ynl ycl, .slice ypk ynk yck] := ((h7.trans (hb8.mono h7.size)).block _ HBX.out.lt).trans HBX.out
    obtain ⟨b0, b1, b2, b3, b4, b5⟩ := hbx.cell
    obtain ⟨t0, t1, t2, t3, t4, t5⟩ := (Box.new w7 #[.int .i64 uk, .bool ub, .int .i64 un, .string us, .slice upl unl ucl, .slice upk unk uck]).cell
    have hsz7 : w5.heap.size ≤ w7.heap.size := by have := HB6.out.size; have := h7.size; omega
    have hsm := Val.same_any t.parts t t _ _ w7.heap.size _ (Nat.le_refl _) ((HI5.out.below ((HB6.out.trans (h7.mono HB6.out.size)).trans (hb8.mono hsz7))).more hsz7) (HI7.out.below hb8) hb8.size
    clear hsz7
    rw [same_refl] at hsm
    have HSM := Lib.hid hsm
    clear hsm h7 hb8 hbx
    go_wp2_with fail
    refine HSM.out.mono ?_
    rintro e w9 ⟨rfl, h9⟩
    have HS9 := Lib.hid (HS8.out.step h9)
    clear h9 b0 b1 b2 b3 b4 b5 t0 t1 t2 t3 t4 t5
    obtain ⟨z, hz⟩ : ∃ q : ByteArray, (⟨l.toArray⟩ : ByteArray) = q := ⟨_, rfl⟩
    have hcv := conv_buf _ w9 _ l HS9.out.buf 9 Try.underlying9
    have hcw := conv_src (c := c) HS9.out.src HL.out
    rw [hz] at hcv
    rw [show baOf l = z from hz] at hcw
    clear hz
    go_wp2_with fail
    refine (works_any _).mono ?_
    rintro e w10 ⟨rfl, hF⟩
    have HF := Lib.hid (HS9.out.low.trans (hF.mono HS9.out.low.size))
    clear hF hcv hcw
    go_wp2
    go_ret
    exact ⟨rfl, HF.out⟩
end Pk
end Go.Proofs.Ytmhlipncelgmlaa
