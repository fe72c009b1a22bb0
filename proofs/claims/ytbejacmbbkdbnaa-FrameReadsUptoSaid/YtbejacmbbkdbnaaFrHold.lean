/- Frame: the reader's block; hold. -/
import Derived.Test.YtbejacmbbkdbnaaFrBase
import Derived.Test.YtbejacmbbkdbnaaFrPlain
import Derived.Deep.Cut
import Derived.Deep.RegionLaw
import Derived.Deep.QuietTactic
import Derived.BigQuiet
import Derived.StillTailTactics
namespace Go.Proofs.Ytbejacmbbkdbnaa
open Go.RowKit
set_option linter.unusedVariables false
set_option linter.unusedSimpArgs false
namespace Fr
/-- The reader's block. -/
structure Rdr (b : Nat) (w : World) (R : Nat) (hv : Value) (held : List UInt8) (br : Bool) : Prop where
  at_ : w.heap[R]? = some (.cells #[hv, .bool br] 46 (0, 0))
  ge : b ≤ R
  buf : Buf b w hv held
  ne : hv.ownBlock ≠ some R
/-- What the reader may turn: its block, and its row. -/
def Ft (R : Nat) (hv : Value) : Nat → Prop := fun k => k = R ∨ hv.ownBlock = some k
theorem Rdr.lt {b R : Nat} {w : World} {hv : Value} {held : List UInt8} {br : Bool} (h : Rdr b w R hv held br) : R < w.heap.size := (Array.getElem?_eq_some_iff.1 h.at_).1
theorem Rdr.cell {b R : Nat} {w : World} {hv : Value} {held : List UInt8} {br : Bool} (h : Rdr b w R hv held br) : w.cell? ⟨R, 0, none⟩ = some hv ∧ w.cell? ⟨R, 1, none⟩ = some (.bool br) ∧ w.frozen? ⟨R, 0, none⟩ = false ∧ w.frozen? ⟨R, 1, none⟩ = false := by
  have h0 := h.at_
  refine ⟨?_, ?_, ?_, ?_⟩ <;> simp [World.cell?, World.frozen?, h0]
theorem Rdr.keeps {b R : Nat} {X : Nat → Prop} {w w' : World} {hv : Value} {held : List UInt8} {br : Bool} (h : Rdr b w R hv held br) (hk : Keeps X w w') (hR : ¬ X R) (hX : ∀ g, hv.ownBlock = some g → ¬ X g) : Rdr b w' R hv held br :=
  ⟨(hk.block R h.lt hR).trans h.at_, h.ge, h.buf.keeps hk hX, h.ne⟩
theorem Ft.heir {w : World} {R : Nat} {hv hv' : Value} (h : Heir w hv hv') : ∀ k, Ft R hv' k → k < w.heap.size → Ft R hv k := fun k hk hlt => by
  rcases hk with rfl | hk
  · exact .inl rfl
  · rcases h with h | h
    · exact .inr (h ▸ hk)
    · have := h k hk; omega
/-- The row is put into the reader's block. -/
theorem Rdr.put {b R : Nat} {w w1 : World} {hv hv' : Value} {held held' : List UInt8} {br : Bool} (h : Rdr b w R hv held br) (hg : w.grownBy w1 hv.ownBlock) (hh : Heir w hv hv') (hB : Buf b w1 hv' held') :
    Rdr b (w1.setCell ⟨R, 0, none⟩ hv') R hv' held' br ∧ Keeps (Ft R hv) w (w1.setCell ⟨R, 0, none⟩ hv') := by
  have hk1 : Keeps (fun k => hv.ownBlock = some k) w w1 := ⟨hg.os, hg.tape, hg.output, hg.size, fun k hk hn => hg.block k hk (fun e => hn e.symm)⟩
  have hR1 : w1.heap[R]? = some (.cells #[hv, .bool br] 46 (0, 0)) := (hk1.block R h.lt h.ne).trans h.at_
  have hne : hv'.ownBlock ≠ some R := by
    rcases hh with hh | hh
    · rw [hh]; exact h.ne
    · exact fun e => by have := hh R e; have := h.lt; omega
  have hk2 : Keeps (fun k => k = R) w1 (w1.setCell ⟨R, 0, none⟩ hv') := (Keeps.refl (fun k => k = R) w1).setCell (p := ⟨R, 0, none⟩) (.inl rfl) hv'
  refine ⟨⟨?_, h.ge, hB.keeps hk2 (fun g e hR => hne (hR ▸ e)), hne⟩, ?_⟩
  · simp [World.setCell, Array.getElem?_modify, hR1]
  · exact (hk1.mono (Y := Ft R hv) (fun k hk _ => .inr hk)).join hk2 (fun k hk _ => .inl hk)
theorem Rdr.drew {b R : Nat} {w : World} {hv : Value} {held : List UInt8} {br : Bool} (h : Rdr b w R hv held br) : Rdr b w.drew R hv held br := ⟨h.at_, h.ge, h.buf, h.ne⟩
theorem Rdr.grownCell {b R : Nat} {w w1 : World} {hv : Value} {held : List UInt8} {br : Bool} (h : Rdr b w R hv held br) (hg : w.drew.grownBy w1 hv.ownBlock) : w1.cell? ⟨R, 0, none⟩ = some hv ∧ w1.frozen? ⟨R, 0, none⟩ = false := by
  have h0 : w1.heap[R]? = some (.cells #[hv, .bool br] 46 (0, 0)) := (hg.block R h.lt (fun e => h.ne e.symm)).trans h.at_
  constructor <;> simp [World.cell?, World.frozen?, h0]
set_option maxRecDepth 100000 in
theorem hold_any (b R : Nat) (hv : Value) (held bs : List UInt8) (br : Bool) (p : Option Addr) (c count : Nat) (w : World) (hR : Rdr b w R hv held br) {X : Nat → Prop} (hs : Src w X p bs) (hc : bs.length ≤ c) (hcm : c ≤ maxLen) (hcount : count ≤ 32772) (hheld : held.length ≤ 32772) (hb : b ≤ w.heap.size) (k : Nat) (hk : min (count - held.length) bs.length = k) :
    Calls Try.prog 21 #[.pointer (some ⟨R, 0, none⟩), .int .i64 count, .slice p bs.length c] w fun e w' => e = .returned (.slice (behind p c k) (bs.length - k) (c - k)) ∧ Keeps (Ft R hv) w w' ∧ ∃ hv', Rdr b w' R hv' (held ++ bs.take k) br ∧ Heir w hv hv' := by
  obtain ⟨q, cp, hq, h1, h2, h3⟩ := hR.buf.shape
  subst hq
  obtain ⟨m, hm⟩ : ∃ m, held.length = m := ⟨_, rfl⟩
  obtain ⟨n, hn⟩ : ∃ n, bs.length = n := ⟨_, rfl⟩
  obtain ⟨c0, c1, f0, f1⟩ := hR.cell
  rw [hm] at hk hheld c0 hR ⊢
  rw [hn] at hk hc
  rw [hn]
  have HR := Lib.hid hR
  have HM := Lib.hid hm
  have HN := Lib.hid hn
  have HS := Lib.hid (hs.take k)
  have hlr := hR.lt
  clear hR hs h1 h2 h3 hm hn
  have hnm : (n : Int) ≤ 9223372036854775807 := by unfold maxLen at hcm; omega
  have hk3 : (count ≤ m ∧ k = 0) ∨ (¬ count ≤ m ∧ count - m ≤ n ∧ (count : Int) - (m : Int) = (k : Int)) ∨ (¬ count ≤ m ∧ ¬ count - m ≤ n ∧ k = n) := by omega
  have hkn : k ≤ n := by omega
  have hkc : k ≤ c := by omega
  have htk : (bs.take k).length = k := by rw [List.length_take, HN.out]; omega
  have HTK := Lib.hid htk
  clear hk htk
  rcases hk3 with ⟨hle, rfl⟩ | ⟨hle, hle2, hke⟩ | ⟨hle, hle2, rfl⟩
  all_goals
   go_enter Try.func21, Try.ntmps21
   go_upto_region 3 with fail
   go_wp2_with fail
   try rw [hke]
   go_region_law (first | (refine step_append_src rfl (.tmp 25) (.tmp 28) rfl b X (.slice q m cp) held (bs.take (0)) p (0) c (m + 0) rfl rfl HTK.out.symm (w := w.drew) HR.out.buf HS.out (by rw [HM.out, HTK.out]; omega) hb (by rw [HM.out, HTK.out]) (fun q' c' w1 hB hg hh => ?_); have d0 := HR.out.grownCell hg; have HP := Lib.hid (HR.out.drew.put hg hh hB); have HH := Lib.hid hh; clear hB hg hh; obtain ⟨d0, g0⟩ := d0) | (refine step_append_src rfl (.tmp 25) (.tmp 28) rfl b X (.slice q m cp) held (bs.take (k)) p (k) c (m + k) rfl rfl HTK.out.symm (w := w.drew) HR.out.buf HS.out (by rw [HM.out, HTK.out]; omega) hb (by rw [HM.out, HTK.out]) (fun q' c' w1 hB hg hh => ?_); have d0 := HR.out.grownCell hg; have HP := Lib.hid (HR.out.drew.put hg hh hB); have HH := Lib.hid hh; clear hB hg hh; obtain ⟨d0, g0⟩ := d0))
   all_goals
    clear c0 c1 f0 f1
    go_wp2
    all_goals
     go_ret
     exact ⟨by first | (simp [behind, *]; done) | (cases p <;> simp [behind, Addr.add_zero']), (Keeps.refl _ w).drew.trans HP.out.2, _, HP.out.1, HH.out⟩
end Fr
end Go.Proofs.Ytbejacmbbkdbnaa
