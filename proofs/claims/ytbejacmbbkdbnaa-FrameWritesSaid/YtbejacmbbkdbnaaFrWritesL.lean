/- The law FrameWrites: its walk. -/
import Derived.Test.YtbejacmbbkdbnaaFrWorks
namespace Go.Proofs.Ytbejacmbbkdbnaa
open Go.RowKit
set_option linter.unusedVariables false
set_option linter.unusedSimpArgs false
namespace Fr
set_option maxRecDepth 100000 in
theorem frameWrites_any (p : Option Addr) (c : Nat) (l : List UInt8) (X : Nat → Prop) (w : World) (hs : Src w X p l) (hl : (l.length : Int) ≤ 9223372036854775807) :
    Calls Try.prog 3 #[.slice p l.length c] w fun e w' => e = .returned (.bool true) ∧ Below w.heap.size w w' := by
  have EC := Lib.hid (encode_any p c l X w hs hl)
  have RC := Lib.hid (fun (V : World) (hV : Below w.heap.size w V) => refEncode_any p c l X V (hs.low hV) hl)
  have WC := Lib.hid (fun (V : World) => works_any V)
  obtain ⟨n, hn⟩ : ∃ n, l.length = n := ⟨_, rfl⟩
  rw [hn] at EC RC ⊢
  clear hs hl hn
  go_enter Try.func3, Try.ntmps3
  go_wp2_with fail
  refine EC.out.mono ?_
  rintro e w1 ⟨q1, n1, c1, rfl, hn1, hb1, hl1⟩
  have HB1 := Lib.hid hb1
  have HL1 := Lib.hid hl1
  have HN1 := Lib.hid hn1
  clear hb1 hl1 hn1
  go_wp2_with fail
  refine (RC.out _ HL1.out).mono ?_
  rintro e w2 ⟨q2, n2, c2, rfl, hn2, hb2, hl2⟩
  have HL2 := Lib.hid (HL1.out.trans (hl2.mono HL1.out.size))
  have hb1' := HB1.out.keeps (Keeps.of_below (X := fun _ => False) hl2) (fun _ _ f => f)
  have hc1 : (convert 22 9 (.slice q1 n1 c1)).run Try.prog w2 = .ok (.string ⟨(encB l).toArray⟩) w2 := conv_src (c := c1) (hb1'.src (X := fun _ => False) rfl (fun _ _ f => f)) HN1.out.symm
  have hc2 : (convert 22 9 (.slice q2 n2 c2)).run Try.prog w2 = .ok (.string ⟨(encB l).toArray⟩) w2 := conv_src (c := c2) (hb2.src (X := fun _ => False) rfl (fun _ _ f => f)) hn2.symm
  clear hb2 hl2 hb1' hn2
  obtain ⟨T, hT⟩ : ∃ T : ByteArray, (⟨(encB l).toArray⟩ : ByteArray) = T := ⟨_, rfl⟩
  obtain ⟨x, hx⟩ : ∃ x, encE l = x := ⟨_, rfl⟩
  rw [hT] at hc1 hc2
  rw [hx]
  clear hT hx HB1
  go_wp2_with fail
  refine (WC.out _).mono ?_
  rintro e w3 ⟨rfl, hb3⟩
  have HL3 := Lib.hid (HL2.out.trans (hb3.mono HL2.out.size))
  clear hb3
  go_wp2
  go_ret
  exact ⟨rfl, HL3.out⟩
end Fr
end Go.Proofs.Ytbejacmbbkdbnaa
