/- The law ValueCopies: its walk. -/
import Derived.Test.YtiphegccaijbgaaDoorRows
import Derived.Test.YtiphegccaijbgaaDoorValBase
import Derived.Test.YtiphegccaijbgaaDoorVal
import Derived.Test.YtiphegccaijbgaaDoorValCmp
import Derived.Test.YtiphegccaijbgaaDoorValMay4
import Derived.Test.YtiphegccaijbgaaDoorValPlain
import Derived.Test.YtiphegccaijbgaaDoorValSame
import Derived.Test.YtiphegccaijbgaaDoorValCopyA
import Derived.Test.YtiphegccaijbgaaDoorValRefCopy
import Derived.Test.YtiphegccaijbgaaDoorValSpoil
import Derived.Test.YtiphegccaijbgaaDoorValWorks
import Derived.WalkKit
import Derived.Lib.Hide
import Derived.WalkSpells
import Derived.WalkLawsBesides
namespace Go.Proofs.YtiphegccaijbgaaDoor
open Go.RowKit
set_option linter.unusedVariables false
set_option linter.unusedSimpArgs false
namespace Val
theorem names_refl : ∀ ks : List ByteArray, namesV ks ks = true
  | [] => rfl
  | k :: ks => by
    unfold namesV
    simp [names_refl ks]
mutual
theorem sameV_refl : ∀ t : VT, sameV t t = true
  | .mk k b n s l ks => by
    unfold sameV
    simp [sameL_refl l, names_refl ks]
theorem sameL_refl : ∀ l : List VT, sameL l l = true
  | [] => by unfold sameL; rfl
  | t :: ts => by
    unfold sameL
    simp [sameV_refl t, sameL_refl ts]
end
set_option maxRecDepth 100000 in
set_option maxHeartbeats 4000000 in
theorem valueCopies_any (t : VT) (v : Value) (w : World) (hIn : VT.In w w.heap.size t v) (hP : Places w) : Calls Tryd.prog 7 #[v] w fun e w' => e = .returned (.bool true) ∧ Below w.heap.size w w' := by
  obtain ⟨k, b, n, s, l, ks⟩ := t
  have hx := hIn
  unfold VT.In at hx
  obtain ⟨pl, cl, pk, ck, rfl, -⟩ := hx
  obtain ⟨T, hT⟩ : ∃ T, VT.mk k b n s l ks = T := ⟨_, rfl⟩
  rw [hT] at hIn
  clear hT
  generalize l.length = nl at *
  generalize ks.length = nk at *
  have hb1 : Below w.heap.size w (w.alloc (.cells #[.int .i64 k, .bool b, .int .i64 n, .string s, .slice pl nl cl, .slice pk nk ck] 25)) := (Below.refl _ w).alloc (Nat.le_refl _) _
  have hbx : Box (w.alloc (.cells #[.int .i64 k, .bool b, .int .i64 n, .string s, .slice pl nl cl, .slice pk nk ck] 25)) w.heap.size #[.int .i64 k, .bool b, .int .i64 n, .string s, .slice pl nl cl, .slice pk nk ck] := Box.new w _
  have hM := May_any T _ w.heap.size _ (hIn.below hb1) hb1.size
  obtain ⟨bt, hbt⟩ : ∃ bt, mayB T = bt := ⟨_, rfl⟩
  rw [hbt] at hM
  have HM := Lib.hid hM
  have HB1 := Lib.hid hb1
  have HBX := Lib.hid hbx
  have HT := Lib.hid hbt
  have HI := Lib.hid hIn
  have HP := Lib.hid hP
  clear hM hb1 hbx hbt hIn hP
  cases bt
  · go_enter Tryd.func7, Tryd.ntmps7
    go_wp2_with fail
    refine HM.out.mono ?_
    rintro e w2 ⟨rfl, hb2⟩
    have hlow := HB1.out.trans (hb2.mono HB1.out.size)
    have HW := Lib.hid (works_any w2 (HP.out.below hlow HP.out.lt))
    have HL := Lib.hid hlow
    clear hb2 hlow
    go_wp2_with fail
    refine HW.out.mono ?_
    rintro e w3 ⟨rfl, hb3⟩
    have HE := Lib.hid (HL.out.trans (hb3.mono HL.out.size))
    clear hb3
    go_wp2_with fail
    go_ret
    exact ⟨rfl, HE.out⟩
  · go_enter Tryd.func7, Tryd.ntmps7
    go_wp2_with fail
    refine HM.out.mono ?_
    rintro e w2 ⟨rfl, hb2⟩
    have hlow2 := HB1.out.trans (hb2.mono HB1.out.size)
    have hbx2 : Box w2 w.heap.size _ := (hb2.block _ HBX.out.lt).trans HBX.out
    obtain ⟨a0, a1, a2, a3, a4, a5⟩ := Box.cell hbx2
    have hp := parts_le HT.out
    have HR := Lib.hid (refCopy_rec T.parts T _ w.heap.size w2 (Nat.le_refl _) (by omega) (small_may HT.out) (HI.out.below hlow2) hlow2.size)
    have HL2 := Lib.hid hlow2
    have HX2 := Lib.hid hbx2
    clear hb2 hlow2 hbx2 hp
    go_wp2_with fail
    refine HR.out.mono ?_
    rintro e w3 ⟨v', rfl, hown, hb3⟩
    obtain ⟨yk, yb, yn, ys, ypl, ynl, ycl, ypk, ynk, yck, rfl⟩ := hown.shape
    have hlow3 := HL2.out.trans (hb3.mono HL2.out.size)
    have hbx3 : Box w3 w.heap.size _ := (hb3.block _ HX2.out.lt).trans HX2.out
    have hI3 := hown.toIn (B := w3.heap.size) (fun q hq => hq.2)
    have hI4 : VT.In (w3.alloc (.cells #[.int .i64 yk, .bool yb, .int .i64 yn, .string ys, .slice ypl ynl ycl, .slice ypk ynk yck] 25)) w3.heap.size T (.agg #[.int .i64 yk, .bool yb, .int .i64 yn, .string ys, .slice ypl ynl ycl, .slice ypk ynk yck]) := hI3.below ((Below.refl _ w3).alloc (Nat.le_refl _) _)
    have hCp := copy_any T _ w3.heap.size (w3.alloc (.cells #[.int .i64 yk, .bool yb, .int .i64 yn, .string ys, .slice ypl ynl ycl, .slice ypk ynk yck] 25)) hI4 (by simp) HT.out
    have hlow4 : Below w.heap.size w (w3.alloc (.cells #[.int .i64 yk, .bool yb, .int .i64 yn, .string ys, .slice ypl ynl ycl, .slice ypk ynk yck] 25)) := hlow3.alloc hlow3.size _
    have hbx4 : Box (w3.alloc (.cells #[.int .i64 yk, .bool yb, .int .i64 yn, .string ys, .slice ypl ynl ycl, .slice ypk ynk yck] 25)) w.heap.size _ := hbx3.alloc _
    have hby4 : Box (w3.alloc (.cells #[.int .i64 yk, .bool yb, .int .i64 yn, .string ys, .slice ypl ynl ycl, .slice ypk ynk yck] 25)) w3.heap.size #[.int .i64 yk, .bool yb, .int .i64 yn, .string ys, .slice ypl ynl ycl, .slice ypk ynk yck] := Box.new w3 _
    have HCp := Lib.hid hCp
    have HI3 := Lib.hid hI4
    have HL4 := Lib.hid hlow4
    have HX4 := Lib.hid hbx4
    have HY4 := Lib.hid hby4
    clear hb3 hown hlow3 hbx3 hI3 hI4 hCp hlow4 hbx4 hby4 HR HL2 HX2 a0 a1 a2 a3 a4 a5
    go_wp2_with fail
    refine HCp.out.mono ?_
    rintro e w5 ⟨v'', rfl, hown, hb5⟩
    obtain ⟨zk, zb, zn, zs, zpl, znl, zcl, zpk, znk, zck, rfl⟩ := hown.shape
    have hs4 : w3.heap.size < w5.heap.size := by have := hb5.size; rw [World.size_alloc] at this; omega
    have hb6 : Below (w3.alloc (.cells #[.int .i64 yk, .bool yb, .int .i64 yn, .string ys, .slice ypl ynl ycl, .slice ypk ynk yck] 25)).heap.size (w3.alloc (.cells #[.int .i64 yk, .bool yb, .int .i64 yn, .string ys, .slice ypl ynl ycl, .slice ypk ynk yck] 25)) (w5.alloc (.cells #[.int .i64 zk, .bool zb, .int .i64 zn, .string zs, .slice zpl znl zcl, .slice zpk znk zck] 25)) := hb5.alloc hb5.size _
    have hlow6 := HL4.out.trans (hb6.mono HL4.out.size)
    have hx6 : Box (w5.alloc (.cells #[.int .i64 zk, .bool zb, .int .i64 zn, .string zs, .slice zpl znl zcl, .slice zpk znk zck] 25)) w.heap.size _ := (hb6.block _ HX4.out.lt).trans HX4.out
    have hy6 : Box (w5.alloc (.cells #[.int .i64 zk, .bool zb, .int .i64 zn, .string zs, .slice zpl znl zcl, .slice zpk znk zck] 25)) w3.heap.size _ := (hb6.block _ HY4.out.lt).trans HY4.out
    have hz6 : Box (w5.alloc (.cells #[.int .i64 zk, .bool zb, .int .i64 zn, .string zs, .slice zpl znl zcl, .slice zpk znk zck] 25)) w5.heap.size #[.int .i64 zk, .bool zb, .int .i64 zn, .string zs, .slice zpl znl zcl, .slice zpk znk zck] := Box.new w5 _
    have hO6 := hown.keeps ((Keeps.refl (fun _ => False) w5).alloc (.cells #[.int .i64 zk, .bool zb, .int .i64 zn, .string zs, .slice zpl znl zcl, .slice zpk znk zck] 25)) (fun q hq => ⟨hq.2, fun h => h⟩)
    have hIc := hO6.toIn (B := w5.heap.size) (fun q hq => hq.2)
    have hIv := (HI.out.below hlow6).more (B' := w5.heap.size) (Nat.le_trans HL4.out.size hb5.size)
    have hIo := HI3.out.below (hb6.mono (by simp))
    have hSm := same_any T.parts T T _ _ w5.heap.size _ (Nat.le_refl _) hIc hIv (by simp)
    rw [sameV_refl] at hSm
    obtain ⟨x0, x1, x2, x3, x4, x5⟩ := hx6.cell
    obtain ⟨y0, y1, y2, y3, y4, y5⟩ := hy6.cell
    have HSm := Lib.hid hSm
    have HL6 := Lib.hid hlow6
    have HX6 := Lib.hid hx6
    have HY6 := Lib.hid hy6
    have HZ6 := Lib.hid hz6
    have HO6 := Lib.hid hO6
    have HIo := Lib.hid hIo
    have HS4 := Lib.hid hs4
    have HB5 := Lib.hid hb5
    clear hown hb5 hs4 hb6 hlow6 hx6 hy6 hz6 hO6 hIc hIv hIo hSm HCp HY4
    go_wp2_with fail
    refine HSm.out.mono ?_
    rintro e w7 ⟨rfl, hb7⟩
    have hlow7 := HL6.out.trans (hb7.mono HL6.out.size)
    have hx7 : Box w7 w.heap.size _ := (hb7.block _ HX6.out.lt).trans HX6.out
    have hy7 : Box w7 w3.heap.size _ := (hb7.block _ HY6.out.lt).trans HY6.out
    have hz7 : Box w7 w5.heap.size _ := (hb7.block _ HZ6.out.lt).trans HZ6.out
    have hs7 : w5.heap.size < w7.heap.size := by have := hb7.size; rw [World.size_alloc] at this; omega
    have hp := parts_le HT.out
    have hSp := spoil_rec T.parts T _ _ w7 (Nat.le_refl _) (by omega) (small_may HT.out) (HO6.out.keeps (Keeps.of_below (X := fun _ => False) hb7) (fun q hq => ⟨by rw [World.size_alloc]; omega, fun h => h⟩)) (fun q hq => by omega)
    obtain ⟨z0, z1, z2, z3, z4, z5⟩ := hz7.cell
    have HIo7 := Lib.hid (HIo.out.below (hb7.mono (by rw [World.size_alloc]; have := HS4.out; omega)))
    have HSp := Lib.hid hSp
    have HL7 := Lib.hid hlow7
    have HX7 := Lib.hid hx7
    have HY7 := Lib.hid hy7
    have HS7 := Lib.hid hs7
    clear hb7 hlow7 hx7 hy7 hz7 hs7 hSp hp HSm HL6 HX6 HY6 HZ6 HO6 HIo x0 x1 x2 x3 x4 x5 y0 y1 y2 y3 y4 y5
    go_wp2_with fail
    refine HSp.out.mono ?_
    rintro e w8 ⟨rfl, hk8⟩
    have hb8 : Below (w3.alloc (.cells #[.int .i64 yk, .bool yb, .int .i64 yn, .string ys, .slice ypl ynl ycl, .slice ypk ynk yck] 25)).heap.size w7 w8 := hk8.below (fun q hq => hq.1) (by have h1 := HB5.out.size; have h2 := HS7.out; omega)
    rw [World.size_alloc] at hb8
    have hws : w.heap.size < w3.heap.size + 1 := by have := HX4.out.lt; rwa [World.size_alloc] at this
    have hlow8 : Below w.heap.size w w8 := HL7.out.trans (hb8.mono (by omega))
    have hx8 : Box w8 w.heap.size _ := (hb8.block _ hws).trans HX7.out
    have hy8 : Box w8 w3.heap.size _ := (hb8.block _ (by omega)).trans HY7.out
    have hs8 : w3.heap.size ≤ w8.heap.size := by have h1 := hb8.size; have h2 := HS7.out; have h3 := HS4.out; omega
    have hIo8 := HIo7.out.below (hb8.mono (Nat.le_succ _))
    have hIv8 := (HI.out.below hlow8).more (B' := w3.heap.size) (by omega)
    have hSm := same_any T.parts T T _ _ w3.heap.size _ (Nat.le_refl _) hIo8 hIv8 hs8
    rw [sameV_refl] at hSm
    obtain ⟨x0, x1, x2, x3, x4, x5⟩ := hx8.cell
    obtain ⟨y0, y1, y2, y3, y4, y5⟩ := hy8.cell
    have HSm8 := Lib.hid hSm
    have HL8 := Lib.hid hlow8
    clear hk8 hb8 hws hlow8 hx8 hy8 hs8 hIo8 hIv8 hSm z0 z1 z2 z3 z4 z5
    go_wp2_with fail
    refine HSm8.out.mono ?_
    rintro e w9 ⟨rfl, hb9⟩
    have hlow9 := HL8.out.trans (hb9.mono HL8.out.size)
    have HW := Lib.hid (works_any w9 (HP.out.below hlow9 HP.out.lt))
    have HL9 := Lib.hid hlow9
    clear hb9 hlow9 x0 x1 x2 x3 x4 x5 y0 y1 y2 y3 y4 y5
    go_wp2_with fail
    refine HW.out.mono ?_
    rintro e w10 ⟨rfl, hb10⟩
    have HE := Lib.hid (HL9.out.trans (hb10.mono HL9.out.size))
    clear hb10
    go_wp2_with fail
    go_ret
    exact ⟨rfl, HE.out⟩
end Val
end Go.Proofs.YtiphegccaijbgaaDoor
