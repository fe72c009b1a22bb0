/- THE WALKS over the document's own answers: how many parts, plain. -/
import Derived.Test.YtiphegccaijbgaaDoorRows
import Derived.Test.YtiphegccaijbgaaDoorValBase
import Derived.Test.YtiphegccaijbgaaDoorVal
import Derived.Test.YtiphegccaijbgaaDoorValCmp
import Derived.Test.YtiphegccaijbgaaDoorValWalk
import Derived.Test.YtiphegccaijbgaaDoorValChk
import Derived.Test.YtiphegccaijbgaaDoorValRef
import Derived.Test.YtiphegccaijbgaaDoorValMay
import Derived.Test.YtiphegccaijbgaaDoorValMay4
import Derived.WalkKit
import Derived.Lib.Hide
import Derived.WalkSpells
import Derived.WalkLawsBesides
namespace Go.Proofs.YtiphegccaijbgaaDoor
open Go.RowKit
set_option linter.unusedVariables false
set_option linter.unusedSimpArgs false
namespace Val
mutual
def plainV : VT → Bool
  | .mk k b n s l ks => plainP (.mk k b n s l ks) && plainL l
def plainL : List VT → Bool
  | [] => true
  | t :: ts => plainV t && plainL ts
end
structure PLoop (l : List VT) (tot j sj : Nat) (cs : Array Value) (w wr : World) : Prop where
  low : Below w.heap.size w wr
  box : Box wr w.heap.size cs
  rest : sj + VT.partsL (l.drop j) = tot
set_option maxRecDepth 100000 in
set_option maxHeartbeats 2000000 in
theorem refParts_any : ∀ (N : Nat) (t : VT) (v : Value) (B : Nat) (w : World), t.parts ≤ N → t.parts ≤ 4096 → VT.In w B t v → B ≤ w.heap.size → Calls Tryd.prog 12 #[v] w fun e w' => e = .returned (.int .i64 t.parts) ∧ Below w.heap.size w w'
  | 0, t, _, _, _, h, _, _, _ => by have := t.parts_pos; omega
  | N + 1, t, v, B, w, hN, h4, hIn, hB => by
    have IH := Lib.hid (refParts_any N)
    obtain ⟨k, b, n, s, l, ks⟩ := t
    have hx := hIn
    unfold VT.In at hx
    obtain ⟨pl, cl, pk, ck, rfl, h1, h2, -, -, hks, hl⟩ := hx
    have hTp : ∀ x, x ∈ l → x.parts ≤ N ∧ x.parts ≤ 4096 := fun x hx => by have := VT.parts_mem hx; rw [VT.parts] at hN h4; omega
    obtain ⟨tot, htot⟩ : ∃ tot, (VT.mk k b n s l ks).parts = tot := ⟨_, rfl⟩
    have ht : 1 + VT.partsL (l.drop 0) = tot := by rw [← htot, VT.parts]; simp; omega
    rw [htot] at h4 ⊢
    have HTp := Lib.hid hTp
    have HL := Lib.hid hl
    have HB := Lib.hid hB
    have hb1 : (l.length : Int) ≤ 9223372036854775807 := by unfold maxLen at h2; omega
    obtain ⟨nl, hnl⟩ : ∃ nl, l.length = nl := ⟨_, rfl⟩
    have HNL := Lib.hid hnl
    rw [hnl] at hb1 ⊢
    generalize ks.length = nk at *
    have HW0 : Hid (PLoop l tot 0 1 #[.int .i64 k, .bool b, .int .i64 n, .string s, .slice pl nl cl, .slice pk nk ck] w (w.alloc (.cells #[.int .i64 k, .bool b, .int .i64 n, .string s, .slice pl nl cl, .slice pk nk ck] 25))) := Lib.hid ⟨one_below w _, Box.new w _, ht⟩
    clear hTp hl hB hnl ht htot h1 h2 hks hN hIn
    go_enter Tryd.func12, Tryd.ntmps12
    go_wp2
    go_loopw [3, 4] (fun a i wr => ∃ j sj : Nat, j ≤ nl ∧ a = .int .i64 sj ∧ i = .int .i64 j ∧ Hid (PLoop l tot j sj #[.int .i64 k, .bool b, .int .i64 n, .string s, .slice pl nl cl, .slice pk nk ck] w wr)) (fun _ i _ => nl - (intOf i).toNat)
    case atStart => exact ⟨0, 1, Nat.zero_le _, rfl, rfl, HW0⟩
    case round =>
      rename_i wr
      obtain ⟨j, sj, hj, rfl, rfl, HW⟩ := hrel
      obtain ⟨c0, c1, c2, c3, c4, c5⟩ := HW.out.box.cell
      by_cases hlt : j < nl
      · obtain ⟨x, hx⟩ : ∃ x, l[j]? = some x := ⟨l[j]'(by rw [HNL.out]; exact hlt), List.getElem?_eq_getElem _⟩
        obtain ⟨bl, ol, rfl, hbl, hInL⟩ := HL.out (by rw [HNL.out]; omega)
        obtain ⟨d0, d1, d2, d3, d4, d5, e0, e1, e2, e3, e4, e5, hInx⟩ := (VT.InL.keep (fun q hq => HW.out.low.cell (Nat.lt_of_lt_of_le hq HB.out)) hbl hInL).at hx
        obtain ⟨xk, xb, xn, xs, xpl, xnl, xcl, xpk, xnk, xck, rfl, rfl, rfl, rfl, rfl, rfl⟩ := hInx.shape
        have hxp := HTp.out x (List.mem_of_getElem? hx)
        have HC := Lib.hid (IH.out x _ B wr hxp.1 hxp.2 hInx (Nat.le_trans HB.out HW.out.low.size))
        have hsum : sj + x.parts + VT.partsL (l.drop (j + 1)) = tot := by
          have := HW.out.rest
          rw [drop_at hx, VT.partsL] at this
          omega
        have HS := Lib.hid hsum
        obtain ⟨xp, hxpe⟩ : ∃ xp, x.parts = xp := ⟨_, rfl⟩
        rw [hxpe] at HC HS
        have hs1 : sj + xp ≤ 4096 := by have := HS.out; omega
        clear hInx hInL hx hsum hxp hxpe
        go_wp2_with fail
        refine HC.out.mono ?_
        rintro e w3 ⟨rfl, hb3⟩
        have HW3 := Lib.hid (PLoop.mk (HW.out.low.trans (hb3.mono HW.out.low.size)) (box_below HW.out.box hb3) HS.out)
        clear hb3
        go_wp2_with fail
        go_roundw
        case rel => exact ⟨j + 1, sj + xp, by omega, by go_num, by go_num, HW3⟩
        case measure => simp [intOf]; omega
      · obtain rfl : j = nl := by omega
        have hfin : sj = tot := by have := HW.out.rest; rw [← HNL.out, List.drop_length, VT.partsL] at this; omega
        subst hfin
        have HLOW := Lib.hid HW.out.low
        go_wp2_with fail
        go_ret
        exact ⟨rfl, HLOW.out⟩
structure QLoop (l : List VT) (tot : Bool) (j : Nat) (cs : Array Value) (w wr : World) : Prop where
  low : Below w.heap.size w wr
  box : Box wr w.heap.size cs
  rest : plainL (l.drop j) = tot
set_option maxRecDepth 100000 in
set_option maxHeartbeats 2000000 in
theorem refPlain_any : ∀ (N : Nat) (t : VT) (v : Value) (B : Nat) (w : World), t.parts ≤ N → VT.In w B t v → B ≤ w.heap.size → Calls Tryd.prog 14 #[v] w fun e w' => e = .returned (.bool (plainV t)) ∧ Below w.heap.size w w'
  | 0, t, _, _, _, h, _, _ => by have := t.parts_pos; omega
  | N + 1, t, v, B, w, hN, hIn, hB => by
    have IH := Lib.hid (refPlain_any N)
    obtain ⟨k, b, n, s, l, ks⟩ := t
    have hx := hIn
    unfold VT.In at hx
    obtain ⟨pl, cl, pk, ck, rfl, h1, h2, -, -, hks, hl⟩ := hx
    have hTp : ∀ x, x ∈ l → x.parts ≤ N := fun x hx => by have := VT.parts_mem hx; rw [VT.parts] at hN; omega
    have hV : plainV (.mk k b n s l ks) = ((!(k == 6) && !(k == 7)) && plainL l) := by rw [plainV]; rfl
    rw [hV]
    obtain ⟨tot, htot⟩ : ∃ tot, plainL l = tot := ⟨_, rfl⟩
    rw [htot]
    have HTp := Lib.hid hTp
    have HL := Lib.hid hl
    have HB := Lib.hid hB
    have hb1 : (l.length : Int) ≤ 9223372036854775807 := by unfold maxLen at h2; omega
    obtain ⟨nl, hnl⟩ : ∃ nl, l.length = nl := ⟨_, rfl⟩
    have HNL := Lib.hid hnl
    rw [hnl] at hb1 ⊢
    generalize ks.length = nk at *
    have HW0 : Hid (QLoop l tot 0 #[.int .i64 k, .bool b, .int .i64 n, .string s, .slice pl nl cl, .slice pk nk ck] w (w.alloc (.cells #[.int .i64 k, .bool b, .int .i64 n, .string s, .slice pl nl cl, .slice pk nk ck] 25))) := Lib.hid ⟨one_below w _, Box.new w _, htot⟩
    clear hTp hl hB hnl htot h1 h2 hks hN hIn hV
    by_cases h6 : k = 6
    · subst h6
      go_enter Tryd.func14, Tryd.ntmps14
      go_wp2
      go_ret
      exact ⟨rfl, one_below _ _⟩
    · by_cases h7 : k = 7
      · subst h7
        go_enter Tryd.func14, Tryd.ntmps14
        go_wp2
        go_ret
        exact ⟨rfl, one_below _ _⟩
      · have e6 : (k == 6) = false := by simpa using h6
        have e7 : (k == 7) = false := by simpa using h7
        have er : ((!(k == 6) && !(k == 7)) && tot) = tot := by rw [e6, e7]; rfl
        rw [er]
        clear h6 h7 er
        go_enter Tryd.func14, Tryd.ntmps14
        go_wp2
        go_loopw [3] (fun i wr => ∃ j : Nat, j ≤ nl ∧ i = .int .i64 j ∧ Hid (QLoop l tot j #[.int .i64 k, .bool b, .int .i64 n, .string s, .slice pl nl cl, .slice pk nk ck] w wr)) (fun i _ => nl - (intOf i).toNat)
        case atStart => exact ⟨0, Nat.zero_le _, rfl, HW0⟩
        case round =>
          rename_i wr
          obtain ⟨j, hj, rfl, HW⟩ := hrel
          obtain ⟨c0, c1, c2, c3, c4, c5⟩ := HW.out.box.cell
          by_cases hlt : j < nl
          · obtain ⟨x, hx⟩ : ∃ x, l[j]? = some x := ⟨l[j]'(by rw [HNL.out]; exact hlt), List.getElem?_eq_getElem _⟩
            obtain ⟨bl, ol, rfl, hbl, hInL⟩ := HL.out (by rw [HNL.out]; omega)
            obtain ⟨d0, d1, d2, d3, d4, d5, e0, e1, e2, e3, e4, e5, hInx⟩ := (VT.InL.keep (fun q hq => HW.out.low.cell (Nat.lt_of_lt_of_le hq HB.out)) hbl hInL).at hx
            obtain ⟨xk, xb, xn, xs, xpl, xnl, xcl, xpk, xnk, xck, rfl, rfl, rfl, rfl, rfl, rfl⟩ := hInx.shape
            have HC := Lib.hid (IH.out x _ B wr (HTp.out x (List.mem_of_getElem? hx)) hInx (Nat.le_trans HB.out HW.out.low.size))
            have hrest : (plainV x && plainL (l.drop (j + 1))) = tot := by
              have := HW.out.rest
              rw [drop_at hx, plainL] at this
              exact this
            have HS := Lib.hid hrest
            obtain ⟨xq, hxq⟩ : ∃ xq, plainV x = xq := ⟨_, rfl⟩
            rw [hxq] at HC HS
            clear hInx hInL hx hrest hxq
            go_wp2_with fail
            refine HC.out.mono ?_
            rintro e w3 ⟨rfl, hb3⟩
            have hlow3 := HW.out.low.trans (hb3.mono HW.out.low.size)
            cases xq
            · have HT : Hid (false = tot) := Lib.hid (by have := HS.out; simpa using this)
              have HLOW := Lib.hid hlow3
              clear hb3 hlow3
              go_wp2_with fail
              go_ret
              exact ⟨by rw [← HT.out]; rfl, HLOW.out⟩
            · have HW3 := Lib.hid (QLoop.mk (l := l) (j := j + 1) (tot := tot) hlow3 (box_below HW.out.box hb3) (by have := HS.out; simpa using this))
              clear hb3 hlow3
              go_wp2_with fail
              go_roundw
              case rel => exact ⟨j + 1, by omega, by go_num, HW3⟩
              case measure => simp [intOf]; omega
          · obtain rfl : j = nl := by omega
            have HT : Hid (true = tot) := Lib.hid (by have := HW.out.rest; rw [← HNL.out, List.drop_length, plainL] at this; exact this)
            have HLOW := Lib.hid HW.out.low
            go_wp2_with fail
            go_ret
            exact ⟨by rw [← HT.out]; rfl, HLOW.out⟩
end Val
end Go.Proofs.YtiphegccaijbgaaDoor
