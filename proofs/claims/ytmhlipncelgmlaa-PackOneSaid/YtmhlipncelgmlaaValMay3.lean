/- THE WALK over the document's own answer: may a value be? -/
import Derived.Test.YtmhlipncelgmlaaRows
import Derived.Test.YtmhlipncelgmlaaValBase
import Derived.Test.YtmhlipncelgmlaaVal
import Derived.Test.YtmhlipncelgmlaaValForm
import Derived.Test.YtmhlipncelgmlaaValForm2
import Derived.Test.YtmhlipncelgmlaaValCmp
import Derived.Test.YtmhlipncelgmlaaValWalk
import Derived.Test.YtmhlipncelgmlaaValRef
import Derived.Test.YtmhlipncelgmlaaValMay
import Derived.Test.YtmhlipncelgmlaaValMay2
import Derived.Deep.QuietTactic
import Derived.BigQuiet
import Derived.WalkKit
import Derived.Lib.Hide
import Derived.WalkSpells
import Derived.WalkLawsBesides
import Derived.Outline
import Derived.Sort.Walk0
namespace Go.Proofs.Ytmhlipncelgmlaa
open Go.RowKit
set_option linter.unusedVariables false
set_option linter.unusedSimpArgs false
namespace Val
theorem below_drewN {B : Nat} {w w' : World} (h : Below B w w') (n : Nat) : Below B w (w'.drewN n) := ⟨h.os, h.tape, h.output, h.size, h.block⟩
theorem leq_flip : ∀ x y : List UInt8, (Op.bytesLess x y || x == y) = !Op.bytesLess y x
  | [], [] => by simp [Op.bytesLess]
  | [], _ :: _ => by simp [Op.bytesLess]
  | _ :: _, [] => by simp [Op.bytesLess]
  | a :: x, c :: y => by
    have ih := leq_flip x y
    simp only [Op.bytesLess]
    rcases Nat.lt_trichotomy a.toNat c.toNat with h | h | h
    · have h1 : a < c := h
      have h2 : ¬ c < a := fun h' => by have : c.toNat < a.toNat := h'; omega
      have h3 : (c == a) = false := by simp; intro e; rw [e] at h; omega
      simp [h1, h2, h3]
    · have e : a = c := UInt8.toNat_inj.1 h
      subst e
      simp only [UInt8.lt_irrefl, decide_false, Bool.false_or, beq_self_eq_true, Bool.true_and]
      rw [← ih]
      simp
    · have h1 : c < a := h
      have h2 : ¬ a < c := fun h' => by have : a.toNat < c.toNat := h'; omega
      have h3 : (a == c) = false := by simp; intro e; rw [e] at h; omega
      have h4 : ¬ a = c := by simpa using h3
      simp [h1, h2, h3, h4]
set_option maxRecDepth 100000 in
set_option maxHeartbeats 4000000 in
theorem may_go_map (b : Bool) (n : Int) (s : ByteArray) (T : VT) (l : List VT) (ks : List ByteArray) (N B : Nat) (pl pk : Option Addr) (nl cl ck d p : Nat) (w : World) (HG : Hid (MGo N l pl nl d p B w)) (HE : Hid (keysTo ks nl = true → MEnd T l d p w)) (HN : Hid (keysTo ks nl = false → ∀ w' : World, Below w.heap.size w w' → ∀ n : Int, MayPost T (d + 1) p w (.returned (.tuple #[.int .i64 n, .bool false])) w')) (HK : Hid (VT.KeysIn w B pk ks)) (HKL : Hid (ks.length = nl)) (hu0 : unusedF 5 b n s nl nl = true) :
    Calls Try.prog 59 #[.agg #[.int .i64 5, .bool b, .int .i64 n, .string s, .slice pl nl cl, .slice pk nl ck], .int .i64 ((d + 1 : Nat) : Int), .int .i64 p] w (MayPost T (d + 1) p w) := by
  have t1 : decide ((4096 : Int) < (p : Int) + 1) = false := by have := HG.out.hp; simp; omega
  have t2 : decide ((d : Int) + 1 < 1) = false := by simp; omega
  have hp0 := HG.out.hp
  have hdd := HG.out.hd
  have hb1 := HG.out.big
  have hu := unused_any 5 b n s pl pk nl cl nl ck (w.alloc (.cells #[.int .i64 5, .bool b, .int .i64 n, .string s, .slice pl nl cl, .slice pk nl ck] 25)) (by omega) (by omega)
  unfold UnB at hu
  rw [hu0] at hu
  clear hu0
  go_enter Try.func59, Try.ntmps59
  go_wp2_with fail
  refine hu.mono ?_
  rintro e w1 ⟨rfl, hb⟩
  have hlow : Below w.heap.size w w1 := (one_below w _).trans (hb.mono (by simp))
  have hbx : Box w1 w.heap.size #[.int .i64 5, .bool b, .int .i64 n, .string s, .slice pl nl cl, .slice pk nl ck] := box_below (Box.new w _) hb
  obtain ⟨c0, c1, c2, c3, c4, c5⟩ := hbx.cell
  have HLOW := Lib.hid hlow
  have HBX := Lib.hid hbx
  clear hb hu hlow hbx
  go_wp2_with fail
  go_loopw [8] (fun i wr => ∃ j q : Nat, j ≤ nl ∧ i = .int .i64 j ∧ wr = w1.drewN q ∧ Hid (keysTo ks j = true)) (fun i _ => nl - (intOf i).toNat)
  case atStart => exact ⟨0, 0, Nat.zero_le _, rfl, rfl, Lib.hid rfl⟩
  case round =>
    rename_i wr
    obtain ⟨j, q, hj, rfl, rfl, hT⟩ := hrel
    by_cases hlt : j < nl
    · obtain ⟨bb, oo, rfl, hbb, hc⟩ := HK.out (by rw [HKL.out]; omega)
      have hcell := (HLOW.out.cell (p := ⟨bb, oo + j, none⟩) (Nat.lt_of_lt_of_le hbb HG.out.hB)).trans (hc j (by rw [HKL.out]; exact hlt))
      have HC := Lib.hid hc
      clear hc
      obtain ⟨x, hx⟩ : ∃ x, ks.getD j default = x := ⟨_, rfl⟩
      rw [hx] at hcell
      have HX := Lib.hid hx
      clear hx
      by_cases h0 : x.size = 0
      · have hxe : x = ByteArray.empty := ByteArray.size_eq_zero_iff.1 h0
        subst hxe
        have HPP := Lib.hid (HN.out (keysTo_false (i := j) (keyOk_none (by rw [HX.out]; exact h0)) nl hlt))
        clear h0
        go_wp2_with fail
        go_quiet (fail)
        go_wp2_with fail
        go_ret2
        exact HPP.out _ (below_drewN (below_drewN HLOW.out _) _) ((p : Int) + 1)
      · obtain ⟨nn, hsz⟩ : ∃ nn, x.size = nn + 1 := ⟨x.size - 1, by omega⟩
        have hd0 : decide ((nn : Int) + 1 < 1) = false := by simp; omega
        by_cases h1 : 64 < x.size
        · have hd : decide ((64 : Int) < (nn : Int) + 1) = true := by simp; omega
          have HPP := Lib.hid (HN.out (keysTo_false (i := j) (keyOk_long (by rw [HX.out]; exact h1)) nl hlt))
          clear h0 h1
          go_wp2_with fail
          go_quiet (fail)
          go_wp2_with fail
          go_ret2
          exact HPP.out _ (below_drewN (below_drewN HLOW.out _) _) ((p : Int) + 1)
        · have hd : decide ((64 : Int) < (nn : Int) + 1) = false := by simp; omega
          have hd1 : 0 < x.size := by omega
          have hd2 : x.size ≤ 64 := by omega
          rcases Nat.eq_zero_or_pos j with hk0 | hk0
          · have HO : Hid (keyOk ks j = true) := Lib.hid (by rw [hk0] at HX ⊢; exact keyOk_zero (by rw [HX.out]; omega) (by rw [HX.out]; omega))
            have hdz : decide (0 < j) = false := by simp [hk0]
            have HK0 := Lib.hid hk0
            clear h0 h1 hd1 hd2 hk0
            go_wp2_with fail
            go_quiet (fail)
            go_wp2_with fail
            go_roundw
            case rel => exact ⟨j + 1, _, by omega, by go_num, rfl, Lib.hid (by unfold keysTo; rw [hT.out, HO.out]; rfl)⟩
            case measure => simp [intOf]; omega
          · obtain ⟨i, rfl⟩ : ∃ i, j = i + 1 := ⟨j - 1, by omega⟩
            have hcell2 := (HLOW.out.cell (p := ⟨bb, oo + i, none⟩) (Nat.lt_of_lt_of_le hbb HG.out.hB)).trans (HC.out i (by rw [HKL.out]; omega))
            obtain ⟨y, hy⟩ : ∃ y, ks.getD i default = y := ⟨_, rfl⟩
            rw [hy] at hcell2
            have HY := Lib.hid hy
            have HFL := Lib.hid (leq_flip x.toList y.toList)
            clear hy h0 h1
            cases hl2 : Op.bytesLess y.toList x.toList
            · cases hl3 : Op.bytesLess x.toList y.toList
              · have hxy : x.toList = y.toList := by
                  have := HFL.out
                  rw [hl2, hl3] at this
                  simpa using this
                have hkf : keyOk ks (i + 1) = false := by rw [keyOk_less HX.out HY.out (by omega) (by omega), hl2]
                have HKF := Lib.hid hkf
                clear hkf hd1 hd2
                have HPP := Lib.hid (HN.out (keysTo_false (i := i + 1) HKF.out nl hlt))
                go_wp2_with fail
                go_quiet (fail)
                go_wp2_with fail
                go_ret2
                exact HPP.out _ (below_drewN (below_drewN HLOW.out _) _) ((p : Int) + 1)
              · have hkf : keyOk ks (i + 1) = false := by rw [keyOk_less HX.out HY.out (by omega) (by omega), hl2]
                have HKF := Lib.hid hkf
                clear hkf hd1 hd2
                have HPP := Lib.hid (HN.out (keysTo_false (i := i + 1) HKF.out nl hlt))
                go_wp2_with fail
                go_quiet (fail)
                go_wp2_with fail
                go_ret2
                exact HPP.out _ (below_drewN (below_drewN HLOW.out _) _) ((p : Int) + 1)
            · have hl3 : Op.bytesLess x.toList y.toList = false := by
                have := HFL.out
                rw [hl2] at this
                simp at this
                exact this.1
              have hxy2 : ¬ x.toList = y.toList := by
                have := HFL.out
                rw [hl2] at this
                simp at this
                exact this.2
              have hxy : (x.toList == y.toList) = false := by simpa using hxy2
              have HO : Hid (keyOk ks (i + 1) = true) := Lib.hid (by rw [keyOk_less HX.out HY.out (by omega) (by omega), hl2])
              clear hd1 hd2
              go_wp2_with fail
              go_quiet (fail)
              go_wp2_with fail
              go_roundw
              case rel => exact ⟨i + 1 + 1, _, by omega, by go_num, rfl, Lib.hid (by unfold keysTo; rw [hT.out, HO.out]; rfl)⟩
              case measure => simp [intOf]; omega
    · obtain rfl : nl = j := by omega
      have HE2 := Lib.hid (HE.out hT.out)
      have hlow : Below w.heap.size w (w1.drewN q) := below_drewN HLOW.out _
      have hbx : Box (w1.drewN q) w.heap.size _ := HBX.out
      clear HE
      go_wp2_with fail
      have HW0 : Hid (MLoop l d (p + 1) 0 (p + 1) #[.int .i64 5, .bool b, .int .i64 n, .string s, .slice pl nl cl, .slice pk nl ck] w (w1.drewN q)) := Lib.hid ⟨hlow, hbx, ⟨Nat.le_refl _, HG.out.hp⟩, rfl⟩
      have hp1 := HG.out.hp
      have hb1 := HG.out.big
      clear hlow hbx
      go_loopw [2, 9] (fun pp i wr => ∃ j pj : Nat, j ≤ nl ∧ pj ≤ 4096 ∧ pp = .int .i64 pj ∧ i = .int .i64 j ∧ Hid (MLoop l d (p + 1) j pj #[.int .i64 5, .bool b, .int .i64 n, .string s, .slice pl nl cl, .slice pk nl ck] w wr)) (fun _ i _ => nl - (intOf i).toNat)
      case atStart => exact ⟨0, p + 1, Nat.zero_le _, HG.out.hp, by go_num, rfl, HW0⟩
      case round =>
        rename_i wr
        obtain ⟨j, pj, hj, hpj, rfl, rfl, HW⟩ := hrel
        obtain ⟨c0, c1, c2, c3, c4, c5⟩ := HW.out.box.cell
        by_cases hlt : j < nl
        · obtain ⟨x, hx⟩ : ∃ x, l[j]? = some x := ⟨l[j]'(by rw [HG.out.len]; exact hlt), List.getElem?_eq_getElem _⟩
          obtain ⟨bl, ol, rfl, hbl, hInL⟩ := HG.out.mem (by rw [HG.out.len]; omega)
          obtain ⟨d0, d1, d2, d3, d4, d5, e0, e1, e2, e3, e4, e5, hInx⟩ := (VT.InL.keep (fun q hq => HW.out.low.cell (Nat.lt_of_lt_of_le hq HG.out.hB)) hbl hInL).at hx
          obtain ⟨xk, xb, xn, xs, xpl, xnl, xcl, xpk, xnk, xck, rfl, rfl, rfl, rfl, rfl, rfl⟩ := hInx.shape
          have HC := Lib.hid (HG.out.ih x _ B wr d pj (HG.out.parts x (List.mem_of_getElem? hx)) hInx (Nat.le_trans HG.out.hB HW.out.low.size) (by have := HG.out.hd; omega) hpj)
          have HDR := Lib.hid (drop_at hx)
          clear hInx hInL hx
          go_wp2_with fail
          refine HC.out.mono ?_
          rintro e w3 ⟨hb3, hn3, hs3⟩
          have hlow3 := HW.out.low.trans (hb3.mono HW.out.low.size)
          have hbox3 := box_below HW.out.box hb3
          cases hv : mayV x d pj with
          | none =>
            obtain ⟨nn, rfl⟩ := hn3 hv
            have HP := Lib.hid ((HE2.out w3 hlow3).1 (by rw [← HW.out.rest, HDR.out]; unfold mayL; rw [hv]) nn)
            clear hv hn3 hs3 hb3 hlow3 hbox3
            go_wp2_with fail
            go_ret2
            exact HP.out
          | some p3 =>
            obtain rfl := hs3 p3 hv
            have h3 := mayV_le x _ _ _ hv
            have hle3 : p3 ≤ 4096 := h3.2
            have hrest3 : mayL (l.drop (j + 1)) d p3 = mayL l d (p + 1) := by
              rw [← HW.out.rest, HDR.out]
              conv => rhs; unfold mayL
              rw [hv]
            have HW3 := Lib.hid (MLoop.mk (p := p + 1) hlow3 hbox3 ⟨by have := HW.out.le; omega, h3.2⟩ hrest3)
            clear hv hn3 hs3 hb3 hlow3 hbox3 h3 hrest3
            go_wp2_with fail
            go_roundw
            case rel => exact ⟨j + 1, p3, by omega, hle3, rfl, by go_num, HW3⟩
            case measure => simp [intOf]; omega
        · obtain rfl : j = nl := by omega
          have HP := Lib.hid ((HE2.out wr HW.out.low).2 pj (by rw [← HW.out.rest, ← HG.out.len, List.drop_length]; unfold mayL; rfl))
          go_wp2_with fail
          go_ret2
          exact HP.out
end Val
end Go.Proofs.Ytmhlipncelgmlaa
