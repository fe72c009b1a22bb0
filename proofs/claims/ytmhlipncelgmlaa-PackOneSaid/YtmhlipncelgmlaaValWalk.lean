/- THE WALK over (*reach).walk: whatever is shown each part. -/
import Derived.Test.YtmhlipncelgmlaaRows
import Derived.Test.YtmhlipncelgmlaaValBase
import Derived.Test.YtmhlipncelgmlaaVal
import Derived.Test.YtmhlipncelgmlaaValForm2
import Derived.Test.YtmhlipncelgmlaaValCmp
import Derived.WalkKit
import Derived.Lib.Hide
import Derived.WalkSpells
import Derived.WalkLawsBesides
import Derived.Outline
namespace Go.Proofs.Ytmhlipncelgmlaa
open Go.RowKit
set_option linter.unusedVariables false
set_option linter.unusedSimpArgs false
namespace Val
mutual
/-- How many parts may yet be, when all of t has been shown and has been said yes to; none: a no, or out of reach. -/
def walkV (p : VT → Bool) : VT → Nat → Nat → Option Nat
  | .mk k b n s l ks, d, m => if d = 0 then none else if m = 0 then none else if p (.mk k b n s l ks) then walkL p l (d - 1) (m - 1) else none
def walkL (p : VT → Bool) : List VT → Nat → Nat → Option Nat
  | [], _, m => some m
  | t :: ts, d, m => match walkV p t d m with
    | none => none
    | some m' => walkL p ts d m'
end
mutual
theorem walkV_le {p : VT → Bool} : ∀ (t : VT) (d m m' : Nat), walkV p t d m = some m' → m' < m
  | .mk k b n s l ks, d, m, m', h => by
    unfold walkV at h
    split at h
    · cases h
    · split at h
      · cases h
      · split at h
        · have := walkL_le l _ _ _ h; omega
        · cases h
theorem walkL_le {p : VT → Bool} : ∀ (l : List VT) (d m m' : Nat), walkL p l d m = some m' → m' ≤ m
  | [], d, m, m', h => by unfold walkL at h; cases h; omega
  | t :: ts, d, m, m', h => by
    unfold walkL at h
    cases hv : walkV p t d m with
    | none => rw [hv] at h; cases h
    | some m1 =>
      rw [hv] at h
      have h1 := walkV_le t _ _ _ hv
      have h2 := walkL_le ts _ _ _ h
      omega
end
/-- What is shown the parts: a function g, with what it has captured; it says p; what it keeps. -/
structure See (g : Nat) (lb : Array Value) (p : VT → Bool) (B C R : Nat) (X : Nat → Prop) (I : Nat → World → Prop) : Prop where
  enters : ∀ args w, (callFunc g args).run Try.prog w = .ok (.enter g args) w
  call : ∀ (t : VT) (v : Value) (w : World) (k : Nat), VT.In w B t v → B ≤ w.heap.size → C ≤ w.heap.size → I k w → Calls Try.prog g (#[v] ++ lb) w fun e w' => e = .returned (.bool (p t)) ∧ Keeps X w w' ∧ I (k + 1) w'
  apart : ∀ k, X k → B ≤ k ∧ k ≠ R ∧ k < C
  same : ∀ (k : Nat) (w w' : World), I k w → Keeps (· = R) w w' → I k w'
def WalkPost (p : VT → Bool) (R : Nat) (X : Nat → Prop) (I : Nat → World → Prop) (t : VT) (d m k : Nat) (w : World) (e : Ending) (w' : World) : Prop :=
  e = .returned (.bool (walkV p t d m).isSome) ∧ Keeps (fun j => j = R ∨ X j) w w' ∧ ∀ m', walkV p t d m = some m' → Reach w' R d m' ∧ I (k + (m - m')) w'
theorem enter_nat (R d m : Nat) (w : World) (h : Reach w R ((d + 1 : Nat) : Int) ((m + 1 : Nat) : Int)) (h2 : d + 1 ≤ 65536) (h3 : m + 1 ≤ 4194304) : Calls Try.prog 83 #[.pointer (some ⟨R, 0, none⟩)] w fun e w' => e = .returned (.bool true) ∧ Reach w' R d m ∧ Keeps (· = R) w w' := by
  refine (enter_yes R _ _ w h (by omega) (by omega) (by omega) (by omega)).mono ?_
  rintro e w' ⟨rfl, rfl⟩
  have hs := h.set ((d + 1 : Nat) - 1 : Int) ((m + 1 : Nat) - 1 : Int)
  refine ⟨rfl, ?_, ((Keeps.refl (· = R) w).setCell (p := ⟨R, 0, none⟩) (.inl rfl) _).setCell (p := ⟨R, 1, none⟩) (.inl rfl) _⟩
  have e1 : (((d + 1 : Nat) : Int) - 1) = d := by omega
  have e2 : (((m + 1 : Nat) : Int) - 1) = m := by omega
  rw [e1, e2] at hs ⊢
  exact hs
theorem leave_nat (R d m : Nat) (w : World) (h : Reach w R d m) (h2 : d + 1 ≤ 65536) : Calls Try.prog 84 #[.pointer (some ⟨R, 0, none⟩)] w fun e w' => (∃ v, e = .returned v) ∧ Reach w' R ((d + 1 : Nat) : Int) m ∧ Keeps (· = R) w w' := by
  refine (leave_any R _ _ w h (by omega) (by omega)).mono ?_
  rintro e w' ⟨hv, rfl⟩
  refine ⟨hv, ?_, (Keeps.refl (· = R) w).setCell (p := ⟨R, 0, none⟩) (.inl rfl) _⟩
  exact h.set0 _
/-- Where the loop over the parts stands, j of them shown. -/
structure WLoop (p : VT → Bool) (R : Nat) (X : Nat → Prop) (I : Nat → World → Prop) (l : List VT) (d m k j mj : Nat) (w wr : World) : Prop where
  reach : Reach wr R d mj
  keeps : Keeps (fun j => j = R ∨ X j) w wr
  inv : I (k + (m - mj)) wr
  le : mj ≤ m
  rest : walkL p (l.drop j) d mj = walkL p l d m
theorem drop_at {l : List VT} {j : Nat} {x : VT} (h : l[j]? = some x) : l.drop j = x :: l.drop (j + 1) := by
  obtain ⟨hlt, rfl⟩ := List.getElem?_eq_some_iff.1 h
  exact List.drop_eq_getElem_cons hlt
set_option maxRecDepth 100000 in
set_option maxHeartbeats 2000000 in
theorem walk_any {g : Nat} {lb : Array Value} {p : VT → Bool} {B C R : Nat} {X : Nat → Prop} {I : Nat → World → Prop} (hS : See g lb p B C R X I) (hRB : B ≤ R) :
    ∀ (N : Nat) (t : VT) (v : Value) (w : World) (d m k : Nat), t.parts ≤ N → VT.In w B t v → B ≤ w.heap.size → C ≤ w.heap.size → Reach w R d m → I k w → d ≤ 65536 → m ≤ 4194304 →
      Calls Try.prog 52 #[.pointer (some ⟨R, 0, none⟩), v, .func (.func g) #[] lb] w (WalkPost p R X I t d m k w)
  | 0, t, _, _, _, _, _, h, _, _, _, _, _, _, _ => by have := t.parts_pos; omega
  | N + 1, t, v, w, d, m, k, hN, hIn, hB, hC, hR, hI, hd, hm => by
    have IH := Lib.hid (walk_any hS hRB N)
    have eg := hS.enters
    obtain ⟨kk, bb, nn, ss, l, ks⟩ := t
    have hIn0 := hIn
    unfold VT.In at hIn
    obtain ⟨pl, cl, pk, ck, rfl, h1, h2, h3, h4, hks, hl⟩ := hIn
    have hRlt := hR.lt
    by_cases h0 : d = 0 ∨ m = 0
    · have hV : walkV p (.mk kk bb nn ss l ks) d m = none := by
        unfold walkV
        rcases h0 with h | h
        · rw [if_pos h]
        · by_cases hd0 : d = 0
          · rw [if_pos hd0]
          · rw [if_neg hd0, if_pos h]
      have hpost : ∀ w', Keeps (fun j => j = R ∨ X j) w w' → WalkPost p R X I (.mk kk bb nn ss l ks) d m k w (.returned (.bool false)) w' := fun w' hk => ⟨by rw [hV]; rfl, hk, fun m' h => by rw [hV] at h; cases h⟩
      have HP := Lib.hid hpost
      have hE := enter_no R d m (w.alloc (.cells #[.int .i64 kk, .bool bb, .int .i64 nn, .string ss, .slice pl l.length cl, .slice pk ks.length ck] 25)) (hR.alloc _) (by omega)
      clear hpost hV hIn0 hks hl h1 h2 h3 h4 hI eg hS h0
      generalize l.length = nl at *
      generalize ks.length = nk at *
      go_enter Try.func52, Try.ntmps52
      go_wp2_with fail
      refine hE.mono ?_
      rintro e w1 ⟨rfl, rfl⟩
      go_wp2_with fail
      go_ret
      exact HP.out _ ((Keeps.refl _ w).alloc _)
    · obtain ⟨d', rfl⟩ : ∃ d', d = d' + 1 := ⟨d - 1, by omega⟩
      obtain ⟨m', rfl⟩ : ∃ m', m = m' + 1 := ⟨m - 1, by omega⟩
      have hV : walkV p (.mk kk bb nn ss l ks) (d' + 1) (m' + 1) = if p (.mk kk bb nn ss l ks) then walkL p l d' m' else none := by
        unfold walkV
        rw [if_neg (by omega), if_neg (by omega)]
        rfl
      have hXB : ∀ j, (j = R ∨ X j) → B ≤ j := fun j hj => by rcases hj with rfl | hj; exact hRB; exact (hS.apart j hj).1
      obtain ⟨v, hv⟩ : ∃ v, Value.agg #[.int .i64 kk, .bool bb, .int .i64 nn, .string ss, .slice pl l.length cl, .slice pk ks.length ck] = v := ⟨_, rfl⟩
      have hW := hIn0.keeps ((Keeps.refl (fun j => j = R ∨ X j) w).alloc (.cells #[.int .i64 kk, .bool bb, .int .i64 nn, .string ss, .slice pl l.length cl, .slice pk ks.length ck] 25)) hB hXB
      have hTp : ∀ x, x ∈ l → x.parts ≤ N := fun x hx => by have := VT.parts_mem hx; rw [VT.parts] at hN; omega
      have hl62 : (l.length : Int) ≤ 9223372036854775807 := by unfold maxLen at h2; omega
      obtain ⟨T, hT⟩ : ∃ T, VT.mk kk bb nn ss l ks = T := ⟨_, rfl⟩
      rw [hT] at hW hV ⊢
      have HV := Lib.hid hV
      have HTp := Lib.hid hTp
      have HL := Lib.hid hl
      have HX := Lib.hid hXB
      obtain ⟨nl, hnl⟩ : ∃ nl, l.length = nl := ⟨_, rfl⟩
      obtain ⟨nk, hnk⟩ : ∃ nk, ks.length = nk := ⟨_, rfl⟩
      have HNL := Lib.hid hnl
      have hE := enter_nat R d' m' (w.alloc (.cells #[.int .i64 kk, .bool bb, .int .i64 nn, .string ss, .slice pl nl cl, .slice pk nk ck] 25)) (hR.alloc _) (by omega) (by omega)
      have hI0 := hS.same _ _ _ hI ((Keeps.refl (· = R) w).alloc (.cells #[.int .i64 kk, .bool bb, .int .i64 nn, .string ss, .slice pl nl cl, .slice pk nk ck] 25))
      rw [hnl, hnk] at hW ⊢
      rw [hnl] at hl62
      obtain ⟨bp, hbp⟩ : ∃ bp, p T = bp := ⟨_, rfl⟩
      have HBP := Lib.hid hbp
      have HB := Lib.hid (And.intro hB hC)
      clear hV hTp hl h1 h2 h3 h4 hks hIn0 hT hN h0 hv hXB hbp hB hC hI
      clear hnl hnk
      go_enter Try.func52, Try.ntmps52
      go_wp2_with fail
      refine hE.mono ?_
      rintro e w1 ⟨rfl, hR1, hk1⟩
      have hbox1 : Box w1 w.heap.size _ := (hk1.block w.heap.size (by simp) (by omega)).trans (Box.new w _)
      have hs1 : w.heap.size < w1.heap.size := by have := hk1.size; simp at this; omega
      have hsee := hS.call T _ w1 k (hW.keeps hk1 (by have := HB.out.1; simp; omega) (fun j e => e ▸ hRB)) (by have := HB.out.1; omega) (by have := HB.out.2; omega) (hS.same _ _ _ hI0 hk1)
      have HK1 := Lib.hid hk1
      have HR1 := Lib.hid hR1
      have HBX := Lib.hid hbox1
      obtain ⟨a0, a1, a2, a3, a4, a5⟩ := hbox1.cell
      clear hk1 hR1 hbox1 hI0 hW hE hR
      go_wp2_with fail
      refine hsee.mono ?_
      rintro e w2 ⟨rfl, hk2, hI2⟩
      rw [HBP.out]
      have hkk : Keeps (fun j => j = R ∨ X j) w w2 := (((Keeps.refl _ w).alloc _).trans (HK1.out.mono fun j e _ => .inl e)).trans (hk2.mono fun j e _ => .inr e)
      have HKK := Lib.hid hkk
      have HI2 := Lib.hid hI2
      clear hsee a0 a1 a2 a3 a4 a5 hI2 hkk
      cases bp
      · have HP : Hid (WalkPost p R X I T (d' + 1) (m' + 1) k w (.returned (.bool false)) w2) := by
          have hn : walkV p T (d' + 1) (m' + 1) = none := by rw [HV.out, if_neg (by rw [HBP.out]; decide)]
          exact Lib.hid ⟨by rw [hn]; rfl, HKK.out, fun m' h => by rw [hn] at h; cases h⟩
        clear hk2
        go_wp2_with fail
        go_ret
        exact HP.out
      · have hV2 : walkV p T (d' + 1) (m' + 1) = walkL p l d' m' := by rw [HV.out, if_pos HBP.out]
        have HV2 := Lib.hid hV2
        have hbox2 : Box w2 w.heap.size _ := (hk2.block w.heap.size hs1 (fun h => by have := (hS.apart _ h).2.2; have := HB.out.2; omega)).trans HBX.out
        have HR2 : Hid (Reach w2 R d' m') := Lib.hid ((hk2.block R HR1.out.lt (fun h => (hS.apart _ h).2.1 rfl)).trans HR1.out)
        obtain ⟨a0, a1, a2, a3, a4, a5⟩ := hbox2.cell
        clear hbox2 hV2 hk2
        go_wp2_with fail
        have HW0 : Hid (WLoop p R X I l d' m' (k + 1) 0 m' w w2) := Lib.hid ⟨HR2.out, HKK.out, by simpa using HI2.out, Nat.le_refl _, rfl⟩
        have HD : Hid (d' + 1 ≤ 65536 ∧ m' + 1 ≤ 4194304) := Lib.hid ⟨hd, hm⟩
        clear a0 a1 a2 a3 a4 a5 hd hm
        go_loopw [21] (fun i wr => ∃ j mj : Nat, j ≤ nl ∧ i = .int .i64 j ∧ Hid (WLoop p R X I l d' m' (k + 1) j mj w wr)) (fun i _ => nl - (intOf i).toNat)
        case atStart => exact ⟨0, m', Nat.zero_le _, rfl, HW0⟩
        case round =>
          rename_i wr
          obtain ⟨j, mj, hj, rfl, HW⟩ := hrel
          by_cases hlt : j < nl
          · obtain ⟨x, hx⟩ : ∃ x, l[j]? = some x := ⟨l[j]'(by rw [HNL.out]; exact hlt), List.getElem?_eq_getElem _⟩
            obtain ⟨bl, ol, rfl, hbl, hInL⟩ := HL.out (by rw [HNL.out]; omega)
            have hlow : Below B w wr := HW.out.keeps.below HX.out HB.out.1
            obtain ⟨c0, c1, c2, c3, c4, c5, e0, e1, e2, e3, e4, e5, hInx⟩ := (VT.InL.keep (fun q hq => hlow.cell hq) hbl hInL).at hx
            obtain ⟨xk, xb, xn, xs, xpl, xnl, xcl, xpk, xnk, xck, rfl, rfl, rfl, rfl, rfl, rfl⟩ := hInx.shape
            have hInx2 := hInx.below (((Below.refl wr.heap.size wr).alloc (Nat.le_refl _) (.cells #[.int .i64 xk, .bool xb, .int .i64 xn, .string xs, .slice xpl xnl xcl, .slice xpk xnk xck] 25)).mono (by have := HB.out.1; have := HW.out.keeps.size; omega))
            have hI3 := hS.same _ _ _ HW.out.inv ((Keeps.refl (· = R) wr).alloc (.cells #[.int .i64 xk, .bool xb, .int .i64 xn, .string xs, .slice xpl xnl xcl, .slice xpk xnk xck] 25))
            have hcall := IH.out x _ (wr.alloc (.cells #[.int .i64 xk, .bool xb, .int .i64 xn, .string xs, .slice xpl xnl xcl, .slice xpk xnk xck] 25)) d' mj (k + 1 + (m' - mj)) (HTp.out x (List.mem_of_getElem? hx)) hInx2 (by have := HB.out.1; have := HW.out.keeps.size; simp; omega) (by have := HB.out.2; have := HW.out.keeps.size; simp; omega) (HW.out.reach.alloc _) hI3 (by have := HD.out.1; omega) (by have := HD.out.2; have := HW.out.le; omega)
            have HC := Lib.hid hcall
            have HDR := Lib.hid (drop_at hx)
            clear hcall hI3 hInx2 hInx hlow hInL hx
            go_wp2_with fail
            refine HC.out.mono ?_
            rintro e w3 ⟨rfl, hk3, hm3⟩
            have hkk3 : Keeps (fun j => j = R ∨ X j) w w3 := (HW.out.keeps.alloc _).trans hk3
            have HK3 := Lib.hid hkk3
            clear hk3 hkk3
            cases hv : walkV p x d' mj with
            | none =>
              have HP : Hid (WalkPost p R X I T (d' + 1) (m' + 1) k w (.returned (.bool false)) w3) := by
                have hn : walkV p T (d' + 1) (m' + 1) = none := by
                  rw [HV2.out, ← HW.out.rest, HDR.out]
                  unfold walkL
                  rw [hv]
                exact Lib.hid ⟨by rw [hn]; rfl, HK3.out, fun m' h => by rw [hn] at h; cases h⟩
              clear hm3 hv
              simp only [Option.isSome_none]
              go_wp2_with fail
              go_ret
              exact HP.out
            | some m3 =>
              have HW3 : Hid (WLoop p R X I l d' m' (k + 1) (j + 1) m3 w w3) := by
                obtain ⟨hr3, hi3⟩ := hm3 m3 hv
                have hle := walkV_le x _ _ _ hv
                have := HW.out.le
                refine Lib.hid ⟨hr3, HK3.out, ?_, by omega, ?_⟩
                · rw [show k + 1 + (m' - m3) = k + 1 + (m' - mj) + (mj - m3) by omega]
                  exact hi3
                · rw [← HW.out.rest, HDR.out]
                  conv => rhs; unfold walkL
                  rw [hv]
              clear hm3 hv
              simp only [Option.isSome_some]
              go_wp2_with fail
              go_roundw
              case rel => exact ⟨j + 1, m3, by omega, by go_num, HW3⟩
              case measure => simp [intOf]; omega
          · obtain rfl : j = nl := by omega
            have hV3 : walkV p T (d' + 1) (m' + 1) = some mj := by
              rw [HV2.out, ← HW.out.rest, ← HNL.out, List.drop_length]
              unfold walkL
              rfl
            have HV3 := Lib.hid hV3
            have hlv := leave_nat R d' mj wr HW.out.reach (by have := HD.out.1; omega)
            clear hV3
            go_wp2_with fail
            refine hlv.mono ?_
            rintro e w4 ⟨⟨v4, rfl⟩, hr4, hk4⟩
            have HP : Hid (WalkPost p R X I T (d' + 1) (m' + 1) k w (.returned (.bool true)) w4) := by
              refine Lib.hid ⟨by rw [HV3.out]; rfl, HW.out.keeps.trans (hk4.mono fun j e _ => .inl e), fun mm h => ?_⟩
              rw [HV3.out] at h
              cases h
              have := HW.out.le
              refine ⟨hr4, ?_⟩
              rw [show k + (m' + 1 - mj) = k + 1 + (m' - mj) by omega]
              exact hS.same _ _ _ HW.out.inv hk4
            clear hr4 hk4 hlv
            go_wp2_with fail
            go_ret
            exact HP.out
end Val
end Go.Proofs.Ytmhlipncelgmlaa
