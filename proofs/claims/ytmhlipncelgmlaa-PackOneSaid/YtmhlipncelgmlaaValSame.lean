/- THE WALKS over the document's own answer: are two values the same? -/
import Derived.Test.YtmhlipncelgmlaaRows
import Derived.Test.YtmhlipncelgmlaaHeld
import Derived.Test.YtmhlipncelgmlaaValBase
import Derived.Test.YtmhlipncelgmlaaVal
import Derived.Test.YtmhlipncelgmlaaValCmp
import Derived.Test.YtmhlipncelgmlaaValForm2
import Derived.Test.YtmhlipncelgmlaaValWalk
import Derived.Test.YtmhlipncelgmlaaValRef
import Derived.Test.YtmhlipncelgmlaaValMay
import Derived.Test.YtmhlipncelgmlaaValMay3
import Derived.WalkKit
import Derived.Lib.Hide
import Derived.WalkSpells
import Derived.WalkLawsBesides
import Derived.Deep.RegionHeld3
import Derived.Deep.QuietTactic
import Derived.BigQuiet
namespace Go.Proofs.Ytmhlipncelgmlaa
open Go.RowKit
set_option linter.unusedVariables false
set_option linter.unusedSimpArgs false
namespace Val
def namesV : List ByteArray → List ByteArray → Bool
  | [], [] => true
  | a :: as', b :: bs => a.toList == b.toList && namesV as' bs
  | _, _ => false
theorem namesV_len : ∀ {a b : List ByteArray}, a.length ≠ b.length → namesV a b = false
  | [], [], h => absurd rfl h
  | [], _ :: _, _ => rfl
  | _ :: _, [], _ => rfl
  | a :: as', b :: bs, h => by
    unfold namesV
    rw [namesV_len (a := as') (b := bs) (by simpa using h)]
    simp
theorem getD_drop {l : List ByteArray} {j : Nat} (h : j < l.length) : l.drop j = l.getD j default :: l.drop (j + 1) := by
  rw [List.drop_eq_getElem_cons h, List.getD_eq_getElem?_getD, List.getElem?_eq_getElem h]
  rfl
set_option maxHeartbeats 1000000 in
theorem names_any (pa pb : Option Addr) (ca cb B : Nat) (ka kb : List ByteArray) (w : World) (ha : VT.KeysIn w B pa ka) (hb : VT.KeysIn w B pb kb) (hla : ka.length ≤ maxLen) :
    Calls Try.prog 37 #[.slice pa ka.length ca, .slice pb kb.length cb] w fun e w' => e = .returned (.bool (namesV ka kb)) ∧ Below w.heap.size w w' := by
  by_cases hlen : ka.length = kb.length
  · have hL : (ka.length : Int) ≤ 9223372036854775807 := by unfold maxLen at hla; omega
    obtain ⟨n, hn⟩ : ∃ n, ka.length = n := ⟨_, rfl⟩
    have hn2 : kb.length = n := by omega
    obtain ⟨r, hr⟩ : ∃ r, namesV ka kb = r := ⟨_, rfl⟩
    rw [hn] at hL ⊢
    rw [hn2, hr]
    have HA := Lib.hid ha
    have HB := Lib.hid hb
    have HN := Lib.hid hn
    have HN2 := Lib.hid hn2
    have HR := Lib.hid hr
    clear ha hb hn hn2 hr hlen hla
    go_enter Try.func37, Try.ntmps37
    go_wp2
    go_loopw [5] (fun i wr => ∃ j q : Nat, j ≤ n ∧ i = .int .i64 j ∧ wr = w.drewN q ∧ Hid (namesV (ka.drop j) (kb.drop j) = r)) (fun i _ => n - (intOf i).toNat)
    case atStart => exact ⟨0, 0, Nat.zero_le _, rfl, rfl, Lib.hid HR.out⟩
    case round =>
      rename_i wr
      obtain ⟨j, q, hj, rfl, rfl, hT⟩ := hrel
      by_cases hlt : j < n
      · obtain ⟨ba, oa, rfl, -, hca⟩ := HA.out (by rw [HN.out]; omega)
        obtain ⟨bb, ob, rfl, -, hcb⟩ := HB.out (by rw [HN2.out]; omega)
        have c1 := hca j (by rw [HN.out]; exact hlt)
        have c2 := hcb j (by rw [HN2.out]; exact hlt)
        have hstep : (((ka.getD j default).toList == (kb.getD j default).toList) && namesV (ka.drop (j + 1)) (kb.drop (j + 1))) = r := by
          have := hT.out
          rw [getD_drop (by rw [HN.out]; exact hlt), getD_drop (l := kb) (by rw [HN2.out]; exact hlt)] at this
          exact this
        obtain ⟨x, hx⟩ : ∃ x, ka.getD j default = x := ⟨_, rfl⟩
        obtain ⟨y, hy⟩ : ∃ y, kb.getD j default = y := ⟨_, rfl⟩
        rw [hx, hy] at hstep
        rw [hx] at c1
        rw [hy] at c2
        have HS := Lib.hid hstep
        clear hca hcb hstep hx hy
        by_cases hxy : x.toList = y.toList
        · have HT2 : Hid (namesV (ka.drop (j + 1)) (kb.drop (j + 1)) = r) := Lib.hid (by have := HS.out; rw [hxy] at this; simpa using this)
          go_wp2_with fail
          go_quiet (fail)
          go_wp2_with fail
          go_roundw
          case rel => exact ⟨j + 1, _, by omega, by go_num, rfl, HT2⟩
          case measure => simp [intOf]; omega
        · have HF : Hid (r = false) := Lib.hid (by
            have := HS.out
            rw [show (x.toList == y.toList) = false by simpa using hxy] at this
            simpa using this.symm)
          have hb1 : (x.toList == y.toList) = false := by simpa using hxy
          have hb2 : (x.toList != y.toList) = true := by simpa using hxy
          go_wp2_with fail
          go_quiet (fail)
          go_wp2_with fail
          go_ret
          exact ⟨by rw [HF.out]; rfl, below_drewN (below_drewN (Below.refl _ _) _) _⟩
      · obtain rfl : n = j := by omega
        have HF : Hid (r = true) := Lib.hid (by
          have := hT.out
          rw [List.drop_of_length_le (by rw [HN.out]; exact Nat.le_refl _), List.drop_of_length_le (by rw [HN2.out]; exact Nat.le_refl _)] at this
          exact this.symm)
        go_wp2
        go_ret
        exact ⟨by rw [HF.out]; rfl, below_drewN (Below.refl _ _) _⟩
  · rw [namesV_len hlen]
    have hd : ((ka.length : Int) != (kb.length : Int)) = true := by simp only [bne_iff_ne]; omega
    generalize ka.length = na at *
    generalize kb.length = nb at *
    clear hlen hla ha hb
    go_enter Try.func37, Try.ntmps37
    go_wp2
    go_ret
    exact ⟨rfl, Below.refl _ _⟩
mutual
def sameV : VT → VT → Bool
  | .mk k b n s l ks, .mk k' b' n' s' l' ks' => k == k' && (b == b' && (n == n' && (s.toList == s'.toList && (namesV ks ks' && sameL l l'))))
def sameL : List VT → List VT → Bool
  | [], [] => true
  | t :: ts, u :: us => sameV t u && sameL ts us
  | [], _ :: _ => false
  | _ :: _, [] => false
end
theorem sameL_len : ∀ {a b : List VT}, a.length ≠ b.length → sameL a b = false
  | [], [], h => absurd rfl h
  | [], _ :: _, _ => by rw [sameL]
  | _ :: _, [], _ => by rw [sameL]
  | a :: as', b :: bs, h => by
    rw [sameL, sameL_len (a := as') (b := bs) (by simpa using h)]
    simp
/-- What the call of the other is to do. -/
def SameIH (N : Nat) : Prop := ∀ (t u : VT) (v z : Value) (B : Nat) (w : World), t.parts ≤ N → VT.In w B t v → VT.In w B u z → B ≤ w.heap.size → Calls Try.prog 16 #[v, z] w fun e w' => e = .returned (.bool (sameV t u)) ∧ Below w.heap.size w w'
set_option maxRecDepth 100000 in
set_option maxHeartbeats 2000000 in
theorem list_any (N : Nat) (IH : Hid (SameIH N)) (la lb : List VT) (pa pb : Option Addr) (ca cb B : Nat) (w : World) (hp : VT.partsL la ≤ N) (hA : 0 < la.length → ∃ bl ol, pa = some ⟨bl, ol, none⟩ ∧ bl < B ∧ VT.InL w B bl ol la) (hB : 0 < lb.length → ∃ bl ol, pb = some ⟨bl, ol, none⟩ ∧ bl < B ∧ VT.InL w B bl ol lb) (hlow : B ≤ w.heap.size) (hla : la.length ≤ maxLen) :
    Calls Try.prog 38 #[.slice pa la.length ca, .slice pb lb.length cb] w fun e w' => e = .returned (.bool (sameL la lb)) ∧ Below w.heap.size w w' := by
  by_cases hlen : la.length = lb.length
  · have hL : (la.length : Int) ≤ 9223372036854775807 := by unfold maxLen at hla; omega
    obtain ⟨n, hn⟩ : ∃ n, la.length = n := ⟨_, rfl⟩
    have hn2 : lb.length = n := by omega
    obtain ⟨r, hr⟩ : ∃ r, sameL la lb = r := ⟨_, rfl⟩
    have HP : Hid (∀ x, x ∈ la → x.parts ≤ N) := Lib.hid fun x hx => by have := VT.parts_mem hx; omega
    rw [hn] at hL ⊢
    rw [hn2, hr]
    have HA := Lib.hid hA
    have HB := Lib.hid hB
    have HN := Lib.hid hn
    have HN2 := Lib.hid hn2
    have HR := Lib.hid hr
    have HLW := Lib.hid hlow
    clear hA hB hn hn2 hr hlen hla hp hlow
    go_enter Try.func38, Try.ntmps38
    go_wp2
    go_loopw [5] (fun i wr => ∃ j : Nat, j ≤ n ∧ i = .int .i64 j ∧ Hid (Below w.heap.size w wr ∧ sameL (la.drop j) (lb.drop j) = r)) (fun i _ => n - (intOf i).toNat)
    case atStart => exact ⟨0, Nat.zero_le _, rfl, Lib.hid ⟨Below.refl _ _, HR.out⟩⟩
    case round =>
      rename_i wr
      obtain ⟨j, hj, rfl, hT⟩ := hrel
      by_cases hlt : j < n
      · obtain ⟨x, hx⟩ : ∃ x, la[j]? = some x := ⟨la[j]'(by rw [HN.out]; exact hlt), List.getElem?_eq_getElem _⟩
        obtain ⟨y, hy⟩ : ∃ y, lb[j]? = some y := ⟨lb[j]'(by rw [HN2.out]; exact hlt), List.getElem?_eq_getElem _⟩
        obtain ⟨ba, oa, rfl, hba, hIa⟩ := HA.out (by rw [HN.out]; omega)
        obtain ⟨bb, ob, rfl, hbb, hIb⟩ := HB.out (by rw [HN2.out]; omega)
        have hlow := hT.out.1.mono HLW.out
        obtain ⟨d0, d1, d2, d3, d4, d5, e0, e1, e2, e3, e4, e5, hIx⟩ := (VT.InL.keep (fun q hq => hlow.cell hq) hba hIa).at hx
        obtain ⟨g0, g1, g2, g3, g4, g5, f0, f1, f2, f3, f4, f5, hIy⟩ := (VT.InL.keep (fun q hq => hlow.cell hq) hbb hIb).at hy
        obtain ⟨xk, xb, xn, xs, xpl, xnl, xcl, xpk, xnk, xck, rfl, rfl, rfl, rfl, rfl, rfl⟩ := hIx.shape
        obtain ⟨yk, yb, yn, ys, ypl, ynl, ycl, ypk, ynk, yck, rfl, rfl, rfl, rfl, rfl, rfl⟩ := hIy.shape
        have hsz := hT.out.1.size
        have hcall := IH.out x y _ _ B wr.drew (HP.out x (List.mem_of_getElem? hx)) (hIx.below (Below.refl B wr).drew) (hIy.below (Below.refl B wr).drew) (by have := HLW.out; show B ≤ wr.heap.size; omega)
        have hstep : (sameV x y && sameL (la.drop (j + 1)) (lb.drop (j + 1))) = r := by
          have := hT.out.2
          rw [drop_at hx, drop_at hy, sameL] at this
          exact this
        have hltA : ba < wr.heap.size := by have := HLW.out; omega
        have hltB : bb < wr.heap.size := by have := HLW.out; omega
        have HS := Lib.hid hstep
        have HW := Lib.hid hT.out.1
        obtain ⟨sv, hsv⟩ : ∃ sv, sameV x y = sv := ⟨_, rfl⟩
        rw [hsv] at hcall HS
        clear hIx hIy hIa hIb hx hy hlow hstep hsv hsz
        go_wp2_with fail
        rename_i Q' K1 hK1
        refine wp_region_noPanic ?_
        refine wpIn_wide (n := 5).1 ?_
        refine wpIn_region_text (fun w' => ∀ p : Addr, p.block < wr.heap.size → w'.cell? p = wr.cell? p) [0, 1, 2, 3, 4, 5, 6, 7, 8, 9] rfl (by kernel_rfl) (by kernel_rfl) (by kernel_rfl) (by kernel_rfl) (fun _ _ _ _ _ h => h) (fun _ _ => rfl) ?_
        refine textS_take (o := _) (.slice (some ⟨ba, oa, none⟩) n ca) (by conv => lhs; simp only [List.getElem?_toArray, List.getElem?_cons_succ, List.getElem?_cons_zero]) (by rfl) (by rfl) ?_ (fun _ => by rfl) (by conv => lhs; simp only [Act.put, List.setIfInBounds_toArray, List.set_cons_succ, List.set_cons_zero]) ?_
        · intro w' _; go_simp
        refine textS_take (o := _) (.int .i64 j) (by conv => lhs; simp only [List.getElem?_toArray, List.getElem?_cons_succ, List.getElem?_cons_zero]) (by rfl) (by rfl) ?_ (fun _ => by rfl) (by conv => lhs; simp only [Act.put, List.setIfInBounds_toArray, List.set_cons_succ, List.set_cons_zero]) ?_
        · intro w' _; go_simp
        refine textS_take (o := _) (.pointer (some ⟨ba, oa + j * 6, none⟩)) (by conv => lhs; simp only [List.getElem?_toArray, List.getElem?_cons_succ, List.getElem?_cons_zero]) (by rfl) (by rfl) ?_ (fun _ => by rfl) (by conv => lhs; simp only [Act.put, List.setIfInBounds_toArray, List.set_cons_succ, List.set_cons_zero]) ?_
        · intro w' _; go_simp
        refine textS_take (o := _) (.agg #[.int .i64 xk, .bool xb, .int .i64 xn, .string xs, .slice xpl xnl xcl, .slice xpk xnk xck]) (by conv => lhs; simp only [List.getElem?_toArray, List.getElem?_cons_succ, List.getElem?_cons_zero]) (by rfl) (by rfl) ?_ (fun _ => by rfl) (by conv => lhs; simp only [Act.put, List.setIfInBounds_toArray, List.set_cons_succ, List.set_cons_zero]) ?_
        · intro w' hS; have q0 := (hS ⟨ba, oa + j * 6, none⟩ (by assumption)).trans e0; have q1 := (hS ⟨ba, oa + j * 6 + 1, none⟩ (by assumption)).trans e1; have q2 := (hS ⟨ba, oa + j * 6 + 2, none⟩ (by assumption)).trans e2; have q3 := (hS ⟨ba, oa + j * 6 + 3, none⟩ (by assumption)).trans e3; have q4 := (hS ⟨ba, oa + j * 6 + 4, none⟩ (by assumption)).trans e4; have q5 := (hS ⟨ba, oa + j * 6 + 5, none⟩ (by assumption)).trans e5; clear hS; go_simp
        refine textS_take (o := _) (.slice (some ⟨bb, ob, none⟩) n cb) (by conv => lhs; simp only [List.getElem?_toArray, List.getElem?_cons_succ, List.getElem?_cons_zero]) (by rfl) (by rfl) ?_ (fun _ => by rfl) (by conv => lhs; simp only [Act.put, List.setIfInBounds_toArray, List.set_cons_succ, List.set_cons_zero]) ?_
        · intro w' _; go_simp
        refine textS_take (o := _) (.int .i64 j) (by conv => lhs; simp only [List.getElem?_toArray, List.getElem?_cons_succ, List.getElem?_cons_zero]) (by rfl) (by rfl) ?_ (fun _ => by rfl) (by conv => lhs; simp only [Act.put, List.setIfInBounds_toArray, List.set_cons_succ, List.set_cons_zero]) ?_
        · intro w' _; go_simp
        refine textS_take (o := _) (.pointer (some ⟨bb, ob + j * 6, none⟩)) (by conv => lhs; simp only [List.getElem?_toArray, List.getElem?_cons_succ, List.getElem?_cons_zero]) (by rfl) (by rfl) ?_ (fun _ => by rfl) (by conv => lhs; simp only [Act.put, List.setIfInBounds_toArray, List.set_cons_succ, List.set_cons_zero]) ?_
        · intro w' _; go_simp
        refine textS_take (o := _) (.agg #[.int .i64 yk, .bool yb, .int .i64 yn, .string ys, .slice ypl ynl ycl, .slice ypk ynk yck]) (by conv => lhs; simp only [List.getElem?_toArray, List.getElem?_cons_succ, List.getElem?_cons_zero]) (by rfl) (by rfl) ?_ (fun _ => by rfl) (by conv => lhs; simp only [Act.put, List.setIfInBounds_toArray, List.set_cons_succ, List.set_cons_zero]) ?_
        · intro w' hS; have q0 := (hS ⟨bb, ob + j * 6, none⟩ (by assumption)).trans f0; have q1 := (hS ⟨bb, ob + j * 6 + 1, none⟩ (by assumption)).trans f1; have q2 := (hS ⟨bb, ob + j * 6 + 2, none⟩ (by assumption)).trans f2; have q3 := (hS ⟨bb, ob + j * 6 + 3, none⟩ (by assumption)).trans f3; have q4 := (hS ⟨bb, ob + j * 6 + 4, none⟩ (by assumption)).trans f4; have q5 := (hS ⟨bb, ob + j * 6 + 5, none⟩ (by assumption)).trans f5; clear hS; go_simp
        refine textS_call (o := _) (by conv => lhs; simp only [List.getElem?_toArray, List.getElem?_cons_succ, List.getElem?_cons_zero]) (by rfl) (by rfl) ?_
        refine wpIn_call (f := 16) (args := #[.agg #[.int .i64 xk, .bool xb, .int .i64 xn, .string xs, .slice xpl xnl xcl, .slice xpk xnk xck], .agg #[.int .i64 yk, .bool yb, .int .i64 yn, .string ys, .slice ypl ynl ycl, .slice ypk ynk yck]]) rfl ?_ hcall ?_
        · go_simp
        rintro e w3 ⟨rfl, hb3⟩
        have hst : ∀ p : Addr, p.block < wr.heap.size → w3.cell? p = wr.cell? p := fun p hp => hb3.cell (p := p) hp
        refine ⟨_, _, rfl, (by conv => lhs; simp only [Act.put, List.setIfInBounds_toArray, List.set_cons_succ, List.set_cons_zero]), hst, ?_⟩
        refine textS_take (o := _) (.bool (!sv)) (by conv => lhs; simp only [List.getElem?_toArray, List.getElem?_cons_succ, List.getElem?_cons_zero]) (by rfl) (by rfl) ?_ (fun _ => by rfl) (by conv => lhs; simp only [Act.put, List.setIfInBounds_toArray, List.set_cons_succ, List.set_cons_zero]) ?_
        · intro w' _; go_simp
        have HW3 : Hid (Below w.heap.size w w3) := Lib.hid (HW.out.trans ((show Below wr.heap.size wr w3 from ⟨hb3.os, hb3.tape, hb3.output, hb3.size, hb3.block⟩).mono HW.out.size))
        refine NoPanic.normal ?_
        refine hK1 _ _ ?_
        clear hK1 hst hb3 hcall e0 e1 e2 e3 e4 e5 f0 f1 f2 f3 f4 f5
        cases sv
        · have HF : Hid (r = false) := Lib.hid (by have := HS.out; simpa using this.symm)
          go_wp2_with fail
          go_ret
          exact ⟨by rw [HF.out]; rfl, HW3.out⟩
        · have HT2 : Hid (Below w.heap.size w w3 ∧ sameL (la.drop (j + 1)) (lb.drop (j + 1)) = r) := Lib.hid ⟨HW3.out, by have := HS.out; simpa using this⟩
          go_wp2_with fail
          go_roundw
          case rel => exact ⟨j + 1, by omega, by go_num, HT2⟩
          case measure => simp [intOf]; omega
      · obtain rfl : n = j := by omega
        have HF : Hid (r = true) := Lib.hid (by
          have := hT.out.2
          rw [List.drop_of_length_le (by rw [HN.out]; exact Nat.le_refl _), List.drop_of_length_le (by rw [HN2.out]; exact Nat.le_refl _), sameL] at this
          exact this.symm)
        go_wp2
        go_ret
        exact ⟨by rw [HF.out]; rfl, hT.out.1⟩
  · rw [sameL_len hlen]
    have hd : ((la.length : Int) != (lb.length : Int)) = true := by simp only [bne_iff_ne]; omega
    generalize la.length = na at *
    generalize lb.length = nb at *
    clear hlen hla hA hB hp hlow
    go_enter Try.func38, Try.ntmps38
    go_wp2
    go_ret
    exact ⟨rfl, Below.refl _ _⟩
set_option maxHeartbeats 2000000 in
theorem same_step (N : Nat) (IH : SameIH N) : SameIH (N + 1) := fun t u v z B w hN hIn hIn2 hB => by
    obtain ⟨k, b, n, s, l, ks⟩ := t
    obtain ⟨k', b', n', s', l', ks'⟩ := u
    unfold VT.In at hIn hIn2
    obtain ⟨pl, cl, pk, ck, rfl, h1, h2, h3, h4, hks, hl⟩ := hIn
    obtain ⟨pl', cl', pk', ck', rfl, h1', h2', h3', h4', hks', hl'⟩ := hIn2
    have hV : sameV (.mk k b n s l ks) (.mk k' b' n' s' l' ks') = (k == k' && (b == b' && (n == n' && (s.toList == s'.toList && (namesV ks ks' && sameL l l'))))) := by rw [sameV]
    rw [hV]
    have hp : VT.partsL l ≤ N := by rw [VT.parts] at hN; omega
    have HNM : Hid (∀ V, Below w.heap.size w V → Calls Try.prog 37 #[.slice pk ks.length ck, .slice pk' ks'.length ck'] V fun e w' => e = .returned (.bool (namesV ks ks')) ∧ Below V.heap.size V w') := Lib.hid fun V hV => names_any pk pk' ck ck' B ks ks' V (hks.keep fun q hq => hV.cell (by omega)) (hks'.keep fun q hq => hV.cell (by omega)) (by omega)
    have HLS : Hid (∀ V, Below w.heap.size w V → Calls Try.prog 38 #[.slice pl l.length cl, .slice pl' l'.length cl'] V fun e w' => e = .returned (.bool (sameL l l')) ∧ Below V.heap.size V w') := Lib.hid fun V hV => list_any N (Lib.hid IH) l l' pl pl' cl cl' B V hp (fun h => by
      obtain ⟨bl, ol, e, hb, hI⟩ := hl h
      exact ⟨bl, ol, e, hb, hI.keep (fun q hq => hV.cell (by omega)) hb⟩) (fun h => by
      obtain ⟨bl, ol, e, hb, hI⟩ := hl' h
      exact ⟨bl, ol, e, hb, hI.keep (fun q hq => hV.cell (by omega)) hb⟩) (Nat.le_trans hB hV.size) (by omega)
    obtain ⟨nb, hnb⟩ : ∃ nb, namesV ks ks' = nb := ⟨_, rfl⟩
    obtain ⟨lb, hlb⟩ : ∃ lb, sameL l l' = lb := ⟨_, rfl⟩
    rw [hnb] at HNM ⊢
    rw [hlb] at HLS ⊢
    obtain ⟨r, hr⟩ : ∃ r, (k == k' && (b == b' && (n == n' && (s.toList == s'.toList && (nb && lb))))) = r := ⟨_, rfl⟩
    rw [hr]
    have HR := Lib.hid hr
    clear hr hnb hlb hV hks hks' hl hl' h1 h2 h3 h4 h1' h2' h3' h4' hp hN hB
    generalize l.length = nl at *
    generalize l'.length = nl' at *
    generalize ks.length = nk at *
    generalize ks'.length = nk' at *
    go_enter Try.func16, Try.ntmps16
    by_cases c1 : k = k'
    · subst c1
      by_cases c2 : b = b'
      · subst c2
        by_cases c3 : n = n'
        · subst c3
          by_cases c4 : s.toList = s'.toList
          · go_wp2_with fail
            have bA : Box ((w.alloc (.cells #[.int .i64 k, .bool b, .int .i64 n, .string s, .slice pl nl cl, .slice pk nk ck] 25)).alloc (.cells #[.int .i64 k, .bool b, .int .i64 n, .string s', .slice pl' nl' cl', .slice pk' nk' ck'] 25)) w.heap.size _ := (Box.new w _).alloc _
            have bB : Box ((w.alloc (.cells #[.int .i64 k, .bool b, .int .i64 n, .string s, .slice pl nl cl, .slice pk nk ck] 25)).alloc (.cells #[.int .i64 k, .bool b, .int .i64 n, .string s', .slice pl' nl' cl', .slice pk' nk' ck'] 25)) (w.heap.size + 1) _ := (by
              have := Box.new (w.alloc (.cells #[.int .i64 k, .bool b, .int .i64 n, .string s, .slice pl nl cl, .slice pk nk ck] 25)) #[.int .i64 k, .bool b, .int .i64 n, .string s', .slice pl' nl' cl', .slice pk' nk' ck']
              rwa [World.size_alloc] at this)
            refine (HNM.out _ (two_below w _ _)).mono ?_
            rintro e w1 ⟨rfl, hb1⟩
            have hlow : Below w.heap.size w w1 := (two_below w _ _).trans (hb1.mono (by simp; omega))
            obtain ⟨a0, a1, a2, a3, a4, a5⟩ := (box_below bA hb1).cell
            obtain ⟨g0, g1, g2, g3, g4, g5⟩ := (box_below bB hb1).cell
            have HLOW := Lib.hid hlow
            clear hb1 bA bB hlow
            cases nb
            · have HF : Hid (r = false) := Lib.hid (by have := HR.out; simp at this; first | exact this | exact this.symm)
              go_wp2_with fail
              go_ret
              exact ⟨by rw [HF.out]; rfl, HLOW.out⟩
            · go_wp2_with fail
              refine (HLS.out w1 HLOW.out).mono ?_
              rintro e w2 ⟨rfl, hb2⟩
              have HL2 := Lib.hid (HLOW.out.trans (hb2.mono HLOW.out.size))
              have HF : Hid (r = lb) := Lib.hid (by have := HR.out; rw [c4] at this; simpa using this.symm)
              clear hb2
              go_wp2_with fail
              go_ret
              exact ⟨by rw [HF.out]; rfl, HL2.out⟩
          · have hs1 : (s.toList == s'.toList) = false := by simpa using c4
            have HF : Hid (r = false) := Lib.hid (by have := HR.out; rw [hs1] at this; simpa using this.symm)
            go_wp2_with fail
            go_ret
            exact ⟨by rw [HF.out]; rfl, two_below _ _ _⟩
        · have hs1 : (n == n') = false := by simpa using c3
          have HF : Hid (r = false) := Lib.hid (by have := HR.out; rw [hs1] at this; simpa using this.symm)
          go_wp2_with fail
          go_ret
          exact ⟨by rw [HF.out]; rfl, two_below _ _ _⟩
      · have hs1 : (b == b') = false := by simpa using c2
        have HF : Hid (r = false) := Lib.hid (by have := HR.out; rw [hs1] at this; simpa using this.symm)
        go_wp2_with fail
        go_ret
        exact ⟨by rw [HF.out]; rfl, two_below _ _ _⟩
    · have hs1 : (k == k') = false := by simpa using c1
      have HF : Hid (r = false) := Lib.hid (by have := HR.out; rw [hs1] at this; simpa using this.symm)
      go_wp2_with fail
      go_ret
      exact ⟨by rw [HF.out]; rfl, two_below _ _ _⟩
theorem same_any : ∀ N, SameIH N
  | 0 => fun t _ _ _ _ _ h _ _ _ => by have := t.parts_pos; omega
  | N + 1 => same_step N (same_any N)
end Val
end Go.Proofs.Ytmhlipncelgmlaa
