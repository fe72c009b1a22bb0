/- The law ValueOrder of any three values. -/
import Derived.Test.YtiphegccaijbgaaDoorRows
import Derived.Test.YtiphegccaijbgaaDoorVal
import Derived.Test.YtiphegccaijbgaaDoorValCmp
import Derived.Test.YtiphegccaijbgaaDoorValOrd
import Derived.Test.YtiphegccaijbgaaDoorValMay4
import Derived.Test.YtiphegccaijbgaaDoorValSame
import Derived.Test.YtiphegccaijbgaaDoorValCopyR
import Derived.Test.YtiphegccaijbgaaDoorValCopiesL
import Derived.Test.YtiphegccaijbgaaDoorValWorks
import Derived.Test.YtiphegccaijbgaaDoorOrdPlain
import Derived.Test.YtiphegccaijbgaaDoorOrdNames
import Derived.Test.YtiphegccaijbgaaDoorOrdDeep
import Derived.Test.YtiphegccaijbgaaDoorValBase
import Derived.Test.YtiphegccaijbgaaDoorValFlat
import Derived.Test.YtiphegccaijbgaaDoorValFirst
import Derived.Test.YtiphegccaijbgaaDoorValPlain
import Derived.Test.YtiphegccaijbgaaDoorVordL
import Derived.WalkKit
import Derived.Lib.Hide
namespace Go.Proofs.YtiphegccaijbgaaDoor
open Go.RowKit
set_option linter.unusedVariables false
set_option linter.unusedSimpArgs false
namespace Val
theorem cmp_rec (lo B l R : Nat) (Wl : World) (WS : Int → World) (hY : Yld lo l B Wl WS) (hB : B ≤ Wl.heap.size) (hRB : B ≤ R) (hlo : lo ≤ B) (hg : 1 < B) : ∀ N, CmpIH N lo B l R Wl WS
  | 0 => fun t u v z W d m h => by have := t.parts_pos; omega
  | N + 1 => cmp_step N lo B l R Wl WS hY hB hRB hlo hg (cmp_rec lo B l R Wl WS hY hB hRB hlo hg N)
theorem CmpPost.ended {B R d m np : Nat} {WS : Int → World} {c : Int} {Wl W w' : World} {e : Ending} (hlow : Below B Wl W) (hB : B ≤ Wl.heap.size) (hRB : B ≤ R) (h : CmpPost B R d m WS c np W e w') : Ended B Wl WS c e w' := by
  rcases h with ⟨h0, he, hk, -⟩ | ⟨h0, he, hb, -⟩
  · exact ⟨⟨_, he⟩, .inl ⟨h0, hlow.trans (hk.below (fun k e => by omega) (Nat.le_trans hB hlow.size))⟩⟩
  · exact ⟨⟨_, he⟩, .inr ⟨h0, hb⟩⟩
/-- Order of two trees that may. -/
theorem order_any (t u : VT) (v z : Value) (w : World) (hIn : VT.In w w.heap.size t v) (hIn2 : VT.In w w.heap.size u z) (hmt : mayB t = true) (hmu : mayB u = true) (hP : Places w) :
    Calls Tryd.prog 23 #[v, z] w fun e w' => e = .returned (.int .i64 (ordV t u)) ∧ Below w.heap.size w w' := by
  have ht := parts_le hmt
  have hu := parts_le hmu
  have hst := small_may hmt
  have hsu := small_may hmu
  obtain ⟨T, hT⟩ : ∃ T, T = t := ⟨_, rfl⟩
  obtain ⟨U, hU⟩ : ∃ U, U = u := ⟨_, rfl⟩
  have hx := hIn
  have hx2 := hIn2
  obtain ⟨k, b, n, s, l, ks⟩ := t
  obtain ⟨k', b', n', s', l', ks'⟩ := u
  unfold VT.In at hx hx2
  obtain ⟨pl, cl, pk, ck, rfl, -⟩ := hx
  obtain ⟨pl', cl', pk', ck', rfl, -⟩ := hx2
  rw [← hT] at hIn ht hst ⊢
  rw [← hU] at hIn2 hu hsu ⊢
  exact order_of _ w _ _ _ _ _ _ _ _ _ _ _ _ hP fun lo l0 R B Wl V WS hY h1 h2 h3 h4 hWl h6 hV hR hPV =>
    (cmp_rec lo B l0 R Wl WS hY h3 h4 h2 (Nat.lt_of_lt_of_le hP.lt h6) T.parts T U _ _ V 65536 4194304 (Nat.le_refl _) hst hsu ((hIn.below hWl).more h1) ((hIn2.below hWl).more h1) (by omega) hV hR hPV (by omega) (by omega) (by omega) (by omega)).mono fun e w' h => h.ended hV h3 h4
theorem osame_any (t u : VT) (v z : Value) (w : World) (hIn : VT.In w w.heap.size t v) (hIn2 : VT.In w w.heap.size u z) (hmt : mayB t = true) (hmu : mayB u = true) (hP : Places w) :
    Calls Tryd.prog 35 #[v, z] w fun e w' => e = .returned (.bool (ordV t u == 0)) ∧ Below w.heap.size w w' := by
  have hx := hIn
  have hx2 := hIn2
  obtain ⟨T, hT⟩ : ∃ T, T = t := ⟨_, rfl⟩
  obtain ⟨U, hU⟩ : ∃ U, U = u := ⟨_, rfl⟩
  obtain ⟨k, b, n, s, l, ks⟩ := t
  obtain ⟨k', b', n', s', l', ks'⟩ := u
  unfold VT.In at hx hx2
  obtain ⟨pl, cl, pk, ck, rfl, -⟩ := hx
  obtain ⟨pl', cl', pk', ck', rfl, -⟩ := hx2
  rw [← hT] at hIn hmt ⊢
  rw [← hU] at hIn2 hmu ⊢
  exact same_of _ w _ _ _ _ _ _ _ _ _ _ _ _ _ rfl fun V hV => order_any T U _ _ V ((hIn.below hV).more hV.size) ((hIn2.below hV).more hV.size) hmt hmu (hP.below hV hP.lt)
def Sg (c : Int) : Prop := c = -1 ∨ c = 0 ∨ c = 1
theorem Sg.or {a b : Int} (h : Sg a) (h' : Sg b) : Sg (orE a b) := by
  unfold orE
  by_cases h0 : a = 0
  · rw [if_pos h0]; exact h'
  · rw [if_neg h0]; exact h
theorem sg_cmp (a b : Int) : Sg (cmpV a b) := by
  unfold cmpV Sg
  by_cases h : a < b
  · rw [if_pos h]; exact .inl rfl
  · rw [if_neg h]
    by_cases h' : b < a
    · rw [if_pos h']; exact .inr (.inr rfl)
    · rw [if_neg h']; exact .inr (.inl rfl)
theorem sg_names : ∀ a b : List ByteArray, Sg (namesC a b)
  | [], [] => .inr (.inl rfl)
  | [], _ :: _ => .inl rfl
  | _ :: _, [] => .inr (.inr rfl)
  | x :: a, y :: b => by
    unfold namesC
    exact Sg.or (cmpB_cases _ _) (sg_names a b)
mutual
theorem sg_ord : ∀ t u : VT, Sg (ordV t u)
  | .mk k b n s l ks, .mk k' b' n' s' l' ks' => by
    unfold ordV flatV
    exact Sg.or (Sg.or (sg_cmp _ _) (Sg.or (sg_cmp _ _) (Sg.or (sg_cmp _ _) (cmpB_cases _ _)))) (Sg.or (sg_ordL l l' ks ks') (Sg.or (sg_names _ _) (sg_cmp _ _)))
theorem sg_ordL : ∀ (l l' : List VT) (ks ks' : List ByteArray), Sg (ordL l l' ks ks')
  | [], [], _, _ => by unfold ordL; exact .inr (.inl rfl)
  | [], _ :: _, _, _ => by unfold ordL; exact .inr (.inl rfl)
  | _ :: _, [], _, _ => by unfold ordL; exact .inr (.inl rfl)
  | t :: ts, u :: us, ks, ks' => by
    unfold ordL
    refine Sg.or ?_ (Sg.or (sg_ord t u) (sg_ordL ts us _ _))
    by_cases h : 0 < min ks.length ks'.length
    · rw [if_pos h]; exact cmpB_cases _ _
    · rw [if_neg h]; exact .inr (.inl rfl)
end
theorem same_ord {t u : VT} (ht : allV formedV t = true) (hu : allV formedV u = true) : sameV t u = (ordV t u == 0) := by
  by_cases h : ordV t u = 0
  · rw [ord_eq t u ht hu h, sameV_refl, ordV_self]; rfl
  · have h2 : ¬ sameV t u = true := fun hs => h (by rw [same_eq t u hs, ordV_self])
    rw [show sameV t u = false by simpa using h2]
    simp [h]
/-- What the walk asks of three values, bundled. -/
theorem vord_go (x y z : Int) (a0 a1 a2 a3 a4 a5 b0 b1 b2 b3 b4 b5 d0 d1 d2 d3 d4 d5 : Value) (w : World) (hx : Sg x) (hy : Sg y) (hz : Sg z) (h1 : Tri x y z) (h2 : Tri (-y) (-x) (-z))
    (hM1 : On3 w #[a0, a1, a2, a3, a4, a5] #[b0, b1, b2, b3, b4, b5] #[d0, d1, d2, d3, d4, d5] 10 #[.agg #[a0, a1, a2, a3, a4, a5]] (.bool true))
    (hM2 : On3 w #[a0, a1, a2, a3, a4, a5] #[b0, b1, b2, b3, b4, b5] #[d0, d1, d2, d3, d4, d5] 10 #[.agg #[b0, b1, b2, b3, b4, b5]] (.bool true))
    (hM3 : On3 w #[a0, a1, a2, a3, a4, a5] #[b0, b1, b2, b3, b4, b5] #[d0, d1, d2, d3, d4, d5] 10 #[.agg #[d0, d1, d2, d3, d4, d5]] (.bool true))
    (hO12 : On3 w #[a0, a1, a2, a3, a4, a5] #[b0, b1, b2, b3, b4, b5] #[d0, d1, d2, d3, d4, d5] 23 #[.agg #[a0, a1, a2, a3, a4, a5], .agg #[b0, b1, b2, b3, b4, b5]] (.int .i64 x))
    (hO23 : On3 w #[a0, a1, a2, a3, a4, a5] #[b0, b1, b2, b3, b4, b5] #[d0, d1, d2, d3, d4, d5] 23 #[.agg #[b0, b1, b2, b3, b4, b5], .agg #[d0, d1, d2, d3, d4, d5]] (.int .i64 y))
    (hO13 : On3 w #[a0, a1, a2, a3, a4, a5] #[b0, b1, b2, b3, b4, b5] #[d0, d1, d2, d3, d4, d5] 23 #[.agg #[a0, a1, a2, a3, a4, a5], .agg #[d0, d1, d2, d3, d4, d5]] (.int .i64 z))
    (hO21 : On3 w #[a0, a1, a2, a3, a4, a5] #[b0, b1, b2, b3, b4, b5] #[d0, d1, d2, d3, d4, d5] 23 #[.agg #[b0, b1, b2, b3, b4, b5], .agg #[a0, a1, a2, a3, a4, a5]] (.int .i64 (-x)))
    (hO11 : On3 w #[a0, a1, a2, a3, a4, a5] #[b0, b1, b2, b3, b4, b5] #[d0, d1, d2, d3, d4, d5] 23 #[.agg #[a0, a1, a2, a3, a4, a5], .agg #[a0, a1, a2, a3, a4, a5]] (.int .i64 0))
    (hS : On3 w #[a0, a1, a2, a3, a4, a5] #[b0, b1, b2, b3, b4, b5] #[d0, d1, d2, d3, d4, d5] 19 #[.agg #[a0, a1, a2, a3, a4, a5], .agg #[b0, b1, b2, b3, b4, b5]] (.bool (x == 0)))
    (hW : On3 w #[a0, a1, a2, a3, a4, a5] #[b0, b1, b2, b3, b4, b5] #[d0, d1, d2, d3, d4, d5] 15 #[] (.bool true))
    : Calls Tryd.prog 5 #[.agg #[a0, a1, a2, a3, a4, a5], .agg #[b0, b1, b2, b3, b4, b5], .agg #[d0, d1, d2, d3, d4, d5]] w fun e w' => e = .returned (.bool true) ∧ Below w.heap.size w w' := by
  unfold Sg at hx hy hz
  unfold Tri at h1 h2
  rcases hx with rfl | rfl | rfl
  · rcases hy with rfl | rfl | rfl
    · rcases hz with rfl | rfl | rfl
      · exact vord_lll _ _ _ _ _ _ _ _ _ _ _ _ _ _ _ _ _ _ w (Lib.hid hM1) (Lib.hid hM2) (Lib.hid hM3) (Lib.hid hO12) (Lib.hid hO23) (Lib.hid hO13) (Lib.hid hO21) (Lib.hid hO11) (Lib.hid hS) (Lib.hid hW)
      · omega
      · omega
    · rcases hz with rfl | rfl | rfl
      · exact vord_lel _ _ _ _ _ _ _ _ _ _ _ _ _ _ _ _ _ _ w (Lib.hid hM1) (Lib.hid hM2) (Lib.hid hM3) (Lib.hid hO12) (Lib.hid hO23) (Lib.hid hO13) (Lib.hid hO21) (Lib.hid hO11) (Lib.hid hS) (Lib.hid hW)
      · omega
      · omega
    · rcases hz with rfl | rfl | rfl
      · exact vord_lgl _ _ _ _ _ _ _ _ _ _ _ _ _ _ _ _ _ _ w (Lib.hid hM1) (Lib.hid hM2) (Lib.hid hM3) (Lib.hid hO12) (Lib.hid hO23) (Lib.hid hO13) (Lib.hid hO21) (Lib.hid hO11) (Lib.hid hS) (Lib.hid hW)
      · exact vord_lge _ _ _ _ _ _ _ _ _ _ _ _ _ _ _ _ _ _ w (Lib.hid hM1) (Lib.hid hM2) (Lib.hid hM3) (Lib.hid hO12) (Lib.hid hO23) (Lib.hid hO13) (Lib.hid hO21) (Lib.hid hO11) (Lib.hid hS) (Lib.hid hW)
      · exact vord_lgg _ _ _ _ _ _ _ _ _ _ _ _ _ _ _ _ _ _ w (Lib.hid hM1) (Lib.hid hM2) (Lib.hid hM3) (Lib.hid hO12) (Lib.hid hO23) (Lib.hid hO13) (Lib.hid hO21) (Lib.hid hO11) (Lib.hid hS) (Lib.hid hW)
  · rcases hy with rfl | rfl | rfl
    · rcases hz with rfl | rfl | rfl
      · exact vord_ell _ _ _ _ _ _ _ _ _ _ _ _ _ _ _ _ _ _ w (Lib.hid hM1) (Lib.hid hM2) (Lib.hid hM3) (Lib.hid hO12) (Lib.hid hO23) (Lib.hid hO13) (Lib.hid hO21) (Lib.hid hO11) (Lib.hid hS) (Lib.hid hW)
      · omega
      · omega
    · rcases hz with rfl | rfl | rfl
      · omega
      · exact vord_eee _ _ _ _ _ _ _ _ _ _ _ _ _ _ _ _ _ _ w (Lib.hid hM1) (Lib.hid hM2) (Lib.hid hM3) (Lib.hid hO12) (Lib.hid hO23) (Lib.hid hO13) (Lib.hid hO21) (Lib.hid hO11) (Lib.hid hS) (Lib.hid hW)
      · omega
    · rcases hz with rfl | rfl | rfl
      · omega
      · omega
      · exact vord_egg _ _ _ _ _ _ _ _ _ _ _ _ _ _ _ _ _ _ w (Lib.hid hM1) (Lib.hid hM2) (Lib.hid hM3) (Lib.hid hO12) (Lib.hid hO23) (Lib.hid hO13) (Lib.hid hO21) (Lib.hid hO11) (Lib.hid hS) (Lib.hid hW)
  · rcases hy with rfl | rfl | rfl
    · rcases hz with rfl | rfl | rfl
      · exact vord_gll _ _ _ _ _ _ _ _ _ _ _ _ _ _ _ _ _ _ w (Lib.hid hM1) (Lib.hid hM2) (Lib.hid hM3) (Lib.hid hO12) (Lib.hid hO23) (Lib.hid hO13) (Lib.hid hO21) (Lib.hid hO11) (Lib.hid hS) (Lib.hid hW)
      · exact vord_gle _ _ _ _ _ _ _ _ _ _ _ _ _ _ _ _ _ _ w (Lib.hid hM1) (Lib.hid hM2) (Lib.hid hM3) (Lib.hid hO12) (Lib.hid hO23) (Lib.hid hO13) (Lib.hid hO21) (Lib.hid hO11) (Lib.hid hS) (Lib.hid hW)
      · exact vord_glg _ _ _ _ _ _ _ _ _ _ _ _ _ _ _ _ _ _ w (Lib.hid hM1) (Lib.hid hM2) (Lib.hid hM3) (Lib.hid hO12) (Lib.hid hO23) (Lib.hid hO13) (Lib.hid hO21) (Lib.hid hO11) (Lib.hid hS) (Lib.hid hW)
    · rcases hz with rfl | rfl | rfl
      · omega
      · omega
      · exact vord_geg _ _ _ _ _ _ _ _ _ _ _ _ _ _ _ _ _ _ w (Lib.hid hM1) (Lib.hid hM2) (Lib.hid hM3) (Lib.hid hO12) (Lib.hid hO23) (Lib.hid hO13) (Lib.hid hO21) (Lib.hid hO11) (Lib.hid hS) (Lib.hid hW)
    · rcases hz with rfl | rfl | rfl
      · omega
      · omega
      · exact vord_ggg _ _ _ _ _ _ _ _ _ _ _ _ _ _ _ _ _ _ w (Lib.hid hM1) (Lib.hid hM2) (Lib.hid hM3) (Lib.hid hO12) (Lib.hid hO23) (Lib.hid hO13) (Lib.hid hO21) (Lib.hid hO11) (Lib.hid hS) (Lib.hid hW)
theorem valueOrder_any (t u s3 : VT) (v z y : Value) (w : World) (hIn : VT.In w w.heap.size t v) (hIn2 : VT.In w w.heap.size u z) (hIn3 : VT.In w w.heap.size s3 y) (hP : Places w) : Calls Tryd.prog 5 #[v, z, y] w fun e w' => e = .returned (.bool true) ∧ Below w.heap.size w w' := by
  obtain ⟨k, b, n, s, l, ks⟩ := t
  obtain ⟨k', b', n', s', l', ks'⟩ := u
  obtain ⟨k'', b'', n'', s'', l'', ks''⟩ := s3
  have hx := hIn
  have hx2 := hIn2
  have hx3 := hIn3
  unfold VT.In at hx hx2 hx3
  obtain ⟨pl, cl, pk, ck, rfl, -⟩ := hx
  obtain ⟨pl', cl', pk', ck', rfl, -⟩ := hx2
  obtain ⟨pl'', cl'', pk'', ck'', rfl, -⟩ := hx3
  obtain ⟨T, hTT⟩ : ∃ T, VT.mk k b n s l ks = T := ⟨_, rfl⟩
  obtain ⟨U, hUU⟩ : ∃ U, VT.mk k' b' n' s' l' ks' = U := ⟨_, rfl⟩
  obtain ⟨Q, hQQ⟩ : ∃ Q, VT.mk k'' b'' n'' s'' l'' ks'' = Q := ⟨_, rfl⟩
  rw [hTT] at hIn
  rw [hUU] at hIn2
  rw [hQQ] at hIn3
  clear hTT hUU hQQ
  have hI : ∀ V, Seen3 w #[.int .i64 k, .bool b, .int .i64 n, .string s, .slice pl l.length cl, .slice pk ks.length ck] #[.int .i64 k', .bool b', .int .i64 n', .string s', .slice pl' l'.length cl', .slice pk' ks'.length ck'] #[.int .i64 k'', .bool b'', .int .i64 n'', .string s'', .slice pl'' l''.length cl'', .slice pk'' ks''.length ck''] V → VT.In V V.heap.size T (.agg #[.int .i64 k, .bool b, .int .i64 n, .string s, .slice pl l.length cl, .slice pk ks.length ck]) := fun V hV => (hIn.below hV.low).more hV.low.size
  have hI2 : ∀ V, Seen3 w #[.int .i64 k, .bool b, .int .i64 n, .string s, .slice pl l.length cl, .slice pk ks.length ck] #[.int .i64 k', .bool b', .int .i64 n', .string s', .slice pl' l'.length cl', .slice pk' ks'.length ck'] #[.int .i64 k'', .bool b'', .int .i64 n'', .string s'', .slice pl'' l''.length cl'', .slice pk'' ks''.length ck''] V → VT.In V V.heap.size U (.agg #[.int .i64 k', .bool b', .int .i64 n', .string s', .slice pl' l'.length cl', .slice pk' ks'.length ck']) := fun V hV => (hIn2.below hV.low).more hV.low.size
  have hI3 : ∀ V, Seen3 w #[.int .i64 k, .bool b, .int .i64 n, .string s, .slice pl l.length cl, .slice pk ks.length ck] #[.int .i64 k', .bool b', .int .i64 n', .string s', .slice pl' l'.length cl', .slice pk' ks'.length ck'] #[.int .i64 k'', .bool b'', .int .i64 n'', .string s'', .slice pl'' l''.length cl'', .slice pk'' ks''.length ck''] V → VT.In V V.heap.size Q (.agg #[.int .i64 k'', .bool b'', .int .i64 n'', .string s'', .slice pl'' l''.length cl'', .slice pk'' ks''.length ck'']) := fun V hV => (hIn3.below hV.low).more hV.low.size
  have hPV : ∀ V, Seen3 w #[.int .i64 k, .bool b, .int .i64 n, .string s, .slice pl l.length cl, .slice pk ks.length ck] #[.int .i64 k', .bool b', .int .i64 n', .string s', .slice pl' l'.length cl', .slice pk' ks'.length ck'] #[.int .i64 k'', .bool b'', .int .i64 n'', .string s'', .slice pl'' l''.length cl'', .slice pk'' ks''.length ck''] V → Places V := fun V hV => hP.below hV.low hP.lt
  have hM1 : On3 w #[.int .i64 k, .bool b, .int .i64 n, .string s, .slice pl l.length cl, .slice pk ks.length ck] #[.int .i64 k', .bool b', .int .i64 n', .string s', .slice pl' l'.length cl', .slice pk' ks'.length ck'] #[.int .i64 k'', .bool b'', .int .i64 n'', .string s'', .slice pl'' l''.length cl'', .slice pk'' ks''.length ck''] 10 #[.agg #[.int .i64 k, .bool b, .int .i64 n, .string s, .slice pl l.length cl, .slice pk ks.length ck]] (.bool (mayB T)) := fun V hV => (May_any T _ V.heap.size V (hI V hV) (Nat.le_refl _)).mono fun e w' h => ⟨h.1, hV.step h.2⟩
  have hM2 : On3 w #[.int .i64 k, .bool b, .int .i64 n, .string s, .slice pl l.length cl, .slice pk ks.length ck] #[.int .i64 k', .bool b', .int .i64 n', .string s', .slice pl' l'.length cl', .slice pk' ks'.length ck'] #[.int .i64 k'', .bool b'', .int .i64 n'', .string s'', .slice pl'' l''.length cl'', .slice pk'' ks''.length ck''] 10 #[.agg #[.int .i64 k', .bool b', .int .i64 n', .string s', .slice pl' l'.length cl', .slice pk' ks'.length ck']] (.bool (mayB U)) := fun V hV => (May_any U _ V.heap.size V (hI2 V hV) (Nat.le_refl _)).mono fun e w' h => ⟨h.1, hV.step h.2⟩
  have hM3 : On3 w #[.int .i64 k, .bool b, .int .i64 n, .string s, .slice pl l.length cl, .slice pk ks.length ck] #[.int .i64 k', .bool b', .int .i64 n', .string s', .slice pl' l'.length cl', .slice pk' ks'.length ck'] #[.int .i64 k'', .bool b'', .int .i64 n'', .string s'', .slice pl'' l''.length cl'', .slice pk'' ks''.length ck''] 10 #[.agg #[.int .i64 k'', .bool b'', .int .i64 n'', .string s'', .slice pl'' l''.length cl'', .slice pk'' ks''.length ck'']] (.bool (mayB Q)) := fun V hV => (May_any Q _ V.heap.size V (hI3 V hV) (Nat.le_refl _)).mono fun e w' h => ⟨h.1, hV.step h.2⟩
  have hW : On3 w #[.int .i64 k, .bool b, .int .i64 n, .string s, .slice pl l.length cl, .slice pk ks.length ck] #[.int .i64 k', .bool b', .int .i64 n', .string s', .slice pl' l'.length cl', .slice pk' ks'.length ck'] #[.int .i64 k'', .bool b'', .int .i64 n'', .string s'', .slice pl'' l''.length cl'', .slice pk'' ks''.length ck''] 15 #[] (.bool true) := fun V hV => (works_any V (hPV V hV)).mono fun e w' h => ⟨h.1, hV.step h.2⟩
  by_cases hm1 : mayB T = true
  · by_cases hm2 : mayB U = true
    · by_cases hm3 : mayB Q = true
      · rw [hm1] at hM1
        rw [hm2] at hM2
        rw [hm3] at hM3
        have hO12 : On3 w #[.int .i64 k, .bool b, .int .i64 n, .string s, .slice pl l.length cl, .slice pk ks.length ck] #[.int .i64 k', .bool b', .int .i64 n', .string s', .slice pl' l'.length cl', .slice pk' ks'.length ck'] #[.int .i64 k'', .bool b'', .int .i64 n'', .string s'', .slice pl'' l''.length cl'', .slice pk'' ks''.length ck''] 23 #[.agg #[.int .i64 k, .bool b, .int .i64 n, .string s, .slice pl l.length cl, .slice pk ks.length ck], .agg #[.int .i64 k', .bool b', .int .i64 n', .string s', .slice pl' l'.length cl', .slice pk' ks'.length ck']] (.int .i64 (ordV T U)) := fun V hV => (order_any T U _ _ V (hI V hV) (hI2 V hV) hm1 hm2 (hPV V hV)).mono fun e w' h => ⟨h.1, hV.step h.2⟩
        have hO23 : On3 w #[.int .i64 k, .bool b, .int .i64 n, .string s, .slice pl l.length cl, .slice pk ks.length ck] #[.int .i64 k', .bool b', .int .i64 n', .string s', .slice pl' l'.length cl', .slice pk' ks'.length ck'] #[.int .i64 k'', .bool b'', .int .i64 n'', .string s'', .slice pl'' l''.length cl'', .slice pk'' ks''.length ck''] 23 #[.agg #[.int .i64 k', .bool b', .int .i64 n', .string s', .slice pl' l'.length cl', .slice pk' ks'.length ck'], .agg #[.int .i64 k'', .bool b'', .int .i64 n'', .string s'', .slice pl'' l''.length cl'', .slice pk'' ks''.length ck'']] (.int .i64 (ordV U Q)) := fun V hV => (order_any U Q _ _ V (hI2 V hV) (hI3 V hV) hm2 hm3 (hPV V hV)).mono fun e w' h => ⟨h.1, hV.step h.2⟩
        have hO13 : On3 w #[.int .i64 k, .bool b, .int .i64 n, .string s, .slice pl l.length cl, .slice pk ks.length ck] #[.int .i64 k', .bool b', .int .i64 n', .string s', .slice pl' l'.length cl', .slice pk' ks'.length ck'] #[.int .i64 k'', .bool b'', .int .i64 n'', .string s'', .slice pl'' l''.length cl'', .slice pk'' ks''.length ck''] 23 #[.agg #[.int .i64 k, .bool b, .int .i64 n, .string s, .slice pl l.length cl, .slice pk ks.length ck], .agg #[.int .i64 k'', .bool b'', .int .i64 n'', .string s'', .slice pl'' l''.length cl'', .slice pk'' ks''.length ck'']] (.int .i64 (ordV T Q)) := fun V hV => (order_any T Q _ _ V (hI V hV) (hI3 V hV) hm1 hm3 (hPV V hV)).mono fun e w' h => ⟨h.1, hV.step h.2⟩
        have hO21 : On3 w #[.int .i64 k, .bool b, .int .i64 n, .string s, .slice pl l.length cl, .slice pk ks.length ck] #[.int .i64 k', .bool b', .int .i64 n', .string s', .slice pl' l'.length cl', .slice pk' ks'.length ck'] #[.int .i64 k'', .bool b'', .int .i64 n'', .string s'', .slice pl'' l''.length cl'', .slice pk'' ks''.length ck''] 23 #[.agg #[.int .i64 k', .bool b', .int .i64 n', .string s', .slice pl' l'.length cl', .slice pk' ks'.length ck'], .agg #[.int .i64 k, .bool b, .int .i64 n, .string s, .slice pl l.length cl, .slice pk ks.length ck]] (.int .i64 (- ordV T U)) := fun V hV => (order_any U T _ _ V (hI2 V hV) (hI V hV) hm2 hm1 (hPV V hV)).mono fun e w' h => ⟨by rw [h.1, ordV_swap T U], hV.step h.2⟩
        have hO11 : On3 w #[.int .i64 k, .bool b, .int .i64 n, .string s, .slice pl l.length cl, .slice pk ks.length ck] #[.int .i64 k', .bool b', .int .i64 n', .string s', .slice pl' l'.length cl', .slice pk' ks'.length ck'] #[.int .i64 k'', .bool b'', .int .i64 n'', .string s'', .slice pl'' l''.length cl'', .slice pk'' ks''.length ck''] 23 #[.agg #[.int .i64 k, .bool b, .int .i64 n, .string s, .slice pl l.length cl, .slice pk ks.length ck], .agg #[.int .i64 k, .bool b, .int .i64 n, .string s, .slice pl l.length cl, .slice pk ks.length ck]] (.int .i64 0) := fun V hV => (order_any T T _ _ V (hI V hV) (hI V hV) hm1 hm1 (hPV V hV)).mono fun e w' h => ⟨by rw [h.1, ordV_self], hV.step h.2⟩
        have hS : On3 w #[.int .i64 k, .bool b, .int .i64 n, .string s, .slice pl l.length cl, .slice pk ks.length ck] #[.int .i64 k', .bool b', .int .i64 n', .string s', .slice pl' l'.length cl', .slice pk' ks'.length ck'] #[.int .i64 k'', .bool b'', .int .i64 n'', .string s'', .slice pl'' l''.length cl'', .slice pk'' ks''.length ck''] 19 #[.agg #[.int .i64 k, .bool b, .int .i64 n, .string s, .slice pl l.length cl, .slice pk ks.length ck], .agg #[.int .i64 k', .bool b', .int .i64 n', .string s', .slice pl' l'.length cl', .slice pk' ks'.length ck']] (.bool (ordV T U == 0)) := fun V hV => (same_any T.parts T U _ _ V.heap.size V (Nat.le_refl _) (hI V hV) (hI2 V hV) (Nat.le_refl _)).mono fun e w' h => ⟨by rw [h.1, same_ord (may_formed hm1) (may_formed hm2)], hV.step h.2⟩
        have t2 : Tri (- ordV U Q) (- ordV T U) (- ordV T Q) := by
          rw [← ordV_swap U Q, ← ordV_swap T U, ← ordV_swap T Q]
          exact ordV_tri Q U T (may_formed hm3) (may_formed hm2) (may_formed hm1)
        exact vord_go _ _ _ _ _ _ _ _ _ _ _ _ _ _ _ _ _ _ _ _ _ w (sg_ord T U) (sg_ord U Q) (sg_ord T Q) (ordV_tri T U Q (may_formed hm1) (may_formed hm2) (may_formed hm3)) t2 hM1 hM2 hM3 hO12 hO23 hO13 hO21 hO11 hS hW
      · rw [hm1] at hM1
        rw [hm2] at hM2
        rw [show mayB Q = false by simpa using hm3] at hM3
        exact vord_no3 _ _ _ _ _ _ _ _ _ _ _ _ _ _ _ _ _ _ w (Lib.hid hM1) (Lib.hid hM2) (Lib.hid hM3) (Lib.hid hW)
    · rw [hm1] at hM1
      rw [show mayB U = false by simpa using hm2] at hM2
      exact vord_no2 _ _ _ _ _ _ _ _ _ _ _ _ _ _ _ _ _ _ w (Lib.hid hM1) (Lib.hid hM2) (Lib.hid hW)
  · rw [show mayB T = false by simpa using hm1] at hM1
    exact vord_no1 _ _ _ _ _ _ _ _ _ _ _ _ _ _ _ _ _ _ w (Lib.hid hM1) (Lib.hid hW)
end Val
end Go.Proofs.YtiphegccaijbgaaDoor
