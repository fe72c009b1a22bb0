/- THE WALKS over value.Equal and value.Less. -/
import Derived.Test.YtiphegccaijbgaaDoorRows
import Derived.Test.YtiphegccaijbgaaDoorHeld
import Derived.Test.YtiphegccaijbgaaDoorValBase
import Derived.Test.YtiphegccaijbgaaDoorVal
import Derived.Test.YtiphegccaijbgaaDoorValCmp
import Derived.Test.YtiphegccaijbgaaDoorValOrd
import Derived.Test.YtiphegccaijbgaaDoorValWalk
import Derived.Test.YtiphegccaijbgaaDoorValRef
import Derived.Test.YtiphegccaijbgaaDoorValSame
import Derived.Test.YtiphegccaijbgaaDoorValCopy
import Derived.Test.YtiphegccaijbgaaDoorEqAll
import Derived.Test.YtiphegccaijbgaaDoorEqPlain
import Derived.Test.YtiphegccaijbgaaDoorEqWalk
import Derived.Test.YtiphegccaijbgaaDoorEqDeep
import Derived.Test.YtiphegccaijbgaaDoorValCopyR
import Derived.WalkKit
import Derived.Lib.Hide
import Derived.WalkSpells
import Derived.WalkLawsBesides
import Derived.Laws.AppendOwn
import Derived.Laws.OwnMore
import Derived.OwnWalk
import Derived.Defers
import Derived.Outline
import Derived.Lib.SmallJoins
namespace Go.Proofs.YtiphegccaijbgaaDoor
open Go.RowKit
set_option linter.unusedVariables false
set_option linter.unusedSimpArgs false
namespace Val
set_option maxRecDepth 100000 in
set_option maxHeartbeats 4000000 in
theorem Equal_any (t u : VT) (v z : Value) (w : World) (hIn : VT.In w w.heap.size t v) (hIn2 : VT.In w w.heap.size u z) (hmt : mayB t = true) (hmu : mayB u = true) (hP : Places w) (hT : Logic.Tab w 2 Logic.ands) (hgT : 2 < w.heap.size) :
    Calls Tryd.prog 24 #[v, z] w fun e w' => e = .returned (.int .i64 (eqV t u)) ∧ Below w.heap.size w w' := by
  have hp := parts_le hmt
  have hft := may_formed hmt
  have hfu := may_formed hmu
  have hst := small_may hmt
  have hsu := small_may hmu
  have hgP := hP.lt
  obtain ⟨k, b, n, s, l, ks⟩ := t
  obtain ⟨k', b', n', s', l', ks'⟩ := u
  obtain ⟨ev, hev⟩ : ∃ ev, eqV (.mk k b n s l ks) (.mk k' b' n' s' l' ks') = ev := ⟨_, rfl⟩
  rw [hev]
  have hx := hIn
  have hx2 := hIn2
  unfold VT.In at hx hx2
  obtain ⟨pl, cl, pk, ck, rfl, -⟩ := hx
  obtain ⟨pl', cl', pk', ck', rfl, -⟩ := hx2
  have es : ((w.alloc (.cells #[.int .i64 k, .bool b, .int .i64 n, .string s, .slice pl l.length cl, .slice pk ks.length ck] 25)).alloc (.cells #[.int .i64 k', .bool b', .int .i64 n', .string s', .slice pl' l'.length cl', .slice pk' ks'.length ck'] 25)).drew.heap.size = w.heap.size + 2 := by show ((w.alloc _).alloc _).heap.size = _; simp
  have hb1 : Below w.heap.size w (((w.alloc (.cells #[.int .i64 k, .bool b, .int .i64 n, .string s, .slice pl l.length cl, .slice pk ks.length ck] 25)).alloc (.cells #[.int .i64 k', .bool b', .int .i64 n', .string s', .slice pl' l'.length cl', .slice pk' ks'.length ck'] 25)).drew.alloc (.cells #[.int .i64 65536, .int .i64 4194304] 60)) := ((((Below.refl _ w).alloc (Nat.le_refl _) _).alloc (by simp) _).drew).alloc (by rw [es]; omega) _
  have hR : Reach (((w.alloc (.cells #[.int .i64 k, .bool b, .int .i64 n, .string s, .slice pl l.length cl, .slice pk ks.length ck] 25)).alloc (.cells #[.int .i64 k', .bool b', .int .i64 n', .string s', .slice pl' l'.length cl', .slice pk' ks'.length ck'] 25)).drew.alloc (.cells #[.int .i64 65536, .int .i64 4194304] 60)) (w.heap.size + 2) ((65536 : Nat) : Int) ((4194304 : Nat) : Int) := by
    have := Reach.new ((w.alloc (.cells #[.int .i64 k, .bool b, .int .i64 n, .string s, .slice pl l.length cl, .slice pk ks.length ck] 25)).alloc (.cells #[.int .i64 k', .bool b', .int .i64 n', .string s', .slice pl' l'.length cl', .slice pk' ks'.length ck'] 25)).drew 65536 4194304
    rw [es] at this
    exact this
  have hE := equal_rec (w.heap.size + 2) (VT.mk k b n s l ks).parts _ _ _ _ w.heap.size _ 65536 4194304 (Nat.le_refl _) hft hfu hst hsu (hIn.below hb1) (hIn2.below hb1) hb1.size (by omega) (hP.below hb1 hgP) (hT.below hgT hb1) hgP hgT hR (by omega) (by omega) (by omega) (by omega)
  have hE2 : Calls Tryd.prog 42 #[.pointer (some ⟨w.heap.size + 2, 0, none⟩), .agg #[.int .i64 k, .bool b, .int .i64 n, .string s, .slice pl l.length cl, .slice pk ks.length ck], .agg #[.int .i64 k', .bool b', .int .i64 n', .string s', .slice pl' l'.length cl', .slice pk' ks'.length ck']] (((w.alloc (.cells #[.int .i64 k, .bool b, .int .i64 n, .string s, .slice pl l.length cl, .slice pk ks.length ck] 25)).alloc (.cells #[.int .i64 k', .bool b', .int .i64 n', .string s', .slice pl' l'.length cl', .slice pk' ks'.length ck'] 25)).drew.alloc (.cells #[.int .i64 65536, .int .i64 4194304] 60)) fun e w2 => ∃ m2 : Nat, e = .returned (.int .i64 ev) ∧ Keeps (· = w.heap.size + 2) (((w.alloc (.cells #[.int .i64 k, .bool b, .int .i64 n, .string s, .slice pl l.length cl, .slice pk ks.length ck] 25)).alloc (.cells #[.int .i64 k', .bool b', .int .i64 n', .string s', .slice pl' l'.length cl', .slice pk' ks'.length ck'] 25)).drew.alloc (.cells #[.int .i64 65536, .int .i64 4194304] 60)) w2 ∧ True ∧ True ∧ True := by
    refine hE.mono ?_
    rintro e w2 ⟨m2, rfl, hk, -⟩
    exact ⟨m2, by rw [hev], hk, trivial, trivial, trivial⟩
  have hS0 : Two w.heap.size #[.int .i64 k, .bool b, .int .i64 n, .string s, .slice pl l.length cl, .slice pk ks.length ck] #[.int .i64 k', .bool b', .int .i64 n', .string s', .slice pl' l'.length cl', .slice pk' ks'.length ck'] ((w.alloc (.cells #[.int .i64 k, .bool b, .int .i64 n, .string s, .slice pl l.length cl, .slice pk ks.length ck] 25)).alloc (.cells #[.int .i64 k', .bool b', .int .i64 n', .string s', .slice pl' l'.length cl', .slice pk' ks'.length ck'] 25)).drew := ⟨(Box.new w _).alloc _, by have := Box.new (w.alloc (.cells #[.int .i64 k, .bool b, .int .i64 n, .string s, .slice pl l.length cl, .slice pk ks.length ck] 25)) #[.int .i64 k', .bool b', .int .i64 n', .string s', .slice pl' l'.length cl', .slice pk' ks'.length ck']; rwa [World.size_alloc] at this⟩
  have hmk := far_any ((w.alloc (.cells #[.int .i64 k, .bool b, .int .i64 n, .string s, .slice pl l.length cl, .slice pk ks.length ck] 25)).alloc (.cells #[.int .i64 k', .bool b', .int .i64 n', .string s', .slice pl' l'.length cl', .slice pk' ks'.length ck'] 25)).drew
  rw [es] at hmk
  have HE := Lib.hid hE2
  have HB1 := Lib.hid hb1
  have HS0 := Lib.hid hS0
  clear hp hft hfu hst hsu hgP hev hIn hIn2 hmt hmu hP hT hgT es hb1 hR hE hE2 hS0
  go_enter Tryd.func24, Tryd.ntmps24
  go_wp2_with fail
  have hS0 := HS0.out
  rename_i Q' K1 hK1
  refine wp_region_noPanic ?_
  refine wpIn_wide (n := 5).1 ?_
  refine wpIn_region_text (Two w.heap.size #[.int .i64 k, .bool b, .int .i64 n, .string s, .slice pl l.length cl, .slice pk ks.length ck] #[.int .i64 k', .bool b', .int .i64 n', .string s', .slice pl' l'.length cl', .slice pk' ks'.length ck']) [1, 2, 0, 3, 4] rfl (by kernel_rfl) (by kernel_rfl) (by kernel_rfl) (by kernel_rfl) (fun _ _ _ _ _ h => h) hS0 ?_
  refine textS_take (o := _) (.agg #[.int .i64 k, .bool b, .int .i64 n, .string s, .slice pl l.length cl, .slice pk ks.length ck]) (by conv => lhs; simp only [List.getElem?_toArray, List.getElem?_cons_succ, List.getElem?_cons_zero]) (by rfl) (by rfl) ?_ (fun _ => by rfl) (by conv => lhs; simp only [Act.put, List.setIfInBounds_toArray, List.set_cons_succ, List.set_cons_zero]) ?_
  · rintro w1 ⟨t0, t1⟩; obtain ⟨c0, c1, c2, c3, c4, c5⟩ := t0.cell; clear t0 t1; go_simp
  refine textS_take (o := _) (.agg #[.int .i64 k', .bool b', .int .i64 n', .string s', .slice pl' l'.length cl', .slice pk' ks'.length ck']) (by conv => lhs; simp only [List.getElem?_toArray, List.getElem?_cons_succ, List.getElem?_cons_zero]) (by rfl) (by rfl) ?_ (fun _ => by rfl) (by conv => lhs; simp only [Act.put, List.setIfInBounds_toArray, List.set_cons_succ, List.set_cons_zero]) ?_
  · rintro w1 ⟨t0, t1⟩; obtain ⟨c0, c1, c2, c3, c4, c5⟩ := t1.cell; clear t0 t1; go_simp
  refine textS_call (o := _) (by conv => lhs; simp only [List.getElem?_toArray, List.getElem?_cons_succ, List.getElem?_cons_zero]) (by rfl) (by rfl) ?_
  refine wpIn_call rfl ?_ (hmk) ?_
  · go_simp
  rintro e w1 ⟨rfl, rfl⟩
  have hS0_1 : Two w.heap.size #[.int .i64 k, .bool b, .int .i64 n, .string s, .slice pl l.length cl, .slice pk ks.length ck] #[.int .i64 k', .bool b', .int .i64 n', .string s', .slice pl' l'.length cl', .slice pk' ks'.length ck'] (((w.alloc (.cells #[.int .i64 k, .bool b, .int .i64 n, .string s, .slice pl l.length cl, .slice pk ks.length ck] 25)).alloc (.cells #[.int .i64 k', .bool b', .int .i64 n', .string s', .slice pl' l'.length cl', .slice pk' ks'.length ck'] 25)).drew.alloc (.cells #[.int .i64 65536, .int .i64 4194304] 60)) := ⟨hS0.1.alloc _, hS0.2.alloc _⟩
  refine ⟨_, _, rfl, (by conv => lhs; simp only [Act.put, List.setIfInBounds_toArray, List.set_cons_succ, List.set_cons_zero]), hS0_1, ?_⟩
  refine textS_call (o := _) (by conv => lhs; simp only [List.getElem?_toArray, List.getElem?_cons_succ, List.getElem?_cons_zero]) (by rfl) (by rfl) ?_
  refine wpIn_call rfl ?_ (HE.out) ?_
  · go_simp
  rintro e w2 ⟨m2, rfl, hk2, -, -, -⟩
  have hS0_2 : Two w.heap.size #[.int .i64 k, .bool b, .int .i64 n, .string s, .slice pl l.length cl, .slice pk ks.length ck] #[.int .i64 k', .bool b', .int .i64 n', .string s', .slice pl' l'.length cl', .slice pk' ks'.length ck'] w2 := ⟨(hk2.block _ hS0_1.1.lt (by show ¬ _ = _; omega)).trans hS0_1.1, (hk2.block _ hS0_1.2.lt (by show ¬ _ = _; omega)).trans hS0_1.2⟩
  refine ⟨_, _, rfl, (by conv => lhs; simp only [Act.put, List.setIfInBounds_toArray, List.set_cons_succ, List.set_cons_zero]), hS0_2, ?_⟩
  refine textS_take (o := _) (.int .i64 ev) (by conv => lhs; simp only [List.getElem?_toArray, List.getElem?_cons_succ, List.getElem?_cons_zero]) (by rfl) (by rfl) ?_ (fun _ => by rfl) (by conv => lhs; simp only [Act.put, List.setIfInBounds_toArray, List.set_cons_succ, List.set_cons_zero]) ?_
  · intro w _; go_simp
  have HL : Hid (Below w.heap.size w w2) := Lib.hid (HB1.out.trans (hk2.below (fun q e => by omega) HB1.out.size))
  clear hk2 hS0 hS0_1 hS0_2 hmk
  refine NoPanic.normal ?_
  refine hK1 _ _ ?_
  clear hK1
  go_wp2_with fail
  go_ret
  exact ⟨rfl, HL.out⟩
set_option maxRecDepth 100000 in
set_option maxHeartbeats 2000000 in
theorem less_kinds (k k' : Int) (h1 : (k != k') = true) (h2 : (k == k') = false) (n n' : Int) (b b' : Bool) (s s' : ByteArray) (pl pk pl' pk' : Option Addr) (nl cl nk ck nl' cl' nk' ck' : Nat) (w : World)  :
    Calls Tryd.prog 25 #[.agg #[.int .i64 k, .bool b, .int .i64 n, .string s, .slice pl nl cl, .slice pk nk ck], .agg #[.int .i64 k', .bool b', .int .i64 n', .string s', .slice pl' nl' cl', .slice pk' nk' ck']] w fun e w' => e = .returned (.int .i64 2) ∧ Below w.heap.size w w' := by
  go_enter Tryd.func25, Tryd.ntmps25
  go_wp2
  go_ret
  exact ⟨rfl, two_below _ _ _⟩
set_option maxRecDepth 100000 in
set_option maxHeartbeats 2000000 in
theorem less_other (k : Int) (h1 : (k == 1) = false) (h2 : (k == 2) = false) (h3 : (k == 3) = false) (n n' : Int) (b b' : Bool) (s s' : ByteArray) (pl pk pl' pk' : Option Addr) (nl cl nk ck nl' cl' nk' ck' : Nat) (w : World)  :
    Calls Tryd.prog 25 #[.agg #[.int .i64 k, .bool b, .int .i64 n, .string s, .slice pl nl cl, .slice pk nk ck], .agg #[.int .i64 k, .bool b', .int .i64 n', .string s', .slice pl' nl' cl', .slice pk' nk' ck']] w fun e w' => e = .returned (.int .i64 2) ∧ Below w.heap.size w w' := by
  go_enter Tryd.func25, Tryd.ntmps25
  go_wp2
  go_ret
  exact ⟨rfl, two_below _ _ _⟩
set_option maxRecDepth 100000 in
set_option maxHeartbeats 2000000 in
theorem less_1 (n n' : Int) (b b' : Bool) (s s' : ByteArray) (pl pk pl' pk' : Option Addr) (cl ck cl' ck' : Nat) (w : World) (hP : Places w) :
    Calls Tryd.prog 25 #[.agg #[.int .i64 1, .bool b, .int .i64 n, .string s, .slice pl 0 cl, .slice pk 0 ck], .agg #[.int .i64 1, .bool b', .int .i64 n', .string s', .slice pl' 0 cl', .slice pk' 0 ck']] w fun e w' => e = .returned (.int .i64 (if flatV 1 n 1 n' b b' s s' < 0 then 1 else 0)) ∧ Below w.heap.size w w' := by
  have hb := two_below w (.cells #[.int .i64 1, .bool b, .int .i64 n, .string s, .slice pl 0 cl, .slice pk 0 ck] 25) (.cells #[.int .i64 1, .bool b', .int .i64 n', .string s', .slice pl' 0 cl', .slice pk' 0 ck'] 25)
  have hO := order_flat 1 n 1 n' b b' s s' pl pk pl' pk' cl ck cl' ck' ((w.alloc (.cells #[.int .i64 1, .bool b, .int .i64 n, .string s, .slice pl 0 cl, .slice pk 0 ck] 25)).alloc (.cells #[.int .i64 1, .bool b', .int .i64 n', .string s', .slice pl' 0 cl', .slice pk' 0 ck'] 25)) (hP.below hb hP.lt)
  obtain ⟨f, hf⟩ : ∃ f, flatV 1 n 1 n' b b' s s' = f := ⟨_, rfl⟩
  rw [hf] at hO ⊢
  have HO := Lib.hid hO
  have HB := Lib.hid hb
  have hOf : ∀ V, Calls Tryd.prog 43 #[.bool (decide (f < 0))] V fun e w' => e = .returned (.int .i64 (if f < 0 then 1 else 0)) ∧ V = w' := fun V => by
    refine (of_any (decide (f < 0)) V).mono ?_
    rintro e w' ⟨rfl, rfl⟩
    refine ⟨?_, rfl⟩
    by_cases h : f < 0
    · rw [if_pos h, decide_eq_true h]; rfl
    · rw [if_neg h, decide_eq_false h]; rfl
  obtain ⟨r, hr⟩ : ∃ r : Int, (if f < 0 then (1 : Int) else 0) = r := ⟨_, rfl⟩
  obtain ⟨db, hdb⟩ : ∃ db, decide (f < 0) = db := ⟨_, rfl⟩
  rw [hr] at hOf ⊢
  rw [hdb] at hOf
  have HOf := Lib.hid hOf
  clear hO hb hf hOf hr
  go_enter Tryd.func25, Tryd.ntmps25
  go_wp2_with fail
  refine HO.out.mono ?_
  rintro e w' ⟨rfl, h⟩
  have HL := Lib.hid (HB.out.trans (h.mono HB.out.size))
  clear h
  go_wp2_with fail
  refine (HOf.out _).mono ?_
  rintro e w' ⟨rfl, rfl⟩
  go_wp2_with fail
  go_ret
  exact ⟨rfl, HL.out⟩
set_option maxRecDepth 100000 in
set_option maxHeartbeats 2000000 in
theorem less_2 (n n' : Int) (b b' : Bool) (s s' : ByteArray) (pl pk pl' pk' : Option Addr) (cl ck cl' ck' : Nat) (w : World) (hP : Places w) :
    Calls Tryd.prog 25 #[.agg #[.int .i64 2, .bool b, .int .i64 n, .string s, .slice pl 0 cl, .slice pk 0 ck], .agg #[.int .i64 2, .bool b', .int .i64 n', .string s', .slice pl' 0 cl', .slice pk' 0 ck']] w fun e w' => e = .returned (.int .i64 (if flatV 2 n 2 n' b b' s s' < 0 then 1 else 0)) ∧ Below w.heap.size w w' := by
  have hb := two_below w (.cells #[.int .i64 2, .bool b, .int .i64 n, .string s, .slice pl 0 cl, .slice pk 0 ck] 25) (.cells #[.int .i64 2, .bool b', .int .i64 n', .string s', .slice pl' 0 cl', .slice pk' 0 ck'] 25)
  have hO := order_flat 2 n 2 n' b b' s s' pl pk pl' pk' cl ck cl' ck' ((w.alloc (.cells #[.int .i64 2, .bool b, .int .i64 n, .string s, .slice pl 0 cl, .slice pk 0 ck] 25)).alloc (.cells #[.int .i64 2, .bool b', .int .i64 n', .string s', .slice pl' 0 cl', .slice pk' 0 ck'] 25)) (hP.below hb hP.lt)
  obtain ⟨f, hf⟩ : ∃ f, flatV 2 n 2 n' b b' s s' = f := ⟨_, rfl⟩
  rw [hf] at hO ⊢
  have HO := Lib.hid hO
  have HB := Lib.hid hb
  have hOf : ∀ V, Calls Tryd.prog 43 #[.bool (decide (f < 0))] V fun e w' => e = .returned (.int .i64 (if f < 0 then 1 else 0)) ∧ V = w' := fun V => by
    refine (of_any (decide (f < 0)) V).mono ?_
    rintro e w' ⟨rfl, rfl⟩
    refine ⟨?_, rfl⟩
    by_cases h : f < 0
    · rw [if_pos h, decide_eq_true h]; rfl
    · rw [if_neg h, decide_eq_false h]; rfl
  obtain ⟨r, hr⟩ : ∃ r : Int, (if f < 0 then (1 : Int) else 0) = r := ⟨_, rfl⟩
  obtain ⟨db, hdb⟩ : ∃ db, decide (f < 0) = db := ⟨_, rfl⟩
  rw [hr] at hOf ⊢
  rw [hdb] at hOf
  have HOf := Lib.hid hOf
  clear hO hb hf hOf hr
  go_enter Tryd.func25, Tryd.ntmps25
  go_wp2_with fail
  refine HO.out.mono ?_
  rintro e w' ⟨rfl, h⟩
  have HL := Lib.hid (HB.out.trans (h.mono HB.out.size))
  clear h
  go_wp2_with fail
  refine (HOf.out _).mono ?_
  rintro e w' ⟨rfl, rfl⟩
  go_wp2_with fail
  go_ret
  exact ⟨rfl, HL.out⟩
set_option maxRecDepth 100000 in
set_option maxHeartbeats 2000000 in
theorem less_3 (n n' : Int) (b b' : Bool) (s s' : ByteArray) (pl pk pl' pk' : Option Addr) (cl ck cl' ck' : Nat) (w : World) (hP : Places w) :
    Calls Tryd.prog 25 #[.agg #[.int .i64 3, .bool b, .int .i64 n, .string s, .slice pl 0 cl, .slice pk 0 ck], .agg #[.int .i64 3, .bool b', .int .i64 n', .string s', .slice pl' 0 cl', .slice pk' 0 ck']] w fun e w' => e = .returned (.int .i64 (if flatV 3 n 3 n' b b' s s' < 0 then 1 else 0)) ∧ Below w.heap.size w w' := by
  have hb := two_below w (.cells #[.int .i64 3, .bool b, .int .i64 n, .string s, .slice pl 0 cl, .slice pk 0 ck] 25) (.cells #[.int .i64 3, .bool b', .int .i64 n', .string s', .slice pl' 0 cl', .slice pk' 0 ck'] 25)
  have hO := order_flat 3 n 3 n' b b' s s' pl pk pl' pk' cl ck cl' ck' ((w.alloc (.cells #[.int .i64 3, .bool b, .int .i64 n, .string s, .slice pl 0 cl, .slice pk 0 ck] 25)).alloc (.cells #[.int .i64 3, .bool b', .int .i64 n', .string s', .slice pl' 0 cl', .slice pk' 0 ck'] 25)) (hP.below hb hP.lt)
  obtain ⟨f, hf⟩ : ∃ f, flatV 3 n 3 n' b b' s s' = f := ⟨_, rfl⟩
  rw [hf] at hO ⊢
  have HO := Lib.hid hO
  have HB := Lib.hid hb
  have hOf : ∀ V, Calls Tryd.prog 43 #[.bool (decide (f < 0))] V fun e w' => e = .returned (.int .i64 (if f < 0 then 1 else 0)) ∧ V = w' := fun V => by
    refine (of_any (decide (f < 0)) V).mono ?_
    rintro e w' ⟨rfl, rfl⟩
    refine ⟨?_, rfl⟩
    by_cases h : f < 0
    · rw [if_pos h, decide_eq_true h]; rfl
    · rw [if_neg h, decide_eq_false h]; rfl
  obtain ⟨r, hr⟩ : ∃ r : Int, (if f < 0 then (1 : Int) else 0) = r := ⟨_, rfl⟩
  obtain ⟨db, hdb⟩ : ∃ db, decide (f < 0) = db := ⟨_, rfl⟩
  rw [hr] at hOf ⊢
  rw [hdb] at hOf
  have HOf := Lib.hid hOf
  clear hO hb hf hOf hr
  go_enter Tryd.func25, Tryd.ntmps25
  go_wp2_with fail
  refine HO.out.mono ?_
  rintro e w' ⟨rfl, h⟩
  have HL := Lib.hid (HB.out.trans (h.mono HB.out.size))
  clear h
  go_wp2_with fail
  refine (HOf.out _).mono ?_
  rintro e w' ⟨rfl, rfl⟩
  go_wp2_with fail
  go_ret
  exact ⟨rfl, HL.out⟩
/-- Less of any two that may be. -/
theorem Less_any (t u : VT) (v z : Value) (w : World) (hIn : VT.In w w.heap.size t v) (hIn2 : VT.In w w.heap.size u z) (hmt : mayB t = true) (hmu : mayB u = true) (hP : Places w) :
    Calls Tryd.prog 25 #[v, z] w fun e w' => e = .returned (.int .i64 (lessV t u)) ∧ Below w.heap.size w w' := by
  have hft := may_formed hmt
  have hfu := may_formed hmu
  obtain ⟨k, b, n, s, l, ks⟩ := t
  obtain ⟨k', b', n', s', l', ks'⟩ := u
  rw [allV, Bool.and_eq_true] at hft hfu
  obtain ⟨-, -, f2, -⟩ := formed_fields hft.1
  obtain ⟨-, -, g2, -⟩ := formed_fields hfu.1
  unfold VT.In at hIn hIn2
  obtain ⟨pl, cl, pk, ck, rfl, -⟩ := hIn
  obtain ⟨pl', cl', pk', ck', rfl, -⟩ := hIn2
  by_cases hkk : k = k'
  · subst hkk
    by_cases h13 : k = 1 ∨ k = 2 ∨ k = 3
    · obtain ⟨rfl, rfl⟩ := f2 (by omega) (by omega)
      obtain ⟨rfl, rfl⟩ := g2 (by omega) (by omega)
      have hv : lessV (.mk k b n s [] []) (.mk k b' n' s' [] []) = if flatV k n k n' b b' s s' < 0 then 1 else 0 := by rw [lessV, if_neg (show ¬ (k ≠ k) from fun h => h rfl), if_pos h13]
      rw [hv]
      rcases h13 with rfl | rfl | rfl
      · exact less_1 _ _ _ _ _ _ _ _ _ _ _ _ _ _ _ hP
      · exact less_2 _ _ _ _ _ _ _ _ _ _ _ _ _ _ _ hP
      · exact less_3 _ _ _ _ _ _ _ _ _ _ _ _ _ _ _ hP
    · have hv : lessV (.mk k b n s l ks) (.mk k b' n' s' l' ks') = 2 := by rw [lessV, if_neg (show ¬ (k ≠ k) from fun h => h rfl), if_neg h13]
      rw [hv]
      exact less_other k (by simp; omega) (by simp; omega) (by simp; omega) _ _ _ _ _ _ _ _ _ _ _ _ _ _ _ _ _ _ _
  · have hv : lessV (.mk k b n s l ks) (.mk k' b' n' s' l' ks') = 2 := by rw [lessV, if_pos hkk]
    rw [hv]
    exact less_kinds k k' (by simpa using hkk) (by simpa using hkk) _ _ _ _ _ _ _ _ _ _ _ _ _ _ _ _ _ _ _
end Val
end Go.Proofs.YtiphegccaijbgaaDoor
