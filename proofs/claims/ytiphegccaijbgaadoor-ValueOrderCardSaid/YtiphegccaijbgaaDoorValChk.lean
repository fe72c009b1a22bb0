/- Check, Parts, Plain: the walk over a value's parts with what each part is shown. -/
import Derived.Test.YtiphegccaijbgaaDoorRows
import Derived.Test.YtiphegccaijbgaaDoorHeld
import Derived.Test.YtiphegccaijbgaaDoorValBase
import Derived.Test.YtiphegccaijbgaaDoorVal
import Derived.Test.YtiphegccaijbgaaDoorValCmp
import Derived.Test.YtiphegccaijbgaaDoorValForm2
import Derived.Test.YtiphegccaijbgaaDoorValWalk
import Derived.WalkKit
import Derived.Lib.Hide
import Derived.WalkSpells
import Derived.WalkLawsBesides
import Derived.Deep.RegionHeld3
import Derived.RangeFuncNested
import Derived.Shelf.Abstract
namespace Go.Proofs.YtiphegccaijbgaaDoor
open Go.RowKit Go.Shelf
set_option linter.unusedVariables false
set_option linter.unusedSimpArgs false
namespace Val
theorem enters_formed : ∀ args w, (callFunc 30 args).run Tryd.prog w = .ok (.enter 30 args) w := enters_of Tryd.func30 (by kernel_rfl) rfl
theorem enters_parts : ∀ args w, (callFunc 33 args).run Tryd.prog w = .ok (.enter 33 args) w := enters_of Tryd.func33 (by kernel_rfl) rfl
theorem enters_plain : ∀ args w, (callFunc 34 args).run Tryd.prog w = .ok (.enter 34 args) w := enters_of Tryd.func34 (by kernel_rfl) rfl
theorem see_formed (B R : Nat) : See 30 #[] formedV B 0 R (fun _ => False) (fun _ _ => True) where
  enters := enters_formed
  call := fun t v w k hIn hB _ _ => by
    refine (formed_any t v B w hIn hB).mono ?_
    rintro e w' ⟨rfl, h⟩
    exact ⟨rfl, Keeps.of_below h, trivial⟩
  apart := fun _ h => h.elim
  same := fun _ _ _ _ _ => trivial
/-- Is it no node and no edge? -/
def plainP : VT → Bool | .mk k _ _ _ _ _ => !(k == 6) && !(k == 7)
theorem plain_see (t : VT) (v : Value) (B : Nat) (w : World) (h : VT.In w B t v) : Calls Tryd.prog 34 #[v] w fun e w' => e = .returned (.bool (plainP t)) ∧ Below w.heap.size w w' := by
  obtain ⟨k, b, n, s, l, ks⟩ := t
  unfold VT.In at h
  obtain ⟨pl, cl, pk, ck, rfl, h1, h2, h3, h4, hks, hl⟩ := h
  clear h1 h2 h3 h4 hks hl
  generalize l.length = nl
  generalize ks.length = nk
  show Calls _ _ _ _ (fun e w' => e = .returned (.bool (!(k == 6) && !(k == 7))) ∧ Below w.heap.size w w')
  by_cases h6 : k = 6
  · subst h6
    go_enter Tryd.func34, Tryd.ntmps34
    go_wp2
    go_ret
    exact ⟨rfl, (Below.refl _ _).alloc (Nat.le_refl _) _⟩
  · have e6 : (k == 6) = false := by simpa using h6
    rw [e6]
    by_cases h7 : k = 7
    · subst h7
      clear e6 h6
      go_enter Tryd.func34, Tryd.ntmps34
      go_wp2
      go_ret
      exact ⟨rfl, (Below.refl _ _).alloc (Nat.le_refl _) _⟩
    · have e7 : (k == 7) = false := by simpa using h7
      rw [e7]
      have d6 : (k != 6) = true := by simpa using h6
      have d7 : (k != 7) = true := by simpa using h7
      clear h6 h7
      go_enter Tryd.func34, Tryd.ntmps34
      go_wp2
      go_ret
      exact ⟨rfl, (Below.refl _ _).alloc (Nat.le_refl _) _⟩
theorem see_plain (B R : Nat) : See 34 #[] plainP B 0 R (fun _ => False) (fun _ _ => True) where
  enters := enters_plain
  call := fun t v w k hIn hB _ _ => by
    refine (plain_see t v B w hIn).mono ?_
    rintro e w' ⟨rfl, h⟩
    exact ⟨rfl, Keeps.of_below h, trivial⟩
  apart := fun _ h => h.elim
  same := fun _ _ _ _ _ => trivial
/-- Block N counts. -/
def Count (N : Nat) (k : Nat) (w : World) : Prop := w.heap[N]? = some (.cells #[.int .i64 (wrap64 k)] 3 (0, 0))
theorem wrap_succ (k : Nat) : wrap64 (wrap64 k + 1) = wrap64 ((k + 1 : Nat) : Int) := by unfold wrap64; omega
theorem parts_see (t : VT) (v : Value) (B N k : Nat) (w : World) (h : VT.In w B t v) (hc : Count N k w) : Calls Tryd.prog 33 #[v, .pointer (some ⟨N, 0, none⟩)] w fun e w' => e = .returned (.bool true) ∧ Keeps (· = N) w w' ∧ Count N (k + 1) w' := by
  obtain ⟨kk, b, n, s, l, ks⟩ := t
  unfold VT.In at h
  obtain ⟨pl, cl, pk, ck, rfl, h1, h2, h3, h4, hks, hl⟩ := h
  clear h1 h2 h3 h4 hks hl
  generalize l.length = nl
  generalize ks.length = nk
  unfold Count at hc
  have hlt : N < w.heap.size := (Array.getElem?_eq_some_iff.1 hc).1
  have hkeep : ∀ x : Value, Keeps (· = N) w ((w.setCell ⟨N, 0, none⟩ x).alloc (.cells #[.int .i64 kk, .bool b, .int .i64 n, .string s, .slice pl nl cl, .slice pk nk ck] 25)) := fun x => ((Keeps.refl (· = N) w).setCell (p := ⟨N, 0, none⟩) (.inl rfl) x).alloc _
  have hcnt : Count N (k + 1) ((w.setCell ⟨N, 0, none⟩ (.int .i64 (wrap64 (wrap64 k + 1)))).alloc (.cells #[.int .i64 kk, .bool b, .int .i64 n, .string s, .slice pl nl cl, .slice pk nk ck] 25)) := by
    unfold Count
    rw [Below.heap_alloc _ _ _ (by simpa [World.setCell] using hlt), wrap_succ]
    simp [World.setCell, Array.getElem?_modify, hc]
  have HK := Lib.hid hkeep
  have c0 : w.cell? ⟨N, 0, none⟩ = some (.int .i64 (wrap64 k)) ∧ w.frozen? ⟨N, 0, none⟩ = false := by simp [World.cell?, World.frozen?, hc]
  obtain ⟨c0, f0⟩ := c0
  generalize wrap64 (k : Int) = x at *
  have HC := Lib.hid hcnt
  clear hkeep hcnt hc
  go_enter Tryd.func33, Tryd.ntmps33
  go_wp2
  go_ret
  exact ⟨rfl, HK.out _, HC.out⟩
theorem see_parts (B N R : Nat) (hB : B ≤ N) (hR : N ≠ R) : See 33 #[.pointer (some ⟨N, 0, none⟩)] (fun _ => true) B (N + 1) R (· = N) (Count N) where
  enters := enters_parts
  call := fun t v w k hIn _ _ hc => parts_see t v B N k w hIn hc
  apart := fun k h => by subst h; exact ⟨hB, hR, Nat.lt_succ_self _⟩
  same := fun k w w' hc hk => (hk.block N (Array.getElem?_eq_some_iff.1 hc).1 hR).trans hc
set_option maxRecDepth 100000 in
set_option maxHeartbeats 1000000 in
theorem check_any (t : VT) (v : Value) (B : Nat) (w : World) (h : VT.In w B t v) (hB : B ≤ w.heap.size) : Calls Tryd.prog 8 #[v] w fun e w' => e = .returned (.int .i64 (if (walkV formedV t 32 4096).isSome then 0 else 20)) ∧ Below w.heap.size w w' := by
  have hIn0 := h.more hB
  obtain ⟨bt, hbt⟩ : ∃ bt, (walkV formedV t 32 4096).isSome = bt := ⟨_, rfl⟩
  have hIn := hIn0.below ((Below.refl w.heap.size w).alloc (Nat.le_refl _) (.cells #[] 25))
  clear hIn
  obtain ⟨k, b, n, s, l, ks⟩ := t
  have hx := hIn0
  unfold VT.In at hx
  obtain ⟨pl, cl, pk, ck, rfl, -⟩ := hx
  obtain ⟨T, hT⟩ : ∃ T, VT.mk k b n s l ks = T := ⟨_, rfl⟩
  rw [hT] at hbt hIn0 ⊢
  rw [hbt]
  have hb1 : Below w.heap.size w ((w.alloc (.cells #[.int .i64 k, .bool b, .int .i64 n, .string s, .slice pl l.length cl, .slice pk ks.length ck] 25)).drew.alloc (.cells #[.int .i64 32, .int .i64 4096] 60)) := (((Below.refl _ w).alloc (Nat.le_refl _) _).drew).alloc (by show w.heap.size ≤ (w.alloc _).heap.size; simp) _
  have hR : Reach ((w.alloc (.cells #[.int .i64 k, .bool b, .int .i64 n, .string s, .slice pl l.length cl, .slice pk ks.length ck] 25)).drew.alloc (.cells #[.int .i64 32, .int .i64 4096] 60)) (w.heap.size + 1) ((32 : Nat) : Int) ((4096 : Nat) : Int) := by
    have := Reach.new (w.alloc (.cells #[.int .i64 k, .bool b, .int .i64 n, .string s, .slice pl l.length cl, .slice pk ks.length ck] 25)).drew 32 4096
    have e : (w.alloc (.cells #[.int .i64 k, .bool b, .int .i64 n, .string s, .slice pl l.length cl, .slice pk ks.length ck] 25)).drew.heap.size = w.heap.size + 1 := by show (w.alloc _).heap.size = _; simp
    rw [e] at this
    exact this
  have hw := walk_any (see_formed w.heap.size (w.heap.size + 1)) (Nat.le_succ _) T.parts T _ _ 32 4096 0 (Nat.le_refl _) (hIn0.below hb1) hb1.size (Nat.zero_le _) hR trivial (by omega) (by omega)
  have hbox : Box (w.alloc (.cells #[.int .i64 k, .bool b, .int .i64 n, .string s, .slice pl l.length cl, .slice pk ks.length ck] 25)).drew w.heap.size #[.int .i64 k, .bool b, .int .i64 n, .string s, .slice pl l.length cl, .slice pk ks.length ck] := Box.new w _
  have hbox2 : Box ((w.alloc (.cells #[.int .i64 k, .bool b, .int .i64 n, .string s, .slice pl l.length cl, .slice pk ks.length ck] 25)).drew.alloc (.cells #[.int .i64 32, .int .i64 4096] 60)) w.heap.size #[.int .i64 k, .bool b, .int .i64 n, .string s, .slice pl l.length cl, .slice pk ks.length ck] := hbox.alloc _
  have hmk := allowed_any (w.alloc (.cells #[.int .i64 k, .bool b, .int .i64 n, .string s, .slice pl l.length cl, .slice pk ks.length ck] 25)).drew
  have es : (w.alloc (.cells #[.int .i64 k, .bool b, .int .i64 n, .string s, .slice pl l.length cl, .slice pk ks.length ck] 25)).drew.heap.size = w.heap.size + 1 := by show (w.alloc _).heap.size = _; simp
  rw [es] at hmk
  have HB1 := Lib.hid hb1
  have HBT := Lib.hid hbt
  clear es hR hb1 hIn0 hT h hB hbt
  go_enter Tryd.func8, Tryd.ntmps8
  go_wp2
  rename_i Q' K1 hK1
  refine wp_region_noPanic ?_
  refine wpIn_wide (n := 5).1 ?_
  refine wpIn_region_text (fun w' => Box w' w.heap.size #[.int .i64 k, .bool b, .int .i64 n, .string s, .slice pl l.length cl, .slice pk ks.length ck]) [1, 0, 2] rfl (by kernel_rfl) (by kernel_rfl) (by kernel_rfl) (by kernel_rfl) (fun _ _ _ _ _ h => h) hbox ?_
  refine textS_take (o := _) (.agg #[.int .i64 k, .bool b, .int .i64 n, .string s, .slice pl l.length cl, .slice pk ks.length ck]) (by conv => lhs; simp only [List.getElem?_toArray, List.getElem?_cons_succ, List.getElem?_cons_zero]) (by rfl) (by rfl) ?_ (fun _ => by rfl) (by conv => lhs; simp only [Act.put, List.setIfInBounds_toArray, List.set_cons_succ, List.set_cons_zero]) ?_
  · rintro w' t0; obtain ⟨c0, c1, c2, c3, c4, c5⟩ := t0.cell; clear t0; go_simp
  refine textS_call (o := _) (by conv => lhs; simp only [List.getElem?_toArray, List.getElem?_cons_succ, List.getElem?_cons_zero]) (by rfl) (by rfl) ?_
  refine wpIn_call (f := 28) (args := #[]) rfl ?_ hmk ?_
  · go_simp
  rintro e w1 ⟨rfl, rfl⟩
  refine ⟨_, _, rfl, (by conv => lhs; simp only [Act.put, List.setIfInBounds_toArray, List.set_cons_succ, List.set_cons_zero]), hbox2, ?_⟩
  refine textS_call (o := _) (by conv => lhs; simp only [List.getElem?_toArray, List.getElem?_cons_succ, List.getElem?_cons_zero]) (by rfl) (by rfl) ?_
  refine wpIn_call (f := 29) (args := #[.pointer (some ⟨w.heap.size + 1, 0, none⟩), .agg #[.int .i64 k, .bool b, .int .i64 n, .string s, .slice pl l.length cl, .slice pk ks.length ck], .func (.func 30) #[] #[]]) rfl ?_ hw ?_
  · go_simp
  rintro e w2 ⟨he, hk, -⟩
  have hlow : Below w.heap.size w w2 := HB1.out.trans (hk.below (fun j hj => by rcases hj with rfl | hj; exact Nat.le_succ _; exact hj.elim) HB1.out.size)
  have hbox3 : Box w2 w.heap.size #[.int .i64 k, .bool b, .int .i64 n, .string s, .slice pl l.length cl, .slice pk ks.length ck] := (hk.block _ hbox2.lt (by rintro (h | h); omega; exact h)).trans hbox2
  rw [HBT.out] at he
  refine ⟨_, _, he, (by conv => lhs; simp only [Act.put, List.setIfInBounds_toArray, List.set_cons_succ, List.set_cons_zero]), hbox3, ?_⟩
  clear hbox hbox2 hbox3 hw hmk hk he
  refine NoPanic.normal ?_
  refine hK1 _ _ ?_
  clear hK1
  cases bt
  · go_wp2
    go_ret
    exact ⟨rfl, hlow⟩
  · go_wp2
    go_ret
    exact ⟨rfl, hlow⟩
set_option maxRecDepth 100000 in
set_option maxHeartbeats 1000000 in
theorem plain_any (t : VT) (v : Value) (B : Nat) (w : World) (h : VT.In w B t v) (hB : B ≤ w.heap.size) : Calls Tryd.prog 13 #[v] w fun e w' => e = .returned (.bool (walkV plainP t 65536 4194304).isSome) ∧ Below w.heap.size w w' := by
  have hIn0 := h.more hB
  obtain ⟨bt, hbt⟩ : ∃ bt, (walkV plainP t 65536 4194304).isSome = bt := ⟨_, rfl⟩
  have hIn := hIn0.below ((Below.refl w.heap.size w).alloc (Nat.le_refl _) (.cells #[] 25))
  clear hIn
  obtain ⟨k, b, n, s, l, ks⟩ := t
  have hx := hIn0
  unfold VT.In at hx
  obtain ⟨pl, cl, pk, ck, rfl, -⟩ := hx
  obtain ⟨T, hT⟩ : ∃ T, VT.mk k b n s l ks = T := ⟨_, rfl⟩
  rw [hT] at hbt hIn0 ⊢
  rw [hbt]
  have hb1 : Below w.heap.size w ((w.alloc (.cells #[.int .i64 k, .bool b, .int .i64 n, .string s, .slice pl l.length cl, .slice pk ks.length ck] 25)).drew.alloc (.cells #[.int .i64 65536, .int .i64 4194304] 60)) := (((Below.refl _ w).alloc (Nat.le_refl _) _).drew).alloc (by show w.heap.size ≤ (w.alloc _).heap.size; simp) _
  have hR : Reach ((w.alloc (.cells #[.int .i64 k, .bool b, .int .i64 n, .string s, .slice pl l.length cl, .slice pk ks.length ck] 25)).drew.alloc (.cells #[.int .i64 65536, .int .i64 4194304] 60)) (w.heap.size + 1) ((65536 : Nat) : Int) ((4194304 : Nat) : Int) := by
    have := Reach.new (w.alloc (.cells #[.int .i64 k, .bool b, .int .i64 n, .string s, .slice pl l.length cl, .slice pk ks.length ck] 25)).drew 65536 4194304
    have e : (w.alloc (.cells #[.int .i64 k, .bool b, .int .i64 n, .string s, .slice pl l.length cl, .slice pk ks.length ck] 25)).drew.heap.size = w.heap.size + 1 := by show (w.alloc _).heap.size = _; simp
    rw [e] at this
    exact this
  have hw := walk_any (see_plain w.heap.size (w.heap.size + 1)) (Nat.le_succ _) T.parts T _ _ 65536 4194304 0 (Nat.le_refl _) (hIn0.below hb1) hb1.size (Nat.zero_le _) hR trivial (by omega) (by omega)
  have hbox : Box (w.alloc (.cells #[.int .i64 k, .bool b, .int .i64 n, .string s, .slice pl l.length cl, .slice pk ks.length ck] 25)).drew w.heap.size #[.int .i64 k, .bool b, .int .i64 n, .string s, .slice pl l.length cl, .slice pk ks.length ck] := Box.new w _
  have hbox2 : Box ((w.alloc (.cells #[.int .i64 k, .bool b, .int .i64 n, .string s, .slice pl l.length cl, .slice pk ks.length ck] 25)).drew.alloc (.cells #[.int .i64 65536, .int .i64 4194304] 60)) w.heap.size #[.int .i64 k, .bool b, .int .i64 n, .string s, .slice pl l.length cl, .slice pk ks.length ck] := hbox.alloc _
  have hmk := far_any (w.alloc (.cells #[.int .i64 k, .bool b, .int .i64 n, .string s, .slice pl l.length cl, .slice pk ks.length ck] 25)).drew
  have es : (w.alloc (.cells #[.int .i64 k, .bool b, .int .i64 n, .string s, .slice pl l.length cl, .slice pk ks.length ck] 25)).drew.heap.size = w.heap.size + 1 := by show (w.alloc _).heap.size = _; simp
  rw [es] at hmk
  have HB1 := Lib.hid hb1
  have HBT := Lib.hid hbt
  clear es hR hb1 hIn0 hT h hB hbt
  go_enter Tryd.func13, Tryd.ntmps13
  go_wp2
  rename_i Q' K1 hK1
  refine wp_region_noPanic ?_
  refine wpIn_wide (n := 5).1 ?_
  refine wpIn_region_text (fun w' => Box w' w.heap.size #[.int .i64 k, .bool b, .int .i64 n, .string s, .slice pl l.length cl, .slice pk ks.length ck]) [1, 0, 2, 3] rfl (by kernel_rfl) (by kernel_rfl) (by kernel_rfl) (by kernel_rfl) (fun _ _ _ _ _ h => h) hbox ?_
  refine textS_take (o := _) (.agg #[.int .i64 k, .bool b, .int .i64 n, .string s, .slice pl l.length cl, .slice pk ks.length ck]) (by conv => lhs; simp only [List.getElem?_toArray, List.getElem?_cons_succ, List.getElem?_cons_zero]) (by rfl) (by rfl) ?_ (fun _ => by rfl) (by conv => lhs; simp only [Act.put, List.setIfInBounds_toArray, List.set_cons_succ, List.set_cons_zero]) ?_
  · rintro w' t0; obtain ⟨c0, c1, c2, c3, c4, c5⟩ := t0.cell; clear t0; go_simp
  refine textS_call (o := _) (by conv => lhs; simp only [List.getElem?_toArray, List.getElem?_cons_succ, List.getElem?_cons_zero]) (by rfl) (by rfl) ?_
  refine wpIn_call (f := 32) (args := #[]) rfl ?_ hmk ?_
  · go_simp
  rintro e w1 ⟨rfl, rfl⟩
  refine ⟨_, _, rfl, (by conv => lhs; simp only [Act.put, List.setIfInBounds_toArray, List.set_cons_succ, List.set_cons_zero]), hbox2, ?_⟩
  refine textS_call (o := _) (by conv => lhs; simp only [List.getElem?_toArray, List.getElem?_cons_succ, List.getElem?_cons_zero]) (by rfl) (by rfl) ?_
  refine wpIn_call (f := 29) (args := #[.pointer (some ⟨w.heap.size + 1, 0, none⟩), .agg #[.int .i64 k, .bool b, .int .i64 n, .string s, .slice pl l.length cl, .slice pk ks.length ck], .func (.func 34) #[] #[]]) rfl ?_ hw ?_
  · go_simp
  rintro e w2 ⟨he, hk, -⟩
  have hlow : Below w.heap.size w w2 := HB1.out.trans (hk.below (fun j hj => by rcases hj with rfl | hj; exact Nat.le_succ _; exact hj.elim) HB1.out.size)
  have hbox3 : Box w2 w.heap.size #[.int .i64 k, .bool b, .int .i64 n, .string s, .slice pl l.length cl, .slice pk ks.length ck] := (hk.block _ hbox2.lt (by rintro (h | h); omega; exact h)).trans hbox2
  rw [HBT.out] at he
  refine ⟨_, _, he, (by conv => lhs; simp only [Act.put, List.setIfInBounds_toArray, List.set_cons_succ, List.set_cons_zero]), hbox3, ?_⟩
  clear hbox hbox2 hbox3 hw hmk hk he
  refine textS_take (o := _) (.bool bt) (by conv => lhs; simp only [List.getElem?_toArray, List.getElem?_cons_succ, List.getElem?_cons_zero]) (by rfl) (by rfl) ?_ (fun _ => by rfl) (by conv => lhs; simp only [Act.put, List.setIfInBounds_toArray, List.set_cons_succ, List.set_cons_zero]) ?_
  · intro w' _; go_simp
  refine NoPanic.normal ?_
  refine hK1 _ _ ?_
  clear hK1
  go_wp2
  go_ret
  exact ⟨rfl, hlow⟩
set_option maxRecDepth 100000 in
set_option maxHeartbeats 1000000 in
theorem parts_any (t : VT) (v : Value) (B mm : Nat) (w : World) (h : VT.In w B t v) (hB : B ≤ w.heap.size) (hm : walkV (fun _ => true) t 65536 4194304 = some mm) : Calls Tryd.prog 11 #[v] w fun e w' => e = .returned (.int .i64 ((4194304 - mm : Nat) : Int)) ∧ Below w.heap.size w w' := by
  have hIn0 := h.more hB
  obtain ⟨k, b, n, s, l, ks⟩ := t
  have hx := hIn0
  unfold VT.In at hx
  obtain ⟨pl, cl, pk, ck, rfl, -⟩ := hx
  obtain ⟨T, hT⟩ : ∃ T, VT.mk k b n s l ks = T := ⟨_, rfl⟩
  rw [hT] at hm hIn0
  have hb1 : Below w.heap.size w (((w.alloc (.cells #[.int .i64 k, .bool b, .int .i64 n, .string s, .slice pl l.length cl, .slice pk ks.length ck] 25)).alloc (.cells #[.int .i64 0] 3)).drew.alloc (.cells #[.int .i64 65536, .int .i64 4194304] 60)) := ((((Below.refl _ w).alloc (Nat.le_refl _) _).alloc (by simp) _).drew).alloc (by show w.heap.size ≤ ((w.alloc _).alloc _).heap.size; simp; omega) _
  have es : ((w.alloc (.cells #[.int .i64 k, .bool b, .int .i64 n, .string s, .slice pl l.length cl, .slice pk ks.length ck] 25)).alloc (.cells #[.int .i64 0] 3)).drew.heap.size = w.heap.size + 2 := by show ((w.alloc _).alloc _).heap.size = _; simp
  have hR : Reach (((w.alloc (.cells #[.int .i64 k, .bool b, .int .i64 n, .string s, .slice pl l.length cl, .slice pk ks.length ck] 25)).alloc (.cells #[.int .i64 0] 3)).drew.alloc (.cells #[.int .i64 65536, .int .i64 4194304] 60)) (w.heap.size + 2) ((65536 : Nat) : Int) ((4194304 : Nat) : Int) := by
    have := Reach.new ((w.alloc (.cells #[.int .i64 k, .bool b, .int .i64 n, .string s, .slice pl l.length cl, .slice pk ks.length ck] 25)).alloc (.cells #[.int .i64 0] 3)).drew 65536 4194304
    rw [es] at this
    exact this
  have hC0 : Count (w.heap.size + 1) 0 ((w.alloc (.cells #[.int .i64 k, .bool b, .int .i64 n, .string s, .slice pl l.length cl, .slice pk ks.length ck] 25)).alloc (.cells #[.int .i64 0] 3)).drew := by
    have := World.alloc_heap_new (w.alloc (.cells #[.int .i64 k, .bool b, .int .i64 n, .string s, .slice pl l.length cl, .slice pk ks.length ck] 25)) (.cells #[.int .i64 0] 3)
    rw [World.size_alloc] at this
    have h0 : wrap64 ((0 : Nat) : Int) = 0 := by unfold wrap64; omega
    unfold Count
    rw [h0]
    exact this
  have eW : (((w.alloc (.cells #[.int .i64 k, .bool b, .int .i64 n, .string s, .slice pl l.length cl, .slice pk ks.length ck] 25)).alloc (.cells #[.int .i64 0] 3)).drew.alloc (.cells #[.int .i64 65536, .int .i64 4194304] 60)).heap.size = w.heap.size + 3 := by rw [World.size_alloc, es]
  have hC : Count (w.heap.size + 1) 0 (((w.alloc (.cells #[.int .i64 k, .bool b, .int .i64 n, .string s, .slice pl l.length cl, .slice pk ks.length ck] 25)).alloc (.cells #[.int .i64 0] 3)).drew.alloc (.cells #[.int .i64 65536, .int .i64 4194304] 60)) := (Below.heap_alloc _ _ _ (by rw [es]; omega)).trans hC0
  have hw := walk_any (see_parts w.heap.size (w.heap.size + 1) (w.heap.size + 2) (Nat.le_succ _) (by omega)) (by omega) T.parts T _ _ 65536 4194304 0 (Nat.le_refl _) (hIn0.below hb1) hb1.size (by rw [eW]; omega) hR hC (by omega) (by omega)
  have hbox : Box ((w.alloc (.cells #[.int .i64 k, .bool b, .int .i64 n, .string s, .slice pl l.length cl, .slice pk ks.length ck] 25)).alloc (.cells #[.int .i64 0] 3)).drew w.heap.size #[.int .i64 k, .bool b, .int .i64 n, .string s, .slice pl l.length cl, .slice pk ks.length ck] := (Box.new w _).alloc _
  have hbox2 : Box (((w.alloc (.cells #[.int .i64 k, .bool b, .int .i64 n, .string s, .slice pl l.length cl, .slice pk ks.length ck] 25)).alloc (.cells #[.int .i64 0] 3)).drew.alloc (.cells #[.int .i64 65536, .int .i64 4194304] 60)) w.heap.size #[.int .i64 k, .bool b, .int .i64 n, .string s, .slice pl l.length cl, .slice pk ks.length ck] := hbox.alloc _
  have hmk := far_any ((w.alloc (.cells #[.int .i64 k, .bool b, .int .i64 n, .string s, .slice pl l.length cl, .slice pk ks.length ck] 25)).alloc (.cells #[.int .i64 0] 3)).drew
  rw [es] at hmk
  have HB1 := Lib.hid hb1
  have HM := Lib.hid hm
  clear es eW hR hb1 hIn0 hT h hB hm hC hC0
  go_enter Tryd.func11, Tryd.ntmps11
  go_wp2
  rename_i Q' K1 hK1
  refine wp_region_noPanic ?_
  refine wpIn_wide (n := 5).1 ?_
  refine wpIn_region_text (fun w' => Box w' w.heap.size #[.int .i64 k, .bool b, .int .i64 n, .string s, .slice pl l.length cl, .slice pk ks.length ck]) [1, 2, 0, 3] rfl (by kernel_rfl) (by kernel_rfl) (by kernel_rfl) (by kernel_rfl) (fun _ _ _ _ _ h => h) hbox ?_
  refine textS_take (o := _) (.agg #[.int .i64 k, .bool b, .int .i64 n, .string s, .slice pl l.length cl, .slice pk ks.length ck]) (by conv => lhs; simp only [List.getElem?_toArray, List.getElem?_cons_succ, List.getElem?_cons_zero]) (by rfl) (by rfl) ?_ (fun _ => by rfl) (by conv => lhs; simp only [Act.put, List.setIfInBounds_toArray, List.set_cons_succ, List.set_cons_zero]) ?_
  · rintro w' t0; obtain ⟨c0, c1, c2, c3, c4, c5⟩ := t0.cell; clear t0; go_simp
  refine textS_take (o := _) (.func (.func 33) #[] #[.pointer (some ⟨w.heap.size + 1, 0, none⟩)]) (by conv => lhs; simp only [List.getElem?_toArray, List.getElem?_cons_succ, List.getElem?_cons_zero]) (by rfl) (by rfl) ?_ (fun _ => by rfl) (by conv => lhs; simp only [Act.put, List.setIfInBounds_toArray, List.set_cons_succ, List.set_cons_zero]) ?_
  · intro w' _; go_simp
  refine textS_call (o := _) (by conv => lhs; simp only [List.getElem?_toArray, List.getElem?_cons_succ, List.getElem?_cons_zero]) (by rfl) (by rfl) ?_
  refine wpIn_call (f := 32) (args := #[]) rfl ?_ hmk ?_
  · go_simp
  rintro e w1 ⟨rfl, rfl⟩
  refine ⟨_, _, rfl, (by conv => lhs; simp only [Act.put, List.setIfInBounds_toArray, List.set_cons_succ, List.set_cons_zero]), hbox2, ?_⟩
  refine textS_call (o := _) (by conv => lhs; simp only [List.getElem?_toArray, List.getElem?_cons_succ, List.getElem?_cons_zero]) (by rfl) (by rfl) ?_
  refine wpIn_call (f := 29) (args := #[.pointer (some ⟨w.heap.size + 2, 0, none⟩), .agg #[.int .i64 k, .bool b, .int .i64 n, .string s, .slice pl l.length cl, .slice pk ks.length ck], .func (.func 33) #[] #[.pointer (some ⟨w.heap.size + 1, 0, none⟩)]]) rfl ?_ hw ?_
  · go_simp
  rintro e w2 ⟨he, hk, hlast⟩
  have hlow : Below w.heap.size w w2 := HB1.out.trans (hk.below (fun j hj => by rcases hj with rfl | rfl <;> omega) HB1.out.size)
  have hbox3 : Box w2 w.heap.size #[.int .i64 k, .bool b, .int .i64 n, .string s, .slice pl l.length cl, .slice pk ks.length ck] := (hk.block _ hbox2.lt (by rintro (h | h) <;> omega)).trans hbox2
  obtain ⟨-, hcnt⟩ := hlast mm HM.out
  have hfit : wrap64 ((0 + (4194304 - mm) : Nat) : Int) = ((4194304 - mm : Nat) : Int) := by unfold wrap64; omega
  unfold Count at hcnt
  rw [hfit] at hcnt
  have hcell : w2.cell? ⟨w.heap.size + 1, 0, none⟩ = some (.int .i64 ((4194304 - mm : Nat) : Int)) := by simp [World.cell?, hcnt]
  rw [HM.out] at he
  refine ⟨_, _, he, (by conv => lhs; simp only [Act.put, List.setIfInBounds_toArray, List.set_cons_succ, List.set_cons_zero]), hbox3, ?_⟩
  clear hbox hbox2 hbox3 hw hmk hk he hcnt hfit hlast
  obtain ⟨res, hres⟩ : ∃ res, ((4194304 - mm : Nat) : Int) = res := ⟨_, rfl⟩
  rw [hres] at hcell
  have HRS := Lib.hid hres
  clear hres
  refine NoPanic.normal ?_
  refine hK1 _ _ ?_
  clear hK1
  go_wp2
  go_ret
  exact ⟨by rw [HRS.out]; rfl, hlow⟩
end Val
end Go.Proofs.YtiphegccaijbgaaDoor
