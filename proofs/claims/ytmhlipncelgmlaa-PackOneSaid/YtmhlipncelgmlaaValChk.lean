/- Check, Parts, Plain: the walk over a value's parts with what each part is shown. -/
import Derived.Test.YtmhlipncelgmlaaRows
import Derived.Test.YtmhlipncelgmlaaHeld
import Derived.Test.YtmhlipncelgmlaaValBase
import Derived.Test.YtmhlipncelgmlaaVal
import Derived.Test.YtmhlipncelgmlaaValCmp
import Derived.Test.YtmhlipncelgmlaaValForm2
import Derived.Test.YtmhlipncelgmlaaValWalk
import Derived.WalkKit
import Derived.Lib.Hide
import Derived.WalkSpells
import Derived.WalkLawsBesides
import Derived.Deep.RegionHeld3
import Derived.RangeFuncNested
import Derived.Shelf.Abstract
namespace Go.Proofs.Ytmhlipncelgmlaa
open Go.RowKit Go.Shelf
set_option linter.unusedVariables false
set_option linter.unusedSimpArgs false
namespace Val
theorem enters_formed : ∀ args w, (callFunc 53 args).run Try.prog w = .ok (.enter 53 args) w := enters_of Try.func53 (by kernel_rfl) rfl
theorem enters_plain : ∀ args w, (callFunc 79 args).run Try.prog w = .ok (.enter 79 args) w := enters_of Try.func79 (by kernel_rfl) rfl
theorem see_formed (B R : Nat) : See 53 #[] formedV B 0 R (fun _ => False) (fun _ _ => True) where
  enters := enters_formed
  call := fun t v w k hIn hB _ _ => by
    refine (formed_any t v B w hIn hB).mono ?_
    rintro e w' ⟨rfl, h⟩
    exact ⟨rfl, Keeps.of_below h, trivial⟩
  apart := fun _ h => h.elim
  same := fun _ _ _ _ _ => trivial
/-- Is it no node and no edge? -/
def plainP : VT → Bool | .mk k _ _ _ _ _ => !(k == 6) && !(k == 7)
theorem plain_see (t : VT) (v : Value) (B : Nat) (w : World) (h : VT.In w B t v) : Calls Try.prog 79 #[v] w fun e w' => e = .returned (.bool (plainP t)) ∧ Below w.heap.size w w' := by
  obtain ⟨k, b, n, s, l, ks⟩ := t
  unfold VT.In at h
  obtain ⟨pl, cl, pk, ck, rfl, h1, h2, h3, h4, hks, hl⟩ := h
  clear h1 h2 h3 h4 hks hl
  generalize l.length = nl
  generalize ks.length = nk
  show Calls _ _ _ _ (fun e w' => e = .returned (.bool (!(k == 6) && !(k == 7))) ∧ Below w.heap.size w w')
  by_cases h6 : k = 6
  · subst h6
    go_enter Try.func79, Try.ntmps79
    go_wp2
    go_ret
    exact ⟨rfl, (Below.refl _ _).alloc (Nat.le_refl _) _⟩
  · have e6 : (k == 6) = false := by simpa using h6
    rw [e6]
    by_cases h7 : k = 7
    · subst h7
      clear e6 h6
      go_enter Try.func79, Try.ntmps79
      go_wp2
      go_ret
      exact ⟨rfl, (Below.refl _ _).alloc (Nat.le_refl _) _⟩
    · have e7 : (k == 7) = false := by simpa using h7
      rw [e7]
      have d6 : (k != 6) = true := by simpa using h6
      have d7 : (k != 7) = true := by simpa using h7
      clear h6 h7
      go_enter Try.func79, Try.ntmps79
      go_wp2
      go_ret
      exact ⟨rfl, (Below.refl _ _).alloc (Nat.le_refl _) _⟩
theorem see_plain (B R : Nat) : See 79 #[] plainP B 0 R (fun _ => False) (fun _ _ => True) where
  enters := enters_plain
  call := fun t v w k hIn hB _ _ => by
    refine (plain_see t v B w hIn).mono ?_
    rintro e w' ⟨rfl, h⟩
    exact ⟨rfl, Keeps.of_below h, trivial⟩
  apart := fun _ h => h.elim
  same := fun _ _ _ _ _ => trivial
/-- Block N counts. -/
def Count (N : Nat) (k : Nat) (w : World) : Prop := w.heap[N]? = some (.cells #[.int .i64 (wrap64 k)] 3 (0, 0))
theorem wrap_succ (k : Nat) : wrap64 (wrap64 k + 1) = wrap64 ((k + 1 : Nat) : Int) := by unfold wrap64; omega
set_option maxRecDepth 100000 in
set_option maxHeartbeats 1000000 in
theorem check_any (t : VT) (v : Value) (B : Nat) (w : World) (h : VT.In w B t v) (hB : B ≤ w.heap.size) : Calls Try.prog 33 #[v] w fun e w' => e = .returned (.int .i64 (if (walkV formedV t 32 4096).isSome then 0 else 20)) ∧ Below w.heap.size w w' := by
  have hIn0 := h.more hB
  obtain ⟨bt, hbt⟩ : ∃ bt, (walkV formedV t 32 4096).isSome = bt := ⟨_, rfl⟩
  have hIn := hIn0.below ((Below.refl w.heap.size w).alloc (Nat.le_refl _) (.cells #[] 25))
  clear hIn
  obtain ⟨k, b, n, s, l, ks⟩ := t
  have hx := hIn0
  unfold VT.In at hx
  obtain ⟨pl, cl, pk, ck, rfl, -⟩ := hx
  obtain ⟨T, hT⟩ : ∃ T, VT.mk k b n s l ks = T := ⟨_, rfl⟩
  rw [hT] at hbt hIn0 ⊢
  rw [hbt]
  have hb1 : Below w.heap.size w ((w.alloc (.cells #[.int .i64 k, .bool b, .int .i64 n, .string s, .slice pl l.length cl, .slice pk ks.length ck] 25)).drew.alloc (.cells #[.int .i64 32, .int .i64 4096] 115)) := (((Below.refl _ w).alloc (Nat.le_refl _) _).drew).alloc (by show w.heap.size ≤ (w.alloc _).heap.size; simp) _
  have hR : Reach ((w.alloc (.cells #[.int .i64 k, .bool b, .int .i64 n, .string s, .slice pl l.length cl, .slice pk ks.length ck] 25)).drew.alloc (.cells #[.int .i64 32, .int .i64 4096] 115)) (w.heap.size + 1) ((32 : Nat) : Int) ((4096 : Nat) : Int) := by
    have := Reach.new (w.alloc (.cells #[.int .i64 k, .bool b, .int .i64 n, .string s, .slice pl l.length cl, .slice pk ks.length ck] 25)).drew 32 4096
    have e : (w.alloc (.cells #[.int .i64 k, .bool b, .int .i64 n, .string s, .slice pl l.length cl, .slice pk ks.length ck] 25)).drew.heap.size = w.heap.size + 1 := by show (w.alloc _).heap.size = _; simp
    rw [e] at this
    exact this
  have hw := walk_any (see_formed w.heap.size (w.heap.size + 1)) (Nat.le_succ _) T.parts T _ _ 32 4096 0 (Nat.le_refl _) (hIn0.below hb1) hb1.size (Nat.zero_le _) hR trivial (by omega) (by omega)
  have hbox : Box (w.alloc (.cells #[.int .i64 k, .bool b, .int .i64 n, .string s, .slice pl l.length cl, .slice pk ks.length ck] 25)).drew w.heap.size #[.int .i64 k, .bool b, .int .i64 n, .string s, .slice pl l.length cl, .slice pk ks.length ck] := Box.new w _
  have hbox2 : Box ((w.alloc (.cells #[.int .i64 k, .bool b, .int .i64 n, .string s, .slice pl l.length cl, .slice pk ks.length ck] 25)).drew.alloc (.cells #[.int .i64 32, .int .i64 4096] 115)) w.heap.size #[.int .i64 k, .bool b, .int .i64 n, .string s, .slice pl l.length cl, .slice pk ks.length ck] := hbox.alloc _
  have hmk := allowed_any (w.alloc (.cells #[.int .i64 k, .bool b, .int .i64 n, .string s, .slice pl l.length cl, .slice pk ks.length ck] 25)).drew
  have es : (w.alloc (.cells #[.int .i64 k, .bool b, .int .i64 n, .string s, .slice pl l.length cl, .slice pk ks.length ck] 25)).drew.heap.size = w.heap.size + 1 := by show (w.alloc _).heap.size = _; simp
  rw [es] at hmk
  have HB1 := Lib.hid hb1
  have HBT := Lib.hid hbt
  clear es hR hb1 hIn0 hT h hB hbt
  go_enter Try.func33, Try.ntmps33
  go_wp2
  rename_i Q' K1 hK1
  refine wp_region_noPanic ?_
  refine wpIn_wide (n := 5).1 ?_
  refine wpIn_region_text (fun w' => Box w' w.heap.size #[.int .i64 k, .bool b, .int .i64 n, .string s, .slice pl l.length cl, .slice pk ks.length ck]) [1, 0, 2] rfl (by kernel_rfl) (by kernel_rfl) (by kernel_rfl) (by kernel_rfl) (fun _ _ _ _ _ h => h) hbox ?_
  refine textS_take (o := _) (.agg #[.int .i64 k, .bool b, .int .i64 n, .string s, .slice pl l.length cl, .slice pk ks.length ck]) (by conv => lhs; simp only [List.getElem?_toArray, List.getElem?_cons_succ, List.getElem?_cons_zero]) (by rfl) (by rfl) ?_ (fun _ => by rfl) (by conv => lhs; simp only [Act.put, List.setIfInBounds_toArray, List.set_cons_succ, List.set_cons_zero]) ?_
  · rintro w' t0; obtain ⟨c0, c1, c2, c3, c4, c5⟩ := t0.cell; clear t0; go_simp
  refine textS_call (o := _) (by conv => lhs; simp only [List.getElem?_toArray, List.getElem?_cons_succ, List.getElem?_cons_zero]) (by rfl) (by rfl) ?_
  refine wpIn_call (f := 51) (args := #[]) rfl ?_ hmk ?_
  · go_simp
  rintro e w1 ⟨rfl, rfl⟩
  refine ⟨_, _, rfl, (by conv => lhs; simp only [Act.put, List.setIfInBounds_toArray, List.set_cons_succ, List.set_cons_zero]), hbox2, ?_⟩
  refine textS_call (o := _) (by conv => lhs; simp only [List.getElem?_toArray, List.getElem?_cons_succ, List.getElem?_cons_zero]) (by rfl) (by rfl) ?_
  refine wpIn_call (f := 52) (args := #[.pointer (some ⟨w.heap.size + 1, 0, none⟩), .agg #[.int .i64 k, .bool b, .int .i64 n, .string s, .slice pl l.length cl, .slice pk ks.length ck], .func (.func 53) #[] #[]]) rfl ?_ hw ?_
  · go_simp
  rintro e w2 ⟨he, hk, -⟩
  have hlow : Below w.heap.size w w2 := HB1.out.trans (hk.below (fun j hj => by rcases hj with rfl | hj; exact Nat.le_succ _; exact hj.elim) HB1.out.size)
  have hbox3 : Box w2 w.heap.size #[.int .i64 k, .bool b, .int .i64 n, .string s, .slice pl l.length cl, .slice pk ks.length ck] := (hk.block _ hbox2.lt (by rintro (h | h); omega; exact h)).trans hbox2
  rw [HBT.out] at he
  refine ⟨_, _, he, (by conv => lhs; simp only [Act.put, List.setIfInBounds_toArray, List.set_cons_succ, List.set_cons_zero]), hbox3, ?_⟩
  clear hbox hbox2 hbox3 hw hmk hk he
  refine NoPanic.normal ?_
  refine hK1 _ _ ?_
  clear hK1
  cases bt
  · go_wp2
    go_ret
    exact ⟨rfl, hlow⟩
  · go_wp2
    go_ret
    exact ⟨rfl, hlow⟩
set_option maxRecDepth 100000 in
set_option maxHeartbeats 1000000 in
theorem plain_any (t : VT) (v : Value) (B : Nat) (w : World) (h : VT.In w B t v) (hB : B ≤ w.heap.size) : Calls Try.prog 47 #[v] w fun e w' => e = .returned (.bool (walkV plainP t 65536 4194304).isSome) ∧ Below w.heap.size w w' := by
  have hIn0 := h.more hB
  obtain ⟨bt, hbt⟩ : ∃ bt, (walkV plainP t 65536 4194304).isSome = bt := ⟨_, rfl⟩
  have hIn := hIn0.below ((Below.refl w.heap.size w).alloc (Nat.le_refl _) (.cells #[] 25))
  clear hIn
  obtain ⟨k, b, n, s, l, ks⟩ := t
  have hx := hIn0
  unfold VT.In at hx
  obtain ⟨pl, cl, pk, ck, rfl, -⟩ := hx
  obtain ⟨T, hT⟩ : ∃ T, VT.mk k b n s l ks = T := ⟨_, rfl⟩
  rw [hT] at hbt hIn0 ⊢
  rw [hbt]
  have hb1 : Below w.heap.size w ((w.alloc (.cells #[.int .i64 k, .bool b, .int .i64 n, .string s, .slice pl l.length cl, .slice pk ks.length ck] 25)).drew.alloc (.cells #[.int .i64 65536, .int .i64 4194304] 115)) := (((Below.refl _ w).alloc (Nat.le_refl _) _).drew).alloc (by show w.heap.size ≤ (w.alloc _).heap.size; simp) _
  have hR : Reach ((w.alloc (.cells #[.int .i64 k, .bool b, .int .i64 n, .string s, .slice pl l.length cl, .slice pk ks.length ck] 25)).drew.alloc (.cells #[.int .i64 65536, .int .i64 4194304] 115)) (w.heap.size + 1) ((65536 : Nat) : Int) ((4194304 : Nat) : Int) := by
    have := Reach.new (w.alloc (.cells #[.int .i64 k, .bool b, .int .i64 n, .string s, .slice pl l.length cl, .slice pk ks.length ck] 25)).drew 65536 4194304
    have e : (w.alloc (.cells #[.int .i64 k, .bool b, .int .i64 n, .string s, .slice pl l.length cl, .slice pk ks.length ck] 25)).drew.heap.size = w.heap.size + 1 := by show (w.alloc _).heap.size = _; simp
    rw [e] at this
    exact this
  have hw := walk_any (see_plain w.heap.size (w.heap.size + 1)) (Nat.le_succ _) T.parts T _ _ 65536 4194304 0 (Nat.le_refl _) (hIn0.below hb1) hb1.size (Nat.zero_le _) hR trivial (by omega) (by omega)
  have hbox : Box (w.alloc (.cells #[.int .i64 k, .bool b, .int .i64 n, .string s, .slice pl l.length cl, .slice pk ks.length ck] 25)).drew w.heap.size #[.int .i64 k, .bool b, .int .i64 n, .string s, .slice pl l.length cl, .slice pk ks.length ck] := Box.new w _
  have hbox2 : Box ((w.alloc (.cells #[.int .i64 k, .bool b, .int .i64 n, .string s, .slice pl l.length cl, .slice pk ks.length ck] 25)).drew.alloc (.cells #[.int .i64 65536, .int .i64 4194304] 115)) w.heap.size #[.int .i64 k, .bool b, .int .i64 n, .string s, .slice pl l.length cl, .slice pk ks.length ck] := hbox.alloc _
  have hmk := far_any (w.alloc (.cells #[.int .i64 k, .bool b, .int .i64 n, .string s, .slice pl l.length cl, .slice pk ks.length ck] 25)).drew
  have es : (w.alloc (.cells #[.int .i64 k, .bool b, .int .i64 n, .string s, .slice pl l.length cl, .slice pk ks.length ck] 25)).drew.heap.size = w.heap.size + 1 := by show (w.alloc _).heap.size = _; simp
  rw [es] at hmk
  have HB1 := Lib.hid hb1
  have HBT := Lib.hid hbt
  clear es hR hb1 hIn0 hT h hB hbt
  go_enter Try.func47, Try.ntmps47
  go_wp2
  rename_i Q' K1 hK1
  refine wp_region_noPanic ?_
  refine wpIn_wide (n := 5).1 ?_
  refine wpIn_region_text (fun w' => Box w' w.heap.size #[.int .i64 k, .bool b, .int .i64 n, .string s, .slice pl l.length cl, .slice pk ks.length ck]) [1, 0, 2, 3] rfl (by kernel_rfl) (by kernel_rfl) (by kernel_rfl) (by kernel_rfl) (fun _ _ _ _ _ h => h) hbox ?_
  refine textS_take (o := _) (.agg #[.int .i64 k, .bool b, .int .i64 n, .string s, .slice pl l.length cl, .slice pk ks.length ck]) (by conv => lhs; simp only [List.getElem?_toArray, List.getElem?_cons_succ, List.getElem?_cons_zero]) (by rfl) (by rfl) ?_ (fun _ => by rfl) (by conv => lhs; simp only [Act.put, List.setIfInBounds_toArray, List.set_cons_succ, List.set_cons_zero]) ?_
  · rintro w' t0; obtain ⟨c0, c1, c2, c3, c4, c5⟩ := t0.cell; clear t0; go_simp
  refine textS_call (o := _) (by conv => lhs; simp only [List.getElem?_toArray, List.getElem?_cons_succ, List.getElem?_cons_zero]) (by rfl) (by rfl) ?_
  refine wpIn_call (f := 78) (args := #[]) rfl ?_ hmk ?_
  · go_simp
  rintro e w1 ⟨rfl, rfl⟩
  refine ⟨_, _, rfl, (by conv => lhs; simp only [Act.put, List.setIfInBounds_toArray, List.set_cons_succ, List.set_cons_zero]), hbox2, ?_⟩
  refine textS_call (o := _) (by conv => lhs; simp only [List.getElem?_toArray, List.getElem?_cons_succ, List.getElem?_cons_zero]) (by rfl) (by rfl) ?_
  refine wpIn_call (f := 52) (args := #[.pointer (some ⟨w.heap.size + 1, 0, none⟩), .agg #[.int .i64 k, .bool b, .int .i64 n, .string s, .slice pl l.length cl, .slice pk ks.length ck], .func (.func 79) #[] #[]]) rfl ?_ hw ?_
  · go_simp
  rintro e w2 ⟨he, hk, -⟩
  have hlow : Below w.heap.size w w2 := HB1.out.trans (hk.below (fun j hj => by rcases hj with rfl | hj; exact Nat.le_succ _; exact hj.elim) HB1.out.size)
  have hbox3 : Box w2 w.heap.size #[.int .i64 k, .bool b, .int .i64 n, .string s, .slice pl l.length cl, .slice pk ks.length ck] := (hk.block _ hbox2.lt (by rintro (h | h); omega; exact h)).trans hbox2
  rw [HBT.out] at he
  refine ⟨_, _, he, (by conv => lhs; simp only [Act.put, List.setIfInBounds_toArray, List.set_cons_succ, List.set_cons_zero]), hbox3, ?_⟩
  clear hbox hbox2 hbox3 hw hmk hk he
  refine textS_take (o := _) (.bool bt) (by conv => lhs; simp only [List.getElem?_toArray, List.getElem?_cons_succ, List.getElem?_cons_zero]) (by rfl) (by rfl) ?_ (fun _ => by rfl) (by conv => lhs; simp only [Act.put, List.setIfInBounds_toArray, List.set_cons_succ, List.set_cons_zero]) ?_
  · intro w' _; go_simp
  refine NoPanic.normal ?_
  refine hK1 _ _ ?_
  clear hK1
  go_wp2
  go_ret
  exact ⟨rfl, hlow⟩
end Val
end Go.Proofs.Ytmhlipncelgmlaa
