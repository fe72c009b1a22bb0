/- Show: what the document says a text in quotes stands for. -/
import Derived.Test.YtoaliaohbpdibaaDoorShRefQuote
import Derived.Test.YtoaliaohbpdibaaDoorShUnq
import Derived.Lib.AppendStr
import Derived.IntWalk
namespace Go.Proofs.YtoaliaohbpdibaaDoor
open Go.RowKit
set_option linter.unusedVariables false
set_option linter.unusedSimpArgs false
namespace Sh
def rqF : Nat → Nat → List UInt8 → Option (List UInt8 × Nat)
  | 0, _, _ => none
  | f + 1, i, l =>
    if l = [] then none else if l.getD 0 0 = 39 then some ([], i + 1)
    else if bareL l then (rqF f (i + sgL l) (l.drop (sgL l))).map fun x => (l.take (sgL l) ++ x.1, x.2)
    else if (escR l).2 = 0 then none else (rqF f (i + (escR l).2) (l.drop (escR l).2)).map fun x => ((escR l).1 :: x.1, x.2)
def refQ (l : List UInt8) : Option (List UInt8 × Nat) := if l.getD 0 0 ≠ 39 then none else rqF l.length 1 (l.drop 1)
def qdT : Option (List UInt8 × Nat) → Value
  | some (b, e) => .tuple #[.string ⟨b.toArray⟩, .int .i64 (e : Int), .bool true]
  | none => .tuple #[.string ⟨#[]⟩, .int .i64 0, .bool false]
theorem rqF_nil (f i : Nat) : rqF f i [] = none := by cases f <;> simp [rqF]
theorem rqF_end (f i : Nat) (l : List UInt8) (hl : l ≠ []) (h : l.getD 0 0 = 39) : rqF (f + 1) i l = some ([], i + 1) := by rw [rqF, if_neg hl, if_pos h]
theorem rqF_bare (f i : Nat) (l : List UInt8) (hl : l ≠ []) (hb : bareL l = true) : rqF (f + 1) i l = (rqF f (i + sgL l) (l.drop (sgL l))).map fun x => (l.take (sgL l) ++ x.1, x.2) := by
  rw [rqF, if_neg hl, if_neg ((bareL_iff l).1 hb).2.2.2.2, if_pos hb]
theorem rqF_none (f i : Nat) (l : List UInt8) (hl : l ≠ []) (h : l.getD 0 0 ≠ 39) (hb : bareL l = false) (he : (escR l).2 = 0) : rqF (f + 1) i l = none := by
  rw [rqF, if_neg hl, if_neg h, hb, if_neg (by simp), if_pos he]
theorem rqF_esc (f i : Nat) (l : List UInt8) (hl : l ≠ []) (h : l.getD 0 0 ≠ 39) (hb : bareL l = false) (he : (escR l).2 ≠ 0) : rqF (f + 1) i l = (rqF f (i + (escR l).2) (l.drop (escR l).2)).map fun x => ((escR l).1 :: x.1, x.2) := by
  rw [rqF, if_neg hl, if_neg h, hb, if_neg (by simp), if_neg he]
theorem escR_no (l : List UInt8) (h : l.getD 0 0 ≠ 92) : (escR l).2 = 0 := by
  rcases l with _ | ⟨a, _ | ⟨b, r⟩⟩
  · rfl
  · rfl
  · unfold escR
    simp only
    rw [if_pos (by simpa using h)]
/-- What it ends at is a quote. -/
theorem rqF_ends : ∀ (f i : Nat) (l t : List UInt8) (e : Nat), rqF f i l = some (t, e) → i < e ∧ e ≤ i + l.length ∧ l.getD (e - i - 1) 0 = 39 ∧ t.length ≤ l.length
  | 0, i, l, t, e, h => by cases h
  | f + 1, i, l, t, e, h => by
    by_cases hl : l = []
    · subst hl; rw [rqF_nil] at h; cases h
    · have hp : 0 < l.length := List.length_pos_iff.2 hl
      by_cases h39 : l.getD 0 0 = 39
      · rw [rqF_end f i l hl h39] at h
        simp only [Option.some.injEq, Prod.mk.injEq] at h
        obtain ⟨rfl, rfl⟩ := h
        refine ⟨by omega, by omega, ?_, by simp⟩
        rw [show i + 1 - i - 1 = 0 by omega]; exact h39
      · cases hb : bareL l with
        | true =>
          have hle := sgL_le l
          rw [rqF_bare f i l hl hb] at h
          obtain ⟨⟨x1, x2⟩, hx, he⟩ := Option.map_eq_some_iff.1 h
          simp only [Prod.mk.injEq] at he
          obtain ⟨rfl, rfl⟩ := he
          obtain ⟨a1, a2, a3, a4⟩ := rqF_ends f _ _ _ _ hx
          rw [List.length_drop] at a2 a4
          rw [Lib.getD_dropU] at a3
          refine ⟨by omega, by omega, ?_, by rw [List.length_append, List.length_take]; omega⟩
          rw [show x2 - i - 1 = sgL l + (x2 - (i + sgL l) - 1) by omega]; exact a3
        | false =>
          by_cases he : (escR l).2 = 0
          · rw [rqF_none f i l hl h39 hb he] at h; cases h
          · obtain ⟨n2, n4, nl, _⟩ := escR_ascii l he
            rw [rqF_esc f i l hl h39 hb he] at h
            obtain ⟨⟨x1, x2⟩, hx, hee⟩ := Option.map_eq_some_iff.1 h
            simp only [Prod.mk.injEq] at hee
            obtain ⟨rfl, rfl⟩ := hee
            obtain ⟨a1, a2, a3, a4⟩ := rqF_ends f _ _ _ _ hx
            rw [List.length_drop] at a2 a4
            rw [Lib.getD_dropU] at a3
            refine ⟨by omega, by omega, ?_, by rw [List.length_cons]; omega⟩
            rw [show x2 - i - 1 = (escR l).2 + (x2 - (i + (escR l).2) - 1) by omega]; exact a3
/-- A quote behind a row of bytes changes nothing of the sign at its front. -/
theorem sgL_quote (x : List UInt8) (hx : x ≠ []) : sgL (x ++ [39]) = sgL x := by
  have hle := sgL_le x
  have hle2 := sgL_le (x ++ [39])
  rw [List.length_append, List.length_singleton] at hle2
  by_cases h0 : 0 < sgL x
  · have h1 := sgL_more x (x.drop (sgL x) ++ [39]) h0
    rw [← List.append_assoc, List.take_append_drop] at h1
    exact h1
  · by_cases h1 : 0 < sgL (x ++ [39])
    · exfalso
      by_cases hn : sgL (x ++ [39]) ≤ x.length
      · have h2 := sgL_more (x ++ [39]) (x.drop (sgL (x ++ [39]))) h1
        rw [List.take_append_of_le_length hn, List.take_append_drop] at h2
        omega
      · have hp : 0 < x.length := List.length_pos_iff.2 hx
        have hn2 : sgL (x ++ [39]) = x.length + 1 := by omega
        have h39 : (x ++ [39]).getD (sgL (x ++ [39]) - 1) 0 = 39 := by
          rw [hn2, Nat.add_sub_cancel]; simp [List.getD]
        have hs : sgL (x ++ [39]) = 1 ∨ sgL (x ++ [39]) = 2 ∨ sgL (x ++ [39]) = 3 ∨ sgL (x ++ [39]) = 4 := by omega
        rcases hs with g | g | g | g
        · omega
        · have := decodeN_two _ _ _ _ _ (u8_lt _) (u8_lt _) (u8_lt _) (u8_lt _) g
          rw [g] at h39
          rw [h39] at this
          have h3 := this.2.2.2.1
          revert h3; decide
        · have := decodeN_three _ _ _ _ _ (u8_lt _) (u8_lt _) (u8_lt _) (u8_lt _) g
          rw [g] at h39
          rw [h39] at this
          have h3 := this.2.2.2.2.2.1
          revert h3; decide
        · have := decodeN_four _ _ _ _ _ (u8_lt _) (u8_lt _) (u8_lt _) (u8_lt _) g
          rw [g] at h39
          rw [h39] at this
          have h3 := this.2.2.2.2.2.2.2.1
          revert h3; decide
    · omega
theorem head_quote (x : List UInt8) (hx : x ≠ []) : (x ++ [39]).getD 0 0 = x.getD 0 0 := by
  rcases x with _ | ⟨a, x⟩
  · exact absurd rfl hx
  · rfl
theorem bareL_quote (x : List UInt8) (hx : x ≠ []) : bareL (x ++ [39]) = bareL x := by
  unfold bareL
  rw [sgL_quote x hx, head_quote x hx]
theorem escR_short (x : List UInt8) (hx : x ≠ []) (hn : (escR (x ++ [39])).2 ≠ (escR x).2 ∨ (escR (x ++ [39])).1 ≠ (escR x).1) : x = [92] := by
  rcases x with _ | ⟨a, _ | ⟨b, _ | ⟨c, _ | ⟨d, r⟩⟩⟩⟩
  · exact absurd rfl hx
  · by_cases ha : a = 92
    · rw [ha]
    · exfalso
      have h1 : escR ([a] ++ [39]) = (0, 0) := by
        show escR (a :: 39 :: []) = _
        unfold escR
        simp only
        rw [if_pos ha]
      rw [h1] at hn
      rcases hn with h | h <;> exact h rfl
  · exfalso
    have h1 : escR ([a, b] ++ [39]) = escR [a, b] := by
      show escR (a :: b :: [39]) = _
      unfold escR
      rfl
    rw [h1] at hn
    rcases hn with h | h <;> exact h rfl
  · exfalso
    have h1 : escR ([a, b, c] ++ [39]) = escR [a, b, c] := by
      show escR (a :: b :: c :: [39]) = _
      unfold escR
      simp only
      have : hexF 0 [c, 39] = none := by
        unfold hexF
        split
        · rfl
        · rfl
      rw [this]
    rw [h1] at hn
    rcases hn with h | h <;> exact h rfl
  · exfalso
    have h1 : escR ((a :: b :: c :: d :: r) ++ [39]) = escR (a :: b :: c :: d :: r) := by
      show escR (a :: b :: c :: d :: (r ++ [39])) = _
      unfold escR
      rfl
    rw [h1] at hn
    rcases hn with h | h <;> exact h rfl
/-- Only what ends at the very end counts. -/
def atEnd (n : Nat) : Option (List UInt8 × Nat) → Option (List UInt8)
  | some (t, e) => if e = n then some t else none
  | none => none
theorem atEnd_map (n : Nat) (o : Option (List UInt8 × Nat)) (g : List UInt8 → List UInt8) : atEnd n (o.map fun x => (g x.1, x.2)) = (atEnd n o).map g := by
  rcases o with _ | ⟨t, e⟩
  · rfl
  · simp only [Option.map_some, atEnd]
    split <;> rfl
theorem unq_ref : ∀ (f i : Nat) (x : List UInt8), x.length < f → ∀ F, x.length ≤ F → atEnd (i + x.length + 1) (rqF f i (x ++ [39])) = unqF F x
  | 0, i, x, h, F, hF => by omega
  | f + 1, i, x, h, F, hF => by
    by_cases hx : x = []
    · subst hx
      rw [rqF_end f i _ (by simp) rfl, unqF_nil]
      simp [atEnd]
    · have hp : 0 < x.length := List.length_pos_iff.2 hx
      obtain ⟨F', rfl⟩ : ∃ F', F = F' + 1 := ⟨F - 1, by omega⟩
      have hne : x ++ [39] ≠ [] := by simp
      have hh := head_quote x hx
      have hle := sgL_le x
      have hst := stL_pos x
      by_cases h39 : x.getD 0 0 = 39
      · rw [rqF_end f i _ hne (by rw [hh]; exact h39)]
        have hb : bareL x = false := by
          rw [Bool.eq_false_iff]; intro h; exact ((bareL_iff x).1 h).2.2.2.2 h39
        rw [unqF_none _ _ hx hb (escR_no x (by rw [h39]; decide))]
        simp only [atEnd]
        rw [if_neg (by omega)]
      · cases hb : bareL x with
        | true =>
          rw [rqF_bare f i _ hne (by rw [bareL_quote x hx]; exact hb), sgL_quote x hx, unqF_bare _ _ hx hb, List.take_append_of_le_length hle.1, List.drop_append_of_le_length hle.1, atEnd_map _ _ (x.take (sgL x) ++ ·)]
          have h0 := ((bareL_iff x).1 hb).1
          have ih := unq_ref f (i + sgL x) (x.drop (sgL x)) (by rw [List.length_drop]; omega) F' (by rw [List.length_drop]; omega)
          rw [List.length_drop, show i + sgL x + (x.length - sgL x) + 1 = i + x.length + 1 by omega] at ih
          rw [ih]
        | false =>
          have hb2 : bareL (x ++ [39]) = false := by rw [bareL_quote x hx]; exact hb
          by_cases h92 : x = [92]
          · subst h92
            rw [unqF_none _ _ hx hb rfl, rqF_esc f i _ hne (by decide) hb2 (by decide)]
            have : ([92] ++ [39] : List UInt8).drop (escR ([92] ++ [39])).2 = [] := by decide
            rw [this, rqF_nil]
            rfl
          · have e2 : (escR (x ++ [39])).2 = (escR x).2 := by
              apply Classical.byContradiction; intro hn; exact h92 (escR_short x hx (.inl hn))
            have e1 : (escR (x ++ [39])).1 = (escR x).1 := by
              apply Classical.byContradiction; intro hn; exact h92 (escR_short x hx (.inr hn))
            by_cases he : (escR x).2 = 0
            · rw [rqF_none f i _ hne (by rw [hh]; exact h39) hb2 (by rw [e2]; exact he), unqF_none _ _ hx hb he]
              rfl
            · obtain ⟨n2, n4, nl, _⟩ := escR_ascii x he
              rw [rqF_esc f i _ hne (by rw [hh]; exact h39) hb2 (by rw [e2]; exact he), unqF_esc _ _ hx hb he, e1, e2, List.drop_append_of_le_length nl, atEnd_map _ _ ((escR x).1 :: ·)]
              have ih := unq_ref f (i + (escR x).2) (x.drop (escR x).2) (by rw [List.length_drop]; omega) F' (by rw [List.length_drop]; omega)
              rw [List.length_drop, show i + (escR x).2 + (x.length - (escR x).2) + 1 = i + x.length + 1 by omega] at ih
              rw [ih]
/-- The document's answer is the program's. -/
theorem refQ_unqL (l : List UInt8) : atEnd l.length (refQ l) = unqL l := by
  unfold refQ unqL
  by_cases h0 : l.getD 0 0 ≠ 39
  · rw [if_pos h0, if_pos (.inr (.inl h0))]; rfl
  · have h0' : l.getD 0 0 = 39 := by simpa using h0
    rw [if_neg h0]
    rcases l with _ | ⟨a, m⟩
    · simp at h0'
    · simp only [List.drop_one, List.tail_cons]
      by_cases hq : (a :: m).length < 2 ∨ (a :: m).getD ((a :: m).length - 1) 0 ≠ 39
      · rw [if_pos (by rcases hq with h | h; exact .inl h; exact .inr (.inr h))]
        cases hr : rqF (a :: m).length 1 m with
        | none => rfl
        | some x =>
          obtain ⟨t, e⟩ := x
          simp only [atEnd]
          rw [if_neg]
          intro he
          obtain ⟨b1, b2, b3, b4⟩ := rqF_ends _ _ _ _ _ hr
          rw [he] at b1 b3
          rcases hq with h | h
          · omega
          · apply h
            have hm : (a :: m).length = m.length + 1 := rfl
            rw [hm] at b1 b3 ⊢
            rw [show m.length + 1 - 1 - 1 = m.length - 1 by omega] at b3
            rw [show m.length + 1 - 1 = (m.length - 1) + 1 by omega, List.getD_cons_succ]
            exact b3
      · have hm2 : 2 ≤ m.length + 1 := by
          have : ¬ (a :: m).length < 2 := fun h => hq (.inl h)
          simp at this; omega
        have hlast : (a :: m).getD ((a :: m).length - 1) 0 = 39 := by
          apply Classical.byContradiction; intro h; exact hq (.inr h)
        rw [if_neg (by
          intro h
          rcases h with h | h | h
          · exact hq (.inl h)
          · exact h h0'
          · exact h hlast)]
        have hm : (a :: m).length = m.length + 1 := rfl
        rw [hm] at hlast ⊢
        rw [show m.length + 1 - 1 = (m.length - 1) + 1 by omega, List.getD_cons_succ] at hlast
        have hsplit : m = m.take (m.length - 1) ++ [39] := by
          have h1 := List.take_append_drop (m.length - 1) m
          have h2 : m.drop (m.length - 1) = [39] := by
            rw [List.drop_eq_getElem_cons (by omega)]
            rw [List.getD_eq_getElem?_getD, List.getElem?_eq_getElem (by omega)] at hlast
            rw [show m[m.length - 1] = 39 from hlast]
            rw [show m.length - 1 + 1 = m.length by omega, List.drop_length]
          rw [h2] at h1
          exact h1.symm
        have hxl : (m.take (m.length - 1)).length = m.length - 1 := by rw [List.length_take]; omega
        have h3 := unq_ref (m.length + 1) 1 (m.take (m.length - 1)) (by omega) (m.length - 1) (by omega)
        rw [← hsplit, hxl, show 1 + (m.length - 1) + 1 = m.length + 1 by omega] at h3
        rw [h3, show m.length + 1 - 2 = m.length - 1 by omega]
def QdRel (w : World) (s : ByteArray) (v i : Value) (wr : World) : Prop :=
  ∃ (pos fuel : Nat) (acc : List UInt8), Buf w.heap.size wr v acc ∧ i = .int .i64 (pos : Int) ∧ Below w.heap.size w wr ∧ rqF s.size 1 (s.data.toList.drop 1) = (rqF fuel pos (s.data.toList.drop pos)).map (fun x => (acc ++ x.1, x.2)) ∧ s.size ≤ pos + fuel ∧ acc.length ≤ pos ∧ pos ≤ s.size
def QPost (w : World) (r : Option (List UInt8 × Nat)) (e : Ending) (w' : World) : Prop := e = .returned (qdT r) ∧ Below w.heap.size w w'
theorem ne_empty (s : ByteArray) (h : 0 < s.size) : ¬ s = ByteArray.empty := fun e => by rw [e] at h; exact absurd h (by decide)
theorem strCells_bytes (s : ByteArray) : Lib.strCells s = Lib.byteCells s.data.toList := rfl
set_option maxRecDepth 100000 in
theorem quoted_not (s : ByteArray) (w : World) (hs : s.size ≤ 35184372088000) (h : s.data.toList.getD 0 0 ≠ 39) : Calls Tryd.prog 25 #[.string s, .int .i64 0] w (QPost w none) := by
  by_cases h0 : s.size = 0
  · have h1 : (s.size : Int) ≤ 0 := by omega
    have h2 : decide (0 < s.size) = false := decide_eq_false (by omega)
    go_enter Tryd.func25, Tryd.ntmps25
    go_wp2
    exact bodyPost_ret (v := .tuple #[.string ⟨#[]⟩, .int .i64 0, .bool false]) (by simp [results, Tryd.results25, go_sem]) rfl ⟨rfl, Below.refl _ _⟩
  · have hlt : 0 < s.size := by omega
    have hlti : 0 < (s.size : Int) := by omega
    rw [getD_at s 0 hlt] at h
    have t39 := u8_ne (k := 39) (by omega) h
    simp only [Int.cast_ofNat_Int] at t39
    have t39' : ((s[0].toNat : Int) != 39) = true := by simp only [bne, t39]; rfl
    have hse := ne_empty s hlt
    clear h h0
    go_enter Tryd.func25, Tryd.ntmps25
    go_wp2
    exact bodyPost_ret (v := .tuple #[.string ⟨#[]⟩, .int .i64 0, .bool false]) (by simp [results, Tryd.results25, go_sem]) rfl ⟨rfl, Below.refl _ _⟩
set_option maxHeartbeats 4000000 in
set_option maxRecDepth 100000 in
theorem quoted_yes (s : ByteArray) (w : World) (hs : s.size ≤ 35184372088000) (hlt : 0 < s.size) (h : s[0] = 39) : Calls Tryd.prog 25 #[.string s, .int .i64 0] w (QPost w (rqF s.size 1 (s.data.toList.drop 1))) := by
  obtain ⟨i0, hi0, hz0, hz1, hz2⟩ := info_parts infoB
  have hlti : 0 < (s.size : Int) := by omega
  have h39 : (s[0].toNat : Int) = 39 := by rw [h]; rfl
  have hse := ne_empty s hlt
  clear h
  go_enter Tryd.func25, Tryd.ntmps25
  go_wp2
  go_loopw [7, 8] (fun v i wr => QdRel w s v i wr) (fun _ i _ => s.size - (intOf i).toNat)
  case atStart =>
    refine ⟨1, s.size, [], Buf.nil _ _, rfl, Below.refl _ _, ?_, by omega, by simp, by omega⟩
    cases rqF s.size 1 (s.data.toList.drop 1) <;> rfl
  case round =>
    obtain ⟨pos, fuel, acc, hI, rfl, hbw, hacc, hfu, hal, hpt⟩ := hrel
    have HB := Lib.hid hbw
    have HI := Lib.hid hI
    have HBS : w.heap.size ≤ wr.heap.size := hbw.size
    clear hbw hI
    by_cases hp : pos < s.size
    · obtain ⟨hl, hc0, hst, hrr, hsl⟩ := at_place s pos hp
      have hS := fun V => sign_any s pos V hs (by omega)
      obtain ⟨f, rfl⟩ : ∃ f, fuel = f + 1 := ⟨fuel - 1, by omega⟩
      have hle := sgL_le (s.data.toList.drop pos)
      have hbi := bareL_iff (s.data.toList.drop pos)
      have hlow := fun h => (decodeL_one (s.data.toList.drop pos) h hl).2
      have hLt : ∀ k, (s.data.toList.drop pos).take k = (s.extract pos (pos + k)).data.toList := fun k => by rw [Lib.extract_data]; congr 1; omega
      have hLg : ∀ j, (s.data.toList.drop pos).getD j 0 = s.data.toList.getD (pos + j) 0 := fun j => Lib.getD_dropU _ _ _
      have hdd : ∀ k, (s.data.toList.drop pos).drop k = s.data.toList.drop (pos + k) := fun k => by rw [List.drop_drop]
      have hLl : (s.data.toList.drop pos).length = s.size - pos := by simp
      obtain ⟨L, hL⟩ : ∃ L, s.data.toList.drop pos = L := ⟨_, rfl⟩
      rw [hL] at hl hc0 hst hrr hsl hS hacc hle hbi hlow hLl
      simp only [hL] at hLt hLg hdd
      rw [hc0] at hbi hlow
      obtain ⟨n, hn⟩ : ∃ n, sgL L = n := ⟨_, rfl⟩
      rw [hn] at hS hle hbi hlow
      have hpi : (pos : Int) < s.size := by omega
      have hsi : (s.size : Int) ≤ 35184372088000 := by omega
      have HA := Lib.hid hacc
      have HN := Lib.hid hn
      have HC := Lib.hid hc0
      have HLT := Lib.hid hLt
      have HLG := Lib.hid hLg
      have HDD := Lib.hid hdd
      have HLL := Lib.hid hLl
      have HNE := Lib.hid hl
      clear hacc hn hLt hrr hst hL hsl hLg hdd hLl hl hc0
      by_cases hA : s[pos] = 39
      · have hci : (s[pos].toNat : Int) = 39 := by rw [hA]; rfl
        have HF : Hid (rqF s.size 1 (s.data.toList.drop 1) = some (acc, pos + 1)) := Lib.hid (by
          rw [HA.out, rqF_end f pos L HNE.out (by rw [HC.out, hA])]
          simp)
        have HCV := Lib.hid (conv_buf w.heap.size wr u7 acc HI.out 9 Tryd.underlying9)
        clear hA hbi hlow
        go_wp2_with (go_at_call 20; refine (hS _).mono ?_; rintro e w' ⟨rfl, rfl⟩)
        rw [HCV.out]
        go_wp2
        refine bodyPost_ret (v := .tuple #[.string ⟨acc.toArray⟩, .int .i64 ((pos : Int) + 1), .bool true]) (by simp [results, Tryd.results25, go_sem]) rfl ⟨?_, HB.out⟩
        rw [HF.out]
        rfl
      · have t39 := u8_ne (k := 39) (by omega) hA
        simp only [Int.cast_ofNat_Int] at t39
        by_cases hbad : n = 0 ∨ s[pos].toNat < 32 ∨ s[pos].toNat = 127
        · have hb : bareL L = false := by
            rw [Bool.eq_false_iff]; intro h; have := hbi.1 h
            rcases hbad with h | h | h
            · omega
            · omega
            · exact this.2.2.1 (UInt8.toNat_inj.1 (by rw [h]; rfl))
          have h92 : s[pos] ≠ 92 := by
            intro h
            rcases hbad with h2 | h2 | h2
            · have := hlow (by rw [h]; decide); omega
            · rw [h] at h2; revert h2; decide
            · rw [h] at h2; revert h2; decide
          have HF : Hid (rqF s.size 1 (s.data.toList.drop 1) = none) := Lib.hid (by
            rw [HA.out, rqF_none f pos L HNE.out (by rw [HC.out]; exact hA) hb (escR_no L (by rw [HC.out]; exact h92))]
            rfl)
          have htest : ((n : Int) == 0) = true ∨ (((n : Int) == 0) = false ∧ (s[pos].toNat : Int) < 32) ∨ (((n : Int) == 0) = false ∧ 32 ≤ (s[pos].toNat : Int) ∧ ((s[pos].toNat : Int) == 127) = true) := by
            by_cases h0 : n = 0
            · left; simp [h0]
            · right
              by_cases h1 : s[pos].toNat < 32
              · left; exact ⟨by simp; omega, by omega⟩
              · right; exact ⟨by simp; omega, by omega, by simp; omega⟩
          clear hbad hb h92 hA hbi hlow
          rcases htest with h1 | ⟨h1, h2⟩ | ⟨h1, h2, h3⟩
          all_goals
            go_wp2_with (go_at_call 20; refine (hS _).mono ?_; rintro e w' ⟨rfl, rfl⟩)
            refine bodyPost_ret (v := .tuple #[.string ⟨#[]⟩, .int .i64 0, .bool false]) (by simp [results, Tryd.results25, go_sem]) rfl ⟨by first | (rw [HF.out]; rfl) | (rw [← List.drop_one, HF.out]; rfl), HB.out⟩
        · have hn0 : n ≠ 0 := fun h => hbad (.inl h)
          have h32 : 32 ≤ (s[pos].toNat : Int) := by omega
          have h127 : s[pos].toNat ≠ 127 := fun h => hbad (.inr (.inr h))
          have t127 : ((s[pos].toNat : Int) == 127) = false := by simp; omega
          have tn : ((n : Int) == 0) = false := by simp; omega
          have hn4 : (n : Int) ≤ 4 := by omega
          have hn1 : 1 ≤ (n : Int) := by omega
          clear hbad
          by_cases h92 : s[pos] = 92
          · have hn : n = 1 := hlow (by rw [h92]; decide)
            subst hn
            have hb : bareL L = false := by
              rw [Bool.eq_false_iff]; intro h; exact (hbi.1 h).2.2.2.1 h92
            have hci : (s[pos].toNat : Int) = 92 := by rw [h92]; rfl
            clear hbi hlow h32 t127 t39 h127
            by_cases h2 : pos + 1 < s.size
            · have h2i : (pos : Int) + 1 < s.size := by omega
              have hd : L.getD 1 0 = s[pos + 1] := by rw [HLG.out, getD_at s (pos + 1) h2]
              have hL2 : L = 92 :: s[pos + 1] :: L.drop 2 := by
                have h3 := HLL.out
                have h4 := HC.out
                rcases L with _ | ⟨a, _ | ⟨b, r⟩⟩
                · simp at h3; omega
                · simp at h3; omega
                · simp only [List.getD_cons_zero, List.getD_cons_succ] at h4 hd
                  rw [h4, h92, hd]; rfl
              have HER : Hid (escR L = escR (92 :: s[pos + 1] :: L.drop 2)) := Lib.hid (by rw [← hL2])
              have next : ∀ (x : UInt8) (k : Nat), escR L = (x, k) → k ≠ 0 → ∀ (v' : Value) (w4 : World), Buf w.heap.size w4 v' (acc ++ [x]) → Below w.heap.size wr w4 → pos + k ≤ s.size → Hid (QdRel w s v' (.int .i64 ((pos : Int) + (k : Int))) w4) := fun x k he hk v' w4 h5 h6 h7 => Lib.hid ⟨pos + k, f, acc ++ [x], h5, rfl, HB.out.trans h6, by
                have := HA.out
                rw [rqF_esc f pos L HNE.out (by rw [HC.out]; exact hA) hb (by rw [he]; exact hk), he, HDD.out] at this
                rw [this, Option.map_map]
                simp only [Function.comp_def, List.append_assoc, List.cons_append, List.nil_append], by omega, by rw [List.length_append, List.length_singleton]; omega, h7⟩
              have NX2 : Hid (∀ (x : UInt8), escR L = (x, 2) → ∀ (v' : Value) (w4 : World), Buf w.heap.size w4 v' (acc ++ [x]) → Below w.heap.size wr w4 → Hid (QdRel w s v' (.int .i64 ((pos : Int) + 2)) w4)) := Lib.hid fun x he v' w4 h5 h6 => next x 2 he (by omega) v' w4 h5 h6 (by omega)
              have NX4 : Hid (∀ (x : UInt8), escR L = (x, 4) → pos + 4 ≤ s.size → ∀ (v' : Value) (w4 : World), Buf w.heap.size w4 v' (acc ++ [x]) → Below w.heap.size wr w4 → Hid (QdRel w s v' (.int .i64 ((pos : Int) + 4)) w4)) := Lib.hid fun x he h7 v' w4 h5 h6 => next x 4 he (by omega) v' w4 h5 h6 h7
              have none_ : (escR L).2 = 0 → Hid (rqF s.size 1 (s.data.toList.drop 1) = none) := fun he => Lib.hid (by
                rw [HA.out, rqF_none f pos L HNE.out (by rw [HC.out]; exact hA) hb he]
                rfl)
              have NO := Lib.hid none_
              clear next none_ hL2 hd hb h92 hA
              by_cases d92 : s[pos + 1] = 92
              · have hdi : (s[pos + 1].toNat : Int) = 92 := by rw [d92]; rfl
                have HX := Lib.hid (NX2.out 92 (by rw [HER.out, d92]; rfl))
                clear d92
                go_wp2_with (first | (go_at_call 20; refine (hS _).mono ?_; rintro e w' ⟨rfl, rfl⟩) | (at_builtin; refine wpList_append_lies _ rfl (.tmp 78) (.tmp 80) 36 rfl w.heap.size 5 i0 (.int .u8 0) 1 1 Tryd.underlying36 hi0 hz0 hz1 hz2 rfl (by decide) u7 acc.length (Lib.byteCells acc) rfl (World.ownsRow.alloc HI.out _) ⟨wr.heap.size, 0, none⟩ 1 1 [.int .u8 92] rfl rfl (one_lit _ wr) one_one (by omega) (by unfold maxLen; omega) (by omega) (by simp; omega) _ rfl (fun g2 cap2 w4 ho hg hx3 hx4 => ?_)))
                have HF := HX.out _ w4 (Buf.append ho (by simp) (by rw [Lib.byteCells_append]; rfl)) (Buf.grown HI.out HBS hg).1
                clear ho hg hx3 hx4
                go_wp2
                go_roundw
                case rel => exact HF.out
                case measure => simp [intOf]; omega
              by_cases d39 : s[pos + 1] = 39
              · have hdi : (s[pos + 1].toNat : Int) = 39 := by rw [d39]; rfl
                have HX := Lib.hid (NX2.out 39 (by rw [HER.out, d39]; rfl))
                clear d39 d92
                go_wp2_with (first | (go_at_call 20; refine (hS _).mono ?_; rintro e w' ⟨rfl, rfl⟩) | (at_builtin; refine wpList_append_lies _ rfl (.tmp 78) (.tmp 80) 36 rfl w.heap.size 5 i0 (.int .u8 0) 1 1 Tryd.underlying36 hi0 hz0 hz1 hz2 rfl (by decide) u7 acc.length (Lib.byteCells acc) rfl (World.ownsRow.alloc HI.out _) ⟨wr.heap.size, 0, none⟩ 1 1 [.int .u8 39] rfl rfl (one_lit _ wr) one_one (by omega) (by unfold maxLen; omega) (by omega) (by simp; omega) _ rfl (fun g2 cap2 w4 ho hg hx3 hx4 => ?_)))
                have HF := HX.out _ w4 (Buf.append ho (by simp) (by rw [Lib.byteCells_append]; rfl)) (Buf.grown HI.out HBS hg).1
                clear ho hg hx3 hx4
                go_wp2
                go_roundw
                case rel => exact HF.out
                case measure => simp [intOf]; omega
              by_cases d110 : s[pos + 1] = 110
              · have hdi : (s[pos + 1].toNat : Int) = 110 := by rw [d110]; rfl
                have HX := Lib.hid (NX2.out 10 (by rw [HER.out, d110]; rfl))
                clear d110 d92 d39
                go_wp2_with (first | (go_at_call 20; refine (hS _).mono ?_; rintro e w' ⟨rfl, rfl⟩) | (at_builtin; refine wpList_append_lies _ rfl (.tmp 84) (.tmp 85) 36 rfl w.heap.size 5 i0 (.int .u8 0) 1 1 Tryd.underlying36 hi0 hz0 hz1 hz2 rfl (by decide) u7 acc.length (Lib.byteCells acc) rfl (World.ownsRow.alloc HI.out _) ⟨wr.heap.size, 0, none⟩ 1 1 [.int .u8 10] rfl rfl (one_lit _ wr) one_one (by omega) (by unfold maxLen; omega) (by omega) (by simp; omega) _ rfl (fun g2 cap2 w4 ho hg hx3 hx4 => ?_)))
                have HF := HX.out _ w4 (Buf.append ho (by simp) (by rw [Lib.byteCells_append]; rfl)) (Buf.grown HI.out HBS hg).1
                clear ho hg hx3 hx4
                go_wp2
                go_roundw
                case rel => exact HF.out
                case measure => simp [intOf]; omega
              by_cases d116 : s[pos + 1] = 116
              · have hdi : (s[pos + 1].toNat : Int) = 116 := by rw [d116]; rfl
                have HX := Lib.hid (NX2.out 9 (by rw [HER.out, d116]; rfl))
                clear d116 d92 d39 d110
                go_wp2_with (first | (go_at_call 20; refine (hS _).mono ?_; rintro e w' ⟨rfl, rfl⟩) | (at_builtin; refine wpList_append_lies _ rfl (.tmp 89) (.tmp 90) 36 rfl w.heap.size 5 i0 (.int .u8 0) 1 1 Tryd.underlying36 hi0 hz0 hz1 hz2 rfl (by decide) u7 acc.length (Lib.byteCells acc) rfl (World.ownsRow.alloc HI.out _) ⟨wr.heap.size, 0, none⟩ 1 1 [.int .u8 9] rfl rfl (one_lit _ wr) one_one (by omega) (by unfold maxLen; omega) (by omega) (by simp; omega) _ rfl (fun g2 cap2 w4 ho hg hx3 hx4 => ?_)))
                have HF := HX.out _ w4 (Buf.append ho (by simp) (by rw [Lib.byteCells_append]; rfl)) (Buf.grown HI.out HBS hg).1
                clear ho hg hx3 hx4
                go_wp2
                go_roundw
                case rel => exact HF.out
                case measure => simp [intOf]; omega
              by_cases d114 : s[pos + 1] = 114
              · have hdi : (s[pos + 1].toNat : Int) = 114 := by rw [d114]; rfl
                have HX := Lib.hid (NX2.out 13 (by rw [HER.out, d114]; rfl))
                clear d114 d92 d39 d110 d116
                go_wp2_with (first | (go_at_call 20; refine (hS _).mono ?_; rintro e w' ⟨rfl, rfl⟩) | (at_builtin; refine wpList_append_lies _ rfl (.tmp 94) (.tmp 95) 36 rfl w.heap.size 5 i0 (.int .u8 0) 1 1 Tryd.underlying36 hi0 hz0 hz1 hz2 rfl (by decide) u7 acc.length (Lib.byteCells acc) rfl (World.ownsRow.alloc HI.out _) ⟨wr.heap.size, 0, none⟩ 1 1 [.int .u8 13] rfl rfl (one_lit _ wr) one_one (by omega) (by unfold maxLen; omega) (by omega) (by simp; omega) _ rfl (fun g2 cap2 w4 ho hg hx3 hx4 => ?_)))
                have HF := HX.out _ w4 (Buf.append ho (by simp) (by rw [Lib.byteCells_append]; rfl)) (Buf.grown HI.out HBS hg).1
                clear ho hg hx3 hx4
                go_wp2
                go_roundw
                case rel => exact HF.out
                case measure => simp [intOf]; omega
              have q92 := u8_ne (k := 92) (by omega) d92
              have q39 := u8_ne (k := 39) (by omega) d39
              have q110 := u8_ne (k := 110) (by omega) d110
              have q116 := u8_ne (k := 116) (by omega) d116
              have q114 := u8_ne (k := 114) (by omega) d114
              simp only [Int.cast_ofNat_Int] at q92 q39 q110 q116 q114
              have HER2 : Hid (escR L = if s[pos + 1] ≠ 120 then (0, 0) else match L.drop 2 with | c :: d :: _ => (match hexF 0 [c, d] with | some n => (n.toUInt8, 4) | none => (0, 0)) | _ => (0, 0)) := Lib.hid (by
                rw [HER.out]
                show escR (92 :: s[pos + 1] :: L.drop 2) = _
                unfold escR
                simp only
                rw [if_neg (by decide), if_neg d92, if_neg d39, if_neg d110, if_neg d116, if_neg d114]
                rfl)
              clear d92 d39 d110 d116 d114
              by_cases d120 : s[pos + 1] = 120
              · have hdi : (s[pos + 1].toNat : Int) = 120 := by rw [d120]; rfl
                clear q92 q39 q110 q116 q114
                by_cases h4 : pos + 3 < s.size
                · have h4i : (pos : Int) + 3 < s.size := by omega
                  obtain ⟨a, ha⟩ : ∃ a, s[pos + 2] = a := ⟨_, rfl⟩
                  obtain ⟨b, hb3⟩ : ∃ b, s[pos + 3] = b := ⟨_, rfl⟩
                  have hr : L.drop 2 = a :: b :: L.drop 4 := by
                    have h5 := HLL.out
                    have g2 := HLG.out 2
                    have g3 := HLG.out 3
                    rw [getD_at s (pos + 2) (by omega), ha] at g2
                    rw [getD_at s (pos + 3) (by omega), hb3] at g3
                    rcases L with _ | ⟨x0, _ | ⟨x1, _ | ⟨x2, _ | ⟨x3, r⟩⟩⟩⟩
                    · simp at h5; omega
                    · simp at h5; omega
                    · simp at h5; omega
                    · simp at h5; omega
                    · simp only [List.getD_cons_zero, List.getD_cons_succ] at g2 g3
                      rw [g2, g3]; rfl
                  have he : escR L = match hexF 0 [a, b] with | some n => (n.toUInt8, 4) | none => (0, 0) := by
                    rw [HER2.out, if_neg (by simpa using d120), hr]
                  have hXa := fun V => Hex_any a.toNat V (u8_lt _)
                  have hXb := fun V => Hex_any b.toNat V (u8_lt _)
                  have hai : (s[pos + 2].toNat : Int) = (a.toNat : Int) := by rw [ha]
                  have hbi3 : (s[pos + 3].toNat : Int) = (b.toNat : Int) := by rw [hb3]
                  have hla := u8_lt a
                  have hlb := u8_lt b
                  clear d120 ha hb3 hr
                  by_cases ha16 : hexv a.toNat < 16
                  · by_cases hb16 : hexv b.toNat < 16
                    · have hq : hexF 0 [a, b] = some ((0 * 16 + hexv a.toNat) * 16 + hexv b.toNat) := by
                        rw [hexF, if_pos ha16, hexF, if_pos hb16, hexF]
                      have he2 : escR L = (((0 * 16 + hexv a.toNat) * 16 + hexv b.toNat).toUInt8, 4) := by rw [he, hq]
                      have HX := Lib.hid (NX4.out _ he2 (by omega))
                      have hax : hexI a.toNat = (hexv a.toNat : Int) := by unfold hexI; rw [if_pos ha16]
                      have hbx : hexI b.toNat = (hexv b.toNat : Int) := by unfold hexI; rw [if_pos hb16]
                      have hvv : ((((0 * 16 + hexv a.toNat) * 16 + hexv b.toNat).toUInt8).toNat : Int) = (hexv a.toNat : Int) * 16 + (hexv b.toNat : Int) := by simp; omega
                      obtain ⟨z, hz⟩ : ∃ z, ((0 * 16 + hexv a.toNat) * 16 + hexv b.toNat).toUInt8 = z := ⟨_, rfl⟩
                      rw [hz] at HX hvv
                      rw [hax] at hXa
                      rw [hbx] at hXb
                      obtain ⟨x, hx⟩ : ∃ x : Int, (hexv a.toNat : Int) = x := ⟨_, rfl⟩
                      obtain ⟨y, hy⟩ : ∃ y : Int, (hexv b.toNat : Int) = y := ⟨_, rfl⟩
                      rw [hx] at hXa hvv
                      rw [hy] at hXb hvv
                      have x0 : 0 ≤ x := by omega
                      have x1 : x ≤ 15 := by omega
                      have y0 : 0 ≤ y := by omega
                      have y1 : y ≤ 15 := by omega
                      have e1 : IntKind.i64.wrap (x * 16) = x * 16 := IntWalk.i64_in _ (by omega)
                      have e2 : IntKind.i64.wrap (x * 16 + y) = x * 16 + y := IntWalk.i64_in _ (by omega)
                      have e3 : IntKind.u8.wrap (x * 16 + y) = x * 16 + y := by rw [IntKind.wrap_u8]; omega
                      have HV := Lib.hid hvv
                      have HM : Hid (acc.length + 1 ≤ maxLen) := Lib.hid (by unfold maxLen; omega)
                      have HL8 : Hid ((acc.length + 1) * 1 ≤ 140737488355328) := Lib.hid (by omega)
                      have HB4 : Hid (w.heap.size ≤ wr.heap.size + 1) := Lib.hid (by omega)
                      have e4 : IntKind.i64.wrap ((pos : Int) + 2 + 1) = (pos : Int) + 3 := by rw [IntWalk.i64_in _ (by omega)]; omega
                      have e5 : ((pos : Int) + 2).toNat = pos + 2 := by omega
                      have e6 : ((pos : Int) + 3).toNat = pos + 3 := by omega
                      have e7 : 0 ≤ (pos : Int) + 2 := by omega
                      have e8 : 0 ≤ (pos : Int) + 3 := by omega
                      have e9 : (pos : Int) + 2 < s.size := by omega
                      have hms : pos + 2 + 2 = pos + 4 := by omega
                      clear hq he he2 hax hbx ha16 hb16 hz hx hy hvv
                      go_upto_region 33 with (first | (go_at_call 20; refine (hS _).mono ?_; rintro e w' ⟨rfl, rfl⟩) | (go_at_call 43; ((with_reducible refine (hXa _).mono ?_); rintro e w' ⟨rfl, rfl⟩)) | (go_at_call 43; ((with_reducible refine (hXb _).mono ?_); rintro e w' ⟨rfl, rfl⟩)))
                      go_region_law (first | (refine step_append_lies _ rfl (.tmp 119) (.tmp 132) 36 rfl w.heap.size 5 i0 (.int .u8 0) 1 1 Tryd.underlying36 hi0 hz0 hz1 hz2 rfl (by decide) u7 acc.length (Lib.byteCells acc) rfl (World.ownsRow.alloc (w := wr.drew) HI.out _) ⟨wr.heap.size, 0, none⟩ 1 1 [.int .u8 (x * 16 + y)] rfl rfl (one_lit _ _) one_one Nat.one_pos HM.out HL8.out (by simpa using HB4.out) _ rfl (fun g2 cap2 w4 ho hg hx3 hx4 => ?_)) | (go_simp; (go_at_call 43; ((with_reducible refine (hXa _).mono ?_); rintro e w' ⟨rfl, rfl⟩))) | (go_simp; (go_at_call 43; ((with_reducible refine (hXb _).mono ?_); rintro e w' ⟨rfl, rfl⟩))))
                      all_goals
                        clear e1 e2 e3 e4 e5 e6
                        have HF := HX.out _ w4 (Buf.append ho (by simp) (by rw [Lib.byteCells_append, ← HV.out]; rfl)) ((Below.refl _ wr).drew.trans (Buf.grown (w := wr.drew) HI.out HBS hg).1)
                        clear ho hg hx3 hx4
                        go_wp2
                        go_roundw
                        case rel => exact HF.out
                        case measure => simp [intOf]; omega
                    · have hax : hexI a.toNat = (hexv a.toNat : Int) := by unfold hexI; rw [if_pos ha16]
                      have hbx : hexI b.toNat = -1 := by unfold hexI; rw [if_neg hb16]
                      rw [hax] at hXa
                      rw [hbx] at hXb
                      have HF := NO.out (by
                        rw [he]
                        have : hexF 0 [a, b] = none := by rw [hexF, if_pos ha16, hexF, if_neg hb16]
                        rw [this])
                      clear he ha16 hb16 hax hbx
                      go_wp2_with (first | (go_at_call 20; refine (hS _).mono ?_; rintro e w' ⟨rfl, rfl⟩) | (go_at_call 43; ((with_reducible refine (hXa _).mono ?_); rintro e w' ⟨rfl, rfl⟩)) | (go_at_call 43; ((with_reducible refine (hXb _).mono ?_); rintro e w' ⟨rfl, rfl⟩)))
                      refine bodyPost_ret (v := .tuple #[.string ⟨#[]⟩, .int .i64 0, .bool false]) (by simp [results, Tryd.results25, go_sem]) rfl ⟨by first | (rw [HF.out]; rfl) | (rw [← List.drop_one, HF.out]; rfl), HB.out⟩
                  · have hax : hexI a.toNat = -1 := by unfold hexI; rw [if_neg ha16]
                    rw [hax] at hXa
                    have HF := NO.out (by
                      rw [he]
                      have : hexF 0 [a, b] = none := by rw [hexF, if_neg ha16]
                      rw [this])
                    clear he ha16 hax
                    go_wp2_with (first | (go_at_call 20; refine (hS _).mono ?_; rintro e w' ⟨rfl, rfl⟩) | (go_at_call 43; refine (hXa _).mono ?_; rintro e w' ⟨rfl, rfl⟩))
                    refine bodyPost_ret (v := .tuple #[.string ⟨#[]⟩, .int .i64 0, .bool false]) (by simp [results, Tryd.results25, go_sem]) rfl ⟨by first | (rw [HF.out]; rfl) | (rw [← List.drop_one, HF.out]; rfl), HB.out⟩
                · have h4i : ¬ (pos : Int) + 3 < s.size := by omega
                  have h4j : (s.size : Int) ≤ (pos : Int) + 3 := by omega
                  have HF := NO.out (by
                    rw [HER2.out, if_neg (by simpa using d120)]
                    have h5 := HLL.out
                    rcases hr : L.drop 2 with _ | ⟨a, _ | ⟨b, r⟩⟩
                    · rfl
                    · rfl
                    · exfalso
                      have := congrArg List.length hr
                      rw [List.length_drop] at this
                      simp at this
                      omega)
                  clear d120 h4
                  go_wp2_with (go_at_call 20; refine (hS _).mono ?_; rintro e w' ⟨rfl, rfl⟩)
                  refine bodyPost_ret (v := .tuple #[.string ⟨#[]⟩, .int .i64 0, .bool false]) (by simp [results, Tryd.results25, go_sem]) rfl ⟨by first | (rw [HF.out]; rfl) | (rw [← List.drop_one, HF.out]; rfl), HB.out⟩
              · have q120 := u8_ne (k := 120) (by omega) d120
                simp only [Int.cast_ofNat_Int] at q120
                have HF := NO.out (by rw [HER2.out, if_pos d120])
                clear d120
                go_wp2_with (go_at_call 20; refine (hS _).mono ?_; rintro e w' ⟨rfl, rfl⟩)
                refine bodyPost_ret (v := .tuple #[.string ⟨#[]⟩, .int .i64 0, .bool false]) (by simp [results, Tryd.results25, go_sem]) rfl ⟨by first | (rw [HF.out]; rfl) | (rw [← List.drop_one, HF.out]; rfl), HB.out⟩
            · have h2i : ¬ (pos : Int) + 1 < s.size := by omega
              have h2j : (s.size : Int) ≤ (pos : Int) + 1 := by omega
              have HF : Hid (rqF s.size 1 (s.data.toList.drop 1) = none) := Lib.hid (by
                rw [HA.out, rqF_none f pos L HNE.out (by rw [HC.out]; exact hA) hb (by
                  have h3 := HLL.out
                  rcases L with _ | ⟨a, _ | ⟨b, r⟩⟩
                  · rfl
                  · rfl
                  · simp at h3; omega)]
                rfl)
              clear hA hb h2 h92
              go_wp2_with (go_at_call 20; refine (hS _).mono ?_; rintro e w' ⟨rfl, rfl⟩)
              refine bodyPost_ret (v := .tuple #[.string ⟨#[]⟩, .int .i64 0, .bool false]) (by simp [results, Tryd.results25, go_sem]) rfl ⟨by first | (rw [HF.out]; rfl) | (rw [← List.drop_one, HF.out]; rfl), HB.out⟩
          · have t92 := u8_ne (k := 92) (by omega) h92
            simp only [Int.cast_ofNat_Int] at t92
            have t92' : ((s[pos].toNat : Int) != 92) = true := by simp only [bne, t92]; rfl
            have hb : bareL L = true := hbi.2 ⟨by omega, by omega, fun h => h127 (by rw [h]; rfl), h92, hA⟩
            have hxx : (s.extract pos (pos + n)).size ≤ 4 := by rw [ba_size, ← HLT.out n, List.length_take]; omega
            have hxl : (s.extract pos (pos + n)).size = n := by rw [ba_size, ← HLT.out n, List.length_take]; omega
            have HXL := Lib.hid hxl
            have hnl := hle.1
            rw [HLL.out] at hnl
            have hpni : (pos : Int) + n ≤ s.size := by omega
            have NX : Hid (∀ (v' : Value) (w4 : World), Buf w.heap.size w4 v' (acc ++ (s.extract pos (pos + n)).data.toList) → Below w.heap.size wr w4 → Hid (QdRel w s v' (.int .i64 ((pos : Int) + (n : Int))) w4)) := Lib.hid fun v' w4 h5 h6 => Lib.hid ⟨pos + n, f, acc ++ (s.extract pos (pos + n)).data.toList, h5, rfl, HB.out.trans h6, by
                have := HA.out
                rw [rqF_bare f pos L HNE.out hb, HN.out, HDD.out, HLT.out] at this
                rw [this, Option.map_map]
                simp only [Function.comp_def, List.append_assoc], by omega, by rw [List.length_append, ← ba_size, HXL.out]; omega, by omega⟩
            clear hb h92 hA h127 hbi hlow hxl hn0
            go_wp2_with (first | (go_at_call 20; refine (hS _).mono ?_; rintro e w' ⟨rfl, rfl⟩) | (at_builtin; refine Lib.wpList_append_own_string _ rfl (.tmp 52) (.tmp 58) 36 9 rfl w.heap.size 5 i0 Tryd.underlying36 Tryd.underlying9 hi0 hz0 hz1 hz2 u7 acc.length (Lib.byteCells acc) rfl HI.out (s.extract pos (pos + n)) rfl (by unfold maxLen; omega) (by omega) HBS (fun v' w4 ho hg hx => ?_)))
            have HF := NX.out v' w4 (Buf.append ho (by rw [List.length_append, ← ba_size]) (by rw [Lib.byteCells_append, strCells_bytes])) ((Below.refl _ wr).grown hg HBS (fun k hk => (World.ownsRow.lt HI.out k hk).1))
            clear ho hg hx
            go_wp2
            go_roundw
            case rel => exact HF.out
            case measure => simp [intOf]; omega
    · have hpi : ¬ (pos : Int) < s.size := by omega
      have HF : Hid (rqF s.size 1 (s.data.toList.drop 1) = none) := Lib.hid (by
        have h2 : s.data.toList.length = s.size := by simp
        have : s.data.toList.drop pos = [] := List.drop_eq_nil_of_le (by omega)
        rw [this, rqF_nil] at hacc
        exact hacc)
      clear hacc
      go_wp2
      refine bodyPost_ret (v := .tuple #[.string ⟨#[]⟩, .int .i64 0, .bool false]) (by simp [results, Tryd.results25, go_sem]) rfl ⟨by first | (rw [HF.out]; rfl) | (rw [← List.drop_one, HF.out]; rfl), HB.out⟩
end Sh
end Go.Proofs.YtoaliaohbpdibaaDoor
