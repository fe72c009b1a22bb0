/- The document's own Copy: a value in new memory. -/
import Derived.Test.YtmhlipncelgmlaaRows
import Derived.Test.YtmhlipncelgmlaaValBase
import Derived.Test.YtmhlipncelgmlaaVal
import Derived.Test.YtmhlipncelgmlaaValCmp
import Derived.Test.YtmhlipncelgmlaaValOwn
import Derived.Test.YtmhlipncelgmlaaValCopy
import Derived.Test.YtmhlipncelgmlaaValCopyP
import Derived.WalkKit
import Derived.Lib.Hide
import Derived.WalkSpells
import Derived.WalkLawsBesides
import Derived.Laws.MakeOwn
import Derived.Laws.AppendOwn
import Derived.Laws.OwnMore
import Derived.Deep.AppendLies
import Derived.Lib.SmallJoins
import Derived.OwnWalk
import Derived.Outline
namespace Go.Proofs.Ytmhlipncelgmlaa
open Go.RowKit
set_option linter.unusedVariables false
set_option linter.unusedSimpArgs false
namespace Val
theorem VT.OwnL.move {X : Nat → Prop} {w w' : World} {lb lb' : Nat} (hk : Keeps X w w') : ∀ {l : List VT} {o : Nat} {S : Nat → Prop}, (∀ i, i < o + l.length * 6 → w'.cell? ⟨lb', i, none⟩ = w.cell? ⟨lb, i, none⟩) → VT.OwnL w lb l o S → (∀ k, S k → k < w.heap.size ∧ ¬ X k) → VT.OwnL w' lb' l o S
  | [], _, _, _, _, _ => by unfold VT.OwnL; trivial
  | t :: ts, o, S, hc, h, hS => by
    unfold VT.OwnL at h ⊢
    rw [List.length_cons] at hc
    obtain ⟨S1, S2, h1, h2, ⟨c0, c1, c2, c3, c4, c5, e0, e1, e2, e3, e4, e5, ht⟩, hts⟩ := h
    exact ⟨S1, S2, h1, h2, ⟨c0, c1, c2, c3, c4, c5, (hc _ (by omega)).trans e0, (hc _ (by omega)).trans e1, (hc _ (by omega)).trans e2, (hc _ (by omega)).trans e3, (hc _ (by omega)).trans e4, (hc _ (by omega)).trans e5, VT.Own.keeps hk ht (fun k hk' => hS k (h1 k hk'))⟩, VT.OwnL.move hk (fun i hi => hc i (by omega)) hts (fun k hk' => hS k (h2 k hk').1)⟩
/-- A row of values of the call's own, made since block b: the first j of l. -/
def RowV (b : Nat) (l : List VT) (j : Nat) (w : World) (lv : Value) (xs : List Value) : Prop :=
  w.ownsRow b 25 6 lv j xs ∧ ∀ g cap, lv = .slice (some ⟨g, 0, none⟩) j cap → VT.OwnL w g (l.take j) 0 (fun k => b ≤ k ∧ k < w.heap.size ∧ k ≠ g)
theorem RowV.nil (b : Nat) (l : List VT) (w : World) : RowV b l 0 w (.slice none 0 0) [] := ⟨World.ownsRow_nil _ _ _ _, fun g cap e => by cases e⟩
/-- What keeps all that lay keeps the row. -/
theorem RowV.below {b : Nat} {l : List VT} {j : Nat} {w w' : World} {lv : Value} {xs : List Value} (h : RowV b l j w lv xs) (hb : Below w.heap.size w w') : RowV b l j w' lv xs := by
  have hg : w.grownBy w' none := ⟨hb.os, hb.tape, hb.output, hb.size, fun k hk _ => hb.block k hk⟩
  refine ⟨h.1.kept hg (by cases hv : lv.ownBlock <;> simp), fun g cap e => ?_⟩
  have h2 := h.2 g cap e
  have hlt : g < w.heap.size := (h.1.lt g (by rw [e]; rfl)).2
  refine VT.OwnL.more (fun k hk => ⟨hk.1, Nat.lt_of_lt_of_le hk.2.1 hb.size, hk.2.2⟩) (VT.OwnL.move (Keeps.of_below (X := fun _ => False) hb) (fun i _ => hb.cell (p := ⟨g, i, none⟩) hlt) h2 (fun k hk => ⟨hk.2.1, fun h => h⟩))
/-- One more behind it. -/
theorem RowV.snoc {b j H g' cap' : Nat} {l : List VT} {w w5 : World} {lv : Value} {xs : List Value} {x : VT} {v0 v1 v2 v3 v4 v5 : Value} {Sx : Nat → Prop} (h : RowV b l j w lv xs) (hx : l[j]? = some x)
    (hown5 : w5.ownsRow b 25 6 (.slice (some ⟨g', 0, none⟩) (j + 1) cap') (j + 1) (xs ++ [v0, v1, v2, v3, v4, v5])) (hg : w.grownBy w5 lv.ownBlock) (hl : lv.ownBlock = some g' ∨ g' = H) (hH : w.heap.size = H)
    (hX : VT.Own w x Sx (.agg #[v0, v1, v2, v3, v4, v5])) (hSx : ∀ k, Sx k → b ≤ k ∧ k < w.heap.size ∧ lv.ownBlock ≠ some k) (hSd : ∀ g cap, lv = .slice (some ⟨g, 0, none⟩) j cap → VT.OwnL w g (l.take j) 0 (fun k => b ≤ k ∧ k < w.heap.size ∧ k ≠ g ∧ ¬ Sx k)) :
    RowV b l (j + 1) w5 (.slice (some ⟨g', 0, none⟩) (j + 1) cap') (xs ++ [v0, v1, v2, v3, v4, v5]) := by
  refine ⟨hown5, fun g cap e => ?_⟩
  injection e with e
  injection e with e
  injection e with e
  subst e
  have hj : j < l.length := (List.getElem?_eq_some_iff.1 hx).1
  have htl : (l.take j).length = j := by rw [List.length_take]; omega
  have hxl : xs.length = j * 6 := h.1.1
  have htake : l.take (j + 1) = l.take j ++ [x] := by rw [List.take_add_one, hx]; rfl
  have hk : Keeps (fun k => lv.ownBlock = some k) w w5 := ⟨hg.os, hg.tape, hg.output, hg.size, fun k hk hn => hg.block k hk (fun e => hn e.symm)⟩
  have hgo : ¬ (g' < w.heap.size) ∨ lv.ownBlock = some g' := by
    rcases hl with hl | hl
    · exact .inr hl
    · exact .inl (by omega)
  have hcell : ∀ i, i < (j + 1) * 6 → w5.cell? ⟨g', i, none⟩ = (xs ++ [v0, v1, v2, v3, v4, v5])[i]? := fun i hi => hown5.cellAt i hi
  have hXX : VT.Own w5 x Sx (.agg #[v0, v1, v2, v3, v4, v5]) := hX.keeps hk (fun k hk => ⟨(hSx k hk).2.1, (hSx k hk).2.2⟩)
  have hnew : ∀ e v, e < 6 → [v0, v1, v2, v3, v4, v5][e]? = some v → w5.cell? ⟨g', j * 6 + e, none⟩ = some v := fun e v he hv => by
    rw [hcell _ (by omega), List.getElem?_append_right (by omega), hxl, show j * 6 + e - j * 6 = e by omega]
    exact hv
  rw [htake]
  have hold : VT.OwnL w5 g' (l.take j) 0 (fun k => b ≤ k ∧ k < w.heap.size ∧ k ≠ g' ∧ ¬ Sx k) := by
    rcases h.1.2 with ⟨rfl, rfl⟩ | ⟨g0, cap0, cur, rfl, hb0, -⟩
    · show VT.OwnL w5 g' (l.take 0) 0 _
      rw [List.take_zero]
      unfold VT.OwnL
      trivial
    · have hlt : g0 < w.heap.size := (h.1.lt g0 rfl).2
      have h2 := hSd g0 cap0 rfl
      refine VT.OwnL.more (fun k hk => ⟨hk.1, hk.2.1, fun e => ?_, hk.2.2.2⟩) (VT.OwnL.move hk (fun i hi => ?_) h2 (fun k hk => ⟨hk.2.1, fun e => ?_⟩))
      · rcases hgo with hgo | hgo
        · exact hgo (e ▸ hk.2.1)
        · injection hgo with hgo
          exact hk.2.2.1 (e.trans hgo.symm)
      · rw [htl] at hi
        rw [hcell i (by omega), List.getElem?_append_left (by omega), h.1.cellAt i (by omega)]
      · injection e with e
        exact hk.2.2.1 e.symm
  have := VT.OwnL.snoc (x := x) hold (Sx := Sx) (fun k hk hk2 => hk2.2.2.2 hk) (by rw [htl, Nat.zero_add]; exact hnew 0 v0 (by omega) rfl) (by rw [htl, Nat.zero_add]; exact hnew 1 v1 (by omega) rfl) (by rw [htl, Nat.zero_add]; exact hnew 2 v2 (by omega) rfl) (by rw [htl, Nat.zero_add]; exact hnew 3 v3 (by omega) rfl) (by rw [htl, Nat.zero_add]; exact hnew 4 v4 (by omega) rfl) (by rw [htl, Nat.zero_add]; exact hnew 5 v5 (by omega) rfl) hXX
  refine VT.OwnL.more (fun k hk' => ?_) this
  have hs := hg.size
  rcases hk' with hk' | hk'
  · exact ⟨hk'.1, Nat.lt_of_lt_of_le hk'.2.1 hs, hk'.2.2.1⟩
  · have h3 := hSx k hk'
    refine ⟨h3.1, Nat.lt_of_lt_of_le h3.2.1 hs, fun e => ?_⟩
    rcases hgo with hgo | hgo
    · exact hgo (e ▸ h3.2.1)
    · exact h3.2.2 (e ▸ hgo)
/-- The keys of a copy: new since block b. -/
def KeyV (b : Nat) (ks : List ByteArray) (w : World) (kv : Value) : Prop := ∃ (pk : Option Addr) (ck : Nat), kv = .slice pk ks.length ck ∧ ks.length ≤ ck ∧ ck ≤ maxLen ∧ (0 < ks.length → ∃ kb, pk = some ⟨kb, 0, none⟩ ∧ b ≤ kb ∧ kb < w.heap.size ∧ StrBlock w kb ks) ∧ (ks.length = 0 → pk = none)
theorem RowV.slice {b j : Nat} {l : List VT} {w : World} {lv : Value} {xs : List Value} (h : RowV b l j w lv xs) : ∃ (pl : Option Addr) (cl : Nat), lv = .slice pl j cl ∧ j ≤ cl ∧ cl ≤ maxLen ∧ (0 < j → ∃ g cs, pl = some ⟨g, 0, none⟩ ∧ b ≤ g ∧ g < w.heap.size ∧ w.heap[g]? = some (.cells cs 25 (0, 0)) ∧ j * 6 ≤ cs.size ∧ VT.OwnL w g (l.take j) 0 (fun k => b ≤ k ∧ k < w.heap.size ∧ k ≠ g)) := by
  rcases h.1.2 with ⟨rfl, rfl⟩ | ⟨g, cap, cur, rfl, hb, hg, hn, hm, hs, -⟩
  · exact ⟨none, 0, rfl, Nat.le_refl _, by unfold maxLen; omega, fun h => absurd h (by omega)⟩
  · exact ⟨some ⟨g, 0, none⟩, cap, rfl, hn, hm, fun _ => ⟨g, cur, rfl, hb, (h.1.lt g rfl).2, hg, by rw [hs]; exact Nat.mul_le_mul_right _ hn, h.2 g cap rfl⟩⟩
/-- What Copy of the document answers. -/
theorem refCopy_post {w wr w5 w7 : World} {k n : Int} {b : Bool} {s : ByteArray} {l : List VT} {ks : List ByteArray} {lv kv : Value} {xs : List Value} (hlow : Below w.heap.size w wr) (h22 : w.heap.size + 1 < wr.heap.size) (hrow : RowV (w.heap.size + 1 + 1) l l.length wr lv xs) (hkv : KeyV wr.heap.size ks w5 kv) (h5 : Below wr.heap.size wr w5) (h7 : Keeps (fun j => j = w.heap.size ∨ j = w.heap.size + 1) w5 w7) :
    CopyPost (.mk k b n s l ks) w (.returned (.agg #[.int .i64 k, .bool b, .int .i64 n, .string s, lv, kv])) w7 := by
  have hs1 := hlow.size
  have hs2 := h5.size
  have hs3 := h7.size
  refine ⟨_, rfl, ?_, hlow.trans ((h5.mono hs1).trans (h7.below (fun j e => by omega) (Nat.le_trans hs1 hs2)))⟩
  obtain ⟨pl, cl, rfl, h1, h2, h3⟩ := hrow.slice
  obtain ⟨pk, ck, rfl, h4, h6, h8, h9⟩ := hkv
  unfold VT.Own
  refine ⟨pl, cl, pk, ck, rfl, h1, h2, h4, h6, fun h0 => ?_, fun h0 => ?_⟩
  · obtain ⟨kb, e, hb, hlt, cs, hc, hz, hat⟩ := h8 h0
    exact ⟨kb, e, ⟨by omega, by omega⟩, cs, (h7.block kb hlt (by omega)).trans hc, hz, hat⟩
  · obtain ⟨g, cs, e, hg, hlt, hc, hz, hL⟩ := h3 h0
    have hX : ¬ (g = w.heap.size ∨ g = w.heap.size + 1) := by omega
    rw [List.take_length] at hL
    have hk : Keeps (fun j => j = w.heap.size ∨ j = w.heap.size + 1) wr w7 := (Keeps.of_below h5).trans h7
    refine ⟨g, fun j => w.heap.size + 1 + 1 ≤ j ∧ j < wr.heap.size ∧ j ≠ g, e, ⟨by omega, by omega⟩, ⟨cs, (hk.block g hlt hX).trans hc, hz⟩, fun j hj => ⟨⟨by omega, by omega⟩, hj.2.2, fun ep => ?_⟩, VT.OwnL.keeps hk (fun i _ => hk.cell (p := ⟨g, i, none⟩) hlt hX) hL (fun j hj => ⟨hj.2.1, by omega⟩)⟩
    by_cases hk0 : 0 < ks.length
    · obtain ⟨kb, e2, hb, -⟩ := h8 hk0
      rw [ep] at e2
      injection e2 with e2
      injection e2 with e2
      omega
    · rw [h9 (by omega)] at ep
      cases ep
structure RefLoop (l : List VT) (j : Nat) (cs : Array Value) (w wr : World) (lv : Value) : Prop where
  low : Below w.heap.size w wr
  box : Box wr w.heap.size cs
  res : Box wr (w.heap.size + 1) #[.int .i64 0, .bool false, .int .i64 0, .string ⟨#[]⟩, .slice none 0 0, .slice none 0 0]
  row : ∃ xs, RowV (w.heap.size + 1 + 1) l j wr lv xs
theorem info22 : (Try.prog.info? 25).map (fun i => (i.zero, i.size, i.bytes)) = some (some (.agg #[.int .i64 0, .bool false, .int .i64 0, .string ⟨#[]⟩, .slice none 0 0, .slice none 0 0]), 6, 88) := info25
theorem info_str : (Try.prog.info? 9).map (fun i => (i.zero, i.size, i.bytes)) = some (some (.string ⟨#[]⟩), 1, 16) := by kernel_rfl
/-- Nothing is appended to nothing. -/
theorem run_append_zero {P : Program} {w : World} (t ty e : TypeId) (i : TypeInfo) (ht : P.underlying t = some (.slice e)) (hi : P.info? e = some i) (p : Option Addr) (c : Nat) :
    (Builtin.append_ #[t, t] ty #[.slice none 0 0, .slice p 0 c]).run P w = .ok (.slice none 0 0) w := by
  cases p <;> simp [Builtin.append_, run_underlying ht, sizeOf, typeInfo, hi, Builtin.lenOf, Builtin.firstCells, loadCells, loadCellsFrom]
theorem wpList_append_zero {P : Program} {w : World} {ops : Array Oper} {rest : List Oper} {o : Oper} {a : Act} {Q : Exit → Act → World → Prop} (hgd : o.guard = none) (s x : Operand) (t : TypeId)
    (ho : o.op = .call { callee := .builtin .append, args := #[s, x], argTypes := #[t, t] }) (e : TypeId) (i : TypeInfo) (ht : P.underlying t = some (.slice e)) (hi : P.info? e = some i)
    (hs : a.eval s = .slice none 0 0) (p : Option Addr) (c : Nat) (hx : a.eval x = .slice p 0 c) (h : wpList P ops Q rest (a.put o.dst (.slice none 0 0)) w) : wpList P ops Q (o :: rest) a w := by
  refine wpList_plain hgd fun K hK => ?_
  have hrun := run_append_zero (P := P) (w := w) t o.type e i ht hi p c
  unfold Oper.wp
  simp [execOp, ho, resolve, invoke, builtin, hs, hx, hrun, Result.andThen]
  exact hK _ _ h
theorem _root_.Go.World.ownsRow.of_row {w : World} {b g n cap : Nat} {ks : List ByteArray} (h : w.ownsRow b 9 1 (.slice (some ⟨g, 0, none⟩) n cap) n (ks.map Value.string)) (hn : ks.length = n) : StrBlock w g ks ∧ n ≤ cap ∧ cap ≤ maxLen := by
  rcases h.2 with ⟨e, -⟩ | ⟨g', cap', cur, e, hb, hg, hnc, hm, hs, ht⟩
  · cases e
  · injection e with e _ e2
    injection e with e
    injection e with e
    subst e
    subst e2
    refine ⟨⟨cur, hg, by omega, fun i hi => ?_⟩, hnc, hm⟩
    have h1 : (cur.toList.take (n * 1))[i]? = (ks.map Value.string)[i]? := by rw [ht]
    rw [List.getElem?_take, if_pos (by omega), List.getElem?_map] at h1
    rw [← Array.getElem?_toList, h1, List.getD_eq_getElem?_getD, List.getElem?_eq_getElem hi]
    rfl
def RefIH (N : Nat) : Prop := ∀ (t : VT) (v : Value) (B : Nat) (w : World), t.parts ≤ N → t.parts ≤ 4194304 → small t → VT.In w B t v → B ≤ w.heap.size → Calls Try.prog 13 #[v] w (CopyPost t w)
set_option maxRecDepth 100000 in
set_option maxHeartbeats 4000000 in
theorem refCopy_rec : ∀ N, RefIH N
  | 0, t, _, _, _, h, _, _, _, _ => by have := t.parts_pos; omega
  | N + 1, t, v, B, w, hN, h4, hsm, hIn, hB => by
    have IH := Lib.hid (refCopy_rec N)
    obtain ⟨k, b, n, s, l, ks⟩ := t
    have hx := hIn
    unfold VT.In at hx
    obtain ⟨pl, cl, pk, ck, rfl, h1, h2, h3, h5, hks, hl⟩ := hx
    rw [VT.parts] at hN h4
    unfold small at hsm
    have hll := len_le_parts l
    obtain ⟨nl, hnl⟩ : ∃ nl, l.length = nl := ⟨_, rfl⟩
    obtain ⟨nk, hnk⟩ : ∃ nk, ks.length = nk := ⟨_, rfl⟩
    have hnl2 : nl ≤ 4194304 := by omega
    have hnk2 : nk ≤ 8388608 := by omega
    obtain ⟨ti, hi, hz0, hz1, hz2⟩ := info_parts info25
    obtain ⟨si, si1, sz0, sz1, sz2⟩ := info_parts info_str
    have HX : Hid (∀ x, x ∈ l → x.parts ≤ N ∧ x.parts ≤ 4194304 ∧ small x) := Lib.hid fun x hx => by have := VT.parts_mem hx; exact ⟨by omega, by omega, small_mem hsm.2 hx⟩
    have HN := Lib.hid (And.intro hnl hnk)
    have HL := Lib.hid hl
    have HK := Lib.hid hks
    have HB := Lib.hid hB
    have HT := Lib.hid (And.intro hi (And.intro hz0 (And.intro hz1 hz2)))
    have HS := Lib.hid (And.intro si1 (And.intro sz0 (And.intro sz1 sz2)))
    have H0 : Hid (RefLoop l 0 #[.int .i64 k, .bool b, .int .i64 n, .string s, .slice pl nl cl, .slice pk nk ck] w ((w.alloc (.cells #[.int .i64 k, .bool b, .int .i64 n, .string s, .slice pl nl cl, .slice pk nk ck] 25)).alloc (.cells #[.int .i64 0, .bool false, .int .i64 0, .string ⟨#[]⟩, .slice none 0 0, .slice none 0 0] 25)) (.slice none 0 0)) := Lib.hid
      ⟨((Below.refl _ w).alloc (Nat.le_refl _) _).alloc (by simp) _, (Box.new w _).alloc _, by have := Box.new (w.alloc (.cells #[.int .i64 k, .bool b, .int .i64 n, .string s, .slice pl nl cl, .slice pk nk ck] 25)) #[.int .i64 0, .bool false, .int .i64 0, .string ⟨#[]⟩, .slice none 0 0, .slice none 0 0]; rwa [World.size_alloc] at this, [], RowV.nil _ _ _⟩
    rw [hnl, hnk]
    clear hN h4 hsm hIn hB h1 h2 h3 h5 hks hl hll hnl hnk hi hz0 hz1 hz2 si1 sz0 sz1 sz2
    go_enter Try.func13, Try.ntmps13
    go_wp2_with fail
    go_loopw [3, 4] (fun lv i wr => ∃ j : Nat, j ≤ nl ∧ i = .int .i64 j ∧ Hid (RefLoop l j #[.int .i64 k, .bool b, .int .i64 n, .string s, .slice pl nl cl, .slice pk nk ck] w wr lv)) (fun _ i _ => nl - (intOf i).toNat)
    case atStart => exact ⟨0, Nat.zero_le _, rfl, H0⟩
    case round =>
      rename_i wr
      obtain ⟨j, hj, rfl, HW⟩ := hrel
      clear H0
      obtain ⟨a0, a1, a2, a3, a4, a5⟩ := HW.out.box.cell
      by_cases hlt : j < nl
      · obtain ⟨x, hx⟩ : ∃ x, l[j]? = some x := ⟨l[j]'(by rw [HN.out.1]; exact hlt), List.getElem?_eq_getElem _⟩
        obtain ⟨bl, ol, rfl, hbl, hInL⟩ := HL.out (by rw [HN.out.1]; omega)
        have hlow : Below B w wr := HW.out.low.mono HB.out
        obtain ⟨d0, d1, d2, d3, d4, d5, e0, e1, e2, e3, e4, e5, hInx⟩ := (VT.InL.keep (fun q hq => hlow.cell hq) hbl hInL).at hx
        obtain ⟨xk, xb, xn, xs, xpl, xnl, xcl, xpk, xnk, xck, rfl, rfl, rfl, rfl, rfl, rfl⟩ := hInx.shape
        have hxp := HX.out x (List.mem_of_getElem? hx)
        have HC := Lib.hid (IH.out x _ B wr hxp.1 hxp.2.1 hxp.2.2 hInx (Nat.le_trans HB.out HW.out.low.size))
        obtain ⟨xs', hrow⟩ := HW.out.row
        have HXJ := Lib.hid hx
        have HR := Lib.hid hrow
        clear hInx hInL hx hlow hxp hrow
        go_wp2_with fail
        refine HC.out.mono ?_
        rintro e w3 ⟨v', rfl, hown, hb3⟩
        obtain ⟨yk, yb, yn, ys, ypl, ynl, ycl, ypk, ynk, yck, rfl⟩ := hown.shape
        have hr3 := HR.out.below hb3
        have hr4 := hr3.below (((Below.refl _ w3).alloc (Nat.le_refl _) (.cells #[.int .i64 yk, .bool yb, .int .i64 yn, .string ys, .slice ypl ynl ycl, .slice ypk ynk yck] 25)))
        have hbase : w.heap.size + 1 + 1 ≤ w3.heap.size := by have h1 := HW.out.res.lt; have h2 := hb3.size; omega
        have HO := Lib.hid hown
        have HB3 := Lib.hid hb3
        have HR4 := Lib.hid hr4
        have hrow4 := hr4.1
        have hnews : ∀ q u, ([.int .i64 yk, .bool yb, .int .i64 yn, .string ys, .slice ypl ynl ycl, .slice ypk ynk yck] : List Value)[q]? = some u → (w3.alloc (.cells #[.int .i64 yk, .bool yb, .int .i64 yn, .string ys, .slice ypl ynl ycl, .slice ypk ynk yck] 25)).cell? ((⟨w3.heap.size, 0, none⟩ : Addr).add q) = some u := fun q u hu => by
          rw [Go.WideShapes.add_plain, Nat.zero_add]
          exact VT.cell_of (World.alloc_heap_new w3 _) (by simpa using hu)
        have HNW := Lib.hid hnews
        have HRW := Lib.hid hrow4
        clear hown hb3 hr3 hr4 hnews hrow4
        go_wp2_with (at_builtin; refine wpList_append_lies _ rfl (.tmp 13) (.tmp 20) 22 rfl (w.heap.size + 1 + 1) 25 ti _ 6 88 Try.underlying22 HT.out.1 HT.out.2.1 HT.out.2.2.1 HT.out.2.2.2 rfl (by decide) u3 j xs' rfl HRW.out ⟨w3.heap.size, 0, none⟩ 1 1 [.int .i64 yk, .bool yb, .int .i64 yn, .string ys, .slice ypl ynl ycl, .slice ypk ynk yck] rfl rfl HNW.out ?c1 (by decide) ?c2 ?c3 ?c4 _ rfl ?_)
        case c1 => intro u hu; simp only [List.mem_cons, List.not_mem_nil, or_false] at hu; rcases hu with rfl | rfl | rfl | rfl | rfl | rfl <;> rfl
        case c2 => unfold maxLen; omega
        case c3 => omega
        case c4 => rw [World.size_alloc]; omega
        intro g' cap' w5 hrow5 hg5 hl5 hlt5
        have hlv := HR.out.1.lt
        have hwr : w.heap.size + 1 + 1 ≤ wr.heap.size := HW.out.res.lt
        have hk3 : Keeps (fun _ => False) wr (w3.alloc (.cells #[.int .i64 yk, .bool yb, .int .i64 yn, .string ys, .slice ypl ynl ycl, .slice ypk ynk yck] 25)) := (Keeps.of_below HB3.out).alloc _
        have hk : Keeps (fun q => u3.ownBlock = some q) wr w5 := (hk3.mono (fun _ h => h.elim)).grown hg5 (fun q e => .inl e)
        have hsn := HR4.out.snoc (x := x) HXJ.out hrow5 hg5 hl5 (World.size_alloc _ _) (Sx := fun q => wr.heap.size ≤ q ∧ q < w3.heap.size) (HO.out.keeps ((Keeps.refl (fun _ => False) w3).alloc _) (fun q hq => ⟨hq.2, fun h => h⟩)) (fun q hq => ⟨by omega, by rw [World.size_alloc]; omega, fun e => by have := hlv q e; omega⟩) (fun g cap e => by
          have h2 := HR.out.2 g cap e
          have hgl : g < wr.heap.size := (hlv g (by rw [e]; rfl)).2
          refine VT.OwnL.more (fun q hq => ⟨hq.1, Nat.lt_of_lt_of_le hq.2.1 hk3.size, hq.2.2, fun hS => by omega⟩) (VT.OwnL.move hk3 (fun i _ => hk3.cell (p := ⟨g, i, none⟩) hgl (fun h => h)) h2 (fun q hq => ⟨hq.2.1, fun h => h⟩)))
        have HNEW : Hid (RefLoop l (j + 1) #[.int .i64 k, .bool b, .int .i64 n, .string s, .slice (some ⟨bl, ol, none⟩) nl cl, .slice pk nk ck] w w5 (.slice (some ⟨g', 0, none⟩) (j + 1) cap')) := Lib.hid
          ⟨HW.out.low.trans (hk.below (fun q e => by have := hlv q e; omega) HW.out.low.size), (hk.block _ HW.out.box.lt (fun e => by have := hlv _ e; omega)).trans HW.out.box, (hk.block _ HW.out.res.lt (fun e => by have := hlv _ e; omega)).trans HW.out.res, _, hsn⟩
        have ha1 : w5.cell? ⟨w.heap.size, 4, none⟩ = some (.slice (some ⟨bl, ol, none⟩) nl cl) := HNEW.out.box.cell.2.2.2.2.1
        clear hrow5 hg5 hl5 hlt5 hlv hwr hk3 hk hsn hbase
        go_wp2_with fail
        go_roundw
        case rel => exact ⟨j + 1, by omega, by go_num, HNEW⟩
        case measure => simp [intOf]; omega
      · obtain rfl : nl = j := by omega
        obtain ⟨xs', hrow⟩ := HW.out.row
        have hres := HW.out.res
        obtain ⟨lp, lc, rfl, hl1, hl2, hl3⟩ := hrow.slice
        have HR := Lib.hid hrow
        clear hl1 hl2 hl3 hrow HX
        by_cases hk0 : nk = 0
        · subst hk0
          have HKV : Hid (KeyV wr.heap.size ks wr (.slice none 0 0)) := Lib.hid ⟨none, 0, by rw [HN.out.2], by rw [HN.out.2]; omega, by unfold maxLen; omega, fun h => by have := HN.out.2; omega, fun _ => rfl⟩
          have HP : Hid (CopyPost (.mk k b n s l ks) w (.returned (.agg #[.int .i64 k, .bool b, .int .i64 n, .string s, .slice lp nl lc, .slice none 0 0])) (six ((wr.setCell ⟨w.heap.size, 4, none⟩ (.slice lp nl lc)).setCell ⟨w.heap.size, 5, none⟩ (.slice none 0 0)) (w.heap.size + 1) 0 (.int .i64 k) (.bool b) (.int .i64 n) (.string s) (.slice lp nl lc) (.slice none 0 0))) := Lib.hid (by
            refine refCopy_post HW.out.low HW.out.res.lt (xs := xs') (by rw [HN.out.1]; exact HR.out) HKV.out (Below.refl _ _) (six_keeps (((Keeps.refl _ wr).setCell (p := ⟨w.heap.size, 4, none⟩) (.inl (.inl rfl)) _).setCell (p := ⟨w.heap.size, 5, none⟩) (.inl (.inl rfl)) _) (.inl (.inr rfl))))
          obtain ⟨b0, b1, b2, b3, b4, b5⟩ := Box.cell hres
          have z0 := box_free hres 0
          have z1 := box_free hres 1
          have z2 := box_free hres 2
          have z3 := box_free hres 3
          have z4 := box_free hres 4
          have z5 := box_free hres 5
          have y4 := box_free HW.out.box 4
          have y5 := box_free HW.out.box 5
          have hend := box_six (v0 := .int .i64 k) (v1 := .bool b) (v2 := .int .i64 n) (v3 := .string s) (v4 := .slice lp nl lc) (v5 := .slice none 0 0) ((Box.far (Box.far hres (p := ⟨w.heap.size, 4, none⟩) (by show ¬ _ = _; simp) (.slice lp nl lc)) (p := ⟨w.heap.size, 5, none⟩) (by show ¬ _ = _; simp) (.slice none 0 0)))
          obtain ⟨q0, q1, q2, q3, q4, q5⟩ := Box.cell hend
          unfold six at q0 q1 q2 q3 q4 q5
          simp only [Nat.zero_add] at q0 q1 q2 q3 q4 q5
          have HQ := Lib.hid (And.intro q0 (And.intro q1 (And.intro q2 (And.intro q3 (And.intro q4 q5)))))
          clear q0 q1 q2 q3 q4 q5 hend
          clear hres
          go_wp2_with (at_builtin; refine wpList_append_zero rfl (.tmp 22) (.tmp 24) 23 rfl 9 si Try.underlying23 HS.out.1 rfl _ _ rfl ?_)
          obtain ⟨q0, q1, q2, q3, q4, q5⟩ := HQ.out
          exact bodyPost_ret (v := .agg #[.int .i64 k, .bool b, .int .i64 n, .string s, .slice lp nl lc, .slice none 0 0]) (by simp [results, Try.results13, go_sem, q0, q1, q2, q3, q4, q5]) rfl HP.out
        · obtain ⟨kb, ko, rfl, hkb, hkc⟩ := HK.out (by rw [HN.out.2]; omega)
          have hnews : ∀ q u, (ks.map Value.string)[q]? = some u → wr.cell? ((⟨kb, ko, none⟩ : Addr).add q) = some u := fun q u hu => by
            rw [Go.WideShapes.add_plain]
            rw [List.getElem?_map] at hu
            obtain ⟨y, hy, rfl⟩ := Option.map_eq_some_iff.1 hu
            have hq : q < ks.length := (List.getElem?_eq_some_iff.1 hy).1
            rw [(HW.out.low.mono HB.out).cell (p := ⟨kb, ko + q, none⟩) hkb, hkc q hq, List.getD_eq_getElem?_getD, hy]
            rfl
          have hone : ∀ u ∈ ks.map Value.string, u.oneCell' = true := fun u hu => by
            obtain ⟨y, -, rfl⟩ := List.mem_map.1 hu
            rfl
          have hlen : (ks.map Value.string).length = nk * 1 := by rw [List.length_map, HN.out.2, Nat.mul_one]
          have HNW := Lib.hid (And.intro hnews (And.intro hone hlen))
          have hsz := HW.out.low.size
          clear hnews hone hlen hkc hres
          go_wp2_with (at_builtin; refine wpList_append_lies _ rfl (.tmp 22) (.tmp 24) 23 rfl wr.heap.size 9 si _ 1 16 Try.underlying23 HS.out.1 HS.out.2.1 HS.out.2.2.1 HS.out.2.2.2 rfl (by decide) (.slice none 0 0) 0 [] rfl (World.ownsRow_nil _ _ _ _) ⟨kb, ko, none⟩ nk ck (ks.map Value.string) rfl HNW.out.2.2 HNW.out.1 HNW.out.2.1 ?c1 ?c2 ?c3 ?c4 _ rfl ?_)
          case c1 => omega
          case c2 => unfold maxLen; omega
          case c3 => omega
          case c4 => exact Nat.le_refl _
          intro g' cap' w5 hrow5 hg5 hl5 hlt5
          have hb5 : Below wr.heap.size wr w5 := ⟨hg5.os, hg5.tape, hg5.output, hg5.size, fun q hq => hg5.block q hq (by intro e; cases e)⟩
          have hge : g' = wr.heap.size := by rcases hl5 with h | h; cases h; exact h
          obtain ⟨hst, hcap, hcm⟩ := hrow5.of_row HN.out.2
          have HKV : Hid (KeyV wr.heap.size ks w5 (.slice (some ⟨g', 0, none⟩) nk cap')) := Lib.hid ⟨_, cap', by rw [HN.out.2], by rw [HN.out.2]; exact hcap, hcm, fun _ => ⟨g', rfl, by omega, hlt5, hst⟩, fun h => by have := HN.out.2; omega⟩
          have hbx5 : Box w5 w.heap.size _ := (hb5.block _ HW.out.box.lt).trans HW.out.box
          have hrs5 : Box w5 (w.heap.size + 1) _ := (hb5.block _ HW.out.res.lt).trans HW.out.res
          obtain ⟨a0', a1', a2', a3', a4', a5'⟩ := Box.cell hbx5
          have HB5 := Lib.hid hb5
          have HP : Hid (CopyPost (.mk k b n s l ks) w (.returned (.agg #[.int .i64 k, .bool b, .int .i64 n, .string s, .slice lp nl lc, .slice (some ⟨g', 0, none⟩) nk cap'])) (six ((w5.setCell ⟨w.heap.size, 4, none⟩ (.slice lp nl lc)).setCell ⟨w.heap.size, 5, none⟩ (.slice (some ⟨g', 0, none⟩) nk cap')) (w.heap.size + 1) 0 (.int .i64 k) (.bool b) (.int .i64 n) (.string s) (.slice lp nl lc) (.slice (some ⟨g', 0, none⟩) nk cap'))) := Lib.hid (by
            refine refCopy_post HW.out.low HW.out.res.lt (xs := xs') (by rw [HN.out.1]; exact HR.out) HKV.out HB5.out (six_keeps (((Keeps.refl _ w5).setCell (p := ⟨w.heap.size, 4, none⟩) (.inl (.inl rfl)) _).setCell (p := ⟨w.heap.size, 5, none⟩) (.inl (.inl rfl)) _) (.inl (.inr rfl))))
          obtain ⟨b0, b1, b2, b3, b4, b5⟩ := Box.cell hrs5
          have z0 := box_free hrs5 0
          have z1 := box_free hrs5 1
          have z2 := box_free hrs5 2
          have z3 := box_free hrs5 3
          have z4 := box_free hrs5 4
          have z5 := box_free hrs5 5
          have y4 := box_free hbx5 4
          have y5 := box_free hbx5 5
          have hend := box_six (v0 := .int .i64 k) (v1 := .bool b) (v2 := .int .i64 n) (v3 := .string s) (v4 := .slice lp nl lc) (v5 := .slice (some ⟨g', 0, none⟩) nk cap') ((Box.far (Box.far hrs5 (p := ⟨w.heap.size, 4, none⟩) (by show ¬ _ = _; simp) (.slice lp nl lc)) (p := ⟨w.heap.size, 5, none⟩) (by show ¬ _ = _; simp) (.slice (some ⟨g', 0, none⟩) nk cap')))
          obtain ⟨q0, q1, q2, q3, q4, q5⟩ := Box.cell hend
          unfold six at q0 q1 q2 q3 q4 q5
          simp only [Nat.zero_add] at q0 q1 q2 q3 q4 q5
          have HQ := Lib.hid (And.intro q0 (And.intro q1 (And.intro q2 (And.intro q3 (And.intro q4 q5)))))
          clear q0 q1 q2 q3 q4 q5 hend
          clear hrow5 hg5 hl5 hlt5 hb5 hge hst hcap hcm hbx5 hrs5
          go_wp2_with fail
          obtain ⟨q0, q1, q2, q3, q4, q5⟩ := HQ.out
          exact bodyPost_ret (v := .agg #[.int .i64 k, .bool b, .int .i64 n, .string s, .slice lp nl lc, .slice (some ⟨g', 0, none⟩) nk cap']) (by simp [results, Try.results13, go_sem, q0, q1, q2, q3, q4, q5]) rfl HP.out
end Val
end Go.Proofs.Ytmhlipncelgmlaa
