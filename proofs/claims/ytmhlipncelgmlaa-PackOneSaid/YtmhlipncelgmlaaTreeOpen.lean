/- A VALUE THAT CAME IN reads as a tree, with its numbers in their bounds and no larger than its bulk allows. -/
import Derived.Test.YtmhlipncelgmlaaRows
import Derived.Test.YtmhlipncelgmlaaVal
import Derived.Test.YtmhlipncelgmlaaValOpen
import Derived.Test.YtmhlipncelgmlaaBulk
import Derived.SliceStrings
namespace Go.Proofs.Ytmhlipncelgmlaa
open Go.RowKit Go.ChangeShapes Go.WideShapes Go.ChangeAt Go.Deep
set_option linter.unusedVariables false
namespace Val
mutual
/-- All numbers are of 64 bits. -/
def okN : VT → Prop
  | .mk _ _ n _ l _ => (-9223372036854775808 ≤ n ∧ n ≤ 9223372036854775807) ∧ okNL l
def okNL : List VT → Prop
  | [] => True
  | t :: ts => okN t ∧ okNL ts
end
def szK : List ByteArray → Nat
  | [] => 0
  | k :: ks => 4 * k.size + 8 + szK ks
mutual
/-- How large a tree is: its texts and parts, with room to tell them. -/
def szV : VT → Nat
  | .mk _ _ _ s l ks => 40 + 4 * s.size + szL l + szK ks
def szL : List VT → Nat
  | [] => 0
  | t :: ts => szV t + 4 + szL ts
end
theorem okNL_at : ∀ {l : List VT} {i : Nat} {t : VT}, okNL l → l[i]? = some t → okN t
  | [], _, _, _, h => by cases h
  | x :: l, 0, t, hl, h => by
    unfold okNL at hl
    obtain rfl : x = t := by simpa using h
    exact hl.1
  | x :: l, i + 1, t, hl, h => by
    unfold okNL at hl
    exact okNL_at hl.2 (i := i) (by simpa using h)
theorem szL_at : ∀ {l : List VT} {i : Nat} {t : VT}, l[i]? = some t → szV t + 4 ≤ szL l
  | [], _, _, h => by cases h
  | x :: l, 0, t, h => by
    obtain rfl : x = t := by simpa using h
    rw [szL]; omega
  | x :: l, i + 1, t, h => by
    have := szL_at (l := l) (i := i) (t := t) (by simpa using h)
    rw [szL]; omega
theorem szK_at : ∀ {l : List ByteArray} {i : Nat} {t : ByteArray}, l[i]? = some t → 4 * t.size + 8 ≤ szK l
  | [], _, _, h => by cases h
  | x :: l, 0, t, h => by
    obtain rfl : x = t := by simpa using h
    rw [szK]; omega
  | x :: l, i + 1, t, h => by
    have := szK_at (l := l) (i := i) (t := t) (by simpa using h)
    rw [szK]; omega
section
variable {H : Type} {enc : TypeId × Value → H} {P : Program} {w : World} {sp : Nat → Bool} {hd : Bool}
theorem bulkAll_append {H : Type} (a b : List (DataW H)) : Rows.uptoBulkAll (a ++ b) = Rows.uptoBulkAll a + Rows.uptoBulkAll b := by
  induction a with
  | nil => simp [Rows.uptoBulkAll]
  | cons x a ih => rw [List.cons_append, Rows.uptoBulkAll, Rows.uptoBulkAll, ih]; omega
theorem szK_strs {H : Type} (ss : List ByteArray) : szK ss ≤ 60 * Rows.uptoBulkAll (strs (H := H) ss) := by
  induction ss with
  | nil => simp [szK]
  | cons s ss ih =>
    have h : strs (H := H) (s :: ss) = .lit (.string s.data.toList) :: strs ss := rfl
    rw [h, szK, Rows.uptoBulkAll, bulk_string]
    omega
theorem rowL2 {H : Type} {B bl : Nat} : ∀ (ys : List (DataW H)) (o : Nat), (∀ i y, ys[i]? = some y → ∃ (t : VT) (c0 c1 c2 c3 c4 c5 : Value), w.cell? ⟨bl, o + i * 6, none⟩ = some c0 ∧ w.cell? ⟨bl, o + i * 6 + 1, none⟩ = some c1 ∧ w.cell? ⟨bl, o + i * 6 + 2, none⟩ = some c2 ∧ w.cell? ⟨bl, o + i * 6 + 3, none⟩ = some c3 ∧ w.cell? ⟨bl, o + i * 6 + 4, none⟩ = some c4 ∧ w.cell? ⟨bl, o + i * 6 + 5, none⟩ = some c5 ∧ VT.In w B t (.agg #[c0, c1, c2, c3, c4, c5]) ∧ okN t ∧ szV t + 8 ≤ 60 * Rows.uptoBulk y) →
    ∃ l : List VT, l.length = ys.length ∧ VT.InL w B bl o l ∧ okNL l ∧ szL l ≤ 60 * Rows.uptoBulkAll ys
  | [], o, _ => ⟨[], rfl, by unfold VT.InL; trivial, by unfold okNL; trivial, by simp [szL]⟩
  | y :: ys, o, h => by
    obtain ⟨t, c0, c1, c2, c3, c4, c5, h0, h1, h2, h3, h4, h5, ht, hn, hs⟩ := h 0 y rfl
    obtain ⟨l, hl, hL, hN, hS⟩ := rowL2 ys (o + 6) (fun i y' hi => by
      have := h (i + 1) y' (by simpa using hi)
      rw [show o + (i + 1) * 6 = o + 6 + i * 6 by omega] at this
      exact this)
    refine ⟨t :: l, by rw [List.length_cons, List.length_cons, hl], ?_, by unfold okNL; exact ⟨hn, hN⟩, by rw [szL, Rows.uptoBulkAll]; omega⟩
    unfold VT.InL
    exact ⟨⟨c0, c1, c2, c3, c4, c5, by simpa using h0, by simpa using h1, by simpa using h2, by simpa using h3, by simpa using h4, by simpa using h5, ht⟩, hL⟩
theorem open_keys2 {t e : TypeId} {fuel : Nat} {v : Value} {x : DataW H × List MemPlace} (ht : P.underlying t = some (.slice e)) (he : P.underlying e = some .string) (hc : P.cellsOf e = 1) (h : DataW.trod enc P w 0 sp hd fuel t [v] = some x) :
    ∃ (p : Option Addr) (ks : List ByteArray) (c : Nat), v = .slice p ks.length c ∧ ks.length ≤ c ∧ c ≤ maxLen ∧ VT.KeysIn w w.heap.size p ks ∧ szK ks ≤ 60 * Rows.uptoBulk x.1 := by
  rcases open_strings ht he hc h with ⟨hcs, _⟩ | ⟨a, len, cap, ss, hcs, _, hl, hm, hz, hx, hcell, _⟩
  · obtain rfl : v = .slice none 0 0 := by simpa using hcs
    exact ⟨none, [], 0, rfl, Nat.le_refl _, by unfold maxLen; omega, (fun h => absurd h (by simp)), by simp [szK]⟩
  · obtain rfl : v = .slice (some a) len cap := by simpa using hcs
    have hle : len ≤ ss.length := by rw [hz]; split <;> omega
    have hlen : (ss.take len).length = len := by rw [List.length_take]; omega
    refine ⟨some a, ss.take len, cap, by rw [hlen], by omega, hm, fun h0 => ?_, ?_⟩
    · obtain ⟨b, off, spot⟩ := a
      have h00 := hcell 0 (by omega)
      have hspot : spot = none := by simpa [Addr.add] using World.cell?_spot h00
      subst hspot
      refine ⟨b, off, rfl, ?_, fun i hi => ?_⟩
      · have := World.block_lt_of_cell? _ _ h00
        simpa [Addr.add] using this
      · rw [hlen] at hi
        have := hcell i (by omega)
        rw [add_plain] at this
        rw [this]
        simp only [List.getD_eq_getElem?_getD, List.getElem?_take, if_pos hi]
        rfl
    · have h1 := szK_strs (H := H) (ss.take len)
      rw [hx]
      simp only [Rows.uptoBulk]
      omega
theorem open_value2 {tv es : TypeId} {f0 f1 f2 f3 f4 f5 : Field} (hs : P.underlying tv = some (.struct #[f0, f1, f2, f3, f4, f5])) (hone : oneCellFields P #[f0, f1, f2, f3, f4, f5] = true) (hC : P.cellsOf tv = 6)
    (h0 : P.underlying f0.type = some (.int .i64)) (h1 : P.underlying f1.type = some .bool) (h2 : P.underlying f2.type = some (.int .i64)) (h3 : P.underlying f3.type = some .string) (h4 : P.underlying f4.type = some (.slice tv)) (h5 : P.underlying f5.type = some (.slice es)) (hes : P.underlying es = some .string) (hec : P.cellsOf es = 1) :
    ∀ (fuel : Nat) (cs : List Value) (x : DataW H × List MemPlace), DataW.trod enc P w 0 sp hd fuel tv cs = some x → ∃ t : VT, VT.In w w.heap.size t (.agg ⟨cs⟩) ∧ okN t ∧ szV t + 8 ≤ 60 * Rows.uptoBulk x.1 := by
  intro fuel
  induction fuel using Nat.strongRecOn with
  | _ fuel ih =>
    intro cs x h
    obtain ⟨xs, n, hfuel, hxe, hlen, hxl, hf⟩ := DataW.trod_struct hs h
    rw [hC] at hlen
    match cs, hlen with
    | [v0, v1, v2, v3, v4, v5], _ =>
      have hx : ∀ j, j < 6 → ∃ y, xs[j]? = some y := fun j hj => ⟨xs[j]'(by rw [hxl]; exact hj), List.getElem?_eq_getElem _⟩
      obtain ⟨o0, k0⟩ := hone_of hone 0 f0 rfl
      obtain ⟨o1, k1⟩ := hone_of hone 1 f1 rfl
      obtain ⟨o2, k2⟩ := hone_of hone 2 f2 rfl
      obtain ⟨o3, k3⟩ := hone_of hone 3 f3 rfl
      obtain ⟨o4, k4⟩ := hone_of hone 4 f4 rfl
      obtain ⟨o5, k5⟩ := hone_of hone 5 f5 rfl
      obtain ⟨y0, e0⟩ := hx 0 (by omega)
      obtain ⟨y1, e1⟩ := hx 1 (by omega)
      obtain ⟨y2, e2⟩ := hx 2 (by omega)
      obtain ⟨y3, e3⟩ := hx 3 (by omega)
      obtain ⟨y4, e4⟩ := hx 4 (by omega)
      obtain ⟨y5, e5⟩ := hx 5 (by omega)
      have hxs : xs = [y0, y1, y2, y3, y4, y5] := by
        match xs, hxl with
        | [a0, a1, a2, a3, a4, a5], _ =>
          simp at e0 e1 e2 e3 e4 e5
          subst e0 e1 e2 e3 e4 e5
          rfl
      have g0 := (hf 0 f0 rfl).trans e0
      have g1 := (hf 1 f1 rfl).trans e1
      have g2 := (hf 2 f2 rfl).trans e2
      have g3 := (hf 3 f3 rfl).trans e3
      have g4 := (hf 4 f4 rfl).trans e4
      have g5 := (hf 5 f5 rfl).trans e5
      rw [o0, k0] at g0
      rw [o1, k1] at g1
      rw [o2, k2] at g2
      rw [o3, k3] at g3
      rw [o4, k4] at g4
      rw [o5, k5] at g5
      obtain ⟨k, q0, u0, -⟩ := DataW.trod_int h0 g0
      obtain ⟨b, q1, u1⟩ := DataW.trod_bool h1 g1
      obtain ⟨m, q2, u2, wf2⟩ := DataW.trod_int h2 g2
      obtain ⟨s, q3, u3, -⟩ := DataW.trod_string h3 g3
      have hm : -9223372036854775808 ≤ m ∧ m ≤ 9223372036854775807 := by
        simp [Lit.wf, IntKind.min, IntKind.max, IntKind.bits, IntKind.signed] at wf2
        omega
      obtain rfl : v0 = .int .i64 k := by simpa using q0
      obtain rfl : v1 = .bool b := by simpa using q1
      obtain rfl : v2 = .int .i64 m := by simpa using q2
      obtain rfl : v3 = .string s := by simpa using q3
      obtain ⟨pk, ks, ck, q5, hk1, hk2, hks, hkz⟩ := open_keys2 (v := v5) h5 hes hec g5
      subst q5
      have hb : Rows.uptoBulk x.1 = 5 + s.size + Rows.uptoBulk y4.1 + Rows.uptoBulk y5.1 := by
        rw [hxe, hxs, u0, u1, u2, u3]
        simp only [List.map_cons, List.map_nil, Rows.uptoBulk, Rows.uptoBulkAll]
        have : s.data.toList.length = s.size := by simp
        omega
      rcases DataW.trod_slice h4 g4 with ⟨q4, u4⟩ | ⟨a, len, cap, elems, rest, n', hn', q4, u4, -, hl, hmm, hel, hels, -, -⟩
      · obtain rfl : v4 = .slice none 0 0 := by simpa using q4
        refine ⟨.mk k b m s [] ks, ?_, ?_, ?_⟩
        · unfold VT.In
          exact ⟨none, 0, pk, ck, rfl, Nat.le_refl _, by unfold maxLen; omega, hk1, hk2, hks, fun h => absurd h (by simp)⟩
        · unfold okN; exact ⟨hm, by unfold okNL; trivial⟩
        · rw [szV, szL, hb]; omega
      · obtain rfl : v4 = .slice (some a) len cap := by simpa using q4
        obtain ⟨bb, off, spot⟩ := a
        have hcell : ∀ i, i < len → ∃ cs', w.cells? 0 (Addr.add ⟨bb, off, spot⟩ (i * 6)) 6 = some cs' ∧ ∃ y, elems[i]? = some y ∧ DataW.trod enc P w 0 sp hd n' tv cs' = some y := fun i hi => by
          have h := hels i hi
          rw [hC] at h
          have hy : elems[i]? = some (elems[i]'(by rw [hel]; exact hi)) := List.getElem?_eq_getElem _
          rw [hy] at h
          obtain ⟨cs', hc, ht⟩ := Option.bind_eq_some_iff.1 h
          exact ⟨cs', hc, _, hy, ht⟩
        have hrow : ∀ (hspot : spot = none) i y, (elems.map (·.1))[i]? = some y → ∃ (t : VT) (c0 c1 c2 c3 c4 c5 : Value), w.cell? ⟨bb, off + i * 6, none⟩ = some c0 ∧ w.cell? ⟨bb, off + i * 6 + 1, none⟩ = some c1 ∧ w.cell? ⟨bb, off + i * 6 + 2, none⟩ = some c2 ∧ w.cell? ⟨bb, off + i * 6 + 3, none⟩ = some c3 ∧ w.cell? ⟨bb, off + i * 6 + 4, none⟩ = some c4 ∧ w.cell? ⟨bb, off + i * 6 + 5, none⟩ = some c5 ∧ VT.In w w.heap.size t (.agg #[c0, c1, c2, c3, c4, c5]) ∧ okN t ∧ szV t + 8 ≤ 60 * Rows.uptoBulk y := fun hspot i y hy => by
          subst hspot
          have hi : i < len := by
            have := (List.getElem?_eq_some_iff.1 hy).1
            simp at this; omega
          obtain ⟨cs', hc, z, hz, ht⟩ := hcell i hi
          have hzy : z.1 = y := by
            rw [List.getElem?_map, hz] at hy
            simpa using hy
          obtain ⟨t, htI, htN, htS⟩ := ih n' (by omega) cs' z ht
          rw [hzy] at htS
          obtain ⟨-, hcl, hat⟩ := World.cells?_some hc
          match cs', hcl with
          | [c0, c1, c2, c3, c4, c5], _ =>
            refine ⟨t, c0, c1, c2, c3, c4, c5, ?_, ?_, ?_, ?_, ?_, ?_, htI, htN, htS⟩
            · simpa [add_plain] using hat 0 (by omega)
            · simpa [add_plain] using hat 1 (by omega)
            · simpa [add_plain] using hat 2 (by omega)
            · simpa [add_plain] using hat 3 (by omega)
            · simpa [add_plain] using hat 4 (by omega)
            · simpa [add_plain] using hat 5 (by omega)
        by_cases h0l : len = 0
        · subst h0l
          refine ⟨.mk k b m s [] ks, ?_, ?_, ?_⟩
          · unfold VT.In
            exact ⟨some ⟨bb, off, spot⟩, cap, pk, ck, rfl, by simp, hmm, hk1, hk2, hks, fun h => absurd h (by simp)⟩
          · unfold okN; exact ⟨hm, by unfold okNL; trivial⟩
          · rw [szV, szL, hb]; omega
        · have hspot : spot = none := by
            obtain ⟨cs', hc, y, _, ht⟩ := hcell 0 (by omega)
            obtain ⟨-, hcl, hat⟩ := World.cells?_some hc
            have h00 := hat 0 (by omega)
            match cs', hcl with
            | [c0, _, _, _, _, _], _ =>
              have h01 : w.cell? ((Addr.add ⟨bb, off, spot⟩ (0 * 6)).add 0) = some c0 := h00
              have := World.cell?_spot h01
              simpa [Addr.add] using this
          obtain ⟨l, hll, hL, hN, hS⟩ := rowL2 (elems.map (·.1)) off (hrow hspot)
          subst hspot
          rw [List.length_map, hel] at hll
          refine ⟨.mk k b m s l ks, ?_, ?_, ?_⟩
          · unfold VT.In
            rw [hll]
            refine ⟨some ⟨bb, off, none⟩, cap, pk, ck, rfl, hl, hmm, hk1, hk2, hks, fun _ => ⟨bb, off, rfl, ?_, hL⟩⟩
            obtain ⟨cs', hc, y, hy, ht⟩ := hcell 0 (by omega)
            obtain ⟨t, c0, _, _, _, _, _, hc0, _⟩ := hrow rfl 0 y.1 (by rw [List.getElem?_map, hy]; rfl)
            exact World.block_lt_of_cell? _ _ hc0
          · unfold okN; exact ⟨hm, hN⟩
          · rw [szV, hb, u4]
            simp only [Rows.uptoBulk]
            omega
end
end Val
end Go.Proofs.Ytmhlipncelgmlaa
