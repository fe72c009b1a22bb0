/- A VALUE THAT CAME IN reads as a tree. -/
import Derived.Test.YtmhlipncelgmlaaRows
import Derived.Test.YtmhlipncelgmlaaVal
import Derived.WalkKit
import Derived.ProofKit
import Derived.OpenShut
import Derived.ChangeSame
import Derived.ChangeShapes
import Derived.ChangeArms
import Derived.Deep.Slices
import Derived.Deep.Fields
import Derived.Deep.Heap
import Derived.Lib.SmallJoins
namespace Go.Proofs.Ytmhlipncelgmlaa
open Go.RowKit Go.ChangeShapes Go.WideShapes Go.ChangeAt Go.Deep
set_option linter.unusedVariables false
namespace Val
/-- Values one behind the other. -/
theorem rowL {w : World} {B bl : Nat} : ∀ (n o : Nat), (∀ i, i < n → ∃ (t : VT) (c0 c1 c2 c3 c4 c5 : Value), w.cell? ⟨bl, o + i * 6, none⟩ = some c0 ∧ w.cell? ⟨bl, o + i * 6 + 1, none⟩ = some c1 ∧ w.cell? ⟨bl, o + i * 6 + 2, none⟩ = some c2 ∧ w.cell? ⟨bl, o + i * 6 + 3, none⟩ = some c3 ∧ w.cell? ⟨bl, o + i * 6 + 4, none⟩ = some c4 ∧ w.cell? ⟨bl, o + i * 6 + 5, none⟩ = some c5 ∧ VT.In w B t (.agg #[c0, c1, c2, c3, c4, c5])) →
    ∃ l : List VT, l.length = n ∧ VT.InL w B bl o l
  | 0, o, _ => ⟨[], rfl, by unfold VT.InL; trivial⟩
  | n + 1, o, h => by
    obtain ⟨t, c0, c1, c2, c3, c4, c5, h0, h1, h2, h3, h4, h5, ht⟩ := h 0 (by omega)
    obtain ⟨l, hl, hL⟩ := rowL n (o + 6) (fun i hi => by
      have := h (i + 1) (by omega)
      rw [show o + (i + 1) * 6 = o + 6 + i * 6 by omega] at this
      exact this)
    refine ⟨t :: l, by rw [List.length_cons, hl], ?_⟩
    unfold VT.InL
    exact ⟨⟨c0, c1, c2, c3, c4, c5, by simpa using h0, by simpa using h1, by simpa using h2, by simpa using h3, by simpa using h4, by simpa using h5, ht⟩, hL⟩
section
variable {H : Type} {enc : TypeId × Value → H} {P : Program} {w : World} {sp : Nat → Bool} {hd : Bool}
/-- Texts that came in. -/
theorem open_keys {t e : TypeId} {fuel : Nat} {v : Value} {x : DataW H × List MemPlace} (ht : P.underlying t = some (.slice e)) (he : P.underlying e = some .string) (hc : P.cellsOf e = 1) (h : DataW.trod enc P w 0 sp hd fuel t [v] = some x) :
    ∃ (p : Option Addr) (ks : List ByteArray) (c : Nat), v = .slice p ks.length c ∧ ks.length ≤ c ∧ c ≤ maxLen ∧ VT.KeysIn w w.heap.size p ks := by
  rcases open_strings ht he hc h with ⟨hcs, _⟩ | ⟨a, len, cap, ss, hcs, _, hl, hm, hz, _, hcell, _⟩
  · obtain rfl : v = .slice none 0 0 := by simpa using hcs
    exact ⟨none, [], 0, rfl, Nat.le_refl _, by unfold maxLen; omega, fun h => absurd h (by simp)⟩
  · obtain rfl : v = .slice (some a) len cap := by simpa using hcs
    have hle : len ≤ ss.length := by rw [hz]; split <;> omega
    have hlen : (ss.take len).length = len := by rw [List.length_take]; omega
    refine ⟨some a, ss.take len, cap, by rw [hlen], by omega, hm, fun h0 => ?_⟩
    obtain ⟨b, off, spot⟩ := a
    have h00 := hcell 0 (by omega)
    have hspot : spot = none := by simpa [Addr.add] using World.cell?_spot h00
    subst hspot
    refine ⟨b, off, rfl, ?_, fun i hi => ?_⟩
    · have := World.block_lt_of_cell? _ _ h00
      simpa [Addr.add] using this
    · rw [hlen] at hi
      have := hcell i (by omega)
      rw [add_plain] at this
      rw [this]
      simp only [List.getD_eq_getElem?_getD, List.getElem?_take, if_pos hi]
      rfl
theorem open_value {tv es : TypeId} {f0 f1 f2 f3 f4 f5 : Field} (hs : P.underlying tv = some (.struct #[f0, f1, f2, f3, f4, f5])) (hone : oneCellFields P #[f0, f1, f2, f3, f4, f5] = true) (hC : P.cellsOf tv = 6)
    (h0 : P.underlying f0.type = some (.int .i64)) (h1 : P.underlying f1.type = some .bool) (h2 : P.underlying f2.type = some (.int .i64)) (h3 : P.underlying f3.type = some .string) (h4 : P.underlying f4.type = some (.slice tv)) (h5 : P.underlying f5.type = some (.slice es)) (hes : P.underlying es = some .string) (hec : P.cellsOf es = 1) :
    ∀ (fuel : Nat) (cs : List Value) (x : DataW H × List MemPlace), DataW.trod enc P w 0 sp hd fuel tv cs = some x → ∃ t : VT, VT.In w w.heap.size t (.agg ⟨cs⟩) := by
  intro fuel
  induction fuel using Nat.strongRecOn with
  | _ fuel ih =>
    intro cs x h
    obtain ⟨xs, n, hfuel, _, hlen, hxl, hf⟩ := DataW.trod_struct hs h
    rw [hC] at hlen
    match cs, hlen with
    | [v0, v1, v2, v3, v4, v5], _ =>
      have hx : ∀ j, j < 6 → ∃ y, xs[j]? = some y := fun j hj => ⟨xs[j]'(by rw [hxl]; exact hj), List.getElem?_eq_getElem _⟩
      obtain ⟨o0, k0⟩ := hone_of hone 0 f0 rfl
      obtain ⟨o1, k1⟩ := hone_of hone 1 f1 rfl
      obtain ⟨o2, k2⟩ := hone_of hone 2 f2 rfl
      obtain ⟨o3, k3⟩ := hone_of hone 3 f3 rfl
      obtain ⟨o4, k4⟩ := hone_of hone 4 f4 rfl
      obtain ⟨o5, k5⟩ := hone_of hone 5 f5 rfl
      obtain ⟨y0, e0⟩ := hx 0 (by omega)
      obtain ⟨y1, e1⟩ := hx 1 (by omega)
      obtain ⟨y2, e2⟩ := hx 2 (by omega)
      obtain ⟨y3, e3⟩ := hx 3 (by omega)
      obtain ⟨y4, e4⟩ := hx 4 (by omega)
      obtain ⟨y5, e5⟩ := hx 5 (by omega)
      have g0 := (hf 0 f0 rfl).trans e0
      have g1 := (hf 1 f1 rfl).trans e1
      have g2 := (hf 2 f2 rfl).trans e2
      have g3 := (hf 3 f3 rfl).trans e3
      have g4 := (hf 4 f4 rfl).trans e4
      have g5 := (hf 5 f5 rfl).trans e5
      rw [o0, k0] at g0
      rw [o1, k1] at g1
      rw [o2, k2] at g2
      rw [o3, k3] at g3
      rw [o4, k4] at g4
      rw [o5, k5] at g5
      obtain ⟨k, q0, -, -⟩ := DataW.trod_int h0 g0
      obtain ⟨b, q1, -⟩ := DataW.trod_bool h1 g1
      obtain ⟨m, q2, -, -⟩ := DataW.trod_int h2 g2
      obtain ⟨s, q3, -, -⟩ := DataW.trod_string h3 g3
      obtain rfl : v0 = .int .i64 k := by simpa using q0
      obtain rfl : v1 = .bool b := by simpa using q1
      obtain rfl : v2 = .int .i64 m := by simpa using q2
      obtain rfl : v3 = .string s := by simpa using q3
      obtain ⟨pk, ks, ck, q5, hk1, hk2, hks⟩ := open_keys (v := v5) h5 hes hec g5
      subst q5
      rcases DataW.trod_slice h4 g4 with ⟨q4, -⟩ | ⟨a, len, cap, elems, rest, n', hn', q4, -, -, hl, hm, hel, hels, -, -⟩
      · obtain rfl : v4 = .slice none 0 0 := by simpa using q4
        refine ⟨.mk k b m s [] ks, ?_⟩
        unfold VT.In
        exact ⟨none, 0, pk, ck, rfl, Nat.le_refl _, by unfold maxLen; omega, hk1, hk2, hks, fun h => absurd h (by simp)⟩
      · obtain rfl : v4 = .slice (some a) len cap := by simpa using q4
        obtain ⟨bb, off, spot⟩ := a
        have hcell : ∀ i, i < len → ∃ cs', w.cells? 0 (Addr.add ⟨bb, off, spot⟩ (i * 6)) 6 = some cs' ∧ ∃ y, DataW.trod enc P w 0 sp hd n' tv cs' = some y := fun i hi => by
          have h := hels i hi
          rw [hC] at h
          have hy : elems[i]? = some (elems[i]'(by rw [hel]; exact hi)) := List.getElem?_eq_getElem _
          rw [hy] at h
          obtain ⟨cs', hc, ht⟩ := Option.bind_eq_some_iff.1 h
          exact ⟨cs', hc, _, ht⟩
        have hrow : ∀ (hspot : spot = none) i, i < len → ∃ (t : VT) (c0 c1 c2 c3 c4 c5 : Value), w.cell? ⟨bb, off + i * 6, none⟩ = some c0 ∧ w.cell? ⟨bb, off + i * 6 + 1, none⟩ = some c1 ∧ w.cell? ⟨bb, off + i * 6 + 2, none⟩ = some c2 ∧ w.cell? ⟨bb, off + i * 6 + 3, none⟩ = some c3 ∧ w.cell? ⟨bb, off + i * 6 + 4, none⟩ = some c4 ∧ w.cell? ⟨bb, off + i * 6 + 5, none⟩ = some c5 ∧ VT.In w w.heap.size t (.agg #[c0, c1, c2, c3, c4, c5]) := fun hspot i hi => by
          subst hspot
          obtain ⟨cs', hc, y, ht⟩ := hcell i hi
          obtain ⟨t, htI⟩ := ih n' (by omega) cs' y ht
          obtain ⟨-, hcl, hat⟩ := World.cells?_some hc
          match cs', hcl with
          | [c0, c1, c2, c3, c4, c5], _ =>
            refine ⟨t, c0, c1, c2, c3, c4, c5, ?_, ?_, ?_, ?_, ?_, ?_, htI⟩
            · simpa [add_plain] using hat 0 (by omega)
            · simpa [add_plain] using hat 1 (by omega)
            · simpa [add_plain] using hat 2 (by omega)
            · simpa [add_plain] using hat 3 (by omega)
            · simpa [add_plain] using hat 4 (by omega)
            · simpa [add_plain] using hat 5 (by omega)
        by_cases h0l : len = 0
        · subst h0l
          refine ⟨.mk k b m s [] ks, ?_⟩
          unfold VT.In
          exact ⟨some ⟨bb, off, spot⟩, cap, pk, ck, rfl, by simp, hm, hk1, hk2, hks, fun h => absurd h (by simp)⟩
        · have hspot : spot = none := by
            obtain ⟨cs', hc, y, ht⟩ := hcell 0 (by omega)
            obtain ⟨-, hcl, hat⟩ := World.cells?_some hc
            have h00 := hat 0 (by omega)
            match cs', hcl with
            | [c0, _, _, _, _, _], _ =>
              have h01 : w.cell? ((Addr.add ⟨bb, off, spot⟩ (0 * 6)).add 0) = some c0 := h00
              have := World.cell?_spot h01
              simpa [Addr.add] using this
          obtain ⟨l, hll, hL⟩ := rowL len off (hrow hspot)
          subst hspot
          refine ⟨.mk k b m s l ks, ?_⟩
          unfold VT.In
          rw [hll]
          refine ⟨some ⟨bb, off, none⟩, cap, pk, ck, rfl, hl, hm, hk1, hk2, hks, fun _ => ⟨bb, off, rfl, ?_, hL⟩⟩
          obtain ⟨t, c0, _, _, _, _, _, hc0, _⟩ := hrow rfl 0 (by omega)
          exact World.block_lt_of_cell? _ _ hc0
end
end Val
end Go.Proofs.Ytmhlipncelgmlaa
