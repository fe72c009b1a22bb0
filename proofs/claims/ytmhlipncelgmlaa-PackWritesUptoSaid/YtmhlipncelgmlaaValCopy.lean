/- THE WALKS over copied and copies: a value in new memory. -/
import Derived.Test.YtmhlipncelgmlaaRows
import Derived.Test.YtmhlipncelgmlaaValBase
import Derived.Test.YtmhlipncelgmlaaVal
import Derived.Test.YtmhlipncelgmlaaValCmp
import Derived.Test.YtmhlipncelgmlaaValWalk
import Derived.Test.YtmhlipncelgmlaaValForm2
import Derived.Test.YtmhlipncelgmlaaValRef
import Derived.Test.YtmhlipncelgmlaaValMay
import Derived.Test.YtmhlipncelgmlaaValOwn
import Derived.WalkKit
import Derived.Lib.Hide
import Derived.WalkSpells
import Derived.WalkLawsBesides
import Derived.Laws.MakeOwn
import Derived.Laws.CopyOwn
import Derived.OwnWalk
import Derived.Outline
namespace Go.Proofs.Ytmhlipncelgmlaa
open Go.RowKit
set_option linter.unusedVariables false
set_option linter.unusedSimpArgs false
namespace Val
theorem len_le_parts : ∀ l : List VT, l.length ≤ VT.partsL l
  | [] => by simp [VT.partsL]
  | t :: ts => by
    have h1 := t.parts_pos
    have h2 := len_le_parts ts
    rw [VT.partsL, List.length_cons]
    omega
mutual
/-- No list of keys is great. -/
def small : VT → Prop
  | .mk k b n s l ks => ks.length ≤ 8388608 ∧ smallL l
def smallL : List VT → Prop
  | [] => True
  | t :: ts => small t ∧ smallL ts
end
theorem small_mem : ∀ {l : List VT} {x : VT}, smallL l → x ∈ l → small x
  | [], _, _, h => by cases h
  | t :: ts, x, hs, h => by
    unfold smallL at hs
    rcases List.mem_cons.1 h with rfl | h
    · exact hs.1
    · exact small_mem hs.2 h
def CopPost (R : Nat) (t : VT) (d m : Nat) (w : World) (e : Ending) (w' : World) : Prop :=
  ∃ (v' : Value) (m' : Nat), e = .returned v' ∧ VT.Own w' t (fun k => w.heap.size ≤ k ∧ k < w'.heap.size) v' ∧ Keeps (· = R) w w' ∧ Reach w' R d m' ∧ m' ≤ m ∧ m ≤ m' + 2 * VT.partsL t.list
/-- A new row of values, all of the call's own. -/
structure NewRow (R lb : Nat) (l : List VT) (d m : Nat) (w : World) (w' : World) (m' : Nat) : Prop where
  lo : w.heap.size ≤ lb
  hi : lb < w'.heap.size
  blk : ∃ cs, w'.heap[lb]? = some (.cells cs 25 (0, 0)) ∧ l.length * 6 ≤ cs.size
  own : VT.OwnL w' lb l 0 (fun k => lb < k ∧ k < w'.heap.size)
  keeps : Keeps (· = R) w w'
  reach : Reach w' R d m'
  le : m' ≤ m
  cost : m + l.length ≤ m' + 2 * VT.partsL l
def CopiesPost (R : Nat) (l : List VT) (d m : Nat) (w : World) (e : Ending) (w' : World) : Prop :=
  ∃ (lb m' : Nat), e = .returned (.slice (some ⟨lb, 0, none⟩) l.length l.length) ∧ NewRow R lb l d m w w' m'
/-- Where the loop over the values stands, j of them copied. -/
structure CLoop (R lb : Nat) (l : List VT) (d m j mj : Nat) (w wr : World) : Prop where
  lo : w.heap.size ≤ lb
  hi : lb < wr.heap.size
  blk : ∃ cs, wr.heap[lb]? = some (.cells cs 25 (0, 0)) ∧ cs.size = l.length * 6
  own : VT.OwnL wr lb (l.take j) 0 (fun k => lb < k ∧ k < wr.heap.size)
  keeps : Keeps (· = R) w wr
  reach : Reach wr R d mj
  le : mj ≤ m
  cost : m + 2 * VT.partsL (l.drop j) + 2 * j ≤ mj + 2 * VT.partsL l
/-- Six cells one behind the other. -/
def six (w : World) (b o : Nat) (v0 v1 v2 v3 v4 v5 : Value) : World :=
  (((((w.setCell ⟨b, o, none⟩ v0).setCell ⟨b, o + 1, none⟩ v1).setCell ⟨b, o + 2, none⟩ v2).setCell ⟨b, o + 3, none⟩ v3).setCell ⟨b, o + 4, none⟩ v4).setCell ⟨b, o + 5, none⟩ v5
theorem set6 {cs : Array Value} {o : Nat} {v0 v1 v2 v3 v4 v5 : Value} (h : o + 5 < cs.size) : ((((((cs.setIfInBounds o v0).setIfInBounds (o + 1) v1).setIfInBounds (o + 2) v2).setIfInBounds (o + 3) v3).setIfInBounds (o + 4) v4).setIfInBounds (o + 5) v5)[o]? = some v0 ∧ ((((((cs.setIfInBounds o v0).setIfInBounds (o + 1) v1).setIfInBounds (o + 2) v2).setIfInBounds (o + 3) v3).setIfInBounds (o + 4) v4).setIfInBounds (o + 5) v5)[o + 1]? = some v1 ∧ ((((((cs.setIfInBounds o v0).setIfInBounds (o + 1) v1).setIfInBounds (o + 2) v2).setIfInBounds (o + 3) v3).setIfInBounds (o + 4) v4).setIfInBounds (o + 5) v5)[o + 2]? = some v2 ∧ ((((((cs.setIfInBounds o v0).setIfInBounds (o + 1) v1).setIfInBounds (o + 2) v2).setIfInBounds (o + 3) v3).setIfInBounds (o + 4) v4).setIfInBounds (o + 5) v5)[o + 3]? = some v3 ∧ ((((((cs.setIfInBounds o v0).setIfInBounds (o + 1) v1).setIfInBounds (o + 2) v2).setIfInBounds (o + 3) v3).setIfInBounds (o + 4) v4).setIfInBounds (o + 5) v5)[o + 4]? = some v4 ∧ ((((((cs.setIfInBounds o v0).setIfInBounds (o + 1) v1).setIfInBounds (o + 2) v2).setIfInBounds (o + 3) v3).setIfInBounds (o + 4) v4).setIfInBounds (o + 5) v5)[o + 5]? = some v5 := by
  have h0 : o < cs.size := by omega
  have h1 : o + 1 < cs.size := by omega
  have h2 : o + 2 < cs.size := by omega
  have h3 : o + 3 < cs.size := by omega
  have h4 : o + 4 < cs.size := by omega
  refine ⟨?_, ?_, ?_, ?_, ?_, ?_⟩
  · rw [Array.getElem?_setIfInBounds_ne (by omega), Array.getElem?_setIfInBounds_ne (by omega), Array.getElem?_setIfInBounds_ne (by omega), Array.getElem?_setIfInBounds_ne (by omega), Array.getElem?_setIfInBounds_ne (by omega)]
    simp [h0]
  · rw [Array.getElem?_setIfInBounds_ne (by omega), Array.getElem?_setIfInBounds_ne (by omega), Array.getElem?_setIfInBounds_ne (by omega), Array.getElem?_setIfInBounds_ne (by omega)]
    simp [h1]
  · rw [Array.getElem?_setIfInBounds_ne (by omega), Array.getElem?_setIfInBounds_ne (by omega), Array.getElem?_setIfInBounds_ne (by omega)]
    simp [h2]
  · rw [Array.getElem?_setIfInBounds_ne (by omega), Array.getElem?_setIfInBounds_ne (by omega)]
    simp [h3]
  · rw [Array.getElem?_setIfInBounds_ne (by omega)]
    simp [h4]
  · simp [h]
theorem six_block {w : World} {b o : Nat} {v0 v1 v2 v3 v4 v5 : Value} {cs : Array Value} {t : TypeId} (h : w.heap[b]? = some (.cells cs t (0, 0))) :
    (six w b o v0 v1 v2 v3 v4 v5).heap[b]? = some (.cells ((((((cs.setIfInBounds o v0).setIfInBounds (o + 1) v1).setIfInBounds (o + 2) v2).setIfInBounds (o + 3) v3).setIfInBounds (o + 4) v4).setIfInBounds (o + 5) v5) t (0, 0)) := by
  simp [six, World.setCell, Array.getElem?_modify, h]
theorem six_keeps {w : World} {b o : Nat} {v0 v1 v2 v3 v4 v5 : Value} {X : Nat → Prop} {w0 : World} (h : Keeps X w0 w) (hb : X b ∨ w0.heap.size ≤ b) : Keeps X w0 (six w b o v0 v1 v2 v3 v4 v5) :=
  (((((h.setCell (p := ⟨b, o, none⟩) hb v0).setCell (p := ⟨b, o + 1, none⟩) hb v1).setCell (p := ⟨b, o + 2, none⟩) hb v2).setCell (p := ⟨b, o + 3, none⟩) hb v3).setCell (p := ⟨b, o + 4, none⟩) hb v4).setCell (p := ⟨b, o + 5, none⟩) hb v5
theorem cloop_step {R lb : Nat} {l : List VT} {d m j mj m' : Nat} {w wr w3 : World} {o : Obj} {x : VT} {v0 v1 v2 v3 v4 v5 : Value} (HW : CLoop R lb l d m j mj w wr) (hR : R < w.heap.size) (hx : l[j]? = some x)
    (hk3 : Keeps (· = R) (wr.alloc o) w3) (hown : VT.Own w3 x (fun k => (wr.alloc o).heap.size ≤ k ∧ k < w3.heap.size) (.agg #[v0, v1, v2, v3, v4, v5])) (hr3 : Reach w3 R d m') (hle : m' ≤ mj) (hcost : mj ≤ m' + 2 * VT.partsL x.list) :
    CLoop R lb l d m (j + 1) m' w (six w3 lb (j * 6) v0 v1 v2 v3 v4 v5) := by
  have hj : j < l.length := (List.getElem?_eq_some_iff.1 hx).1
  have hsz1 : (wr.alloc o).heap.size = wr.heap.size + 1 := World.size_alloc _ _
  have hsz3 := hk3.size
  rw [hsz1] at hsz3
  have hlo := HW.lo
  have hhi := HW.hi
  obtain ⟨cs, hcs, hcsz⟩ := HW.blk
  have hcs3 : w3.heap[lb]? = some (.cells cs 25 (0, 0)) := (hk3.block _ (by rw [hsz1]; omega) (by omega)).trans ((Below.heap_alloc _ _ _ hhi).trans hcs)
  have hblk := six_block (o := j * 6) (v0 := v0) (v1 := v1) (v2 := v2) (v3 := v3) (v4 := v4) (v5 := v5) hcs3
  have hb4 : Keeps (· = lb) w3 (six w3 lb (j * 6) v0 v1 v2 v3 v4 v5) := six_keeps (Keeps.refl (· = lb) w3) (.inl rfl)
  have hsz4 := hb4.size
  have hkw : Keeps (· = R) w (six w3 lb (j * 6) v0 v1 v2 v3 v4 v5) := six_keeps ((HW.keeps.alloc o).trans hk3) (.inr hlo)
  have hcell : ∀ i v, ((((((cs.setIfInBounds (j * 6) v0).setIfInBounds (j * 6 + 1) v1).setIfInBounds (j * 6 + 2) v2).setIfInBounds (j * 6 + 3) v3).setIfInBounds (j * 6 + 4) v4).setIfInBounds (j * 6 + 5) v5)[i]? = some v → (six w3 lb (j * 6) v0 v1 v2 v3 v4 v5).cell? ⟨lb, i, none⟩ = some v := fun i v h => VT.cell_of hblk h
  have hcs6 : j * 6 + 5 < cs.size := by omega
  have hlow : ∀ i, i < 0 + (l.take j).length * 6 → (six w3 lb (j * 6) v0 v1 v2 v3 v4 v5).cell? ⟨lb, i, none⟩ = w3.cell? ⟨lb, i, none⟩ := fun i hi => by
    rw [List.length_take] at hi
    simp only [World.cell?, hblk, hcs3]
    rw [Array.getElem?_setIfInBounds_ne (by omega), Array.getElem?_setIfInBounds_ne (by omega), Array.getElem?_setIfInBounds_ne (by omega), Array.getElem?_setIfInBounds_ne (by omega), Array.getElem?_setIfInBounds_ne (by omega), Array.getElem?_setIfInBounds_ne (by omega)]
  have ownOld : VT.OwnL (six w3 lb (j * 6) v0 v1 v2 v3 v4 v5) lb (l.take j) 0 (fun k => lb < k ∧ k < wr.heap.size) := by
    have h1 : VT.OwnL w3 lb (l.take j) 0 (fun k => lb < k ∧ k < wr.heap.size) := VT.OwnL.keeps (((Keeps.refl (· = R) wr).alloc o).trans hk3) (fun i _ => (((Keeps.refl (· = R) wr).alloc o).trans hk3).cell (p := ⟨lb, i, none⟩) hhi (by show ¬ lb = R; omega)) HW.own (fun k hk => ⟨hk.2, by show ¬ k = R; omega⟩)
    exact VT.OwnL.keeps hb4 hlow h1 (fun k hk => ⟨by omega, by show ¬ k = lb; omega⟩)
  have ownX : VT.Own (six w3 lb (j * 6) v0 v1 v2 v3 v4 v5) x (fun k => (wr.alloc o).heap.size ≤ k ∧ k < w3.heap.size) (.agg #[v0, v1, v2, v3, v4, v5]) := hown.keeps hb4 (fun k hk => ⟨hk.2, by show ¬ k = lb; rw [hsz1] at hk; omega⟩)
  have htl : (l.take j).length = j := by rw [List.length_take]; omega
  have hsn := VT.OwnL.snoc (x := x) ownOld (Sx := fun k => (wr.alloc o).heap.size ≤ k ∧ k < w3.heap.size) (fun k hk hk2 => by rw [hsz1] at hk; omega)
    (by rw [htl, Nat.zero_add]; exact hcell _ v0 (set6 hcs6).1) (by rw [htl, Nat.zero_add]; exact hcell _ v1 (set6 hcs6).2.1) (by rw [htl, Nat.zero_add]; exact hcell _ v2 (set6 hcs6).2.2.1) (by rw [htl, Nat.zero_add]; exact hcell _ v3 (set6 hcs6).2.2.2.1) (by rw [htl, Nat.zero_add]; exact hcell _ v4 (set6 hcs6).2.2.2.2.1) (by rw [htl, Nat.zero_add]; exact hcell _ v5 (set6 hcs6).2.2.2.2.2) ownX
  have htake : l.take (j + 1) = l.take j ++ [x] := by rw [List.take_add_one, hx]; rfl
  refine ⟨hlo, by omega, ⟨_, hblk, by simpa using hcsz⟩, ?_, hkw, ?_, Nat.le_trans hle HW.le, ?_⟩
  · rw [htake]
    refine VT.OwnL.more (fun k hk => ?_) hsn
    rcases hk with hk | hk
    · exact ⟨hk.1, by omega⟩
    · rw [hsz1] at hk
      exact ⟨by omega, by omega⟩
  · unfold Reach at hr3 ⊢
    exact (hb4.block R (by omega) (by show ¬ R = lb; omega)).trans hr3
  · have h1 := HW.cost
    have hP : VT.partsL (l.drop j) = x.parts + VT.partsL (l.drop (j + 1)) := by rw [drop_at hx, VT.partsL]
    have hxq : x.parts = VT.partsL x.list + 1 := by cases x; rw [VT.parts]; rfl
    omega
theorem info25 : (Try.prog.info? 25).map (fun i => (i.zero, i.size, i.bytes)) = some (some (.agg #[.int .i64 0, .bool false, .int .i64 0, .string ⟨#[]⟩, .slice none 0 0, .slice none 0 0]), 6, 88) := by kernel_rfl
end Val
end Go.Proofs.Ytmhlipncelgmlaa
