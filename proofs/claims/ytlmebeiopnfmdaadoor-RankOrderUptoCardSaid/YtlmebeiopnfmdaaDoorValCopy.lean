/- THE WALKS over copied and copies: a value in new memory. -/
import Derived.Test.YtlmebeiopnfmdaaDoorRows
import Derived.Test.YtlmebeiopnfmdaaDoorValBase
import Derived.Test.YtlmebeiopnfmdaaDoorVal
import Derived.Test.YtlmebeiopnfmdaaDoorValCmp
import Derived.Test.YtlmebeiopnfmdaaDoorValWalk
import Derived.Test.YtlmebeiopnfmdaaDoorValForm2
import Derived.Test.YtlmebeiopnfmdaaDoorValRef
import Derived.Test.YtlmebeiopnfmdaaDoorValMay
import Derived.Test.YtlmebeiopnfmdaaDoorValOwn
import Derived.WalkKit
import Derived.Lib.Hide
import Derived.WalkSpells
import Derived.WalkLawsBesides
import Derived.Laws.MakeOwn
import Derived.Laws.CopyOwn
import Derived.OwnWalk
import Derived.Outline
namespace Go.Proofs.YtlmebeiopnfmdaaDoor
open Go.RowKit
set_option linter.unusedVariables false
set_option linter.unusedSimpArgs false
namespace Val
theorem len_le_parts : ∀ l : List VT, l.length ≤ VT.partsL l
  | [] => by simp [VT.partsL]
  | t :: ts => by
    have h1 := t.parts_pos
    have h2 := len_le_parts ts
    rw [VT.partsL, List.length_cons]
    omega
mutual
/-- No list of keys is great. -/
def small : VT → Prop
  | .mk k b n s l ks => ks.length ≤ 4194304 ∧ smallL l
def smallL : List VT → Prop
  | [] => True
  | t :: ts => small t ∧ smallL ts
end
theorem small_mem : ∀ {l : List VT} {x : VT}, smallL l → x ∈ l → small x
  | [], _, _, h => by cases h
  | t :: ts, x, hs, h => by
    unfold smallL at hs
    rcases List.mem_cons.1 h with rfl | h
    · exact hs.1
    · exact small_mem hs.2 h
def CopPost (R : Nat) (t : VT) (d m : Nat) (w : World) (e : Ending) (w' : World) : Prop :=
  ∃ (v' : Value) (m' : Nat), e = .returned v' ∧ VT.Own w' t (fun k => w.heap.size ≤ k ∧ k < w'.heap.size) v' ∧ Keeps (· = R) w w' ∧ Reach w' R d m' ∧ m' ≤ m ∧ m ≤ m' + 2 * VT.partsL t.list
def CopiedIH (N R : Nat) : Prop := ∀ (t : VT) (v : Value) (B : Nat) (w : World) (d m : Nat), t.parts ≤ N → small t → VT.In w B t v → B ≤ w.heap.size → B ≤ R → Reach w R d m → t.parts ≤ d + 1 → 2 * VT.partsL t.list ≤ m → d ≤ 65536 → m ≤ 4194304 →
  Calls Tryd.prog 48 #[.pointer (some ⟨R, 0, none⟩), v] w (CopPost R t d m w)
/-- A new row of values, all of the call's own. -/
structure NewRow (R lb : Nat) (l : List VT) (d m : Nat) (w : World) (w' : World) (m' : Nat) : Prop where
  lo : w.heap.size ≤ lb
  hi : lb < w'.heap.size
  blk : ∃ cs, w'.heap[lb]? = some (.cells cs 26 (0, 0)) ∧ l.length * 6 ≤ cs.size
  own : VT.OwnL w' lb l 0 (fun k => lb < k ∧ k < w'.heap.size)
  keeps : Keeps (· = R) w w'
  reach : Reach w' R d m'
  le : m' ≤ m
  cost : m + l.length ≤ m' + 2 * VT.partsL l
def CopiesPost (R : Nat) (l : List VT) (d m : Nat) (w : World) (e : Ending) (w' : World) : Prop :=
  ∃ (lb m' : Nat), e = .returned (.slice (some ⟨lb, 0, none⟩) l.length l.length) ∧ NewRow R lb l d m w w' m'
/-- Where the loop over the values stands, j of them copied. -/
structure CLoop (R lb : Nat) (l : List VT) (d m j mj : Nat) (w wr : World) : Prop where
  lo : w.heap.size ≤ lb
  hi : lb < wr.heap.size
  blk : ∃ cs, wr.heap[lb]? = some (.cells cs 26 (0, 0)) ∧ cs.size = l.length * 6
  own : VT.OwnL wr lb (l.take j) 0 (fun k => lb < k ∧ k < wr.heap.size)
  keeps : Keeps (· = R) w wr
  reach : Reach wr R d mj
  le : mj ≤ m
  cost : m + 2 * VT.partsL (l.drop j) + 2 * j ≤ mj + 2 * VT.partsL l
/-- Six cells one behind the other. -/
def six (w : World) (b o : Nat) (v0 v1 v2 v3 v4 v5 : Value) : World :=
  (((((w.setCell ⟨b, o, none⟩ v0).setCell ⟨b, o + 1, none⟩ v1).setCell ⟨b, o + 2, none⟩ v2).setCell ⟨b, o + 3, none⟩ v3).setCell ⟨b, o + 4, none⟩ v4).setCell ⟨b, o + 5, none⟩ v5
theorem set6 {cs : Array Value} {o : Nat} {v0 v1 v2 v3 v4 v5 : Value} (h : o + 5 < cs.size) : ((((((cs.setIfInBounds o v0).setIfInBounds (o + 1) v1).setIfInBounds (o + 2) v2).setIfInBounds (o + 3) v3).setIfInBounds (o + 4) v4).setIfInBounds (o + 5) v5)[o]? = some v0 ∧ ((((((cs.setIfInBounds o v0).setIfInBounds (o + 1) v1).setIfInBounds (o + 2) v2).setIfInBounds (o + 3) v3).setIfInBounds (o + 4) v4).setIfInBounds (o + 5) v5)[o + 1]? = some v1 ∧ ((((((cs.setIfInBounds o v0).setIfInBounds (o + 1) v1).setIfInBounds (o + 2) v2).setIfInBounds (o + 3) v3).setIfInBounds (o + 4) v4).setIfInBounds (o + 5) v5)[o + 2]? = some v2 ∧ ((((((cs.setIfInBounds o v0).setIfInBounds (o + 1) v1).setIfInBounds (o + 2) v2).setIfInBounds (o + 3) v3).setIfInBounds (o + 4) v4).setIfInBounds (o + 5) v5)[o + 3]? = some v3 ∧ ((((((cs.setIfInBounds o v0).setIfInBounds (o + 1) v1).setIfInBounds (o + 2) v2).setIfInBounds (o + 3) v3).setIfInBounds (o + 4) v4).setIfInBounds (o + 5) v5)[o + 4]? = some v4 ∧ ((((((cs.setIfInBounds o v0).setIfInBounds (o + 1) v1).setIfInBounds (o + 2) v2).setIfInBounds (o + 3) v3).setIfInBounds (o + 4) v4).setIfInBounds (o + 5) v5)[o + 5]? = some v5 := by
  have h0 : o < cs.size := by omega
  have h1 : o + 1 < cs.size := by omega
  have h2 : o + 2 < cs.size := by omega
  have h3 : o + 3 < cs.size := by omega
  have h4 : o + 4 < cs.size := by omega
  refine ⟨?_, ?_, ?_, ?_, ?_, ?_⟩
  · rw [Array.getElem?_setIfInBounds_ne (by omega), Array.getElem?_setIfInBounds_ne (by omega), Array.getElem?_setIfInBounds_ne (by omega), Array.getElem?_setIfInBounds_ne (by omega), Array.getElem?_setIfInBounds_ne (by omega)]
    simp [h0]
  · rw [Array.getElem?_setIfInBounds_ne (by omega), Array.getElem?_setIfInBounds_ne (by omega), Array.getElem?_setIfInBounds_ne (by omega), Array.getElem?_setIfInBounds_ne (by omega)]
    simp [h1]
  · rw [Array.getElem?_setIfInBounds_ne (by omega), Array.getElem?_setIfInBounds_ne (by omega), Array.getElem?_setIfInBounds_ne (by omega)]
    simp [h2]
  · rw [Array.getElem?_setIfInBounds_ne (by omega), Array.getElem?_setIfInBounds_ne (by omega)]
    simp [h3]
  · rw [Array.getElem?_setIfInBounds_ne (by omega)]
    simp [h4]
  · simp [h]
theorem six_block {w : World} {b o : Nat} {v0 v1 v2 v3 v4 v5 : Value} {cs : Array Value} {t : TypeId} (h : w.heap[b]? = some (.cells cs t (0, 0))) :
    (six w b o v0 v1 v2 v3 v4 v5).heap[b]? = some (.cells ((((((cs.setIfInBounds o v0).setIfInBounds (o + 1) v1).setIfInBounds (o + 2) v2).setIfInBounds (o + 3) v3).setIfInBounds (o + 4) v4).setIfInBounds (o + 5) v5) t (0, 0)) := by
  simp [six, World.setCell, Array.getElem?_modify, h]
theorem six_keeps {w : World} {b o : Nat} {v0 v1 v2 v3 v4 v5 : Value} {X : Nat → Prop} {w0 : World} (h : Keeps X w0 w) (hb : X b ∨ w0.heap.size ≤ b) : Keeps X w0 (six w b o v0 v1 v2 v3 v4 v5) :=
  (((((h.setCell (p := ⟨b, o, none⟩) hb v0).setCell (p := ⟨b, o + 1, none⟩) hb v1).setCell (p := ⟨b, o + 2, none⟩) hb v2).setCell (p := ⟨b, o + 3, none⟩) hb v3).setCell (p := ⟨b, o + 4, none⟩) hb v4).setCell (p := ⟨b, o + 5, none⟩) hb v5
theorem cloop_step {R lb : Nat} {l : List VT} {d m j mj m' : Nat} {w wr w3 : World} {o : Obj} {x : VT} {v0 v1 v2 v3 v4 v5 : Value} (HW : CLoop R lb l d m j mj w wr) (hR : R < w.heap.size) (hx : l[j]? = some x)
    (hk3 : Keeps (· = R) (wr.alloc o) w3) (hown : VT.Own w3 x (fun k => (wr.alloc o).heap.size ≤ k ∧ k < w3.heap.size) (.agg #[v0, v1, v2, v3, v4, v5])) (hr3 : Reach w3 R d m') (hle : m' ≤ mj) (hcost : mj ≤ m' + 2 * VT.partsL x.list) :
    CLoop R lb l d m (j + 1) m' w (six w3 lb (j * 6) v0 v1 v2 v3 v4 v5) := by
  have hj : j < l.length := (List.getElem?_eq_some_iff.1 hx).1
  have hsz1 : (wr.alloc o).heap.size = wr.heap.size + 1 := World.size_alloc _ _
  have hsz3 := hk3.size
  rw [hsz1] at hsz3
  have hlo := HW.lo
  have hhi := HW.hi
  obtain ⟨cs, hcs, hcsz⟩ := HW.blk
  have hcs3 : w3.heap[lb]? = some (.cells cs 26 (0, 0)) := (hk3.block _ (by rw [hsz1]; omega) (by omega)).trans ((Below.heap_alloc _ _ _ hhi).trans hcs)
  have hblk := six_block (o := j * 6) (v0 := v0) (v1 := v1) (v2 := v2) (v3 := v3) (v4 := v4) (v5 := v5) hcs3
  have hb4 : Keeps (· = lb) w3 (six w3 lb (j * 6) v0 v1 v2 v3 v4 v5) := six_keeps (Keeps.refl (· = lb) w3) (.inl rfl)
  have hsz4 := hb4.size
  have hkw : Keeps (· = R) w (six w3 lb (j * 6) v0 v1 v2 v3 v4 v5) := six_keeps ((HW.keeps.alloc o).trans hk3) (.inr hlo)
  have hcell : ∀ i v, ((((((cs.setIfInBounds (j * 6) v0).setIfInBounds (j * 6 + 1) v1).setIfInBounds (j * 6 + 2) v2).setIfInBounds (j * 6 + 3) v3).setIfInBounds (j * 6 + 4) v4).setIfInBounds (j * 6 + 5) v5)[i]? = some v → (six w3 lb (j * 6) v0 v1 v2 v3 v4 v5).cell? ⟨lb, i, none⟩ = some v := fun i v h => VT.cell_of hblk h
  have hcs6 : j * 6 + 5 < cs.size := by omega
  have hlow : ∀ i, i < 0 + (l.take j).length * 6 → (six w3 lb (j * 6) v0 v1 v2 v3 v4 v5).cell? ⟨lb, i, none⟩ = w3.cell? ⟨lb, i, none⟩ := fun i hi => by
    rw [List.length_take] at hi
    simp only [World.cell?, hblk, hcs3]
    rw [Array.getElem?_setIfInBounds_ne (by omega), Array.getElem?_setIfInBounds_ne (by omega), Array.getElem?_setIfInBounds_ne (by omega), Array.getElem?_setIfInBounds_ne (by omega), Array.getElem?_setIfInBounds_ne (by omega), Array.getElem?_setIfInBounds_ne (by omega)]
  have ownOld : VT.OwnL (six w3 lb (j * 6) v0 v1 v2 v3 v4 v5) lb (l.take j) 0 (fun k => lb < k ∧ k < wr.heap.size) := by
    have h1 : VT.OwnL w3 lb (l.take j) 0 (fun k => lb < k ∧ k < wr.heap.size) := VT.OwnL.keeps (((Keeps.refl (· = R) wr).alloc o).trans hk3) (fun i _ => (((Keeps.refl (· = R) wr).alloc o).trans hk3).cell (p := ⟨lb, i, none⟩) hhi (by show ¬ lb = R; omega)) HW.own (fun k hk => ⟨hk.2, by show ¬ k = R; omega⟩)
    exact VT.OwnL.keeps hb4 hlow h1 (fun k hk => ⟨by omega, by show ¬ k = lb; omega⟩)
  have ownX : VT.Own (six w3 lb (j * 6) v0 v1 v2 v3 v4 v5) x (fun k => (wr.alloc o).heap.size ≤ k ∧ k < w3.heap.size) (.agg #[v0, v1, v2, v3, v4, v5]) := hown.keeps hb4 (fun k hk => ⟨hk.2, by show ¬ k = lb; rw [hsz1] at hk; omega⟩)
  have htl : (l.take j).length = j := by rw [List.length_take]; omega
  have hsn := VT.OwnL.snoc (x := x) ownOld (Sx := fun k => (wr.alloc o).heap.size ≤ k ∧ k < w3.heap.size) (fun k hk hk2 => by rw [hsz1] at hk; omega)
    (by rw [htl, Nat.zero_add]; exact hcell _ v0 (set6 hcs6).1) (by rw [htl, Nat.zero_add]; exact hcell _ v1 (set6 hcs6).2.1) (by rw [htl, Nat.zero_add]; exact hcell _ v2 (set6 hcs6).2.2.1) (by rw [htl, Nat.zero_add]; exact hcell _ v3 (set6 hcs6).2.2.2.1) (by rw [htl, Nat.zero_add]; exact hcell _ v4 (set6 hcs6).2.2.2.2.1) (by rw [htl, Nat.zero_add]; exact hcell _ v5 (set6 hcs6).2.2.2.2.2) ownX
  have htake : l.take (j + 1) = l.take j ++ [x] := by rw [List.take_add_one, hx]; rfl
  refine ⟨hlo, by omega, ⟨_, hblk, by simpa using hcsz⟩, ?_, hkw, ?_, Nat.le_trans hle HW.le, ?_⟩
  · rw [htake]
    refine VT.OwnL.more (fun k hk => ?_) hsn
    rcases hk with hk | hk
    · exact ⟨hk.1, by omega⟩
    · rw [hsz1] at hk
      exact ⟨by omega, by omega⟩
  · unfold Reach at hr3 ⊢
    exact (hb4.block R (by omega) (by show ¬ R = lb; omega)).trans hr3
  · have h1 := HW.cost
    have hP : VT.partsL (l.drop j) = x.parts + VT.partsL (l.drop (j + 1)) := by rw [drop_at hx, VT.partsL]
    have hxq : x.parts = VT.partsL x.list + 1 := by cases x; rw [VT.parts]; rfl
    omega
theorem info25 : (Tryd.prog.info? 26).map (fun i => (i.zero, i.size, i.bytes)) = some (some (.agg #[.int .i64 0, .bool false, .int .i64 0, .string ⟨#[]⟩, .slice none 0 0, .slice none 0 0]), 6, 88) := by kernel_rfl
set_option maxRecDepth 100000 in
set_option maxHeartbeats 2000000 in
theorem copies_any (N R : Nat) (IH : Hid (CopiedIH N R)) (l : List VT) (pl : Option Addr) (cl B : Nat) (w : World) (d m : Nat) (hp : VT.partsL l ≤ N) (hsm : smallL l) (h0 : 0 < l.length) (hA : 0 < l.length → ∃ bl ol, pl = some ⟨bl, ol, none⟩ ∧ bl < B ∧ VT.InL w B bl ol l) (hB : B ≤ w.heap.size) (hBR : B ≤ R) (hR : Reach w R d m) (hd : VT.partsL l ≤ d + 1) (hm : 2 * VT.partsL l ≤ m + l.length) (hd2 : d ≤ 65536) (hm2 : m ≤ 4194304) :
    Calls Tryd.prog 74 #[.pointer (some ⟨R, 0, none⟩), .slice pl l.length cl] w (CopiesPost R l d m w) := by
  have hlp := len_le_parts l
  obtain ⟨ti, hi, hz0, hz1, hz2⟩ := info_parts info25
  obtain ⟨n, hn⟩ : ∃ n, l.length = n := ⟨_, rfl⟩
  have hmk : ∀ V, (Instr.makeSlice 23 (.int .i64 (n : Int)) (.int .i64 (n : Int))).run Tryd.prog V = .ok (.slice (some ⟨V.heap.size, 0, none⟩) n n) (V.alloc (.cells (madeCells #[.int .i64 0, .bool false, .int .i64 0, .string ⟨#[]⟩, .slice none 0 0, .slice none 0 0] (n * 6)) 26)) := fun V => by
    have := run_make (P := Tryd.prog) V 23 26 ti _ Tryd.underlying23 hi hz0 .i64 .i64 (n : Int) (n : Int) (by omega) (Int.le_refl _) (by rw [hz2]; omega) (by omega)
    rw [hz1] at this
    simpa [Value.cells] using this
  obtain ⟨q, rfl⟩ : ∃ q, m = n + q := ⟨m - n, by omega⟩
  obtain ⟨c0, c1, f0, f1⟩ := hR.cell
  have hRlt := hR.lt
  have h1R : Reach (w.setCell ⟨R, 1, none⟩ (.int .i64 q)) R d q := by
    unfold Reach at hR ⊢
    simp [World.setCell, Array.getElem?_modify, hR]
  have hk1 : Keeps (· = R) w (w.setCell ⟨R, 1, none⟩ (.int .i64 q)) := (Keeps.refl (· = R) w).setCell (p := ⟨R, 1, none⟩) (.inl rfl) _
  have hs1 : (w.setCell ⟨R, 1, none⟩ (.int .i64 q)).heap.size = w.heap.size := by simp [World.setCell]
  have hnew : ((w.setCell ⟨R, 1, none⟩ (.int .i64 q)).alloc (.cells (madeCells #[.int .i64 0, .bool false, .int .i64 0, .string ⟨#[]⟩, .slice none 0 0, .slice none 0 0] (n * 6)) 26)).heap[w.heap.size]? = some (.cells (madeCells #[.int .i64 0, .bool false, .int .i64 0, .string ⟨#[]⟩, .slice none 0 0, .slice none 0 0] (n * 6)) 26 (0, 0)) := by
    have := World.alloc_heap_new (w.setCell ⟨R, 1, none⟩ (.int .i64 q)) (.cells (madeCells #[.int .i64 0, .bool false, .int .i64 0, .string ⟨#[]⟩, .slice none 0 0, .slice none 0 0] (n * 6)) 26)
    rwa [hs1] at this
  have HL0 : Hid (CLoop R w.heap.size l d q 0 q w ((w.setCell ⟨R, 1, none⟩ (.int .i64 q)).alloc (.cells (madeCells #[.int .i64 0, .bool false, .int .i64 0, .string ⟨#[]⟩, .slice none 0 0, .slice none 0 0] (n * 6)) 26))) := Lib.hid
    ⟨Nat.le_refl _, by rw [World.size_alloc, hs1]; omega, ⟨_, hnew, by rw [size_madeCells, hn]⟩, by show VT.OwnL _ _ [] 0 _; unfold VT.OwnL; trivial, hk1.alloc _, h1R.alloc _, Nat.le_refl _, by simp⟩
  have HN := Lib.hid hn
  have HA := Lib.hid hA
  have HX : Hid (∀ x, x ∈ l → x.parts ≤ N ∧ x.parts ≤ d + 1 ∧ small x) := Lib.hid fun x hx => by have := VT.parts_mem hx; exact ⟨by omega, by omega, small_mem hsm hx⟩
  have HB := Lib.hid (And.intro hB hBR)
  have HQ : Hid (2 * VT.partsL l ≤ n + q + n) := Lib.hid (by rw [hn] at hm; exact hm)
  have HD : Hid (d ≤ 65536 ∧ n + q ≤ 4194304) := Lib.hid ⟨hd2, hm2⟩
  have HMK := Lib.hid hmk
  have hnb : n ≤ 4194304 := by omega
  have hqb : q ≤ 4194304 := by omega
  have hsub : (n : Int) + (q : Int) - (n : Int) = (q : Int) := by omega
  have hd3 : decide ((n : Int) + (q : Int) < (n : Int)) = false := by simp; omega
  rw [hn]
  clear hlp hi hz0 hz1 hz2 hn hA hp hsm h0 hB hBR hR hd hm hd2 hm2 h1R hk1 hs1 hnew ti
  go_enter Tryd.func74, Tryd.ntmps74
  go_wp2_with fail
  clear hsub c0 c1 f0 f1
  go_loopw [29] (fun i wr => ∃ j mj : Nat, j ≤ n ∧ i = .int .i64 j ∧ Hid (CLoop R w.heap.size l d q j mj w wr)) (fun i _ => n - (intOf i).toNat)
  case atStart => exact ⟨0, q, Nat.zero_le _, rfl, HL0⟩
  case round =>
    rename_i wr
    obtain ⟨j, mj, hj, rfl, HW⟩ := hrel
    clear HL0
    by_cases hlt : j < n
    · obtain ⟨x, hx⟩ : ∃ x, l[j]? = some x := ⟨l[j]'(by rw [HN.out]; exact hlt), List.getElem?_eq_getElem _⟩
      obtain ⟨bl, ol, rfl, hbl, hInL⟩ := HA.out (by rw [HN.out]; omega)
      have hlow : Below B w wr := HW.out.keeps.below (fun k e => e ▸ HB.out.2) HB.out.1
      obtain ⟨d0, d1, d2, d3, d4, d5, e0, e1, e2, e3, e4, e5, hInx⟩ := (VT.InL.keep (fun q hq => hlow.cell hq) hbl hInL).at hx
      obtain ⟨xk, xb, xn, xs, xpl, xnl, xcl, xpk, xnk, xck, rfl, rfl, rfl, rfl, rfl, rfl⟩ := hInx.shape
      have hxp := HX.out x (List.mem_of_getElem? hx)
      have hP : VT.partsL (l.drop j) = x.parts + VT.partsL (l.drop (j + 1)) := by rw [drop_at hx, VT.partsL]
      have hP2 := len_le_parts (l.drop (j + 1))
      have hxq : x.parts = VT.partsL x.list + 1 := by cases x; rw [VT.parts]; rfl
      have hPP : Hid (VT.partsL (l.drop j) = x.parts + VT.partsL (l.drop (j + 1)) ∧ x.parts = VT.partsL x.list + 1) := Lib.hid ⟨hP, hxq⟩
      have hneed : 2 * VT.partsL x.list ≤ mj := by
        have h1 := HW.out.cost
        have h2 := HQ.out
        rw [List.length_drop, HN.out] at hP2
        omega
      have HC := Lib.hid (IH.out x _ B (wr.alloc (.cells #[.int .i64 xk, .bool xb, .int .i64 xn, .string xs, .slice xpl xnl xcl, .slice xpk xnk xck] 26)) d mj hxp.1 hxp.2.2 (hInx.below (((Below.refl wr.heap.size wr).alloc (Nat.le_refl _) _).mono (Nat.le_trans HB.out.1 HW.out.keeps.size))) (by rw [World.size_alloc]; have := HB.out.1; have := HW.out.keeps.size; omega) HB.out.2 (HW.out.reach.alloc _) hxp.2.1 hneed HD.out.1 (by have := HW.out.le; have := HD.out.2; omega))
      have HXJ := Lib.hid hx
      clear hInx hInL hx hlow hP hP2 hxq hneed hxp
      go_wp2_with fail
      refine HC.out.mono ?_
      rintro e w3 ⟨v', m', rfl, hown, hk3, hr3, hle3, hcost3⟩
      obtain ⟨yk, yb, yn, ys, ypl, ynl, ycl, ypk, ynk, yck, rfl⟩ := hown.shape
      have hsz3 : wr.heap.size < w3.heap.size := by have := hk3.size; rw [World.size_alloc] at this; omega
      obtain ⟨cs, hcs, hcsz⟩ := HW.out.blk
      have hRlb : w.heap.size ≠ R := by omega
      have hcs3 : w3.heap[w.heap.size]? = some (.cells cs 26 (0, 0)) := (hk3.block _ (by rw [World.size_alloc]; have := HW.out.hi; omega) (by intro e; exact hRlb e)).trans ((Below.heap_alloc _ _ _ HW.out.hi).trans hcs)
      have hcsN : cs.size = n * 6 := by rw [hcsz, HN.out]
      have hcell : ∀ i, i < 6 → w3.cell? ⟨w.heap.size, j * 6 + i, none⟩ = some (cs[j * 6 + i]!) ∧ w3.frozen? ⟨w.heap.size, j * 6 + i, none⟩ = false := fun i hi => by
        have hb : j * 6 + i < cs.size := by omega
        constructor
        · simp [World.cell?, hcs3, hb]
        · simp [World.frozen?, hcs3]
      obtain ⟨g0, u0⟩ := hcell 0 (by omega)
      obtain ⟨g1, u1⟩ := hcell 1 (by omega)
      obtain ⟨g2, u2⟩ := hcell 2 (by omega)
      obtain ⟨g3, u3⟩ := hcell 3 (by omega)
      obtain ⟨g4, u4⟩ := hcell 4 (by omega)
      obtain ⟨g5, u5⟩ := hcell 5 (by omega)
      have HCS := Lib.hid (And.intro hcs3 hcsN)
      have HK3 := Lib.hid (And.intro hk3 hsz3)
      have HO := Lib.hid hown
      have HR3 := Lib.hid (And.intro hr3 (And.intro hle3 hcost3))
      clear hcs3 hcs hcsz hcsN hcell hk3 hown hr3 hle3 hcost3 hsz3
      simp only [Nat.add_zero] at g0 u0
      have HNEW := Lib.hid (cloop_step HW.out hRlt HXJ.out HK3.out.1 HO.out HR3.out.1 HR3.out.2.1 HR3.out.2.2)
      go_wp2_with fail
      go_roundw
      case rel => exact ⟨j + 1, m', by omega, by go_num, HNEW⟩
      case measure => simp [intOf]; omega
    · obtain rfl : n = j := by omega
      have HP : Hid (CopiesPost R l d (n + q) w (.returned (.slice (some ⟨w.heap.size, 0, none⟩) n n)) wr) := Lib.hid (by
        refine ⟨w.heap.size, mj, by rw [HN.out], HW.out.lo, HW.out.hi, ?_, ?_, HW.out.keeps, HW.out.reach, by have := HW.out.le; omega, ?_⟩
        · obtain ⟨cs, h1, h2⟩ := HW.out.blk
          exact ⟨cs, h1, by omega⟩
        · have := HW.out.own
          rwa [← HN.out, List.take_length] at this
        · have h1 := HW.out.cost
          have h2 : VT.partsL (l.drop n) = 0 := by rw [← HN.out, List.drop_length, VT.partsL]
          have h3 := HN.out
          omega)
      go_wp2_with fail
      go_ret
      exact HP.out
end Val
end Go.Proofs.YtlmebeiopnfmdaaDoor
