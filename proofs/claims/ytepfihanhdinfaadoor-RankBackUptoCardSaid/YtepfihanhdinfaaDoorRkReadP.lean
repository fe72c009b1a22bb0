/- The reader of keys: what its calls come to, plain. -/
import Derived.Test.YtepfihanhdinfaaDoorRkRow
namespace Go.Proofs.YtepfihanhdinfaaDoor
open Go.RowKit
set_option linter.unusedVariables false
set_option linter.unusedSimpArgs false
namespace Rk
open Val (VT Keeps Box StrBlock)
/-! ### Plain: the parts that were read -/
theorem partsL_append (a b : List VT) : VT.partsL (a ++ b) = VT.partsL a + VT.partsL b := by
  induction a with
  | nil => simp [VT.partsL]
  | cons x a ih => rw [List.cons_append, VT.partsL, VT.partsL, ih]; omega
theorem parts_ge : ∀ l : List VT, l.length ≤ VT.partsL l
  | [] => by simp
  | t :: ts => by
    have := parts_ge ts
    have := t.parts_pos
    rw [List.length_cons, VT.partsL]
    omega
theorem Box.set4 {w : World} {A : Nat} {c0 c1 c2 c3 c4 c5 : Value} (h : Box w A #[c0, c1, c2, c3, c4, c5]) (v : Value) : Box (w.setCell ⟨A, 4, none⟩ v) A #[c0, c1, c2, c3, v, c5] := by
  unfold Box at h ⊢
  simp [World.setCell, Array.getElem?_modify, h]
theorem Box.set5 {w : World} {A : Nat} {c0 c1 c2 c3 c4 c5 : Value} (h : Box w A #[c0, c1, c2, c3, c4, c5]) (v : Value) : Box (w.setCell ⟨A, 5, none⟩ v) A #[c0, c1, c2, c3, c4, v] := by
  unfold Box at h ⊢
  simp [World.setCell, Array.getElem?_modify, h]
theorem partsR_snocL : ∀ (ts : List VT) (x : VT), partsR (ts ++ [x]) false [] = partsR ts false [] ++ keyR x
  | [], x => by simp [partsR]
  | t :: ts, x => by
    rw [List.cons_append, partsR, partsR]
    simp only [List.tail_nil, Bool.false_eq_true, if_false, List.nil_append]
    rw [partsR_snocL ts x, List.append_assoc]
theorem partsR_snocM : ∀ (ts : List VT) (ks : List ByteArray) (x : VT) (k : ByteArray), ks.length = ts.length → partsR (ts ++ [x]) true (ks ++ [k]) = partsR ts true ks ++ (1 :: endB k.data.toList ++ keyR x)
  | [], ks, x, k, h => by
    obtain rfl := List.eq_nil_of_length_eq_zero h
    simp [partsR]
  | t :: ts, ks, x, k, h => by
    match ks, h with
    | q :: ks, h =>
      rw [List.cons_append, List.cons_append, partsR, partsR]
      simp only [if_true, List.headD_cons, List.tail_cons]
      rw [partsR_snocM ts ks x k (by simpa using h)]
      simp [List.append_assoc]
/-- What was read is the beginning of whatever can be read. -/
theorem parts_split : ∀ (m : Bool) (ts l : List VT) (ks ks' : List ByteArray) (cur r : List UInt8), rawL ts → rawL l → (m = false → ks = [] ∧ ks' = []) → (m = true → ks.length = ts.length ∧ ks'.length = l.length) → partsR l m ks' ++ ([0] ++ r) = partsR ts m ks ++ cur →
    ∃ l2 ks2, l = ts ++ l2 ∧ ks' = ks ++ ks2 ∧ (m = false → ks2 = []) ∧ (m = true → ks2.length = l2.length) ∧ rawL l2 ∧ cur = partsR l2 m ks2 ++ ([0] ++ r)
  | m, [], l, ks, ks', cur, r, ht, hl, h0, h1, h => by
    have hk : ks = [] := by
      cases m
      · exact (h0 rfl).1
      · exact List.eq_nil_of_length_eq_zero (h1 rfl).1
    subst hk
    refine ⟨l, ks', rfl, rfl, fun e => (h0 e).2, fun e => (h1 e).2, hl, ?_⟩
    rw [h]
    unfold partsR
    rfl
  | m, t :: ts, [], ks, ks', cur, r, ht, hl, h0, h1, h => by
    exfalso
    unfold rawL at ht
    obtain ⟨c, x, e, hc⟩ := tagR t ht.1
    rw [show partsR [] m ks' = [] by unfold partsR; rfl] at h
    unfold partsR at h
    rw [e] at h
    cases m
    · simp at h; exact hc h.1.symm
    · simp at h
  | m, t :: ts, u :: us, ks, ks', cur, r, ht, hl, h0, h1, h => by
    unfold rawL at ht hl
    unfold partsR at h
    cases m
    · obtain ⟨rfl, rfl⟩ := h0 rfl
      simp only [Bool.false_eq_true, if_false, List.nil_append, List.append_assoc, List.tail_nil] at h
      obtain ⟨rfl, h2⟩ := keyR_inj u t _ _ hl.1 ht.1 h
      obtain ⟨l2, ks2, e1, e2, e3, e4, e5, e6⟩ := parts_split false ts us [] [] cur r ht.2 hl.2 (by simp) (by simp) h2
      exact ⟨l2, ks2, by rw [e1]; rfl, e2, e3, e4, e5, e6⟩
    · obtain ⟨a1, a2⟩ := h1 rfl
      match ks, ks', a1, a2, h with
      | k :: ks, k' :: ks', a1, a2, h =>
        simp only [if_true, List.headD_cons, List.tail_cons, List.cons_append, List.append_assoc] at h
        injection h with _ h
        obtain ⟨hk, h2⟩ := end_inj h
        obtain rfl := bytes_eq hk
        obtain ⟨rfl, h3⟩ := keyR_inj u t _ _ hl.1 ht.1 h2
        obtain ⟨l2, ks2, e1, e2, e3, e4, e5, e6⟩ := parts_split true ts us ks ks' cur r ht.2 hl.2 (by simp) (fun _ => ⟨by simpa using a1, by simpa using a2⟩) h3
        exact ⟨l2, ks2, by rw [e1]; rfl, by rw [e2]; rfl, e3, e4, e5, e6⟩
/-! ### What the calls come to -/
def ZV : Value := .agg #[.int .i64 0, .bool false, .int .i64 0, .string ⟨#[]⟩, .slice none 0 0, .slice none 0 0]
/-- The blocks that a call has made. -/
def Made (w w' : World) : Nat → Prop := fun k => w.heap.size ≤ k ∧ k < w'.heap.size
def ValPost (R : Nat) (s : ByteArray) (p : Nat) (w : World) (e : Ending) (w' : World) : Prop :=
  Keeps (· = R) w w' ∧ ((∃ t v s', e = .returned (.tuple #[v, .bool true]) ∧ rawV t ∧ VT.Own w' t (Made w w') v ∧ s.data.toList = keyR t ++ s'.data.toList ∧ RdAt w' R s' ((p + t.parts : Nat) : Int) ∧ p + t.parts ≤ 4096) ∨
    ((∃ (k : Int) (b : Bool) (n : Int) (x : ByteArray) (pl : Option Addr) (nl cl : Nat) (pk : Option Addr) (nk ck : Nat), e = .returned (.tuple #[.agg #[.int .i64 k, .bool b, .int .i64 n, .string x, .slice pl nl cl, .slice pk nk ck], .bool false])) ∧ ∀ t r, rawV t → p + t.parts ≤ 4096 → s.data.toList ≠ keyR t ++ r))
def ValIH (N : Nat) : Prop := ∀ (R : Nat) (s : ByteArray) (p : Nat) (w : World), RdAt w R s (p : Int) → 4096 - p ≤ N → p ≤ 4096 → s.size ≤ 1073741824 → MaxAt w → 0 ≠ R → Calls Tryd.prog 28 #[.pointer (some ⟨R, 0, none⟩)] w (ValPost R s p w)
def ListPost (R : Nat) (s : ByteArray) (p : Nat) (w : World) (e : Ending) (w' : World) : Prop :=
  Keeps (· = R) w w' ∧ ((∃ ts v s', e = .returned (.tuple #[v, .bool true]) ∧ rawL ts ∧ VT.Own w' (.mk 4 false 0 ⟨#[]⟩ ts []) (Made w w') v ∧ s.data.toList = partsR ts false [] ++ ([0] ++ s'.data.toList) ∧ RdAt w' R s' ((p + VT.partsL ts : Nat) : Int) ∧ p + VT.partsL ts ≤ 4096) ∨
    (e = .returned (.tuple #[ZV, .bool false]) ∧ ∀ ts r, rawL ts → p + VT.partsL ts ≤ 4096 → s.data.toList ≠ partsR ts false [] ++ ([0] ++ r)))
theorem MaxAt.keeps {w w' : World} {R : Nat} (h : MaxAt w) (hk : Keeps (· = R) w w') (hR : 0 ≠ R) : MaxAt w' := by
  obtain ⟨m, hm⟩ := h
  exact ⟨m, (hk.cell (p := ⟨0, 0, none⟩) (World.block_lt_of_cell? _ _ hm) hR).trans hm⟩
theorem box_keeps {w w' : World} {R A : Nat} {cs : Array Value} (h : Box w A cs) (hk : Keeps (· = R) w w') (hA : A ≠ R) : Box w' A cs := (hk.block _ h.lt hA).trans h
structure LRel (R : Nat) (s : ByteArray) (p : Nat) (w : World) (ts : List VT) (cur : ByteArray) (lv : Value) (xs : List Value) (wr : World) : Prop where
  rd : RdAt wr R cur ((p + VT.partsL ts : Nat) : Int)
  text : s.data.toList = partsR ts false [] ++ cur.data.toList
  raw : rawL ts
  le : p + VT.partsL ts ≤ 4096
  box0 : Box wr w.heap.size #[.int .i64 0, .bool false, .int .i64 0, .string ⟨#[]⟩, .slice none 0 0, .slice none 0 0]
  box1 : Box wr (w.heap.size + 1) #[.int .i64 4, .bool false, .int .i64 0, .string ⟨#[]⟩, lv, .slice none 0 0]
  row : RowW (w.heap.size + 2) (fun _ => False) ts wr lv xs
  keeps : Keeps (· = R) w wr
theorem info26 : (Tryd.prog.info? 26).map (fun i => (i.zero, i.size, i.bytes)) = some (some (.agg #[.int .i64 0, .bool false, .int .i64 0, .string ⟨#[]⟩, .slice none 0 0, .slice none 0 0]), 6, 88) := by kernel_rfl
theorem six_cells (V : World) (v0 v1 v2 v3 v4 v5 : Value) : ∀ q u, ([v0, v1, v2, v3, v4, v5] : List Value)[q]? = some u → (V.alloc (.cells #[v0, v1, v2, v3, v4, v5] 26)).cell? ((⟨V.heap.size, 0, none⟩ : Addr).add q) = some u := fun q u hu => by
  rw [Go.WideShapes.add_plain, Nat.zero_add]
  exact VT.cell_of (World.alloc_heap_new V _) (by simpa using hu)
theorem six_one (k n : Int) (b : Bool) (x : ByteArray) (pl pk : Option Addr) (nl cl nk ck : Nat) : ∀ u ∈ ([.int .i64 k, .bool b, .int .i64 n, .string x, .slice pl nl cl, .slice pk nk ck] : List Value), u.oneCell' = true := by
  intro u hu
  simp only [List.mem_cons, List.not_mem_nil, or_false] at hu
  rcases hu with rfl | rfl | rfl | rfl | rfl | rfl <;> rfl
theorem own_list {R b : Nat} {w w1 w2 : World} {k : Int} {ts : List VT} {lv : Value} {xs : List Value} (hrow : RowW b (fun _ => False) ts w1 lv xs) (hb : w.heap.size ≤ b) (hk : Keeps (· = w.heap.size) w1 w2) (hbb : w.heap.size < b) :
    VT.Own w2 (.mk k false 0 ⟨#[]⟩ ts []) (Made w w2) (.agg #[.int .i64 k, .bool false, .int .i64 0, .string ⟨#[]⟩, lv, .slice none 0 0]) := by
  obtain ⟨pl, cl, rfl, h1, h2, h3⟩ := hrow.slice
  have hsz := hk.size
  unfold VT.Own
  refine ⟨pl, cl, none, 0, rfl, h1, h2, Nat.le_refl _, by unfold maxLen; omega, fun h => absurd h (by simp), fun h0 => ?_⟩
  obtain ⟨g, cs, e, hg, hlt, _, hc, hz, hL⟩ := h3 h0
  have hX : ¬ (g = w.heap.size) := by omega
  refine ⟨g, fun j => b ≤ j ∧ j < w1.heap.size ∧ j ≠ g, e, ⟨by omega, by omega⟩, ⟨cs, (hk.block g hlt hX).trans hc, hz⟩, fun j hj => ⟨⟨by omega, by omega⟩, hj.2.2, fun ep => by cases ep⟩, ?_⟩
  exact VT.OwnL.keeps hk (fun i _ => hk.cell (p := ⟨g, i, none⟩) hlt hX) (VT.OwnL.more (fun j hj => ⟨hj.1, hj.2.1, hj.2.2.1⟩) hL) (fun j hj => ⟨hj.2.1, by omega⟩)
end Rk
end Go.Proofs.YtepfihanhdinfaaDoor
