/- The reader of keys: where it stands, a byte. -/
import Derived.Test.YtepfihanhdinfaaDoorRkRef
namespace Go.Proofs.YtepfihanhdinfaaDoor
open Go.RowKit
set_option linter.unusedVariables false
set_option linter.unusedSimpArgs false
namespace Rk
open Val (VT Keeps Box)
/-- The reader in block R has the text s ahead, and has gone over p parts. -/
def RdAt (w : World) (R : Nat) (s : ByteArray) (p : Int) : Prop := w.heap[R]? = some (.cells #[.string s, .int .i64 p] 52 (0, 0))
theorem RdAt.lt {w : World} {R : Nat} {s : ByteArray} {p : Int} (h : RdAt w R s p) : R < w.heap.size := (Array.getElem?_eq_some_iff.1 h).1
theorem RdAt.cell {w : World} {R : Nat} {s : ByteArray} {p : Int} (h : RdAt w R s p) : w.cell? ⟨R, 0, none⟩ = some (.string s) ∧ w.cell? ⟨R, 1, none⟩ = some (.int .i64 p) ∧ w.frozen? ⟨R, 0, none⟩ = false ∧ w.frozen? ⟨R, 1, none⟩ = false := by
  unfold RdAt at h
  exact ⟨by simp [World.cell?, h], by simp [World.cell?, h], by simp [World.frozen?, h], by simp [World.frozen?, h]⟩
theorem RdAt.alloc {w : World} {R : Nat} {s : ByteArray} {p : Int} (h : RdAt w R s p) (o : Obj) : RdAt (w.alloc o) R s p := (Below.heap_alloc w o R h.lt).trans h
theorem RdAt.new (w : World) (s : ByteArray) (p : Int) : RdAt (w.alloc (.cells #[.string s, .int .i64 p] 52)) w.heap.size s p := World.alloc_heap_new w _
theorem RdAt.set0 {w : World} {R : Nat} {s : ByteArray} {p : Int} (h : RdAt w R s p) (s' : ByteArray) : RdAt (w.setCell ⟨R, 0, none⟩ (.string s')) R s' p := by
  unfold RdAt at h ⊢
  simp [World.setCell, Array.getElem?_modify, h]
theorem RdAt.set1 {w : World} {R : Nat} {s : ByteArray} {p : Int} (h : RdAt w R s p) (p' : Int) : RdAt (w.setCell ⟨R, 1, none⟩ (.int .i64 p')) R s p' := by
  unfold RdAt at h ⊢
  simp [World.setCell, Array.getElem?_modify, h]
theorem RdAt.far {w : World} {R : Nat} {s : ByteArray} {p : Int} (h : RdAt w R s p) {q : Addr} (hp : R ≠ q.block) (u : Value) : RdAt (w.setCell q u) R s p := (Below.heap_setCell w q u R hp).trans h
theorem RdAt.below {w w' : World} {R B : Nat} {s : ByteArray} {p : Int} (h : RdAt w R s p) (hb : Below B w w') (hB : R < B) : RdAt w' R s p := (hb.block R hB).trans h
theorem empty_of {s : ByteArray} (h : s.size = 0) : s = ByteArray.empty := ByteArray.size_eq_zero_iff.1 h
theorem toList_ne (s : ByteArray) (h : 0 < s.size) : s.toList.isEmpty = false := by
  rw [ByteArray.toList_eq]
  have : s.data.toList.length = s.size := by simp
  cases hl : s.data.toList with
  | nil => rw [hl] at this; simp at this; omega
  | cons a l => rfl
theorem toList_e : ByteArray.empty.toList.isEmpty = true := by rw [ByteArray.toList_eq]; rfl
set_option maxRecDepth 100000 in
theorem octet_none (R : Nat) (p : Int) (w : World) (h : RdAt w R ByteArray.empty p) : Calls Tryd.prog 46 #[.pointer (some ⟨R, 0, none⟩)] w fun e w' => e = .returned (.tuple #[.int .u8 0, .bool false]) ∧ w' = w := by
  obtain ⟨c0, c1, f0, f1⟩ := h.cell
  clear h
  go_enter Tryd.func46, Tryd.ntmps46
  go_wp2
  go_ret2
  exact ⟨rfl, rfl⟩
set_option maxRecDepth 100000 in
theorem octet_some (R : Nat) (s : ByteArray) (p : Int) (w : World) (h : RdAt w R s p) (hs : 0 < s.size) (hl : s.size ≤ 4611686018427387904) : Calls Tryd.prog 46 #[.pointer (some ⟨R, 0, none⟩)] w fun e w' => e = .returned (.tuple #[.int .u8 ((s[0]'hs).toNat : Int), .bool true]) ∧ RdAt w' R (s.extract 1 s.size) p ∧ Keeps (· = R) w w' := by
  have hne : s.toList.isEmpty = false := toList_ne s hs
  have hsi : 0 < (s.size : Int) := by omega
  have hsl : (s.size : Int) ≤ 4611686018427387904 := by omega
  obtain ⟨c0, c1, f0, f1⟩ := h.cell
  have H := Lib.hid h
  clear h
  go_enter Tryd.func46, Tryd.ntmps46
  go_wp2
  go_ret2
  exact ⟨rfl, H.out.set0 _, (Keeps.refl (· = R) w).setCell (.inl rfl) _⟩
theorem box_free {w : World} {b : Nat} {cs : Array Value} (h : Box w b cs) (i : Nat) : w.frozen? ⟨b, i, none⟩ = false := by
  unfold Box at h
  simp [World.frozen?, h]
/-- A whole value is stored. -/
def six (w : World) (A : Nat) (d0 d1 d2 d3 d4 d5 : Value) : World := ((((((w.setCell ⟨A, 0, none⟩ d0).setCell ⟨A, 1, none⟩ d1).setCell ⟨A, 2, none⟩ d2).setCell ⟨A, 3, none⟩ d3).setCell ⟨A, 4, none⟩ d4).setCell ⟨A, 5, none⟩ d5)
theorem Box.six {w : World} {A : Nat} {c0 c1 c2 c3 c4 c5 : Value} (h : Box w A #[c0, c1, c2, c3, c4, c5]) (d0 d1 d2 d3 d4 d5 : Value) : Box (six w A d0 d1 d2 d3 d4 d5) A #[d0, d1, d2, d3, d4, d5] := by
  unfold Box at h ⊢
  unfold Rk.six
  simp [World.setCell, Array.getElem?_modify, h]
theorem Keeps.six {X : Nat → Prop} {a w : World} {A : Nat} (h : Keeps X a w) (hA : X A ∨ a.heap.size ≤ A) (d0 d1 d2 d3 d4 d5 : Value) : Keeps X a (six w A d0 d1 d2 d3 d4 d5) :=
  (((((h.setCell (p := ⟨A, 0, none⟩) hA d0).setCell (p := ⟨A, 1, none⟩) hA d1).setCell (p := ⟨A, 2, none⟩) hA d2).setCell (p := ⟨A, 3, none⟩) hA d3).setCell (p := ⟨A, 4, none⟩) hA d4).setCell (p := ⟨A, 5, none⟩) hA d5
theorem RdAt.six {w : World} {R A : Nat} {s : ByteArray} {p : Int} (h : RdAt w R s p) (hA : R ≠ A) (d0 d1 d2 d3 d4 d5 : Value) : RdAt (six w A d0 d1 d2 d3 d4 d5) R s p :=
  (((((h.far (q := ⟨A, 0, none⟩) hA d0).far (q := ⟨A, 1, none⟩) hA d1).far (q := ⟨A, 2, none⟩) hA d2).far (q := ⟨A, 3, none⟩) hA d3).far (q := ⟨A, 4, none⟩) hA d4).far (q := ⟨A, 5, none⟩) hA d5
theorem RdAt.keeps {w w' : World} {R : Nat} {s : ByteArray} {p : Int} (h : RdAt w R s p) (o : Obj) (v : Value) (q : Addr) (hq : R ≠ q.block) : RdAt ((w.alloc o).setCell q v) R s p := (h.alloc o).far hq v
set_option maxRecDepth 100000 in
set_option maxHeartbeats 4000000 in
/-- The reader reads the truth of the small example. -/
theorem value_truth (R : Nat) (w : World) (h : RdAt w R ⟨#[6, 1]⟩ 0) : Calls Tryd.prog 28 #[.pointer (some ⟨R, 0, none⟩)] w fun e w' => e = .returned (.tuple #[.agg #[.int .i64 1, .bool true, .int .i64 0, .string ⟨#[]⟩, .slice none 0 0, .slice none 0 0], .bool true]) ∧ RdAt w' R ByteArray.empty 1 ∧ Keeps (· = R) w w' := by
  obtain ⟨c0, c1, f0, f1⟩ := h.cell
  have hlt := h.lt
  have hne : ¬ R = w.heap.size := by omega
  have H := Lib.hid h
  have O1 : Hid (∀ V, RdAt V R ⟨#[6, 1]⟩ 1 → Calls Tryd.prog 46 #[.pointer (some ⟨R, 0, none⟩)] V fun e w' => e = .returned (.tuple #[.int .u8 6, .bool true]) ∧ RdAt w' R ⟨#[1]⟩ 1 ∧ Keeps (· = R) V w') := Lib.hid (fun V hV => octet_some R ⟨#[6, 1]⟩ 1 V hV (by decide) (by decide))
  have O2 : Hid (∀ V, RdAt V R ⟨#[1]⟩ 1 → Calls Tryd.prog 46 #[.pointer (some ⟨R, 0, none⟩)] V fun e w' => e = .returned (.tuple #[.int .u8 1, .bool true]) ∧ RdAt w' R ByteArray.empty 1 ∧ Keeps (· = R) V w') := Lib.hid (fun V hV => octet_some R ⟨#[1]⟩ 1 V hV (by decide) (by decide))
  clear h
  go_enter Tryd.func28, Tryd.ntmps28
  have HR1 : Hid (∀ o, RdAt ((w.setCell ⟨R, 1, none⟩ (.int .i64 1)).alloc o) R ⟨#[6, 1]⟩ 1) := Lib.hid fun o => (H.out.set1 1).alloc o
  have HK1 : Hid (∀ o, Keeps (· = R) w ((w.setCell ⟨R, 1, none⟩ (.int .i64 1)).alloc o)) := Lib.hid fun o => ((Keeps.refl (· = R) w).setCell (.inl rfl) _).alloc o
  go_wp2_with fail
  refine (O1.out _ (HR1.out _)).mono ?_
  rintro e w1 ⟨rfl, h1, k1⟩
  have hbx : Box ((w.setCell ⟨R, 1, none⟩ (.int .i64 1)).alloc (.cells #[.int .i64 0, .bool false, .int .i64 0, .string ⟨#[]⟩, .slice none 0 0, .slice none 0 0] 26)) w.heap.size #[.int .i64 0, .bool false, .int .i64 0, .string ⟨#[]⟩, .slice none 0 0, .slice none 0 0] := by
    have := Box.new (w.setCell ⟨R, 1, none⟩ (.int .i64 1)) #[.int .i64 0, .bool false, .int .i64 0, .string ⟨#[]⟩, .slice none 0 0, .slice none 0 0]
    simpa [World.setCell] using this
  have hbx1 : Box w1 w.heap.size #[.int .i64 0, .bool false, .int .i64 0, .string ⟨#[]⟩, .slice none 0 0, .slice none 0 0] := (k1.block _ hbx.lt (by omega)).trans hbx
  have HK2 := Lib.hid ((HK1.out _).trans k1)
  have HB1 := Lib.hid hbx1
  have H1 := Lib.hid h1
  clear h1 k1 hbx hbx1 HR1 HK1
  go_wp2_with fail
  refine (O2.out _ H1.out).mono ?_
  rintro e w2 ⟨rfl, h2, k2⟩
  have hbx2 : Box w2 w.heap.size #[.int .i64 0, .bool false, .int .i64 0, .string ⟨#[]⟩, .slice none 0 0, .slice none 0 0] := (k2.block _ HB1.out.lt (by omega)).trans HB1.out
  have HK3 := Lib.hid (HK2.out.trans k2)
  have HB2 := Lib.hid hbx2
  have H2 := Lib.hid h2
  have hf2 := fun i => box_free hbx2 i
  obtain ⟨b0, b1, b2, b3, b4, b5⟩ := hbx2.cell
  clear h2 k2 hbx2
  have HE : Hid (Box (six w2 w.heap.size (.int .i64 1) (.bool true) (.int .i64 0) (.string ⟨#[]⟩) (.slice none 0 0) (.slice none 0 0)) w.heap.size #[.int .i64 1, .bool true, .int .i64 0, .string ⟨#[]⟩, .slice none 0 0, .slice none 0 0]) := Lib.hid (Box.six HB2.out _ _ _ _ _ _)
  go_wp2
  obtain ⟨q0, q1, q2, q3, q4, q5⟩ := HE.out.cell
  unfold six at q0 q1 q2 q3 q4 q5
  exact bodyPost_ret (v := .tuple #[.agg #[.int .i64 1, .bool true, .int .i64 0, .string ⟨#[]⟩, .slice none 0 0, .slice none 0 0], .bool true]) (by simp [results, Tryd.results28, go_sem, q0, q1, q2, q3, q4, q5]) rfl ⟨rfl, H2.out.six hne _ _ _ _ _ _, Keeps.six HK3.out (.inr (Nat.le_refl _)) _ _ _ _ _ _⟩
end Rk
end Go.Proofs.YtepfihanhdinfaaDoor
