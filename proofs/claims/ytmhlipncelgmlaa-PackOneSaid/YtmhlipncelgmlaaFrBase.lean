/- Frame: bytes that came in, rows of bytes of the call's own, and what a call may turn. -/
import Derived.Test.YtmhlipncelgmlaaRows
import Derived.Test.YtmhlipncelgmlaaSeq
import Derived.WalkKit
import Derived.Lib.Hide
import Derived.OwnWalk
import Derived.Lib.UnsafeStr
import Derived.Lib.BufferWrite
import Derived.Deep.AppendLies
import Derived.Laws.OwnMore
import Derived.Laws.AppendOwnNone
import Derived.WalkSpells
import Derived.WalkLawsBesides
import Derived.Outline
namespace Go.Proofs.Ytmhlipncelgmlaa
open Go.RowKit
set_option linter.unusedVariables false
set_option linter.unusedSimpArgs false
namespace Fr
theorem infoB : (Try.prog.info? 5).map (fun i => (i.zero, i.size, i.bytes)) = some (some (.int .u8 0), 1, 1) := by kernel_rfl
/-- What a call keeps: all but the blocks X. -/
structure Keeps (X : Nat → Prop) (w w' : World) : Prop where
  os : w'.os = w.os
  tape : w'.tape = w.tape
  output : w'.output = w.output
  size : w.heap.size ≤ w'.heap.size
  block : ∀ k, k < w.heap.size → ¬ X k → w'.heap[k]? = w.heap[k]?
namespace Keeps
variable {X Y : Nat → Prop} {a b c w w' : World}
theorem refl (X : Nat → Prop) (w : World) : Keeps X w w := ⟨rfl, rfl, rfl, Nat.le_refl _, fun _ _ _ => rfl⟩
theorem join (h : Keeps X a b) (k : Keeps Y b c) (hY : ∀ i, Y i → i < a.heap.size → X i) : Keeps X a c :=
  ⟨k.os.trans h.os, k.tape.trans h.tape, k.output.trans h.output, Nat.le_trans h.size k.size, fun i hi hx => (k.block i (Nat.lt_of_lt_of_le hi h.size) (fun y => hx (hY i y hi))).trans (h.block i hi hx)⟩
theorem trans (h : Keeps X a b) (k : Keeps X b c) : Keeps X a c := h.join k fun _ x _ => x
theorem mono (h : Keeps X a b) (hx : ∀ k, X k → k < a.heap.size → Y k) : Keeps Y a b := ⟨h.os, h.tape, h.output, h.size, fun k hk hy => h.block k hk fun x => hy (hx k x hk)⟩
theorem below {B : Nat} (h : Keeps X a b) (hx : ∀ k, X k → B ≤ k) (hB : B ≤ a.heap.size) : Below B a b :=
  ⟨h.os, h.tape, h.output, h.size, fun k hk => h.block k (Nat.lt_of_lt_of_le hk hB) fun x => by have := hx k x; omega⟩
theorem of_below (h : Below a.heap.size a b) : Keeps X a b := ⟨h.os, h.tape, h.output, h.size, fun k hk _ => h.block k hk⟩
theorem alloc (h : Keeps X a b) (o : Obj) : Keeps X a (b.alloc o) := h.trans (of_below ((Below.refl _ _).alloc (Nat.le_refl _) _))
theorem drew (h : Keeps X a b) : Keeps X a b.drew := ⟨h.os, h.tape, h.output, h.size, h.block⟩
theorem setCell (h : Keeps X a b) {p : Addr} (hp : X p.block ∨ a.heap.size ≤ p.block) (v : Value) : Keeps X a (b.setCell p v) :=
  ⟨h.os, h.tape, h.output, by simpa [World.setCell] using h.size, fun k hk hx => (Below.heap_setCell b p v k (by rintro rfl; rcases hp with hp | hp; exact hx hp; omega)).trans (h.block k hk hx)⟩
theorem grown {row : Option Nat} (h : Keeps X a b) (hg : b.grownBy c row) (hr : ∀ k, row = some k → X k ∨ a.heap.size ≤ k) : Keeps X a c :=
  ⟨hg.os.trans h.os, hg.tape.trans h.tape, hg.output.trans h.output, Nat.le_trans h.size hg.size, fun k hk hx => (hg.block k (Nat.lt_of_lt_of_le hk h.size) (fun e => by rcases hr k e.symm with hp | hp; exact hx hp; omega)).trans (h.block k hk hx)⟩
theorem cell {p : Addr} (h : Keeps X a b) (hp : p.block < a.heap.size) (hx : ¬ X p.block) : b.cell? p = a.cell? p := World.cell?_of_block (h.block _ hp hx)
end Keeps
/-- Bytes that lie at p, in no block of X. -/
def Src (w : World) (X : Nat → Prop) (p : Option Addr) (bs : List UInt8) : Prop :=
  0 < bs.length → ∃ a, p = some a ∧ a.block < w.heap.size ∧ ¬ X a.block ∧ ∀ j u, (Lib.byteCells bs)[j]? = some u → w.cell? (a.add j) = some u
theorem Src.keeps {X X' Y : Nat → Prop} {w w' : World} {p : Option Addr} {bs : List UInt8} (h : Src w X p bs) (hk : Keeps Y w w') (hY : ∀ k, Y k → k < w.heap.size → X k) (hX : ∀ k, X' k → k < w.heap.size → X k) : Src w' X' p bs := fun h0 => by
  obtain ⟨a, e, hb, hx, hc⟩ := h h0
  refine ⟨a, e, Nat.lt_of_lt_of_le hb hk.size, fun x => hx (hX _ x hb), fun j u hu => ?_⟩
  have hbl : (a.add j).block = a.block := by unfold Addr.add; split <;> rfl
  rw [hk.cell (p := a.add j) (by rw [hbl]; exact hb) (fun y => hx (hY _ (by rw [hbl] at y; exact y) hb))]
  exact hc j u hu
theorem Src.take {X : Nat → Prop} {w : World} {p : Option Addr} {bs : List UInt8} (h : Src w X p bs) (n : Nat) : Src w X p (bs.take n) := fun h0 => by
  rw [List.length_take] at h0
  obtain ⟨a, e, hb, hx, hc⟩ := h (by omega)
  refine ⟨a, e, hb, hx, fun j u hu => hc j u ?_⟩
  unfold Lib.byteCells at hu ⊢
  rw [List.map_take, List.getElem?_take] at hu
  split at hu
  · exact hu
  · cases hu
/-- The address behind n bytes, as the model tells it. -/
def behind (p : Option Addr) (c n : Nat) : Option Addr := if c = n then p else p.map (fun x => x.add n)
theorem Src.drop {X : Nat → Prop} {w : World} {p : Option Addr} {bs : List UInt8} {c : Nat} (h : Src w X p bs) (n : Nat) (hc : bs.length ≤ c) : Src w X (behind p c n) (bs.drop n) := fun h0 => by
  rw [List.length_drop] at h0
  obtain ⟨a, e, hb, hx, hcell⟩ := h (by omega)
  have hbl : (a.add n).block = a.block := by unfold Addr.add; split <;> rfl
  refine ⟨a.add n, ?_, by rw [hbl]; exact hb, by rw [hbl]; exact hx, fun j u hu => ?_⟩
  · unfold behind
    rw [if_neg (by omega), e]
    rfl
  · rw [Addr.add_add]
    refine hcell (n + j) u ?_
    unfold Lib.byteCells at hu ⊢
    rw [List.map_drop, List.getElem?_drop] at hu
    exact hu
/-- A row of bytes of the call's own. -/
def Buf (B : Nat) (w : World) (v : Value) (bs : List UInt8) : Prop := w.ownsRow B 5 1 v bs.length (Lib.byteCells bs)
theorem Buf.nil (B : Nat) (w : World) : Buf B w (.slice none 0 0) [] := World.ownsRow_nil _ _ _ _
theorem Buf.shape {B : Nat} {w : World} {v : Value} {bs : List UInt8} (h : Buf B w v bs) : ∃ q c, v = .slice q bs.length c ∧ bs.length ≤ c ∧ c ≤ maxLen ∧ (0 < bs.length → ∃ g, q = some ⟨g, 0, none⟩) := by
  rcases h.2 with ⟨rfl, hn⟩ | ⟨g, cap, cur, rfl, hb, hg, hn, hm, hs, -⟩
  · exact ⟨none, 0, by rw [hn], by omega, by unfold maxLen; omega, fun h => absurd h (by omega)⟩
  · exact ⟨some ⟨g, 0, none⟩, cap, rfl, hn, hm, fun _ => ⟨g, rfl⟩⟩
theorem Buf.keeps {B : Nat} {X : Nat → Prop} {w w' : World} {v : Value} {bs : List UInt8} (h : Buf B w v bs) (hk : Keeps X w w') (hX : ∀ g, v.ownBlock = some g → ¬ X g) : Buf B w' v bs := by
  refine ⟨h.1, ?_⟩
  rcases h.2 with hn | ⟨g, cap, cur, hv, hg0, hg, rest⟩
  · exact .inl hn
  · exact .inr ⟨g, cap, cur, hv, hg0, (hk.block g (Array.getElem?_eq_some_iff.1 hg).1 (hX g (by rw [hv]; rfl))).trans hg, rest⟩
theorem Buf.lt {B : Nat} {w : World} {v : Value} {bs : List UInt8} (h : Buf B w v bs) : ∀ g, v.ownBlock = some g → B ≤ g ∧ g < w.heap.size := World.ownsRow.lt h
theorem Buf.alloc {B : Nat} {w : World} {v : Value} {bs : List UInt8} (h : Buf B w v bs) (o : Obj) : Buf B (w.alloc o) v bs := World.ownsRow.alloc h o
/-- The row as a source of bytes. -/
theorem Buf.src {B : Nat} {w : World} {v : Value} {bs : List UInt8} {q : Option Addr} {n c : Nat} {X : Nat → Prop} (h : Buf B w v bs) (hv : v = .slice q n c) (hX : ∀ g, v.ownBlock = some g → ¬ X g) : Src w X q bs := fun h0 => by
  rcases h.2 with ⟨rfl, hn⟩ | ⟨g, cap, cur, rfl, hb, hg, hn, hm, hs, -⟩
  · omega
  · injection hv with e1 e2 e3
    refine ⟨⟨g, 0, none⟩, e1.symm, (Array.getElem?_eq_some_iff.1 hg).1, hX g rfl, fun j u hu => World.ownsRow.cells h rfl j u hu⟩
/-- Whose block a row has later: the same, or a new one. -/
def Heir (w : World) (v v' : Value) : Prop := v'.ownBlock = v.ownBlock ∨ ∀ g, v'.ownBlock = some g → w.heap.size ≤ g
theorem Heir.refl (w : World) (v : Value) : Heir w v v := .inl rfl
theorem Heir.trans {w w1 : World} {v v1 v2 : Value} (h : Heir w v v1) (h2 : Heir w1 v1 v2) (hs : w.heap.size ≤ w1.heap.size) : Heir w v v2 := by
  rcases h2 with h2 | h2
  · rcases h with h | h
    · exact .inl (h2.trans h)
    · exact .inr fun g e => h g (h2 ▸ e)
  · exact .inr fun g e => Nat.le_trans hs (h2 g e)
/-- **BYTES ARE WRITTEN BEHIND A ROW OF ONE'S OWN**, any number of them. -/
theorem run_append_src {B : Nat} {X : Nat → Prop} {w : World} {v : Value} {bs new : List UInt8} {p : Option Addr} {c : Nat} (ty : TypeId) (h : Buf B w v bs) (hs : Src w X p new) (hlen : bs.length + new.length ≤ 140737488355328) (hb : B ≤ w.heap.size) (h63 : bs.length + new.length ≤ maxLen) :
    ∃ v' w', (Builtin.append_ #[27, 27] ty #[v, .slice p new.length c]).run Try.prog w = .ok v' w' ∧ Buf B w' v' (bs ++ new) ∧ w.grownBy w' v.ownBlock ∧ Heir w v v' := by
  obtain ⟨i0, hi0, hz0, hz1, hz2⟩ := info_parts infoB
  rcases Nat.eq_zero_or_pos new.length with h0 | h0
  · obtain rfl := List.eq_nil_of_length_eq_zero h0
    refine ⟨v, w, ?_, by rw [List.append_nil]; exact h, ⟨rfl, rfl, rfl, Nat.le_refl _, fun _ _ _ => rfl⟩, .inl rfl⟩
    rcases h.2 with ⟨rfl, hn⟩ | ⟨g, cap, cur, rfl, _, _, hnc, _⟩
    · rw [List.length_nil]
      cases p <;> simp [Builtin.append_, run_underlying Try.underlying27, sizeOf, typeInfo, hi0, Builtin.lenOf, Builtin.firstCells, loadCells, loadCellsFrom]
    · rw [List.length_nil]
      cases p <;> simp [Builtin.append_, run_underlying Try.underlying27, sizeOf, typeInfo, hi0, Builtin.lenOf, Builtin.firstCells, hnc, storeCells, loadCells, loadCellsFrom]
  · obtain ⟨a, rfl, ha, hx, hc⟩ := hs h0
    obtain ⟨g, cap, w', hr, h2, h3, h4, h5⟩ := run_append_lies (P := Try.prog) w 27 ty B 5 i0 (.int .u8 0) 1 1 Try.underlying27 hi0 hz0 hz1 hz2 rfl (by decide) v bs.length (Lib.byteCells bs) h a new.length c (Lib.byteCells new) (by rw [Lib.byteCells_length, Nat.mul_one]) hc (Lib.byteCells_one new) h0 h63 (by omega) hb w.heap.size rfl
    refine ⟨_, w', hr, ?_, h3, ?_⟩
    · unfold Buf
      rw [List.length_append, Lib.byteCells_append]
      exact h2
    · rcases h4 with h4 | h4
      · exact .inl (by rw [h4]; rfl)
      · exact .inr fun g' e => by
          simp only [Value.ownBlock, Option.some.injEq] at e
          omega
theorem append_shaped {B : Nat} {X : Nat → Prop} {w : World} {v : Value} {bs new : List UInt8} {p : Option Addr} {c N : Nat} (ty : TypeId) (h : Buf B w v bs) (hs : Src w X p new) (hlen : bs.length + new.length ≤ 140737488355328) (hb : B ≤ w.heap.size) (hN : bs.length + new.length = N) :
    ∃ q' c' w', (Builtin.append_ #[27, 27] ty #[v, .slice p new.length c]).run Try.prog w = .ok (.slice q' N c') w' ∧ Buf B w' (.slice q' N c') (bs ++ new) ∧ w.grownBy w' v.ownBlock ∧ Heir w v (.slice q' N c') := by
  obtain ⟨v', w', hr, h2, h3, h4⟩ := run_append_src (c := c) ty h hs hlen hb (by unfold maxLen; omega)
  obtain ⟨q', c', rfl, -⟩ := h2.shape
  rw [List.length_append, hN] at hr h2 h4
  exact ⟨q', c', w', hr, h2, h3, h4⟩
/-- The same, as a step of a region that draws its order. -/
theorem step_append_src {ops : Array Oper} {o : Oper} {a : Act} {K : Act → World → Prop} {Q : Exit → Act → World → Prop} {E : Prop} {w : World} (hgd : o.guard = none) (s x : Operand)
    (ho : o.op = .call { callee := .builtin .append, args := #[s, x], argTypes := #[27, 27] })
    (B : Nat) (X : Nat → Prop) (v : Value) (bs new : List UInt8) (p : Option Addr) (m c N : Nat) (hv : a.eval s = v) (hx : a.eval x = .slice p m c) (hm : m = new.length) (h : Buf B w v bs) (hs : Src w X p new) (hlen : bs.length + new.length ≤ 140737488355328) (hb : B ≤ w.heap.size) (hN : bs.length + new.length = N)
    (hK : ∀ q' c' w', Buf B w' (.slice q' N c') (bs ++ new) → w.grownBy w' v.ownBlock → Heir w v (.slice q' N c') → K (a.put o.dst (.slice q' N c')) w') : if Region.wanted o (yielded ops a.tmps) = true then Oper.wp Try.prog o a w K Q else E := by
  have hw : Region.wanted o (yielded ops a.tmps) = true := by simp [Region.wanted, hgd]
  rw [if_pos hw]
  obtain ⟨q', c', w', hr, h2, h3, h4⟩ := append_shaped (c := c) o.type h hs hlen hb hN
  unfold Oper.wp execOp
  simp only [ho, resolve, invoke, builtin, Sem.run_bind, Sem.run_pure, Result.andThen_ok, List.map_toArray, List.map_cons, List.map_nil, hv, hx, hm, hr]
  exact hK q' c' w' h2 h3 h4
/-- The same, in a plain region. -/
theorem wpList_append_src {ops : Array Oper} {rest : List Oper} {o : Oper} {a : Act} {Q : Exit → Act → World → Prop} {w : World} (hgd : o.guard = none) (s x : Operand)
    (ho : o.op = .call { callee := .builtin .append, args := #[s, x], argTypes := #[27, 27] })
    (B : Nat) (X : Nat → Prop) (v : Value) (bs new : List UInt8) (p : Option Addr) (m c N : Nat) (hv : a.eval s = v) (hx : a.eval x = .slice p m c) (hm : m = new.length) (h : Buf B w v bs) (hs : Src w X p new) (hlen : bs.length + new.length ≤ 140737488355328) (hb : B ≤ w.heap.size) (hN : bs.length + new.length = N)
    (hK : ∀ q' c' w', Buf B w' (.slice q' N c') (bs ++ new) → w.grownBy w' v.ownBlock → Heir w v (.slice q' N c') → wpList Try.prog ops Q rest (a.put o.dst (.slice q' N c')) w') : wpList Try.prog ops Q (o :: rest) a w := by
  obtain ⟨q', c', w', hr, h2, h3, h4⟩ := append_shaped (c := c) o.type h hs hlen hb hN
  refine wpList_plain hgd fun K hk => ?_
  unfold Oper.wp execOp
  simp only [ho, resolve, invoke, builtin, Sem.run_bind, Sem.run_pure, Result.andThen_ok, List.map_toArray, List.map_cons, List.map_nil, hv, hx, hm, hr]
  exact hk _ _ (hK q' c' w' h2 h3 h4)
end Fr
end Go.Proofs.Ytmhlipncelgmlaa
