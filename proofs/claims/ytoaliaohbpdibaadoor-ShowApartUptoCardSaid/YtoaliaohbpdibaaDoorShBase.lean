/- Show: the call's own row of bytes, and the small functions that write behind it. -/
import Derived.Test.YtoaliaohbpdibaaDoorRows
import Derived.Test.YtoaliaohbpdibaaDoorShelf
import Derived.Test.YtoaliaohbpdibaaDoorShPlain
import Derived.WalkKit
import Derived.Lib.Hide
import Derived.Lib.OthersKept
import Derived.WalkSpells
import Derived.WalkLawsBesides
import Derived.Outline
import Derived.StillTailTactics
import Derived.Deep.Cut
import Derived.Deep.RegionLaw
import Derived.Deep.AppendLies
import Derived.Deep.QuietTactic
import Derived.BigQuiet
import Derived.Lib.BufferWrite
import Derived.Laws.BytesArg
import Derived.Laws.AppendOwnNone
namespace Go.Proofs.YtoaliaohbpdibaaDoor
open Go.RowKit
set_option linter.unusedVariables false
set_option linter.unusedSimpArgs false
namespace Sh
theorem infoB : (Tryd.prog.info? 5).map (fun i => (i.zero, i.size, i.bytes)) = some (some (.int .u8 0), 1, 1) := by kernel_rfl
/-- The call's own row of bytes. -/
def Buf (B : Nat) (w : World) (v : Value) (bs : List UInt8) : Prop := w.ownsRow B 5 1 v bs.length (Lib.byteCells bs)
/-- Block D is a row of one byte. -/
def One (w : World) (D : Nat) (x : Value) : Prop := w.heap[D]? = some (.cells #[x] 5 (0, 0))
/-- Rows of one byte that are not the own one stay, if that has a byte. -/
def OneK (v : Value) (n : Nat) (w w' : World) : Prop := 1 ≤ n → ∀ D x, One w D x → v.ownBlock ≠ some D → One w' D x
/-- What a call that writes behind such a row comes to. -/
def RowPost (B : Nat) (w : World) (v : Value) (n : Nat) (bs : List UInt8) (e : Ending) (w' : World) : Prop :=
  ∃ v', e = .returned v' ∧ Buf B w' v' bs ∧ Below B w w' ∧ Lib.OthersKept 5 none w w' ∧ OneK v n w w'
theorem Buf.ne_one {B : Nat} {w : World} {v : Value} {bs : List UInt8} (h : Buf B w v bs) (h2 : 2 ≤ bs.length) {D : Nat} {x : Value} (hD : One w D x) : v.ownBlock ≠ some D := by
  intro hv
  rcases h.2 with ⟨_, hn⟩ | ⟨g, cap, cur, rfl, _, hgg, hl, _, hc, _⟩
  · omega
  · simp [Value.ownBlock] at hv
    subst hv
    unfold One at hD
    rw [hgg] at hD
    simp only [Option.some.injEq, Obj.cells.injEq] at hD
    rw [hD.1] at hc
    simp at hc
    omega
theorem OneK.grown {v : Value} {n : Nat} {w w1 : World} {o : Obj} (hg : (w.alloc o).grownBy w1 v.ownBlock) : OneK v n w w1 := fun _ D x hD hne => by
  have hlt : D < w.heap.size := (Array.getElem?_eq_some_iff.1 hD).1
  have h1 := hg.block D (by simp; omega) (fun e => hne e.symm)
  unfold One at hD ⊢
  rw [h1, Below.heap_alloc w o D hlt]
  exact hD
theorem Buf.nil (B : Nat) (w : World) : Buf B w (.slice none 0 0) [] := World.ownsRow_nil _ _ _ _
theorem Buf.kind {B : Nat} {w : World} {v : Value} {bs : List UInt8} (h : Buf B w v bs) : ∀ g, v.ownBlock = some g → ∃ c fz, w.heap[g]? = some (.cells c 5 fz) := by
  intro g hg
  rcases h.2 with ⟨rfl, _⟩ | ⟨g', cap, cur, rfl, _, hgg, _⟩
  · simp [Value.ownBlock] at hg
  · simp [Value.ownBlock] at hg
    subst hg
    exact ⟨cur, _, hgg⟩
/-- Behind one new block, and an append to the own row. -/
theorem Buf.grown {B : Nat} {w w1 : World} {v : Value} {bs : List UInt8} (h : Buf B w v bs) (hB : B ≤ w.heap.size) {o : Obj} (hg : (w.alloc o).grownBy w1 v.ownBlock) :
    Below B w w1 ∧ Lib.OthersKept 5 none w w1 := by
  have h1 : Buf B (w.alloc o) v bs := World.ownsRow.alloc h o
  refine ⟨((Below.refl B w).alloc hB o).grown hg (by simp; omega) (fun k hk => (World.ownsRow.lt h k hk).1), ((Lib.OthersKept.refl _ _ w).alloc o).grown hg h1.kind⟩
theorem Buf.drew {B : Nat} {w : World} {v : Value} {bs : List UInt8} (h : Buf B w v bs) : Buf B w.drew v bs := h
theorem Buf.iterAt {B : Nat} {w : World} {v : Value} {bs : List UInt8} (h : Buf B w v bs) {k : Nat} {s : ByteArray} {pos : Nat} (hk : w.heap[k]? = some (.stringIter s pos)) (pos' : Nat) : Buf B (w.iterAt k s pos') v bs := by
  refine ⟨h.1, ?_⟩
  rcases h.2 with hn | ⟨g, cap, cur, hv, hb, hg, rest⟩
  · exact .inl hn
  · have hkg : g ≠ k := by
      intro e1
      rw [e1, hk] at hg
      cases hg
    exact .inr ⟨g, cap, cur, hv, hb, (Lib.iterAt_other w k g s pos' hkg).trans hg, rest⟩
theorem Buf.append {B : Nat} {w : World} {v : Value} {bs new : List UInt8} {n : Nat} {xs : List Value} (h : w.ownsRow B 5 1 v n xs) (hn : n = (bs ++ new).length) (hx : xs = Lib.byteCells (bs ++ new)) : Buf B w v (bs ++ new) := by
  unfold Buf; rw [← hn, ← hx]; exact h
/-- A sign is written behind. -/
theorem appendRune_any (B : Nat) (v : Value) (bs : List UInt8) (r : Int) (h0 : -2147483648 ≤ r) (h1 : r ≤ 2147483647) (w : World) (h : Buf B w v bs) (hlen : bs.length + 4 ≤ 140737488355328) (hB : B ≤ w.heap.size) :
    Calls Tryd.prog 23 #[v, .int .i32 r] w fun e w' => RowPost B w v bs.length (bs ++ Lib.encodeRune r) e w' :=
  (Tryd.utf8_AppendRune_plain B v bs.length (Lib.byteCells bs) r h0 h1 w h hlen hB).mono fun e w' ⟨v', he, ho, o, hg⟩ =>
    ⟨v', he, Buf.append ho (by rw [List.length_append, Lib.runeCells_length]) (by rw [Lib.byteCells_append, Lib.byteCells_encodeRune]), (h.grown hB hg).1, (h.grown hB hg).2, OneK.grown hg⟩
/-- Does a sign stand bare? -/
theorem bare_any (r : Nat) (s : ByteArray) (w : World) (hr : r ≤ 2147483647) :
    Calls Tryd.prog 22 #[.int .i32 (r : Int), .string s] w fun e w' => e = .returned (.bool (bareR r s.data.toList)) ∧ w = w' := by
  by_cases h1 : r < 32 ∨ r = 127 ∨ r = 92 ∨ r = 39
  · have e : bareR r s.data.toList = false := by unfold bareR; rw [if_pos h1]
    rw [e]
    clear e
    go_enter Tryd.func22, Tryd.ntmps22
    go_wp2
    all_goals first | (go_ret; exact ⟨rfl, rfl⟩) | (exfalso; simp at *; omega)
  · by_cases h2 : r = 65533
    · subst h2
      have e : bareR 65533 s.data.toList = Lib.hasPrefix s.data.toList [239, 191, 189] := by unfold bareR; rw [if_neg h1, if_pos rfl]
      rw [e]
      clear e h1
      go_enter Tryd.func22, Tryd.ntmps22
      go_wp2_with (go_at_call 39; refine (Tryd.strings_HasPrefix _ _ _).mono ?_; rintro e w' ⟨rfl, rfl⟩)
      go_ret
      exact ⟨rfl, rfl⟩
    · have e : bareR r s.data.toList = true := by unfold bareR; rw [if_neg h1, if_neg h2]
      rw [e]
      clear e
      go_enter Tryd.func22, Tryd.ntmps22
      go_wp2
      all_goals first | (go_ret; exact ⟨rfl, rfl⟩) | (exfalso; simp at *; omega)
end Sh
end Go.Proofs.YtoaliaohbpdibaaDoor
