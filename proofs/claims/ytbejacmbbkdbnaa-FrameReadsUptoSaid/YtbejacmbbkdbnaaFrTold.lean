/- Frame: rows of loads, one behind the other; pieces; the same loads. -/
import Derived.Test.YtbejacmbbkdbnaaFrCat
namespace Go.Proofs.Ytbejacmbbkdbnaa
open Go.RowKit
set_option linter.unusedVariables false
set_option linter.unusedSimpArgs false
namespace Fr
theorem heads_one (L : List Ld) : ∀ u ∈ heads L, u.oneCell' = true := fun u hu => by
  unfold heads at hu
  obtain ⟨e, -, rfl⟩ := List.mem_map.1 hu
  rfl
/-- **A ROW OF SLICES BEHIND ANOTHER ONE**, any number of them. -/
theorem run_append_rows {B B2 : Nat} {w : World} {v v2 : Value} {n n2 : Nat} {xs xs2 : List Value} (ty : TypeId) (h : w.ownsRow B 22 1 v n xs) (h2 : w.ownsRow B2 22 1 v2 n2 xs2) (h1 : ∀ u ∈ xs2, u.oneCell' = true) (hlen : (n + n2) * 24 ≤ 140737488355328) (hb : B ≤ w.heap.size) :
    ∃ q' c' w', (Builtin.append_ #[28, 28] ty #[v, v2]).run Try.prog w = .ok (.slice q' (n + n2) c') w' ∧ w'.ownsRow B 22 1 (.slice q' (n + n2) c') (n + n2) (xs ++ xs2) ∧ w.grownBy w' v.ownBlock ∧ Heir w v (.slice q' (n + n2) c') := by
  obtain ⟨i0, hi0, hz0, hz1, hz2⟩ := info_parts infoS
  rcases Nat.eq_zero_or_pos n2 with h0 | h0
  · subst h0
    have hx2 : xs2 = [] := List.eq_nil_of_length_eq_zero (by rw [h2.1])
    subst hx2
    have hv : ∃ q c, v = .slice q n c := by
      rcases h.2 with ⟨rfl, hn⟩ | ⟨g, cap, cur, rfl, -⟩
      · exact ⟨none, 0, by rw [hn]⟩
      · exact ⟨_, _, rfl⟩
    obtain ⟨q, c, rfl⟩ := hv
    refine ⟨q, c, w, ?_, by rw [List.append_nil, Nat.add_zero]; exact h, ⟨rfl, rfl, rfl, Nat.le_refl _, fun _ _ _ => rfl⟩, .inl rfl⟩
    have hv2 : ∃ q c, v2 = .slice q 0 c := by
      rcases h2.2 with ⟨rfl, hn⟩ | ⟨g, cap, cur, rfl, -⟩
      · exact ⟨none, 0, rfl⟩
      · exact ⟨_, _, rfl⟩
    obtain ⟨q2, c2, rfl⟩ := hv2
    rcases h.2 with ⟨hn, hn0⟩ | ⟨g, cap, cur, hn, _, _, hnc, _⟩
    · injection hn with e1 e2 e3
      subst e1 e3
      subst hn0
      cases q2 <;> simp [Builtin.append_, run_underlying Try.underlying28, sizeOf, typeInfo, hi0, Builtin.lenOf, Builtin.firstCells, loadCells, loadCellsFrom]
    · injection hn with e1 e2 e3
      subst e1 e3
      cases q2 <;> simp [Builtin.append_, run_underlying Try.underlying28, sizeOf, typeInfo, hi0, Builtin.lenOf, Builtin.firstCells, hnc, storeCells, loadCells, loadCellsFrom]
  · rcases h2.2 with ⟨hn, hn0⟩ | ⟨g2, cap2, cur2, rfl, -⟩
    · omega
    · obtain ⟨g, cap, w', hr, k2, k3, k4, k5⟩ := run_append_lies (P := Try.prog) w 28 ty B 22 i0 (.slice none 0 0) 1 24 Try.underlying28 hi0 hz0 hz1 hz2 rfl (by decide) v n xs h ⟨g2, 0, none⟩ n2 cap2 xs2 h2.1 (fun j u hu => World.ownsRow.cells h2 rfl j u hu) h1 h0 (by unfold maxLen; omega) hlen hb w.heap.size rfl
      refine ⟨_, _, w', hr, k2, k3, ?_⟩
      rcases k4 with k4 | k4
      · exact .inl (by rw [k4]; rfl)
      · exact .inr fun g' e => by
          simp only [Value.ownBlock, Option.some.injEq] at e
          omega
theorem wpList_append_rows {ops : Array Oper} {rest : List Oper} {o : Oper} {a : Act} {Q : Exit → Act → World → Prop} {w : World} (hgd : o.guard = none) (s x : Operand)
    (ho : o.op = .call { callee := .builtin .append, args := #[s, x], argTypes := #[28, 28] })
    (B B2 : Nat) (v v2 : Value) (n n2 : Nat) (xs xs2 : List Value) (hv : a.eval s = v) (hx : a.eval x = v2) (h : w.ownsRow B 22 1 v n xs) (h2 : w.ownsRow B2 22 1 v2 n2 xs2) (h1 : ∀ u ∈ xs2, u.oneCell' = true) (hlen : (n + n2) * 24 ≤ 140737488355328) (hb : B ≤ w.heap.size)
    (hK : ∀ q' c' w', w'.ownsRow B 22 1 (.slice q' (n + n2) c') (n + n2) (xs ++ xs2) → w.grownBy w' v.ownBlock → Heir w v (.slice q' (n + n2) c') → wpList Try.prog ops Q rest (a.put o.dst (.slice q' (n + n2) c')) w') : wpList Try.prog ops Q (o :: rest) a w := by
  obtain ⟨q', c', w', hr, k2, k3, k4⟩ := run_append_rows o.type h h2 h1 hlen hb
  refine wpList_plain hgd fun K hk => ?_
  unfold Oper.wp execOp
  simp only [ho, resolve, invoke, builtin, Sem.run_bind, Sem.run_pure, Result.andThen_ok, List.map_toArray, List.map_cons, List.map_nil, hv, hx, hr]
  exact hk _ _ (hK q' c' w' k2 k3 k4)
/-- The loads of a call behind those of the calls ahead of it. -/
theorem RowL.join {b b0 R : Nat} {M : Nat → Prop} {V V1 V2 : World} {hv hv' tv lv tv' : Value} {L1 L2 : List Ld} {br : Bool} {held : List UInt8} (h : RowL b M (Ft R hv) V tv L1) (hl : RowL V.heap.size (Mine V hv) (Ft R hv') V1 lv L2) (hR : Rdr b0 V1 R hv' held br) (hk : Keeps (Ft R hv) V V1) (hh : Heir V hv hv') (hM : ∀ k, Mine V hv k → M k)
    (hg : V1.grownBy V2 tv.ownBlock) (hown : V2.ownsRow b 22 1 tv' (L1.length + L2.length) (heads L1 ++ heads L2)) (hht : Heir V1 tv tv') : RowL b M (Ft R hv') V2 tv' (L1 ++ L2) := by
  have h1 := h.keeps hk (fun k x _ => x) (Ft.heir hh)
  have hkk : Keeps (fun k => tv.ownBlock = some k) V1 V2 := ⟨hg.os, hg.tape, hg.output, hg.size, fun k hk hn => hg.block k hk (fun e => hn e.symm)⟩
  have htlt : ∀ g, tv.ownBlock = some g → g < V.heap.size := fun g e => (h.lt g e).2
  refine ⟨by rw [List.length_append]; unfold heads at hown ⊢; rw [List.map_append]; exact hown, fun g e hf => ?_, ?_, fun e he => ?_⟩
  · rcases hht with hht | hht
    · exact h1.ownN g (by rw [← hht]; exact e) hf
    · have := hht g e
      have := hR.ft_lt g hf
      omega
  · rw [List.map_append, List.nodup_append]
    refine ⟨h.nodup, hl.nodup, fun a ha c hc e => ?_⟩
    subst e
    obtain ⟨x, hx, rfl⟩ := List.mem_map.1 ha
    obtain ⟨y, hy, hye⟩ := List.mem_map.1 hc
    obtain ⟨-, -, x3, x4⟩ := h.each x hx
    obtain ⟨y1, -, -, -⟩ := hl.each y hy
    rw [hye] at y1
    rcases y1 with y1 | y1
    · have := x4.lt; omega
    · exact x3 (.inr y1)
  · rcases List.mem_append.1 he with he | he
    · obtain ⟨x1, x2, x3, x4⟩ := h1.each e he
      refine ⟨x1, fun e2 => ?_, x3, x4.keeps hkk x2⟩
      rcases hht with hht | hht
      · exact x2 (by rw [← hht]; exact e2)
      · have := hht _ e2; have := x4.lt; omega
    · obtain ⟨y1, y2, y3, y4⟩ := hl.each e he
      have hne : tv.ownBlock ≠ some e.1 := fun e2 => by
        rcases y1 with y1 | y1
        · have := htlt _ e2; omega
        · exact h.ownN _ e2 (.inr y1)
      refine ⟨hM _ y1, fun e2 => ?_, y3, y4.keeps hkk hne⟩
      rcases hht with hht | hht
      · exact hne (by rw [← hht]; exact e2)
      · have := hht _ e2; have := y4.lt; omega
end Fr
end Go.Proofs.Ytbejacmbbkdbnaa
