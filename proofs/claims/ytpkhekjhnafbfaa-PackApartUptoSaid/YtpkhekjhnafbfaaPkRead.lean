/- Bytes as values: the reader's small functions. -/
import Derived.Test.YtpkhekjhnafbfaaPkNum
import Derived.Test.YtpkhekjhnafbfaaValBase
import Derived.Defers
namespace Go.Proofs.Ytpkhekjhnafbfaa
open Go.RowKit
set_option linter.unusedVariables false
set_option linter.unusedSimpArgs false
namespace Pk
/-- A reader: what is left to read, how many parts there were. -/
def Rd (w : World) (R b o n cap : Nat) (p : Int) : Prop := w.heap[R]? = some (.cells #[.slice (some ⟨b, o, none⟩) n cap, .int .i64 p] 47 (0, 0))
theorem Rd.cell {w : World} {R b o n cap : Nat} {p : Int} (h : Rd w R b o n cap p) : w.cell? ⟨R, 0, none⟩ = some (.slice (some ⟨b, o, none⟩) n cap) ∧ w.cell? ⟨R, 1, none⟩ = some (.int .i64 p) ∧ w.frozen? ⟨R, 0, none⟩ = false ∧ w.frozen? ⟨R, 1, none⟩ = false := by
  unfold Rd at h
  simp [World.cell?, World.frozen?, h]
theorem Rd.set0 {w : World} {R b o n cap : Nat} {p : Int} (h : Rd w R b o n cap p) (b' o' n' cap' : Nat) : Rd (w.setCell ⟨R, 0, none⟩ (.slice (some ⟨b', o', none⟩) n' cap')) R b' o' n' cap' p := by
  unfold Rd at h ⊢
  simp [World.setCell, Array.getElem?_modify, h]
theorem Rd.set1 {w : World} {R b o n cap : Nat} {p : Int} (h : Rd w R b o n cap p) (p' : Int) : Rd (w.setCell ⟨R, 1, none⟩ (.int .i64 p')) R b o n cap p' := by
  unfold Rd at h ⊢
  simp [World.setCell, Array.getElem?_modify, h]
set_option maxRecDepth 100000 in
theorem take_ok (R b o n cap k : Nat) (p : Int) (w : World) (h : Rd w R b o n cap p) (hk : k ≤ n) (hn : n ≤ cap) (hc : cap ≤ 140737488355328) (hlt : k < cap) :
    Calls Try.prog 39 #[.pointer (some ⟨R, 0, none⟩), .int .u64 (k : Int)] w fun e w' => e = .returned (.slice (some ⟨b, o, none⟩) k cap) ∧ w' = w.setCell ⟨R, 0, none⟩ (.slice (some ⟨b, o + k, none⟩) (n - k) (cap - k)) := by
  obtain ⟨c0, c1, f0, f1⟩ := h.cell
  have h1 : ¬ (n : Int) < k := by omega
  have h2 : (k : Int) ≤ n := by omega
  have h3 : (k : Int) ≤ cap := by omega
  go_enter Try.func39, Try.ntmps39
  go_wp2
  go_ret
  exact ⟨rfl, rfl⟩
set_option maxRecDepth 100000 in
theorem demand_yes (w : World) : Calls Try.prog 51 #[.bool true] w fun e w' => (∃ v, e = .returned v) ∧ w' = w := by
  go_enter Try.func51, Try.ntmps51
  go_wp2
  go_end0
  exact ⟨⟨_, rfl⟩, rfl⟩
theorem cell_far {w : World} {p q : Addr} (u : Value) (h : q.block ≠ p.block) : (w.setCell p u).cell? q = w.cell? q := by
  unfold World.cell?
  rw [Below.heap_setCell w p u q.block h]
open Val (Keeps)
/-- What a step of the reader leaves: the reader's block alone is another. -/
structure Step (R b o n cap : Nat) (p : Int) (w w' : World) : Prop where
  rd : Rd w' R b o n cap p
  keeps : Keeps (· = R) w w'
set_option maxRecDepth 100000 in
theorem octet_ok (R b o n cap : Nat) (p c : Int) (w : World) (h : Rd w R b o n cap p) (hk : 1 ≤ n) (hn : n ≤ cap) (hc : cap ≤ 140737488355328) (hlt : 1 < cap) (hbR : b ≠ R) (hb : w.cell? ⟨b, o, none⟩ = some (.int .u8 c)) :
    Calls Try.prog 50 #[.pointer (some ⟨R, 0, none⟩)] w fun e w' => e = .returned (.int .u8 c) ∧ Step R b (o + 1) (n - 1) (cap - 1) p w w' := by
  have H := Lib.hid (take_ok R b o n cap 1 p w h hk hn hc hlt)
  have hb2 : (w.setCell ⟨R, 0, none⟩ (.slice (some ⟨b, o + 1, none⟩) (n - 1) (cap - 1))).cell? ⟨b, o, none⟩ = some (.int .u8 c) := (cell_far _ hbR).trans hb
  have HS : Hid (Step R b (o + 1) (n - 1) (cap - 1) p w (w.setCell ⟨R, 0, none⟩ (.slice (some ⟨b, o + 1, none⟩) (n - 1) (cap - 1)))) := Lib.hid ⟨h.set0 _ _ _ _, (Keeps.refl (· = R) w).setCell (p := ⟨R, 0, none⟩) (.inl rfl) _⟩
  obtain ⟨W1, hW1⟩ : ∃ W1, w.setCell ⟨R, 0, none⟩ (.slice (some ⟨b, o + 1, none⟩) (n - 1) (cap - 1)) = W1 := ⟨_, rfl⟩
  rw [hW1] at H hb2 HS
  clear hW1 hb h
  go_enter Try.func50, Try.ntmps50
  go_wp2_with fail
  refine H.out.mono ?_
  rintro e w1 ⟨rfl, rfl⟩
  go_wp2
  go_ret
  exact ⟨rfl, HS.out⟩
/-- A number of one byte, 5. -/
theorem number_five (R b o n cap : Nat) (p : Int) (w : World) (h : Rd w R b o n cap p) (hk : 1 ≤ n) (hn : n ≤ cap) (hc : cap ≤ 140737488355328) (hlt : 1 < cap) (hbR : b ≠ R) (hb : w.cell? ⟨b, o, none⟩ = some (.int .u8 5)) :
    Calls Try.prog 38 #[.pointer (some ⟨R, 0, none⟩)] w fun e w' => e = .returned (.int .u64 5) ∧ Step R b (o + 1) (n - 1) (cap - 1) p w w' := by
  have H := Lib.hid (octet_ok R b o n cap p 5 w h hk hn hc hlt hbR hb)
  clear h hb
  go_enter Try.func38, Try.ntmps38
  go_wp2
  refine wp_loop_once ?_
  go_wp2_with fail
  refine H.out.mono ?_
  rintro e w1 ⟨rfl, h1⟩
  have H1 := Lib.hid h1
  clear h1
  go_wp2_with fail
  refine (demand_yes _).mono ?_
  rintro e w2 ⟨⟨v, rfl⟩, rfl⟩
  go_wp2_with fail
  refine (demand_yes _).mono ?_
  rintro e w2 ⟨⟨v, rfl⟩, rfl⟩
  go_wp2
  go_ret
  exact ⟨rfl, H1.out⟩
theorem unfold_five (w : World) : Calls Try.prog 37 #[.int .u64 5] w fun e w' => e = .returned (.int .i64 (-3)) ∧ w' = w := by
  go_enter Try.func37, Try.ntmps37
  go_wp2
  go_ret
  exact ⟨rfl, rfl⟩
set_option maxRecDepth 100000 in
theorem tag_three (R b o n cap : Nat) (w : World) (h : Rd w R b o n cap 0) (hk : 1 ≤ n) (hn : n ≤ cap) (hc : cap ≤ 140737488355328) (hlt : 1 < cap) (hbR : b ≠ R) (hb : w.cell? ⟨b, o, none⟩ = some (.int .u8 3)) :
    Calls Try.prog 36 #[.pointer (some ⟨R, 0, none⟩), .int .i64 1] w fun e w' => e = .returned (.int .u8 3) ∧ Step R b (o + 1) (n - 1) (cap - 1) 1 w w' := by
  have H := Lib.hid (octet_ok R b o n cap 0 3 w h hk hn hc hlt hbR hb)
  clear h hb
  go_enter Try.func36, Try.ntmps36
  go_wp2_with fail
  refine H.out.mono ?_
  rintro e w1 ⟨rfl, h1⟩
  obtain ⟨c0, c1, f0, f1⟩ := h1.rd.cell
  have H1 := Lib.hid h1
  clear h1
  go_wp2_with fail
  refine (demand_yes _).mono ?_
  rintro e w2 ⟨⟨v, rfl⟩, rfl⟩
  go_wp2
  go_ret
  exact ⟨rfl, H1.out.rd.set1 1, H1.out.keeps.setCell (p := ⟨R, 1, none⟩) (.inl rfl) _⟩
end Pk
end Go.Proofs.Ytpkhekjhnafbfaa
