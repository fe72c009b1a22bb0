/- Show: the walk over show.bounded of a value that may be. -/
import Derived.Test.YtoaliaohbpdibaaDoorShTree
import Derived.Test.YtoaliaohbpdibaaDoorValCmp
import Derived.Outline
namespace Go.Proofs.YtoaliaohbpdibaaDoor
open Go.RowKit
set_option linter.unusedVariables false
set_option linter.unusedSimpArgs false
namespace Sh
open Val (VT Keeps Box)
/-- Block P holds how many parts are left. -/
def LeftAt (w : World) (P : Nat) (m : Nat) : Prop := w.heap[P]? = some (.cells #[.int .i64 (m : Int)] 3 (0, 0))
theorem LeftAt.cell {w : World} {P m : Nat} (h : LeftAt w P m) : w.cell? ⟨P, 0, none⟩ = some (.int .i64 (m : Int)) ∧ w.frozen? ⟨P, 0, none⟩ = false ∧ P < w.heap.size := by
  unfold LeftAt at h
  refine ⟨by simp [World.cell?, h], by simp [World.frozen?, h], ?_⟩
  rcases Nat.lt_or_ge P w.heap.size with hlt | hge
  · exact hlt
  · rw [Array.getElem?_eq_none hge] at h; cases h
theorem LeftAt.alloc {w : World} {P m : Nat} (h : LeftAt w P m) (o : Obj) : LeftAt (w.alloc o) P m := (Below.heap_alloc w o P h.cell.2.2).trans h
theorem LeftAt.set {w : World} {P m : Nat} (h : LeftAt w P m) (m' : Nat) : LeftAt (w.setCell ⟨P, 0, none⟩ (.int .i64 (m' : Int))) P m' := by
  unfold LeftAt at h ⊢
  simp [World.setCell, Array.getElem?_modify, h]
def BdIH (N : Nat) : Prop := ∀ (t : VT) (v : Value) (B P m : Nat) (w : World), t.parts ≤ N → VT.In w B t v → B ≤ w.heap.size → B ≤ P → goodV t → LeftAt w P m → t.parts ≤ m → m ≤ 4096 →
  Calls Tryd.prog 33 #[v, .pointer (some ⟨P, 0, none⟩)] w fun e w' => e = .returned (.bool true) ∧ LeftAt w' P (m - t.parts) ∧ Keeps (· = P) w w'
structure BdLoop (l : List VT) (P m j : Nat) (w wr : World) : Prop where
  left : ∃ q, LeftAt wr P q ∧ q + VT.partsL (l.take j) = m
  keeps : Keeps (· = P) w wr
theorem partsL_take (l : List VT) (j : Nat) (t : VT) (h : l[j]? = some t) : VT.partsL (l.take (j + 1)) = VT.partsL (l.take j) + t.parts ∧ VT.partsL (l.take (j + 1)) ≤ VT.partsL l := by
  have app : ∀ a b : List VT, VT.partsL (a ++ b) = VT.partsL a + VT.partsL b := fun a b => by
    induction a with
    | nil => simp [VT.partsL]
    | cons x a ih => rw [List.cons_append, VT.partsL, VT.partsL, ih]; omega
  obtain ⟨hlt, rfl⟩ := List.getElem?_eq_some_iff.1 h
  have h1 : l.take (j + 1) = l.take j ++ [l[j]] := by rw [List.take_succ_eq_append_getElem hlt]
  have h2 := app (l.take (j + 1)) (l.drop (j + 1))
  rw [List.take_append_drop] at h2
  have h3 : VT.partsL [l[j]] = l[j].parts := by rw [VT.partsL, VT.partsL]; omega
  exact ⟨by rw [h1, app, h3], by omega⟩
set_option maxRecDepth 100000 in
set_option maxHeartbeats 4000000 in
theorem bounded_step (k : Int) (b : Bool) (n : Int) (s : ByteArray) (l : List VT) (ks : List ByteArray) (N B P m : Nat) (pl pk : Option Addr) (nl cl nk ck : Nat) (w : World) (IH : Hid (BdIH N)) (hT : Hid (∀ x, x ∈ l → x.parts ≤ N)) (HL : Hid (l.length = nl))
    (HM : Hid (0 < l.length → ∃ bl ol, pl = some ⟨bl, ol, none⟩ ∧ bl < B ∧ VT.InL w B bl ol l)) (hB : B ≤ w.heap.size) (hP : B ≤ P) (HG : Hid (goodL l)) (h5 : (k == 5) = false ∨ ((k == 5) = true ∧ nl ≤ nk)) (hleft : LeftAt w P (m + 1)) (HPM : Hid (VT.partsL l ≤ m)) (hm : m + 1 ≤ 4096) (hnl : nl ≤ maxLen) (hnk : nk ≤ maxLen) :
    Calls Tryd.prog 33 #[.agg #[.int .i64 k, .bool b, .int .i64 n, .string s, .slice pl nl cl, .slice pk nk ck], .pointer (some ⟨P, 0, none⟩)] w fun e w' => e = .returned (.bool true) ∧ LeftAt w' P (m - VT.partsL l) ∧ Keeps (· = P) w w' := by
  unfold maxLen at hnl hnk
  obtain ⟨hc0, hf, hlt⟩ := hleft.cell
  have H0 := Lib.hid hleft
  clear hleft
  have hne : P ≠ w.heap.size := by omega
  have hc : w.cell? ⟨P, 0, none⟩ = some (.int .i64 ((m : Int) + 1)) := hc0
  clear hc0
  have hm0 : ((m : Int) + 1 == 0) = false := by simp; omega
  have hmi : (m : Int) + 1 ≤ 4096 := by omega
  have h5' : (k == 5) = false ∨ (k = 5 ∧ decide (nk < nl) = false ∧ ¬ (nk < nl)) := by
    rcases h5 with h | ⟨h, h2⟩
    · exact .inl h
    · exact .inr ⟨by simpa using h, by simp; omega, by omega⟩
  clear h5
  rcases h5' with h5 | ⟨rfl, h5, h5b⟩
  all_goals
    go_enter Tryd.func33, Tryd.ntmps33
    go_wp2
    have HW0 : Hid (∀ o, BdLoop l P m 0 w ((w.setCell ⟨P, 0, none⟩ (.int .i64 (m : Int))).alloc o)) := Lib.hid fun o => ⟨⟨m, (H0.out.set m).alloc _, by simp [VT.partsL]⟩, ((Keeps.refl (· = P) w).setCell (p := ⟨P, 0, none⟩) (.inl rfl) _).alloc _⟩
    clear hc hf
    go_loopw [33] (fun i wr => ∃ j : Nat, i = .int .i64 (j : Int) ∧ j ≤ nl ∧ Hid (BdLoop l P m j w wr)) (fun i _ => nl - (intOf i).toNat)
    case atStart => exact ⟨0, rfl, Nat.zero_le _, Lib.hid (HW0.out _)⟩
    case round =>
      rename_i wr
      obtain ⟨j, rfl, hj, HW⟩ := hrel
      by_cases hlt2 : j < nl
      · obtain ⟨x, hx⟩ : ∃ x, l[j]? = some x := ⟨l[j]'(by rw [HL.out]; exact hlt2), List.getElem?_eq_getElem _⟩
        obtain ⟨bl, ol, rfl, hbl, hInL⟩ := HM.out (by rw [HL.out]; omega)
        have hlow : Below B w wr := HW.out.keeps.below (fun k h => by omega) hB
        obtain ⟨d0, d1, d2, d3, d4, d5, e0, e1, e2, e3, e4, e5, hInx⟩ := (VT.InL.keep (fun q hq => hlow.cell hq) hbl hInL).at hx
        obtain ⟨xk, xb, xn, xs, xpl, xnl, xcl, xpk, xnk, xck, rfl, rfl, rfl, rfl, rfl, rfl⟩ := hInx.shape
        obtain ⟨q, hq1, hq2⟩ := HW.out.left
        obtain ⟨t1, t2⟩ := partsL_take l j x hx
        have hPm := HPM.out
        have HC : Hid (∀ o, Calls Tryd.prog 33 #[.agg #[.int .i64 xk, .bool xb, .int .i64 xn, .string xs, .slice xpl xnl xcl, .slice xpk xnk xck], .pointer (some ⟨P, 0, none⟩)] (wr.alloc o) fun e w' => e = .returned (.bool true) ∧ LeftAt w' P (q - x.parts) ∧ Keeps (· = P) (wr.alloc o) w') := Lib.hid fun o =>
          IH.out x _ B P q (wr.alloc o) (hT.out x (List.mem_of_getElem? hx)) ((hInx.more (Nat.le_refl _)).below ((Below.refl _ _).alloc (Nat.le_trans hB HW.out.keeps.size) _)) (by simp; have := HW.out.keeps.size; omega) hP (goodL_at HG.out hx) (hq1.alloc o) (by omega) (by omega)
        have HQ : Hid (q + VT.partsL (l.take j) = m ∧ VT.partsL (l.take (j + 1)) = VT.partsL (l.take j) + x.parts ∧ VT.partsL (l.take (j + 1)) ≤ m) := Lib.hid ⟨hq2, t1, by omega⟩
        have hji : (j : Int) < nl := by omega
        have hszw : w.heap.size ≤ wr.heap.size := HW.out.keeps.size
        clear hInx hInL hx hq1 hq2 t1 t2 hPm hlow
        go_wp2_with fail
        refine (HC.out _).mono ?_
        rintro e w3 ⟨rfl, hl3, hk3⟩
        have HW3 : Hid (BdLoop l P m (j + 1) w w3) := Lib.hid ⟨⟨_, hl3, by have := HQ.out; omega⟩, HW.out.keeps.trans (((Keeps.refl (· = P) wr).alloc _).trans hk3)⟩
        clear hl3 hk3
        go_wp2
        go_roundw
        case rel => exact ⟨j + 1, by go_num, by omega, HW3⟩
        case measure => simp [intOf]; omega
      · have hjn : j = nl := by omega
        have HJ := Lib.hid hjn
        have hji : ¬ (j : Int) < nl := by omega
        clear hjn
        go_wp2
        go_ret
        obtain ⟨q, hq1, hq2⟩ := HW.out.left
        rw [HJ.out, ← HL.out, List.take_length] at hq2
        refine ⟨rfl, ?_, HW.out.keeps⟩
        rw [show m - VT.partsL l = q by omega]
        exact hq1
theorem bounded_all : ∀ N, BdIH N
  | 0 => fun t _ _ _ _ _ h => by have := t.parts_pos; omega
  | N + 1 => fun t v B P m w hN hIn hB hP hG hL hm hm2 => by
    have IH := bounded_all N
    obtain ⟨k, b, n, s, l, ks⟩ := t
    have hx := hIn
    unfold VT.In at hx
    obtain ⟨pl, cl, pk, ck, rfl, h1, h2, h3, h4, hks, hl⟩ := hx
    unfold goodV at hG
    rw [VT.parts] at hN hm
    obtain ⟨m', rfl⟩ : ∃ m', m = m' + 1 := ⟨m - 1, by omega⟩
    have h5 : (k == 5) = false ∨ ((k == 5) = true ∧ l.length ≤ ks.length) := by
      by_cases hk : k = 5
      · right; exact ⟨by simpa using hk, hG.2.1 hk⟩
      · left; simpa using hk
    have := bounded_step k b n s l ks N B P m' pl pk l.length cl ks.length ck w (Lib.hid IH) (Lib.hid fun x hx => by have := VT.parts_mem hx; omega) (Lib.hid rfl) (Lib.hid hl) hB hP (Lib.hid hG.2.2) h5 hL (Lib.hid (by omega)) hm2 (by omega) (by omega)
    rw [VT.parts, show m' + 1 - (VT.partsL l + 1) = m' - VT.partsL l by omega]
    exact this
end Sh
end Go.Proofs.YtoaliaohbpdibaaDoor
