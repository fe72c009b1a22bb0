/- THE WALK over the document's own answer: may a value be? -/
import Derived.Test.YtmhlipncelgmlaaRows
import Derived.Test.YtmhlipncelgmlaaValBase
import Derived.Test.YtmhlipncelgmlaaVal
import Derived.Test.YtmhlipncelgmlaaValForm
import Derived.Test.YtmhlipncelgmlaaValForm2
import Derived.Test.YtmhlipncelgmlaaValCmp
import Derived.Test.YtmhlipncelgmlaaValWalk
import Derived.Test.YtmhlipncelgmlaaValRef
import Derived.Test.YtmhlipncelgmlaaValMay
import Derived.Deep.QuietTactic
import Derived.BigQuiet
import Derived.WalkKit
import Derived.Lib.Hide
import Derived.WalkSpells
import Derived.WalkLawsBesides
import Derived.Outline
import Derived.Sort.Walk0
namespace Go.Proofs.Ytmhlipncelgmlaa
open Go.RowKit
set_option linter.unusedVariables false
set_option linter.unusedSimpArgs false
namespace Val
/-- Where the loop over the parts stands, j of them counted. -/
structure MLoop (l : List VT) (d p j pj : Nat) (cs : Array Value) (w wr : World) : Prop where
  low : Below w.heap.size w wr
  box : Box wr w.heap.size cs
  le : p ≤ pj ∧ pj ≤ 4096
  rest : mayL (l.drop j) d pj = mayL l d p
/-- What the call of itself is to do. -/
def MayIH (N : Nat) : Prop := ∀ (t : VT) (v : Value) (B : Nat) (w : World) (d p : Nat), t.parts ≤ N → VT.In w B t v → B ≤ w.heap.size → d ≤ 32 → p ≤ 4096 → Calls Try.prog 59 #[v, .int .i64 d, .int .i64 p] w (MayPost t d p w)
/-- What is known where the keys have been looked through: what the loop over the parts wants. -/
structure MGo (N : Nat) (l : List VT) (pl : Option Addr) (nl : Nat) (d p B : Nat) (w : World) : Prop where
  ih : MayIH N
  parts : ∀ x, x ∈ l → x.parts ≤ N
  len : l.length = nl
  mem : 0 < l.length → ∃ bl ol, pl = some ⟨bl, ol, none⟩ ∧ bl < B ∧ VT.InL w B bl ol l
  hB : B ≤ w.heap.size
  hd : d ≤ 31
  hp : p + 1 ≤ 4096
  big : (nl : Int) ≤ 9223372036854775807
/-- What is to be shown at the end. -/
def MEnd (T : VT) (l : List VT) (d p : Nat) (w : World) : Prop := ∀ w' : World, Below w.heap.size w w' → (mayL l d (p + 1) = none → ∀ n : Int, MayPost T (d + 1) p w (.returned (.tuple #[.int .i64 n, .bool false])) w') ∧ ∀ q, mayL l d (p + 1) = some q → MayPost T (d + 1) p w (.returned (.tuple #[.int .i64 q, .bool true])) w'
set_option maxRecDepth 100000 in
set_option maxHeartbeats 2000000 in
theorem may_go_plain (k : Int) (b : Bool) (n : Int) (s : ByteArray) (T : VT) (l : List VT) (ks : List ByteArray) (N B : Nat) (pl pk : Option Addr) (nl cl nk ck d p : Nat) (w : World) (HG : Hid (MGo N l pl nl d p B w)) (HE : Hid (MEnd T l d p w)) (hk0 : 0 ≤ k) (hk7 : k ≤ 7) (h5 : k ≠ 5) (h6 : k ≠ 6) (h7 : k ≠ 7) (hu0 : unusedF k b n s nl nk = true) :
    Calls Try.prog 59 #[.agg #[.int .i64 k, .bool b, .int .i64 n, .string s, .slice pl nl cl, .slice pk nk ck], .int .i64 ((d + 1 : Nat) : Int), .int .i64 p] w (MayPost T (d + 1) p w) := by
  have t1 : decide ((4096 : Int) < (p : Int) + 1) = false := by have := HG.out.hp; simp; omega
  have t2 : decide ((d : Int) + 1 < 1) = false := by simp; omega
  have hp0 := HG.out.hp
  have hdd := HG.out.hd
  have t3 : decide (k < 0) = false := by simp; omega
  have t4 : decide (7 < k) = false := by simp; omega
  have t5 : (k == 5) = false := by simpa using h5
  have t6 : (k == 6) = false := by simpa using h6
  have t7 : (k == 7) = false := by simpa using h7
  have hu := unused_any k b n s pl pk nl cl nk ck (w.alloc (.cells #[.int .i64 k, .bool b, .int .i64 n, .string s, .slice pl nl cl, .slice pk nk ck] 25)) (by omega) (by omega)
  unfold UnB at hu
  rw [hu0] at hu
  clear hu0
  clear h5 h6 h7
  go_enter Try.func59, Try.ntmps59
  go_wp2_with fail
  refine hu.mono ?_
  rintro e w1 ⟨rfl, hb⟩
  have hlow : Below w.heap.size w w1 := (one_below w _).trans (hb.mono (by simp))
  have hbx : Box w1 w.heap.size #[.int .i64 k, .bool b, .int .i64 n, .string s, .slice pl nl cl, .slice pk nk ck] := box_below (Box.new w _) hb
  obtain ⟨c0, c1, c2, c3, c4, c5⟩ := hbx.cell
  clear hb hu
  go_wp2_with fail
  have HW0 : Hid (MLoop l d (p + 1) 0 (p + 1) #[.int .i64 k, .bool b, .int .i64 n, .string s, .slice pl nl cl, .slice pk nk ck] w w1) := Lib.hid ⟨hlow, hbx, ⟨Nat.le_refl _, HG.out.hp⟩, rfl⟩
  have hp1 := HG.out.hp
  have hb1 := HG.out.big
  clear hlow hbx
  go_loopw [2, 9] (fun pp i wr => ∃ j pj : Nat, j ≤ nl ∧ pj ≤ 4096 ∧ pp = .int .i64 pj ∧ i = .int .i64 j ∧ Hid (MLoop l d (p + 1) j pj #[.int .i64 k, .bool b, .int .i64 n, .string s, .slice pl nl cl, .slice pk nk ck] w wr)) (fun _ i _ => nl - (intOf i).toNat)
  case atStart => exact ⟨0, p + 1, Nat.zero_le _, HG.out.hp, by go_num, rfl, HW0⟩
  case round =>
    rename_i wr
    obtain ⟨j, pj, hj, hpj, rfl, rfl, HW⟩ := hrel
    obtain ⟨c0, c1, c2, c3, c4, c5⟩ := HW.out.box.cell
    by_cases hlt : j < nl
    · obtain ⟨x, hx⟩ : ∃ x, l[j]? = some x := ⟨l[j]'(by rw [HG.out.len]; exact hlt), List.getElem?_eq_getElem _⟩
      obtain ⟨bl, ol, rfl, hbl, hInL⟩ := HG.out.mem (by rw [HG.out.len]; omega)
      obtain ⟨d0, d1, d2, d3, d4, d5, e0, e1, e2, e3, e4, e5, hInx⟩ := (VT.InL.keep (fun q hq => HW.out.low.cell (Nat.lt_of_lt_of_le hq HG.out.hB)) hbl hInL).at hx
      obtain ⟨xk, xb, xn, xs, xpl, xnl, xcl, xpk, xnk, xck, rfl, rfl, rfl, rfl, rfl, rfl⟩ := hInx.shape
      have HC := Lib.hid (HG.out.ih x _ B wr d pj (HG.out.parts x (List.mem_of_getElem? hx)) hInx (Nat.le_trans HG.out.hB HW.out.low.size) (by have := HG.out.hd; omega) hpj)
      have HDR := Lib.hid (drop_at hx)
      clear hInx hInL hx
      go_wp2_with fail
      refine HC.out.mono ?_
      rintro e w3 ⟨hb3, hn3, hs3⟩
      have hlow3 := HW.out.low.trans (hb3.mono HW.out.low.size)
      have hbox3 := box_below HW.out.box hb3
      cases hv : mayV x d pj with
      | none =>
        obtain ⟨nn, rfl⟩ := hn3 hv
        have HP := Lib.hid ((HE.out w3 hlow3).1 (by rw [← HW.out.rest, HDR.out]; unfold mayL; rw [hv]) nn)
        clear hv hn3 hs3 hb3 hlow3 hbox3
        go_wp2_with fail
        go_ret2
        exact HP.out
      | some p3 =>
        obtain rfl := hs3 p3 hv
        have h3 := mayV_le x _ _ _ hv
        have hle3 : p3 ≤ 4096 := h3.2
        have hrest3 : mayL (l.drop (j + 1)) d p3 = mayL l d (p + 1) := by
          rw [← HW.out.rest, HDR.out]
          conv => rhs; unfold mayL
          rw [hv]
        have HW3 := Lib.hid (MLoop.mk (p := p + 1) hlow3 hbox3 ⟨by have := HW.out.le; omega, h3.2⟩ hrest3)
        clear hv hn3 hs3 hb3 hlow3 hbox3 h3 hrest3
        go_wp2_with fail
        go_roundw
        case rel => exact ⟨j + 1, p3, by omega, hle3, rfl, by go_num, HW3⟩
        case measure => simp [intOf]; omega
    · obtain rfl : j = nl := by omega
      have HP := Lib.hid ((HE.out wr HW.out.low).2 pj (by rw [← HW.out.rest, ← HG.out.len, List.drop_length]; unfold mayL; rfl))
      go_wp2_with fail
      go_ret2
      exact HP.out
set_option maxRecDepth 100000 in
set_option maxHeartbeats 2000000 in
theorem may_go_node6 (b : Bool) (n : Int) (s : ByteArray) (T : VT) (l : List VT) (ks : List ByteArray) (N B : Nat) (pl pk : Option Addr) (nl cl nk ck d p : Nat) (w : World) (HG : Hid (MGo N l pl nl d p B w)) (HE : Hid (MEnd T l d p w)) (h1 : 1 ≤ n) (hu0 : unusedF 6 b n s nl nk = true) :
    Calls Try.prog 59 #[.agg #[.int .i64 6, .bool b, .int .i64 n, .string s, .slice pl nl cl, .slice pk nk ck], .int .i64 ((d + 1 : Nat) : Int), .int .i64 p] w (MayPost T (d + 1) p w) := by
  have t1 : decide ((4096 : Int) < (p : Int) + 1) = false := by have := HG.out.hp; simp; omega
  have t2 : decide ((d : Int) + 1 < 1) = false := by simp; omega
  have hp0 := HG.out.hp
  have hdd := HG.out.hd
  have t5 : decide (n < 1) = false := by simp; omega
  have hu := unused_any 6 b n s pl pk nl cl nk ck (w.alloc (.cells #[.int .i64 6, .bool b, .int .i64 n, .string s, .slice pl nl cl, .slice pk nk ck] 25)) (by omega) (by omega)
  unfold UnB at hu
  rw [hu0] at hu
  clear hu0
  go_enter Try.func59, Try.ntmps59
  go_wp2_with fail
  refine hu.mono ?_
  rintro e w1 ⟨rfl, hb⟩
  have hlow : Below w.heap.size w w1 := (one_below w _).trans (hb.mono (by simp))
  have hbx : Box w1 w.heap.size #[.int .i64 6, .bool b, .int .i64 n, .string s, .slice pl nl cl, .slice pk nk ck] := box_below (Box.new w _) hb
  obtain ⟨c0, c1, c2, c3, c4, c5⟩ := hbx.cell
  clear hb hu
  go_wp2_with fail
  have HW0 : Hid (MLoop l d (p + 1) 0 (p + 1) #[.int .i64 6, .bool b, .int .i64 n, .string s, .slice pl nl cl, .slice pk nk ck] w w1) := Lib.hid ⟨hlow, hbx, ⟨Nat.le_refl _, HG.out.hp⟩, rfl⟩
  have hp1 := HG.out.hp
  have hb1 := HG.out.big
  clear hlow hbx
  go_loopw [2, 9] (fun pp i wr => ∃ j pj : Nat, j ≤ nl ∧ pj ≤ 4096 ∧ pp = .int .i64 pj ∧ i = .int .i64 j ∧ Hid (MLoop l d (p + 1) j pj #[.int .i64 6, .bool b, .int .i64 n, .string s, .slice pl nl cl, .slice pk nk ck] w wr)) (fun _ i _ => nl - (intOf i).toNat)
  case atStart => exact ⟨0, p + 1, Nat.zero_le _, HG.out.hp, by go_num, rfl, HW0⟩
  case round =>
    rename_i wr
    obtain ⟨j, pj, hj, hpj, rfl, rfl, HW⟩ := hrel
    obtain ⟨c0, c1, c2, c3, c4, c5⟩ := HW.out.box.cell
    by_cases hlt : j < nl
    · obtain ⟨x, hx⟩ : ∃ x, l[j]? = some x := ⟨l[j]'(by rw [HG.out.len]; exact hlt), List.getElem?_eq_getElem _⟩
      obtain ⟨bl, ol, rfl, hbl, hInL⟩ := HG.out.mem (by rw [HG.out.len]; omega)
      obtain ⟨d0, d1, d2, d3, d4, d5, e0, e1, e2, e3, e4, e5, hInx⟩ := (VT.InL.keep (fun q hq => HW.out.low.cell (Nat.lt_of_lt_of_le hq HG.out.hB)) hbl hInL).at hx
      obtain ⟨xk, xb, xn, xs, xpl, xnl, xcl, xpk, xnk, xck, rfl, rfl, rfl, rfl, rfl, rfl⟩ := hInx.shape
      have HC := Lib.hid (HG.out.ih x _ B wr d pj (HG.out.parts x (List.mem_of_getElem? hx)) hInx (Nat.le_trans HG.out.hB HW.out.low.size) (by have := HG.out.hd; omega) hpj)
      have HDR := Lib.hid (drop_at hx)
      clear hInx hInL hx
      go_wp2_with fail
      refine HC.out.mono ?_
      rintro e w3 ⟨hb3, hn3, hs3⟩
      have hlow3 := HW.out.low.trans (hb3.mono HW.out.low.size)
      have hbox3 := box_below HW.out.box hb3
      cases hv : mayV x d pj with
      | none =>
        obtain ⟨nn, rfl⟩ := hn3 hv
        have HP := Lib.hid ((HE.out w3 hlow3).1 (by rw [← HW.out.rest, HDR.out]; unfold mayL; rw [hv]) nn)
        clear hv hn3 hs3 hb3 hlow3 hbox3
        go_wp2_with fail
        go_ret2
        exact HP.out
      | some p3 =>
        obtain rfl := hs3 p3 hv
        have h3 := mayV_le x _ _ _ hv
        have hle3 : p3 ≤ 4096 := h3.2
        have hrest3 : mayL (l.drop (j + 1)) d p3 = mayL l d (p + 1) := by
          rw [← HW.out.rest, HDR.out]
          conv => rhs; unfold mayL
          rw [hv]
        have HW3 := Lib.hid (MLoop.mk (p := p + 1) hlow3 hbox3 ⟨by have := HW.out.le; omega, h3.2⟩ hrest3)
        clear hv hn3 hs3 hb3 hlow3 hbox3 h3 hrest3
        go_wp2_with fail
        go_roundw
        case rel => exact ⟨j + 1, p3, by omega, hle3, rfl, by go_num, HW3⟩
        case measure => simp [intOf]; omega
    · obtain rfl : j = nl := by omega
      have HP := Lib.hid ((HE.out wr HW.out.low).2 pj (by rw [← HW.out.rest, ← HG.out.len, List.drop_length]; unfold mayL; rfl))
      go_wp2_with fail
      go_ret2
      exact HP.out
set_option maxRecDepth 100000 in
set_option maxHeartbeats 2000000 in
theorem may_go_node7 (b : Bool) (n : Int) (s : ByteArray) (T : VT) (l : List VT) (ks : List ByteArray) (N B : Nat) (pl pk : Option Addr) (nl cl nk ck d p : Nat) (w : World) (HG : Hid (MGo N l pl nl d p B w)) (HE : Hid (MEnd T l d p w)) (h1 : 1 ≤ n) (hu0 : unusedF 7 b n s nl nk = true) :
    Calls Try.prog 59 #[.agg #[.int .i64 7, .bool b, .int .i64 n, .string s, .slice pl nl cl, .slice pk nk ck], .int .i64 ((d + 1 : Nat) : Int), .int .i64 p] w (MayPost T (d + 1) p w) := by
  have t1 : decide ((4096 : Int) < (p : Int) + 1) = false := by have := HG.out.hp; simp; omega
  have t2 : decide ((d : Int) + 1 < 1) = false := by simp; omega
  have hp0 := HG.out.hp
  have hdd := HG.out.hd
  have t5 : decide (n < 1) = false := by simp; omega
  have hu := unused_any 7 b n s pl pk nl cl nk ck (w.alloc (.cells #[.int .i64 7, .bool b, .int .i64 n, .string s, .slice pl nl cl, .slice pk nk ck] 25)) (by omega) (by omega)
  unfold UnB at hu
  rw [hu0] at hu
  clear hu0
  go_enter Try.func59, Try.ntmps59
  go_wp2_with fail
  refine hu.mono ?_
  rintro e w1 ⟨rfl, hb⟩
  have hlow : Below w.heap.size w w1 := (one_below w _).trans (hb.mono (by simp))
  have hbx : Box w1 w.heap.size #[.int .i64 7, .bool b, .int .i64 n, .string s, .slice pl nl cl, .slice pk nk ck] := box_below (Box.new w _) hb
  obtain ⟨c0, c1, c2, c3, c4, c5⟩ := hbx.cell
  clear hb hu
  go_wp2_with fail
  have HW0 : Hid (MLoop l d (p + 1) 0 (p + 1) #[.int .i64 7, .bool b, .int .i64 n, .string s, .slice pl nl cl, .slice pk nk ck] w w1) := Lib.hid ⟨hlow, hbx, ⟨Nat.le_refl _, HG.out.hp⟩, rfl⟩
  have hp1 := HG.out.hp
  have hb1 := HG.out.big
  clear hlow hbx
  go_loopw [2, 9] (fun pp i wr => ∃ j pj : Nat, j ≤ nl ∧ pj ≤ 4096 ∧ pp = .int .i64 pj ∧ i = .int .i64 j ∧ Hid (MLoop l d (p + 1) j pj #[.int .i64 7, .bool b, .int .i64 n, .string s, .slice pl nl cl, .slice pk nk ck] w wr)) (fun _ i _ => nl - (intOf i).toNat)
  case atStart => exact ⟨0, p + 1, Nat.zero_le _, HG.out.hp, by go_num, rfl, HW0⟩
  case round =>
    rename_i wr
    obtain ⟨j, pj, hj, hpj, rfl, rfl, HW⟩ := hrel
    obtain ⟨c0, c1, c2, c3, c4, c5⟩ := HW.out.box.cell
    by_cases hlt : j < nl
    · obtain ⟨x, hx⟩ : ∃ x, l[j]? = some x := ⟨l[j]'(by rw [HG.out.len]; exact hlt), List.getElem?_eq_getElem _⟩
      obtain ⟨bl, ol, rfl, hbl, hInL⟩ := HG.out.mem (by rw [HG.out.len]; omega)
      obtain ⟨d0, d1, d2, d3, d4, d5, e0, e1, e2, e3, e4, e5, hInx⟩ := (VT.InL.keep (fun q hq => HW.out.low.cell (Nat.lt_of_lt_of_le hq HG.out.hB)) hbl hInL).at hx
      obtain ⟨xk, xb, xn, xs, xpl, xnl, xcl, xpk, xnk, xck, rfl, rfl, rfl, rfl, rfl, rfl⟩ := hInx.shape
      have HC := Lib.hid (HG.out.ih x _ B wr d pj (HG.out.parts x (List.mem_of_getElem? hx)) hInx (Nat.le_trans HG.out.hB HW.out.low.size) (by have := HG.out.hd; omega) hpj)
      have HDR := Lib.hid (drop_at hx)
      clear hInx hInL hx
      go_wp2_with fail
      refine HC.out.mono ?_
      rintro e w3 ⟨hb3, hn3, hs3⟩
      have hlow3 := HW.out.low.trans (hb3.mono HW.out.low.size)
      have hbox3 := box_below HW.out.box hb3
      cases hv : mayV x d pj with
      | none =>
        obtain ⟨nn, rfl⟩ := hn3 hv
        have HP := Lib.hid ((HE.out w3 hlow3).1 (by rw [← HW.out.rest, HDR.out]; unfold mayL; rw [hv]) nn)
        clear hv hn3 hs3 hb3 hlow3 hbox3
        go_wp2_with fail
        go_ret2
        exact HP.out
      | some p3 =>
        obtain rfl := hs3 p3 hv
        have h3 := mayV_le x _ _ _ hv
        have hle3 : p3 ≤ 4096 := h3.2
        have hrest3 : mayL (l.drop (j + 1)) d p3 = mayL l d (p + 1) := by
          rw [← HW.out.rest, HDR.out]
          conv => rhs; unfold mayL
          rw [hv]
        have HW3 := Lib.hid (MLoop.mk (p := p + 1) hlow3 hbox3 ⟨by have := HW.out.le; omega, h3.2⟩ hrest3)
        clear hv hn3 hs3 hb3 hlow3 hbox3 h3 hrest3
        go_wp2_with fail
        go_roundw
        case rel => exact ⟨j + 1, p3, by omega, hle3, rfl, by go_num, HW3⟩
        case measure => simp [intOf]; omega
    · obtain rfl : j = nl := by omega
      have HP := Lib.hid ((HE.out wr HW.out.low).2 pj (by rw [← HW.out.rest, ← HG.out.len, List.drop_length]; unfold mayL; rfl))
      go_wp2_with fail
      go_ret2
      exact HP.out
end Val
end Go.Proofs.Ytmhlipncelgmlaa
