/- Bytes as values: the reader's small functions, of any bytes. -/
import Derived.Test.YtmhlipncelgmlaaPkParse
import Derived.Test.YtmhlipncelgmlaaFrBase
import Derived.Test.YtmhlipncelgmlaaValCmp
namespace Go.Proofs.Ytmhlipncelgmlaa
open Go.RowKit
set_option linter.unusedVariables false
set_option linter.unusedSimpArgs false
namespace Pk
open Val (Keeps Box)
/-- The fault c, thrown. -/
def thrown (c : Int) : Ending := .panicked [{ v := .iface 28 (.int .i64 c), recovered := false }]
theorem keepsF {X : Nat → Prop} {w w' : World} (h : Keeps X w w') : Fr.Keeps X w w' := ⟨h.os, h.tape, h.output, h.size, h.block⟩
theorem keepsV {X : Nat → Prop} {w w' : World} (h : Fr.Keeps X w w') : Keeps X w w' := ⟨h.os, h.tape, h.output, h.size, h.block⟩
/-- The reader's block: what is left to read, at a; how many parts there were. -/
structure Ra (w : World) (R B : Nat) (a : Option Addr) (cap : Nat) (l : List UInt8) (p : Int) : Prop where
  at_ : w.heap[R]? = some (.cells #[.slice a l.length cap, .int .i64 p] 66 (0, 0))
  le : l.length ≤ cap
  cap : cap ≤ 9223372036854775807
  src : Fr.Src w (fun k => k = R ∨ B ≤ k) a l
def Rb (w : World) (R B : Nat) (l : List UInt8) (p : Int) : Prop := ∃ a cap, Ra w R B a cap l p
section
variable {w w' : World} {R B : Nat} {a : Option Addr} {cap : Nat} {l : List UInt8} {p : Int}
theorem Ra.lt (h : Ra w R B a cap l p) : R < w.heap.size := (Array.getElem?_eq_some_iff.1 h.at_).1
theorem Ra.cell (h : Ra w R B a cap l p) : w.cell? ⟨R, 0, none⟩ = some (.slice a l.length cap) ∧ w.cell? ⟨R, 1, none⟩ = some (.int .i64 p) ∧ w.frozen? ⟨R, 0, none⟩ = false ∧ w.frozen? ⟨R, 1, none⟩ = false := by
  have h0 := h.at_
  refine ⟨?_, ?_, ?_, ?_⟩ <;> simp [World.cell?, World.frozen?, h0]
/-- In a world in which nothing but blocks that are not these is another. -/
theorem Ra.keeps {X : Nat → Prop} (h : Ra w R B a cap l p) (hk : Keeps X w w') (hX : ∀ k, X k → k < w.heap.size → k ≠ R ∧ B ≤ k) : Ra w' R B a cap l p :=
  ⟨(hk.block R h.lt (fun x => (hX R x h.lt).1 rfl)).trans h.at_, h.le, h.cap, h.src.keeps (keepsF hk) (fun k x hl => .inr (hX k x hl).2) (fun k x _ => x)⟩
theorem Rb.lt (h : Rb w R B l p) : R < w.heap.size := by obtain ⟨a, c, h⟩ := h; exact h.lt
theorem Rb.keeps {X : Nat → Prop} (h : Rb w R B l p) (hk : Keeps X w w') (hX : ∀ k, X k → k < w.heap.size → k ≠ R ∧ B ≤ k) : Rb w' R B l p := by
  obtain ⟨a, c, h⟩ := h
  exact ⟨a, c, h.keeps hk hX⟩
theorem Rb.alloc (h : Rb w R B l p) (o : Obj) : Rb (w.alloc o) R B l p := h.keeps (X := fun _ => False) ((Keeps.refl _ w).alloc o) (fun _ f _ => f.elim)
theorem Ra.put (h : Ra w R B a cap l p) (k : Nat) : Ra (w.setCell ⟨R, 0, none⟩ (.slice (Fr.behind a cap k) (l.length - k) (cap - k))) R B (Fr.behind a cap k) (cap - k) (l.drop k) p := by
  have h0 := h.at_
  have h1 := h.le
  have h2 := h.cap
  have hk : Fr.Keeps (· = R) w (w.setCell ⟨R, 0, none⟩ (.slice (Fr.behind a cap k) (l.length - k) (cap - k))) := (Fr.Keeps.refl (· = R) w).setCell (p := ⟨R, 0, none⟩) (.inl rfl) _
  refine ⟨?_, by rw [List.length_drop]; omega, by omega, ((h.src.drop k h.le).keeps hk (fun k x _ => .inl x) (fun k x _ => x))⟩
  rw [List.length_drop]
  simp [World.setCell, Array.getElem?_modify, h0]
theorem Ra.parts (h : Ra w R B a cap l p) (p' : Int) : Ra (w.setCell ⟨R, 1, none⟩ (.int .i64 p')) R B a cap l p' := by
  have h0 := h.at_
  have hk : Fr.Keeps (· = R) w (w.setCell ⟨R, 1, none⟩ (.int .i64 p')) := (Fr.Keeps.refl (· = R) w).setCell (p := ⟨R, 1, none⟩) (.inl rfl) _
  refine ⟨?_, h.le, h.cap, h.src.keeps hk (fun k x _ => .inl x) (fun k x _ => x)⟩
  simp [World.setCell, Array.getElem?_modify, h0]
end
set_option maxRecDepth 100000 in
theorem take_any (R B : Nat) (a : Option Addr) (cap : Nat) (l : List UInt8) (p : Int) (k : Nat) (w : World) (h : Ra w R B a cap l p) (hk : k ≤ l.length) :
    Calls Try.prog 65 #[.pointer (some ⟨R, 0, none⟩), .int .u64 (k : Int)] w fun e w' => e = .returned (.slice a k cap) ∧ Ra w' R B (Fr.behind a cap k) (cap - k) (l.drop k) p ∧ Keeps (· = R) w w' := by
  have HP := Lib.hid (h.put k)
  have HK := Lib.hid ((Keeps.refl (· = R) w).setCell (p := ⟨R, 0, none⟩) (.inl rfl) (.slice (Fr.behind a cap k) (l.length - k) (cap - k)))
  obtain ⟨c0, c1, f0, f1⟩ := h.cell
  have hle := h.le
  have hc := h.cap
  clear h
  obtain ⟨n, hn⟩ : ∃ n, l.length = n := ⟨_, rfl⟩
  rw [hn] at hk hle c0 HP HK
  have h1 : ¬ (n : Int) < k := by omega
  have h2 : (k : Int) ≤ n := by omega
  have h3 : (k : Int) ≤ cap := by omega
  clear hn
  go_enter Try.func65, Try.ntmps65
  go_wp2
  all_goals
    go_ret
    have hw := And.intro HP.out HK.out
    refine ⟨rfl, ?_⟩
    first
      | exact hw
      | (unfold Fr.behind at hw ⊢; simp only [if_true, Nat.sub_self] at hw ⊢; exact hw)
      | (unfold Fr.behind at hw ⊢; simp_all)
set_option maxRecDepth 100000 in
theorem take_more (R B : Nat) (a : Option Addr) (cap : Nat) (l : List UInt8) (p : Int) (k : Nat) (w : World) (h : Ra w R B a cap l p) (hk : l.length < k) (hk2 : (k : Int) ≤ 18446744073709551615) :
    Calls Try.prog 65 #[.pointer (some ⟨R, 0, none⟩), .int .u64 (k : Int)] w fun e w' => e = thrown 22 ∧ w' = w := by
  obtain ⟨c0, c1, f0, f1⟩ := h.cell
  have hle := h.le
  have hc := h.cap
  clear h
  obtain ⟨n, hn⟩ : ∃ n, l.length = n := ⟨_, rfl⟩
  rw [hn] at hk hle c0
  have h1 : (n : Int) < k := by omega
  clear hn
  go_enter Try.func65, Try.ntmps65
  go_wp2
  exact ⟨rfl, rfl, rfl⟩
set_option maxRecDepth 100000 in
theorem demand_yes (w : World) : Calls Try.prog 88 #[.bool true] w fun e w' => (∃ v, e = .returned v) ∧ w' = w := by
  go_enter Try.func88, Try.ntmps88
  go_wp2
  go_end0
  exact ⟨⟨_, rfl⟩, rfl⟩
set_option maxRecDepth 100000 in
theorem demand_no (w : World) : Calls Try.prog 88 #[.bool false] w fun e w' => e = thrown 1 ∧ w' = w := by
  go_enter Try.func88, Try.ntmps88
  go_wp2
  exact ⟨rfl, rfl, rfl⟩
/-- What a step of the reader comes to: R's block alone is another. -/
def Got (R B : Nat) (p : Int) (w : World) (l : List UInt8) (w' : World) : Prop := Rb w' R B l p ∧ Keeps (· = R) w w'
set_option maxRecDepth 100000 in
theorem octet_ok (R B : Nat) (c : UInt8) (l : List UInt8) (p : Int) (w : World) (h : Rb w R B (c :: l) p) :
    Calls Try.prog 87 #[.pointer (some ⟨R, 0, none⟩)] w fun e w' => e = .returned (.int .u8 (c.toNat : Int)) ∧ Got R B p w l w' := by
  obtain ⟨a, cap, h⟩ := h
  obtain ⟨x, rfl, hx1, hx2, hx3⟩ := h.src (by simp)
  have hx0 := hx3 0 (.int .u8 (c.toNat : Int)) rfl
  have H := Lib.hid (take_any R B (some x) cap (c :: l) p 1 w h (by simp))
  have hxb : (x.add 0).block = x.block := by unfold Addr.add; split <;> rfl
  have HC : Hid (∀ w1, Keeps (· = R) w w1 → w1.cell? (x.add 0) = some (.int .u8 (c.toNat : Int))) := Lib.hid fun w1 hk => (hk.cell (p := x.add 0) (by rw [hxb]; exact hx1) (by rw [hxb]; exact fun e => hx2 (.inl e))).trans hx0
  clear h hx0 hx3
  go_enter Try.func87, Try.ntmps87
  go_wp2_with fail
  refine H.out.mono ?_
  rintro e w1 ⟨rfl, h1, k1⟩
  have hc0 := HC.out w1 k1
  have hc1 := hc0
  rw [Addr.add_zero'] at hc1
  have HG : Hid (Got R B p w l w1) := Lib.hid ⟨⟨_, _, h1⟩, k1⟩
  clear h1 k1
  go_wp2
  go_ret
  exact ⟨rfl, HG.out⟩
set_option maxRecDepth 100000 in
theorem octet_more (R B : Nat) (p : Int) (w : World) (h : Rb w R B [] p) :
    Calls Try.prog 87 #[.pointer (some ⟨R, 0, none⟩)] w fun e w' => e = thrown 22 ∧ w' = w := by
  obtain ⟨a, cap, h⟩ := h
  have H := Lib.hid (take_more R B a cap [] p 1 w h (by simp) (by decide))
  clear h
  go_enter Try.func87, Try.ntmps87
  go_wp2_with fail
  refine H.out.mono ?_
  rintro e w1 ⟨rfl, rfl⟩
  exact ⟨rfl, rfl, rfl⟩
/-- What a reading call comes to. -/
def ReadPost {α : Type} (R B : Nat) (p : Int) (w : World) (f : α → Value) (x : Except Int (α × List UInt8)) (e : Ending) (w' : World) : Prop :=
  match x with | .error c => e = thrown c ∧ Keeps (· = R) w w' | .ok a => e = .returned (f a.1) ∧ Got R B p w a.2 w'
def u64V (n : Nat) : Value := .int .u64 (n : Int)
set_option maxRecDepth 100000 in
/-- The numbers at which a place is. -/
theorem bit_or : ∀ (k acc x : Nat), acc < 2 ^ k → x * 2 ^ k + acc < 18446744073709551616 → bits .or .u64 (acc : Int) ((x * 2 ^ k : Nat) : Int) = ((acc + x * 2 ^ k : Nat) : Int) := fun k acc x h h2 => by
  have h0 : 0 < 2 ^ k := Nat.pow_pos (by decide)
  have ha : acc < 18446744073709551616 := by omega
  have hb : x * 2 ^ k < 18446744073709551616 := by omega
  have h1 : (BitVec.ofInt 64 (acc : Int)).toNat = acc := by
    rw [BitVec.ofInt_natCast, BitVec.toNat_ofNat]; exact Nat.mod_eq_of_lt (by omega)
  have h3 : (BitVec.ofInt 64 ((x * 2 ^ k : Nat) : Int)).toNat = x * 2 ^ k := by
    rw [BitVec.ofInt_natCast, BitVec.toNat_ofNat]; exact Nat.mod_eq_of_lt (by omega)
  show IntKind.u64.wrap ((BitVec.ofInt 64 (acc : Int) ||| BitVec.ofInt 64 ((x * 2 ^ k : Nat) : Int)).toNat : Int) = _
  rw [BitVec.toNat_or, h1, h3, IntKind.wrap_u64]
  have e : acc ||| x * 2 ^ k = acc + x * 2 ^ k := by
    rw [Nat.or_comm, ← Nat.shiftLeft_eq, ← Nat.shiftLeft_add_eq_or_of_lt h]
    omega
  rw [e]
  omega
end Pk
end Go.Proofs.Ytmhlipncelgmlaa
