/- THE WALK over the document's own answer: may a value be? -/
import Derived.Test.YtmhlipncelgmlaaRows
import Derived.Test.YtmhlipncelgmlaaValBase
import Derived.Test.YtmhlipncelgmlaaVal
import Derived.Test.YtmhlipncelgmlaaValForm
import Derived.Test.YtmhlipncelgmlaaValForm2
import Derived.Test.YtmhlipncelgmlaaValCmp
import Derived.Test.YtmhlipncelgmlaaValWalk
import Derived.Test.YtmhlipncelgmlaaValRef
import Derived.Deep.QuietTactic
import Derived.BigQuiet
import Derived.WalkKit
import Derived.Lib.Hide
import Derived.WalkSpells
import Derived.WalkLawsBesides
import Derived.Outline
namespace Go.Proofs.Ytmhlipncelgmlaa
open Go.RowKit
set_option linter.unusedVariables false
set_option linter.unusedSimpArgs false
namespace Val
/-- May a value be, but for its parts, nested so deep, so many parts ahead? -/
def mayHere (k : Int) (b : Bool) (n : Int) (s : ByteArray) (nl nk : Nat) (ok : Bool) (d p : Nat) : Bool :=
  decide (p + 1 ≤ 4096) && (decide (1 ≤ d) && (decide (0 ≤ k) && (decide (k ≤ 7) && (unusedF k b n s nl nk && (!((k == 6 || k == 7) && decide (n < 1)) && (!(k == 5) || (nk == nl && ok)))))))
mutual
/-- The parts counted, if the value may be. -/
def mayV : VT → Nat → Nat → Option Nat
  | .mk k b n s l ks, d, p => if mayHere k b n s l.length ks.length (keysTo ks ks.length) d p then mayL l (d - 1) (p + 1) else none
def mayL : List VT → Nat → Nat → Option Nat
  | [], _, p => some p
  | t :: ts, d, p => match mayV t d p with
    | none => none
    | some p' => mayL ts d p'
end
mutual
theorem mayV_le : ∀ (t : VT) (d p p' : Nat), mayV t d p = some p' → p < p' ∧ p' ≤ 4096
  | .mk k b n s l ks, d, p, p', h => by
    unfold mayV at h
    split at h
    · rename_i hh
      have hp : p + 1 ≤ 4096 := by
        simp only [mayHere, Bool.and_eq_true, decide_eq_true_eq] at hh
        exact hh.1
      have := mayL_le l _ _ _ hp h
      omega
    · cases h
theorem mayL_le : ∀ (l : List VT) (d p p' : Nat), p ≤ 4096 → mayL l d p = some p' → p ≤ p' ∧ p' ≤ 4096
  | [], d, p, p', hp, h => by unfold mayL at h; cases h; omega
  | t :: ts, d, p, p', hp, h => by
    unfold mayL at h
    cases hv : mayV t d p with
    | none => rw [hv] at h; cases h
    | some p1 =>
      rw [hv] at h
      have h1 := mayV_le t _ _ _ hv
      have h2 := mayL_le ts _ _ _ h1.2 h
      omega
end
def MayPost (t : VT) (d p : Nat) (w : World) (e : Ending) (w' : World) : Prop :=
  Below w.heap.size w w' ∧ (mayV t d p = none → ∃ n : Int, e = .returned (.tuple #[.int .i64 n, .bool false])) ∧ ∀ p', mayV t d p = some p' → e = .returned (.tuple #[.int .i64 p', .bool true])
theorem MayPost.no {t : VT} {d p : Nat} {w w' : World} (h : mayV t d p = none) (hb : Below w.heap.size w w') (n : Int) : MayPost t d p w (.returned (.tuple #[.int .i64 n, .bool false])) w' :=
  ⟨hb, fun _ => ⟨n, rfl⟩, fun p' h' => by rw [h] at h'; cases h'⟩
theorem MayPost.yes {t : VT} {d p p' : Nat} {w w' : World} (h : mayV t d p = some p') (hb : Below w.heap.size w w') : MayPost t d p w (.returned (.tuple #[.int .i64 p', .bool true])) w' :=
  ⟨hb, (fun h' => by rw [h] at h'; cases h'), fun q h' => by rw [h] at h'; cases h'; rfl⟩
theorem box_below {A : Nat} {cs : Array Value} {w w' : World} (h : Box w A cs) (hb : Below w.heap.size w w') : Box w' A cs := (hb.block _ h.lt).trans h
set_option maxHeartbeats 1000000 in
theorem may_no_a (k : Int) (b : Bool) (n : Int) (s : ByteArray) (pl pk : Option Addr) (nl cl nk ck d p : Nat) (w : World) (hp : p ≤ 4096) (hq : 4096 < p + 1) :
    Calls Try.prog 59 #[.agg #[.int .i64 k, .bool b, .int .i64 n, .string s, .slice pl nl cl, .slice pk nk ck], .int .i64 d, .int .i64 p] w fun e w' => (∃ n : Int, e = .returned (.tuple #[.int .i64 n, .bool false])) ∧ Below w.heap.size w w' := by
  have t1 : decide ((4096 : Int) < (p : Int) + 1) = true := by simp; omega
  clear hq
  go_enter Try.func59, Try.ntmps59
  go_wp2
  go_ret2
  exact ⟨⟨_, rfl⟩, one_below _ _⟩
set_option maxHeartbeats 1000000 in
theorem may_no_b (k : Int) (b : Bool) (n : Int) (s : ByteArray) (pl pk : Option Addr) (nl cl nk ck d p : Nat) (w : World) (hp : p + 1 ≤ 4096) (hq : d = 0) :
    Calls Try.prog 59 #[.agg #[.int .i64 k, .bool b, .int .i64 n, .string s, .slice pl nl cl, .slice pk nk ck], .int .i64 d, .int .i64 p] w fun e w' => (∃ n : Int, e = .returned (.tuple #[.int .i64 n, .bool false])) ∧ Below w.heap.size w w' := by
  subst hq
  have t1 : decide ((4096 : Int) < (p : Int) + 1) = false := by simp; omega
  go_enter Try.func59, Try.ntmps59
  go_wp2
  go_ret2
  exact ⟨⟨_, rfl⟩, one_below _ _⟩
set_option maxHeartbeats 1000000 in
theorem may_no_c (k : Int) (b : Bool) (n : Int) (s : ByteArray) (pl pk : Option Addr) (nl cl nk ck d p : Nat) (w : World) (hp : p + 1 ≤ 4096) (hd : 1 ≤ d) (hq : k < 0) :
    Calls Try.prog 59 #[.agg #[.int .i64 k, .bool b, .int .i64 n, .string s, .slice pl nl cl, .slice pk nk ck], .int .i64 d, .int .i64 p] w fun e w' => (∃ n : Int, e = .returned (.tuple #[.int .i64 n, .bool false])) ∧ Below w.heap.size w w' := by
  have t1 : decide ((4096 : Int) < (p : Int) + 1) = false := by simp; omega
  have t2 : decide ((d : Int) < 1) = false := by simp; omega
  have t3 : decide (k < 0) = true := by simp; omega
  clear hq
  go_enter Try.func59, Try.ntmps59
  go_wp2
  go_ret2
  exact ⟨⟨_, rfl⟩, one_below _ _⟩
set_option maxHeartbeats 1000000 in
theorem may_no_d (k : Int) (b : Bool) (n : Int) (s : ByteArray) (pl pk : Option Addr) (nl cl nk ck d p : Nat) (w : World) (hp : p + 1 ≤ 4096) (hd : 1 ≤ d) (hk0 : 0 ≤ k) (hq : 7 < k) :
    Calls Try.prog 59 #[.agg #[.int .i64 k, .bool b, .int .i64 n, .string s, .slice pl nl cl, .slice pk nk ck], .int .i64 d, .int .i64 p] w fun e w' => (∃ n : Int, e = .returned (.tuple #[.int .i64 n, .bool false])) ∧ Below w.heap.size w w' := by
  have t1 : decide ((4096 : Int) < (p : Int) + 1) = false := by simp; omega
  have t2 : decide ((d : Int) < 1) = false := by simp; omega
  have t3 : decide (k < 0) = false := by simp; omega
  have t4 : decide (7 < k) = true := by simp; omega
  clear hq
  go_enter Try.func59, Try.ntmps59
  go_wp2
  go_ret2
  exact ⟨⟨_, rfl⟩, one_below _ _⟩
set_option maxHeartbeats 1000000 in
theorem may_no_e (k : Int) (b : Bool) (n : Int) (s : ByteArray) (pl pk : Option Addr) (nl cl nk ck d p : Nat) (w : World) (hp : p + 1 ≤ 4096) (hd : 1 ≤ d) (hk0 : 0 ≤ k) (hk7 : k ≤ 7) (hq : unusedF k b n s nl nk = false) :
    Calls Try.prog 59 #[.agg #[.int .i64 k, .bool b, .int .i64 n, .string s, .slice pl nl cl, .slice pk nk ck], .int .i64 d, .int .i64 p] w fun e w' => (∃ n : Int, e = .returned (.tuple #[.int .i64 n, .bool false])) ∧ Below w.heap.size w w' := by
  have t1 : decide ((4096 : Int) < (p : Int) + 1) = false := by simp; omega
  have t2 : decide ((d : Int) < 1) = false := by simp; omega
  have t3 : decide (k < 0) = false := by simp; omega
  have t4 : decide (7 < k) = false := by simp; omega
  have hu := unused_any k b n s pl pk nl cl nk ck (w.alloc (.cells #[.int .i64 k, .bool b, .int .i64 n, .string s, .slice pl nl cl, .slice pk nk ck] 25)) hk0 hk7
  unfold UnB at hu
  rw [hq] at hu
  clear hq
  go_enter Try.func59, Try.ntmps59
  go_wp2_with fail
  refine hu.mono ?_
  rintro e w1 ⟨rfl, hb⟩
  have hlow : Below w.heap.size w w1 := (one_below w _).trans (hb.mono (by simp))
  obtain ⟨c0, c1, c2, c3, c4, c5⟩ := (box_below (Box.new w _) hb).cell
  clear hb hu
  go_wp2_with fail
  go_ret2
  exact ⟨⟨_, rfl⟩, hlow⟩
set_option maxHeartbeats 1000000 in
theorem may_no_f (k : Int) (b : Bool) (n : Int) (s : ByteArray) (pl pk : Option Addr) (nl cl nk ck d p : Nat) (w : World) (hp : p + 1 ≤ 4096) (hd : 1 ≤ d) (hk0 : 0 ≤ k) (hk7 : k ≤ 7) (hu0 : unusedF k b n s nl nk = true) (h6 : k = 6 ∨ k = 7) (hq : n < 1) :
    Calls Try.prog 59 #[.agg #[.int .i64 k, .bool b, .int .i64 n, .string s, .slice pl nl cl, .slice pk nk ck], .int .i64 d, .int .i64 p] w fun e w' => (∃ n : Int, e = .returned (.tuple #[.int .i64 n, .bool false])) ∧ Below w.heap.size w w' := by
  have t1 : decide ((4096 : Int) < (p : Int) + 1) = false := by simp; omega
  have t2 : decide ((d : Int) < 1) = false := by simp; omega
  have t3 : decide (k < 0) = false := by simp; omega
  have t4 : decide (7 < k) = false := by simp; omega
  have t5 : decide (n < 1) = true := by simp; omega
  have hu := unused_any k b n s pl pk nl cl nk ck (w.alloc (.cells #[.int .i64 k, .bool b, .int .i64 n, .string s, .slice pl nl cl, .slice pk nk ck] 25)) hk0 hk7
  unfold UnB at hu
  rw [hu0] at hu
  clear hu0
  clear hq
  rcases h6 with rfl | rfl
  · go_enter Try.func59, Try.ntmps59
    go_wp2_with fail
    refine hu.mono ?_
    rintro e w1 ⟨rfl, hb⟩
    have hlow : Below w.heap.size w w1 := (one_below w _).trans (hb.mono (by simp))
    obtain ⟨c0, c1, c2, c3, c4, c5⟩ := (box_below (Box.new w _) hb).cell
    clear hb hu
    go_wp2_with fail
    go_ret2
    exact ⟨⟨_, rfl⟩, hlow⟩
  · go_enter Try.func59, Try.ntmps59
    go_wp2_with fail
    refine hu.mono ?_
    rintro e w1 ⟨rfl, hb⟩
    have hlow : Below w.heap.size w w1 := (one_below w _).trans (hb.mono (by simp))
    obtain ⟨c0, c1, c2, c3, c4, c5⟩ := (box_below (Box.new w _) hb).cell
    clear hb hu
    go_wp2_with fail
    go_ret2
    exact ⟨⟨_, rfl⟩, hlow⟩
set_option maxHeartbeats 1000000 in
theorem may_no_g (b : Bool) (n : Int) (s : ByteArray) (pl pk : Option Addr) (nl cl nk ck d p : Nat) (w : World) (hp : p + 1 ≤ 4096) (hd : 1 ≤ d) (hu0 : unusedF 5 b n s nl nk = true) (hq : nk ≠ nl) :
    Calls Try.prog 59 #[.agg #[.int .i64 5, .bool b, .int .i64 n, .string s, .slice pl nl cl, .slice pk nk ck], .int .i64 d, .int .i64 p] w fun e w' => (∃ n : Int, e = .returned (.tuple #[.int .i64 n, .bool false])) ∧ Below w.heap.size w w' := by
  have t1 : decide ((4096 : Int) < (p : Int) + 1) = false := by simp; omega
  have t2 : decide ((d : Int) < 1) = false := by simp; omega
  have hu := unused_any 5 b n s pl pk nl cl nk ck (w.alloc (.cells #[.int .i64 5, .bool b, .int .i64 n, .string s, .slice pl nl cl, .slice pk nk ck] 25)) (by omega) (by omega)
  unfold UnB at hu
  rw [hu0] at hu
  have t6 : ((nk : Int) != (nl : Int)) = true := by simp only [bne_iff_ne]; omega
  clear hu0
  clear hq
  go_enter Try.func59, Try.ntmps59
  go_wp2_with fail
  refine hu.mono ?_
  rintro e w1 ⟨rfl, hb⟩
  have hlow : Below w.heap.size w w1 := (one_below w _).trans (hb.mono (by simp))
  obtain ⟨c0, c1, c2, c3, c4, c5⟩ := (box_below (Box.new w _) hb).cell
  clear hb hu
  go_wp2_with fail
  go_ret2
  exact ⟨⟨_, rfl⟩, hlow⟩
end Val
end Go.Proofs.Ytmhlipncelgmlaa
