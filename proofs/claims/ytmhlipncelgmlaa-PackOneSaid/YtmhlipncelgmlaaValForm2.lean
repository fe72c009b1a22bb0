/- THE WALK over formed: is a value, without what its parts are, as its kind asks? -/
import Derived.Test.YtmhlipncelgmlaaRows
import Derived.Test.YtmhlipncelgmlaaValBase
import Derived.Test.YtmhlipncelgmlaaVal
import Derived.Test.YtmhlipncelgmlaaValForm
import Derived.WalkKit
import Derived.Lib.Hide
import Derived.WalkSpells
import Derived.WalkLawsBesides
import Derived.Outline
namespace Go.Proofs.Ytmhlipncelgmlaa
open Go.RowKit
set_option linter.unusedVariables false
set_option linter.unusedSimpArgs false
namespace Val
/-- A value of kind k with these fields, a map's keys being as they should or not. -/
def formedF (k : Int) (b : Bool) (n : Int) (s : ByteArray) (nl nk : Nat) (ok : Bool) : Bool :=
  if k = 0 then !b && (n == 0 && (s.toList.isEmpty && (nl == 0 && nk == 0)))
  else if k = 1 then n == 0 && (s.toList.isEmpty && (nl == 0 && nk == 0))
  else if k = 2 then !b && (s.toList.isEmpty && (nl == 0 && nk == 0))
  else if k = 6 ∨ k = 7 then decide (1 ≤ n) && (!b && (s.toList.isEmpty && (nl == 0 && nk == 0)))
  else if k = 3 then !b && (n == 0 && (nl == 0 && nk == 0))
  else if k = 4 then !b && (n == 0 && (s.toList.isEmpty && nk == 0))
  else if k = 5 then nk == nl && (ok && (!b && (n == 0 && s.toList.isEmpty)))
  else false
def OkB (k : Int) (b : Bool) (n : Int) (s : ByteArray) (nl nk : Nat) (ok : Bool) (W : World) (e : Ending) (w' : World) : Prop := e = .returned (.bool (formedF k b n s nl nk ok)) ∧ Below W.heap.size W w'
theorem cast_zero (n : Nat) : ((n : Int) == 0) = (n == 0) := by
  rw [Bool.eq_iff_iff]
  simp
theorem two_below (W : World) (a b : Obj) : Below W.heap.size W ((W.alloc a).alloc b) := ((Below.refl _ W).alloc (Nat.le_refl _) _).alloc (by simp) _
set_option maxHeartbeats 1000000 in
theorem formed_0 (b : Bool) (n : Int) (s : ByteArray) (pl pk : Option Addr) (nl cl nk ck : Nat) (W : World) :
    Calls Try.prog 53 #[.agg #[.int .i64 0, .bool b, .int .i64 n, .string s, .slice pl nl cl, .slice pk nk ck]] W (OkB 0 b n s nl nk true W) := by
  go_enter Try.func53, Try.ntmps53
  go_wp2
  all_goals
    go_ret
    refine ⟨?_, ?_⟩
    · first | (simp_all [formedF, cast_zero]; done) | (simp_all [formedF, cast_zero]; intros; omega)
    · first | exact two_below _ _ _ | exact (two_below _ _ _).setCell (by simp) _ | exact ((two_below _ _ _).setCell (by simp) _).setCell (by simp) _
set_option maxHeartbeats 1000000 in
theorem formed_1 (b : Bool) (n : Int) (s : ByteArray) (pl pk : Option Addr) (nl cl nk ck : Nat) (W : World) :
    Calls Try.prog 53 #[.agg #[.int .i64 1, .bool b, .int .i64 n, .string s, .slice pl nl cl, .slice pk nk ck]] W (OkB 1 b n s nl nk true W) := by
  go_enter Try.func53, Try.ntmps53
  go_wp2
  all_goals
    go_ret
    refine ⟨?_, ?_⟩
    · first | (simp_all [formedF, cast_zero]; done) | (simp_all [formedF, cast_zero]; intros; omega)
    · first | exact two_below _ _ _ | exact (two_below _ _ _).setCell (by simp) _ | exact ((two_below _ _ _).setCell (by simp) _).setCell (by simp) _
set_option maxHeartbeats 1000000 in
theorem formed_2 (b : Bool) (n : Int) (s : ByteArray) (pl pk : Option Addr) (nl cl nk ck : Nat) (W : World) :
    Calls Try.prog 53 #[.agg #[.int .i64 2, .bool b, .int .i64 n, .string s, .slice pl nl cl, .slice pk nk ck]] W (OkB 2 b n s nl nk true W) := by
  go_enter Try.func53, Try.ntmps53
  go_wp2
  all_goals
    go_ret
    refine ⟨?_, ?_⟩
    · first | (simp_all [formedF, cast_zero]; done) | (simp_all [formedF, cast_zero]; intros; omega)
    · first | exact two_below _ _ _ | exact (two_below _ _ _).setCell (by simp) _ | exact ((two_below _ _ _).setCell (by simp) _).setCell (by simp) _
set_option maxHeartbeats 1000000 in
theorem formed_6 (b : Bool) (n : Int) (s : ByteArray) (pl pk : Option Addr) (nl cl nk ck : Nat) (W : World) :
    Calls Try.prog 53 #[.agg #[.int .i64 6, .bool b, .int .i64 n, .string s, .slice pl nl cl, .slice pk nk ck]] W (OkB 6 b n s nl nk true W) := by
  go_enter Try.func53, Try.ntmps53
  go_wp2
  all_goals
    go_ret
    refine ⟨?_, ?_⟩
    · first | (simp_all [formedF, cast_zero]; done) | (simp_all [formedF, cast_zero]; intros; omega)
    · first | exact two_below _ _ _ | exact (two_below _ _ _).setCell (by simp) _ | exact ((two_below _ _ _).setCell (by simp) _).setCell (by simp) _
set_option maxHeartbeats 1000000 in
theorem formed_7 (b : Bool) (n : Int) (s : ByteArray) (pl pk : Option Addr) (nl cl nk ck : Nat) (W : World) :
    Calls Try.prog 53 #[.agg #[.int .i64 7, .bool b, .int .i64 n, .string s, .slice pl nl cl, .slice pk nk ck]] W (OkB 7 b n s nl nk true W) := by
  go_enter Try.func53, Try.ntmps53
  go_wp2
  all_goals
    go_ret
    refine ⟨?_, ?_⟩
    · first | (simp_all [formedF, cast_zero]; done) | (simp_all [formedF, cast_zero]; intros; omega)
    · first | exact two_below _ _ _ | exact (two_below _ _ _).setCell (by simp) _ | exact ((two_below _ _ _).setCell (by simp) _).setCell (by simp) _
set_option maxHeartbeats 1000000 in
theorem formed_3 (b : Bool) (n : Int) (s : ByteArray) (pl pk : Option Addr) (nl cl nk ck : Nat) (W : World) :
    Calls Try.prog 53 #[.agg #[.int .i64 3, .bool b, .int .i64 n, .string s, .slice pl nl cl, .slice pk nk ck]] W (OkB 3 b n s nl nk true W) := by
  go_enter Try.func53, Try.ntmps53
  go_wp2
  all_goals
    go_ret
    refine ⟨?_, ?_⟩
    · first | (simp_all [formedF, cast_zero]; done) | (simp_all [formedF, cast_zero]; intros; omega)
    · first | exact two_below _ _ _ | exact (two_below _ _ _).setCell (by simp) _ | exact ((two_below _ _ _).setCell (by simp) _).setCell (by simp) _
set_option maxHeartbeats 1000000 in
theorem formed_4 (b : Bool) (n : Int) (s : ByteArray) (pl pk : Option Addr) (nl cl nk ck : Nat) (W : World) :
    Calls Try.prog 53 #[.agg #[.int .i64 4, .bool b, .int .i64 n, .string s, .slice pl nl cl, .slice pk nk ck]] W (OkB 4 b n s nl nk true W) := by
  go_enter Try.func53, Try.ntmps53
  go_wp2
  all_goals
    go_ret
    refine ⟨?_, ?_⟩
    · first | (simp_all [formedF, cast_zero]; done) | (simp_all [formedF, cast_zero]; intros; omega)
    · first | exact two_below _ _ _ | exact (two_below _ _ _).setCell (by simp) _ | exact ((two_below _ _ _).setCell (by simp) _).setCell (by simp) _
set_option maxHeartbeats 1000000 in
theorem formed_5 (b : Bool) (n : Int) (s : ByteArray) (pl pk : Option Addr) (nl cl ck B : Nat) (ks : List ByteArray) (W : World) (hk : VT.KeysIn W B pk ks) (hl : ks.length ≤ maxLen) (hB : B ≤ W.heap.size) :
    Calls Try.prog 53 #[.agg #[.int .i64 5, .bool b, .int .i64 n, .string s, .slice pl nl cl, .slice pk ks.length ck]] W (OkB 5 b n s nl ks.length (keysTo ks ks.length) W) := by
  have hkr : ∀ V, Below W.heap.size W V → Calls Try.prog 85 #[.slice pk ks.length ck] V fun e w' => e = .returned (.bool (keysTo ks ks.length)) ∧ V = w' := fun V hV =>
    keysRise_any pk ck B ks V (hk.keep fun q hq => hV.cell (by omega)) hl
  have HKR := Lib.hid hkr
  clear hkr hk hl hB
  generalize ks.length = nk at *
  obtain ⟨ok, hok⟩ : ∃ ok, keysTo ks nk = ok := ⟨_, rfl⟩
  rw [hok] at HKR ⊢
  clear hok
  go_enter Try.func53, Try.ntmps53
  go_wp2_with (go_at_call 85; refine (HKR.out _ (two_below _ _ _)).mono ?_; rintro e w' ⟨rfl, rfl⟩)
  all_goals
    go_ret
    refine ⟨?_, ?_⟩
    · first | (simp_all [formedF, cast_zero]; done) | (simp_all [formedF, cast_zero]; intros; omega)
    · first | exact two_below _ _ _ | exact (two_below _ _ _).setCell (by simp) _ | exact ((two_below _ _ _).setCell (by simp) _).setCell (by simp) _
set_option maxHeartbeats 1000000 in
theorem formed_other (k : Int) (b : Bool) (n : Int) (s : ByteArray) (pl pk : Option Addr) (nl cl nk ck : Nat) (W : World) (ok : Bool) (hk : k < 0 ∨ 7 < k) :
    Calls Try.prog 53 #[.agg #[.int .i64 k, .bool b, .int .i64 n, .string s, .slice pl nl cl, .slice pk nk ck]] W (OkB k b n s nl nk ok W) := by
  have hF : formedF k b n s nl nk ok = false := by
    unfold formedF
    rw [if_neg (by omega), if_neg (by omega), if_neg (by omega), if_neg (by omega), if_neg (by omega), if_neg (by omega), if_neg (by omega)]
  unfold OkB
  rw [hF]
  have h0 : (k == 0) = false := by simp; omega
  have h1 : (k == 1) = false := by simp; omega
  have h2 : (k == 2) = false := by simp; omega
  have h3 : (k == 3) = false := by simp; omega
  have h4 : (k == 4) = false := by simp; omega
  have h5 : (k == 5) = false := by simp; omega
  have h6 : (k == 6) = false := by simp; omega
  have h7 : (k == 7) = false := by simp; omega
  clear hk hF
  go_enter Try.func53, Try.ntmps53
  go_wp2
  go_ret
  exact ⟨rfl, two_below _ _ _⟩
/-- Is a value, without what its parts are, as its kind asks? -/
def formedV : VT → Bool
  | .mk k b n s l ks => formedF k b n s l.length ks.length (keysTo ks ks.length)
theorem formedF_ok {k : Int} {b : Bool} {n : Int} {s : ByteArray} {nl nk : Nat} {ok ok' : Bool} (h : k ≠ 5) : formedF k b n s nl nk ok = formedF k b n s nl nk ok' := by
  unfold formedF
  simp only [if_neg h]
theorem formed_any (t : VT) (v : Value) (B : Nat) (W : World) (h : VT.In W B t v) (hB : B ≤ W.heap.size) :
    Calls Try.prog 53 #[v] W fun e w' => e = .returned (.bool (formedV t)) ∧ Below W.heap.size W w' := by
  obtain ⟨k, b, n, s, l, ks⟩ := t
  unfold VT.In at h
  obtain ⟨pl, cl, pk, ck, rfl, h1, h2, h3, h4, hks, hl⟩ := h
  by_cases h5 : k = 5
  · subst h5
    exact formed_5 b n s pl pk l.length cl ck B ks W hks (by omega) hB
  · have e : formedV (.mk k b n s l ks) = formedF k b n s l.length ks.length true := formedF_ok h5
    rw [e]
    by_cases ho : k < 0 ∨ 7 < k
    · exact formed_other k b n s pl pk l.length cl ks.length ck W true ho
    · rcases (show k = 0 ∨ k = 1 ∨ k = 2 ∨ k = 3 ∨ k = 4 ∨ k = 6 ∨ k = 7 by omega) with rfl | rfl | rfl | rfl | rfl | rfl | rfl
      · exact formed_0 b n s pl pk l.length cl ks.length ck W
      · exact formed_1 b n s pl pk l.length cl ks.length ck W
      · exact formed_2 b n s pl pk l.length cl ks.length ck W
      · exact formed_3 b n s pl pk l.length cl ks.length ck W
      · exact formed_4 b n s pl pk l.length cl ks.length ck W
      · exact formed_6 b n s pl pk l.length cl ks.length ck W
      · exact formed_7 b n s pl pk l.length cl ks.length ck W
end Val
end Go.Proofs.Ytmhlipncelgmlaa
