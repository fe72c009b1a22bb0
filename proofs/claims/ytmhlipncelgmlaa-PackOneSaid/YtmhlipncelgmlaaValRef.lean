/- THE WALKS over the document's own answers on values: may a value be? -/
import Derived.Test.YtmhlipncelgmlaaRows
import Derived.Test.YtmhlipncelgmlaaValBase
import Derived.Test.YtmhlipncelgmlaaVal
import Derived.Test.YtmhlipncelgmlaaValForm
import Derived.Test.YtmhlipncelgmlaaValForm2
import Derived.WalkKit
import Derived.Lib.Hide
import Derived.WalkSpells
import Derived.WalkLawsBesides
import Derived.Outline
namespace Go.Proofs.Ytmhlipncelgmlaa
open Go.RowKit
set_option linter.unusedVariables false
set_option linter.unusedSimpArgs false
namespace Val
/-- Are all fields zero that a value's kind does not use? -/
def unusedF (k : Int) (b : Bool) (n : Int) (s : ByteArray) (nl nk : Nat) : Bool :=
  if !(k == 1) && b then false
  else if !(k == 2) && (!(k == 6) && (!(k == 7) && !(n == 0))) then false
  else if !(k == 3) && !s.toList.isEmpty then false
  else if !(k == 4) && (!(k == 5) && !(nl == 0)) then false
  else k == 5 || nk == 0
def UnB (k : Int) (b : Bool) (n : Int) (s : ByteArray) (nl nk : Nat) (W : World) (e : Ending) (w' : World) : Prop := e = .returned (.bool (unusedF k b n s nl nk)) ∧ Below W.heap.size W w'
theorem one_below (W : World) (a : Obj) : Below W.heap.size W (W.alloc a) := (Below.refl _ W).alloc (Nat.le_refl _) _
set_option maxHeartbeats 1000000 in
theorem unused_0 (b : Bool) (n : Int) (s : ByteArray) (pl pk : Option Addr) (nl cl nk ck : Nat) (W : World) :
    Calls Try.prog 86 #[.agg #[.int .i64 0, .bool b, .int .i64 n, .string s, .slice pl nl cl, .slice pk nk ck]] W (UnB 0 b n s nl nk W) := by
  go_enter Try.func86, Try.ntmps86
  go_wp2
  all_goals
    go_ret
    refine ⟨?_, one_below _ _⟩
    first | (simp_all [unusedF, cast_zero]; done) | (simp_all [unusedF, cast_zero]; omega) | (simp_all [unusedF, cast_zero]; intros; omega)
set_option maxHeartbeats 1000000 in
theorem unused_1 (b : Bool) (n : Int) (s : ByteArray) (pl pk : Option Addr) (nl cl nk ck : Nat) (W : World) :
    Calls Try.prog 86 #[.agg #[.int .i64 1, .bool b, .int .i64 n, .string s, .slice pl nl cl, .slice pk nk ck]] W (UnB 1 b n s nl nk W) := by
  go_enter Try.func86, Try.ntmps86
  go_wp2
  all_goals
    go_ret
    refine ⟨?_, one_below _ _⟩
    first | (simp_all [unusedF, cast_zero]; done) | (simp_all [unusedF, cast_zero]; omega) | (simp_all [unusedF, cast_zero]; intros; omega)
set_option maxHeartbeats 1000000 in
theorem unused_2 (b : Bool) (n : Int) (s : ByteArray) (pl pk : Option Addr) (nl cl nk ck : Nat) (W : World) :
    Calls Try.prog 86 #[.agg #[.int .i64 2, .bool b, .int .i64 n, .string s, .slice pl nl cl, .slice pk nk ck]] W (UnB 2 b n s nl nk W) := by
  go_enter Try.func86, Try.ntmps86
  go_wp2
  all_goals
    go_ret
    refine ⟨?_, one_below _ _⟩
    first | (simp_all [unusedF, cast_zero]; done) | (simp_all [unusedF, cast_zero]; omega) | (simp_all [unusedF, cast_zero]; intros; omega)
set_option maxHeartbeats 1000000 in
theorem unused_3 (b : Bool) (n : Int) (s : ByteArray) (pl pk : Option Addr) (nl cl nk ck : Nat) (W : World) :
    Calls Try.prog 86 #[.agg #[.int .i64 3, .bool b, .int .i64 n, .string s, .slice pl nl cl, .slice pk nk ck]] W (UnB 3 b n s nl nk W) := by
  go_enter Try.func86, Try.ntmps86
  go_wp2
  all_goals
    go_ret
    refine ⟨?_, one_below _ _⟩
    first | (simp_all [unusedF, cast_zero]; done) | (simp_all [unusedF, cast_zero]; omega) | (simp_all [unusedF, cast_zero]; intros; omega)
set_option maxHeartbeats 1000000 in
theorem unused_4 (b : Bool) (n : Int) (s : ByteArray) (pl pk : Option Addr) (nl cl nk ck : Nat) (W : World) :
    Calls Try.prog 86 #[.agg #[.int .i64 4, .bool b, .int .i64 n, .string s, .slice pl nl cl, .slice pk nk ck]] W (UnB 4 b n s nl nk W) := by
  go_enter Try.func86, Try.ntmps86
  go_wp2
  all_goals
    go_ret
    refine ⟨?_, one_below _ _⟩
    first | (simp_all [unusedF, cast_zero]; done) | (simp_all [unusedF, cast_zero]; omega) | (simp_all [unusedF, cast_zero]; intros; omega)
set_option maxHeartbeats 1000000 in
theorem unused_5 (b : Bool) (n : Int) (s : ByteArray) (pl pk : Option Addr) (nl cl nk ck : Nat) (W : World) :
    Calls Try.prog 86 #[.agg #[.int .i64 5, .bool b, .int .i64 n, .string s, .slice pl nl cl, .slice pk nk ck]] W (UnB 5 b n s nl nk W) := by
  go_enter Try.func86, Try.ntmps86
  go_wp2
  all_goals
    go_ret
    refine ⟨?_, one_below _ _⟩
    first | (simp_all [unusedF, cast_zero]; done) | (simp_all [unusedF, cast_zero]; omega) | (simp_all [unusedF, cast_zero]; intros; omega)
set_option maxHeartbeats 1000000 in
theorem unused_6 (b : Bool) (n : Int) (s : ByteArray) (pl pk : Option Addr) (nl cl nk ck : Nat) (W : World) :
    Calls Try.prog 86 #[.agg #[.int .i64 6, .bool b, .int .i64 n, .string s, .slice pl nl cl, .slice pk nk ck]] W (UnB 6 b n s nl nk W) := by
  go_enter Try.func86, Try.ntmps86
  go_wp2
  all_goals
    go_ret
    refine ⟨?_, one_below _ _⟩
    first | (simp_all [unusedF, cast_zero]; done) | (simp_all [unusedF, cast_zero]; omega) | (simp_all [unusedF, cast_zero]; intros; omega)
set_option maxHeartbeats 1000000 in
theorem unused_7 (b : Bool) (n : Int) (s : ByteArray) (pl pk : Option Addr) (nl cl nk ck : Nat) (W : World) :
    Calls Try.prog 86 #[.agg #[.int .i64 7, .bool b, .int .i64 n, .string s, .slice pl nl cl, .slice pk nk ck]] W (UnB 7 b n s nl nk W) := by
  go_enter Try.func86, Try.ntmps86
  go_wp2
  all_goals
    go_ret
    refine ⟨?_, one_below _ _⟩
    first | (simp_all [unusedF, cast_zero]; done) | (simp_all [unusedF, cast_zero]; omega) | (simp_all [unusedF, cast_zero]; intros; omega)
theorem unused_any (k : Int) (b : Bool) (n : Int) (s : ByteArray) (pl pk : Option Addr) (nl cl nk ck : Nat) (W : World) (h0 : 0 ≤ k) (h7 : k ≤ 7) :
    Calls Try.prog 86 #[.agg #[.int .i64 k, .bool b, .int .i64 n, .string s, .slice pl nl cl, .slice pk nk ck]] W (UnB k b n s nl nk W) := by
  rcases (show k = 0 ∨ k = 1 ∨ k = 2 ∨ k = 3 ∨ k = 4 ∨ k = 5 ∨ k = 6 ∨ k = 7 by omega) with rfl | rfl | rfl | rfl | rfl | rfl | rfl | rfl
  · exact unused_0 b n s pl pk nl cl nk ck W
  · exact unused_1 b n s pl pk nl cl nk ck W
  · exact unused_2 b n s pl pk nl cl nk ck W
  · exact unused_3 b n s pl pk nl cl nk ck W
  · exact unused_4 b n s pl pk nl cl nk ck W
  · exact unused_5 b n s pl pk nl cl nk ck W
  · exact unused_6 b n s pl pk nl cl nk ck W
  · exact unused_7 b n s pl pk nl cl nk ck W
end Val
end Go.Proofs.Ytmhlipncelgmlaa
