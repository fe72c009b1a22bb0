/- The comparison by which rising sorts. -/
import Derived.Test.YtiphegccaijbgaaDoorRows
import Derived.Test.YtiphegccaijbgaaDoorValBase
import Derived.Test.YtiphegccaijbgaaDoorValCmp
import Derived.Test.YtiphegccaijbgaaDoorValOrd
import Derived.Test.YtiphegccaijbgaaDoorValOr
import Derived.WalkKit
import Derived.Lib.Hide
import Derived.WalkSpells
import Derived.WalkLawsBesides
import Derived.Outline
import Derived.StillTailTactics
namespace Go.Proofs.YtiphegccaijbgaaDoor
open Go.RowKit
set_option linter.unusedVariables false
set_option linter.unusedSimpArgs false
namespace Val
theorem cell_at {w : World} {b i : Nat} {cs : Array Value} {t : TypeId} {v : Value} (h : w.heap[b]? = some (.cells cs t (0, 0))) (hi : cs[i]? = some v) : w.cell? ⟨b, i, none⟩ = some v := by
  simp [World.cell?, h, hi]
set_option maxHeartbeats 1000000 in
set_option maxRecDepth 100000 in
theorem rising_cmp (a b P kb ko n c : Nat) (x y : ByteArray) (W : World) (hP : W.cell? ⟨P, 0, none⟩ = some (.slice (some ⟨kb, ko, none⟩) n c)) (ha : a < n) (hb : b < n) (hn : n ≤ 4194304) (hx : W.cell? ⟨kb, ko + a, none⟩ = some (.string x)) (hy : W.cell? ⟨kb, ko + b, none⟩ = some (.string y)) :
    Calls Tryd.prog 50 #[.int .i64 a, .int .i64 b, .pointer (some ⟨P, 0, none⟩)] W fun e w' => e = .returned (.int .i64 (orE (Lib.compareBytes x.data.toList y.data.toList) (cmpV a b))) ∧ ∃ o, w' = W.drew.alloc o := by
  have hS : ∀ V, Calls Tryd.prog 52 #[.string x, .string y] V fun e w' => e = .returned (.int .i64 (Lib.compareBytes x.data.toList y.data.toList)) ∧ w' = V := fun V => (str_cmp x y V).mono fun _ _ h => ⟨h.1, h.2.symm⟩
  have hI : ∀ V, Calls Tryd.prog 53 #[.int .i64 a, .int .i64 b] V fun e w' => e = .returned (.int .i64 (cmpV a b)) ∧ w' = V := fun V => (cmp_int a b V).mono fun _ _ h => ⟨h.1, h.2.symm⟩
  obtain ⟨p, hp⟩ : ∃ p, Lib.compareBytes x.data.toList y.data.toList = p := ⟨_, rfl⟩
  obtain ⟨q, hq⟩ : ∃ q, cmpV a b = q := ⟨_, rfl⟩
  rw [hp] at hS ⊢
  rw [hq] at hI ⊢
  have HO := fun (V : World) (A : Nat) h0 h1 => Lib.hid (or_two p q A V h0 h1)
  clear hp hq
  go_enter Tryd.func50, Tryd.ntmps50
  go_upto_region 1 with (fail)
  go_still_tail 12, (by kernel_rfl)
  still_call (hS _)
  repeat still_step
  still_call (hI _)
  repeat still_step
  try refine wpStill_nil ?_
  change wpList _ _ _ _ _ W.drew
  obtain ⟨W2, hW2⟩ : ∃ V, W.drew = V := ⟨_, rfl⟩
  have HW2 := Lib.hid hW2
  rw [hW2]
  clear hW2 hP hx hy
  go_wp2_with fail
  refine (HO _ _ (cell_at (World.alloc_heap_new W2 _) rfl) (cell_at (World.alloc_heap_new W2 _) rfl)).out.mono ?_
  rintro e w' ⟨rfl, rfl⟩
  go_wp2_with fail
  go_ret
  exact ⟨rfl, _, by rw [HW2.out]⟩
end Val
end Go.Proofs.YtiphegccaijbgaaDoor
