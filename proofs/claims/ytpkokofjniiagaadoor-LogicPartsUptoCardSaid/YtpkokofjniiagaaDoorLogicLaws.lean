/- THE WALKS over the laws of layer logic that take no list. -/
import Derived.Test.YtpkokofjniiagaaDoorRows
import Derived.Test.YtpkokofjniiagaaDoorLogicPlain
import Derived.Test.YtpkokofjniiagaaDoorLogicWalks
import Derived.Test.YtpkokofjniiagaaDoorLogicWalks2
import Derived.Test.YtpkokofjniiagaaDoorLogicWalks3
import Derived.WalkKit
import Derived.Lib.Hide
import Derived.WalkSpells
import Derived.WalkLawsBesides
namespace Go.Proofs.YtpkokofjniiagaaDoor
open Go.RowKit
set_option linter.unusedVariables false
set_option linter.unusedSimpArgs false
namespace Logic
set_option maxHeartbeats 400000 in
theorem works_any (w : World) (ht : Tabs w) :
    Calls Tryd.prog 19 #[] w fun e w' => e = .returned (.bool true) ∧ ∃ n, w' = w.drewN n := by
  have HT := Lib.hid ht
  clear ht
  have e1 : andV 1 1 = 1 := rfl
  have e2 : orV 0 2 = 2 := rfl
  have e3 : notV 0 = 1 := rfl
  go_enter Tryd.func19, Tryd.ntmps19
  go_wp2_with (first | (go_at_call 13; refine (and_any _ _ _ HT.out.ands).mono ?_; rintro e w1 ⟨rfl, n1, rfl⟩) | (go_at_call 15; refine (or_any _ _ _ (HT.out.drewN _).ors).mono ?_; rintro e w2 ⟨rfl, n2, rfl⟩) | (go_at_call 11; refine (not_any _ _ (HT.out.drewN _)).mono ?_; rintro e w3 ⟨rfl, rfl⟩))
  go_ret
  exact ⟨rfl, _, rfl⟩
set_option maxHeartbeats 400000 in
theorem logicTables_any (a b : Int) (x : Bool) (w : World) (ht : Tabs w) (hx : Tab w 3 xors) :
    Calls Tryd.prog 3 #[.int .i64 a, .int .i64 b, .bool x] w fun e w' => e = .returned (.bool true) ∧ Below w.heap.size w w' := by
  have HT := Lib.hid ht
  have HX := Lib.hid hx
  clear ht hx
  go_enter Tryd.func3, Tryd.ntmps3
  go_wp2_with (first | (go_at_call 8; refine (of_any _ _).mono ?_; rintro e w1 ⟨rfl, rfl⟩) | (go_at_call 9; refine (rof_any _ _).mono ?_; rintro e w1 ⟨rfl, rfl⟩) | (go_at_call 10; refine (is_any _ _).mono ?_; rintro e w1 ⟨rfl, rfl⟩) | (go_at_call 11; refine (not_any _ _ HT.out).mono ?_; rintro e w3 ⟨rfl, rfl⟩) | (go_at_call 12; refine (rnot_any _ _).mono ?_; rintro e w1 ⟨rfl, rfl⟩) | (go_at_call 13; refine (and_any _ _ _ HT.out.ands).mono ?_; rintro e w1 ⟨rfl, n1, rfl⟩) | (go_at_call 14; refine (rand_any _ _ _).mono ?_; rintro e w1 ⟨rfl, rfl⟩) | (go_at_call 15; refine (or_any _ _ _ (HT.out.drewN _).ors).mono ?_; rintro e w2 ⟨rfl, n2, rfl⟩) | (go_at_call 16; refine (ror_any _ _ _).mono ?_; rintro e w1 ⟨rfl, rfl⟩) | (go_at_call 17; refine (xor_any _ _ _ (HX.out.drewN _)).mono ?_; rintro e w2 ⟨rfl, n3, rfl⟩) | (go_at_call 18; refine (rxor_any _ _ _).mono ?_; rintro e w1 ⟨rfl, rfl⟩) | (go_at_call 19; refine (works_any _ (HT.out.drewN _)).mono ?_; rintro e w1 ⟨rfl, n4, rfl⟩))
  go_ret
  exact ⟨rfl, Below.drewN _ _ (Below.refl _ _)⟩
set_option maxHeartbeats 400000 in
theorem logicKnown_at (a x y t p q : Int) (b : Bool) (w : World) (ht : Tabs w) (hx : Tab w 3 xors) (e1 : andV a 2 = x) (e2 : orV a 2 = y) (e3 : xorV a 2 = 2) (e4 : ofV b = t) (e5 : andV a t = p) (e6 : orV a t = q)
    (h1 : x = 2 ∨ (x ≠ 2 ∧ p = x)) (h2 : y = 2 ∨ (y ≠ 2 ∧ q = y)) :
    Calls Tryd.prog 6 #[.int .i64 a, .bool b] w fun e w' => e = .returned (.bool true) ∧ Below w.heap.size w w' := by
  have HT := Lib.hid ht
  have HX := Lib.hid hx
  have H4 := Lib.hid e4
  clear ht hx e4
  rcases h1 with rfl | ⟨h1, rfl⟩ <;> rcases h2 with rfl | ⟨h2, rfl⟩
  all_goals try have k1 : (x == 2) = false := by simpa using h1
  all_goals try have k2 : (y == 2) = false := by simpa using h2
  all_goals try have k3 : (p == 2) = false := by simpa using h1
  all_goals try have k4 : (q == 2) = false := by simpa using h2
  all_goals try clear h1
  all_goals try clear h2
  all_goals go_enter Tryd.func6, Tryd.ntmps6
  all_goals go_wp2_with (first | (go_at_call 8; refine (of_any _ _).mono ?_; rw [H4.out]; rintro e w1 ⟨rfl, rfl⟩) | (go_at_call 13; refine (and_any _ _ _ (by first | exact HT.out.ands | exact (HT.out.drewN _).ands)).mono ?_; rintro e w1 ⟨rfl, n1, rfl⟩) | (go_at_call 15; refine (or_any _ _ _ (HT.out.drewN _).ors).mono ?_; rintro e w2 ⟨rfl, n2, rfl⟩) | (go_at_call 17; refine (xor_any _ _ _ (HX.out.drewN _)).mono ?_; rintro e w2 ⟨rfl, n3, rfl⟩) | (go_at_call 19; refine (works_any _ (HT.out.drewN _)).mono ?_; rintro e w1 ⟨rfl, n4, rfl⟩))
  all_goals go_ret
  all_goals exact ⟨rfl, Below.drewN _ _ (Below.refl _ _)⟩
theorem xor_two (a : Int) : xorV a 2 = 2 := by
  rcases cases3 a with rfl | rfl | ⟨h, h'⟩
  · rfl
  · rfl
  · simp [xorV, *]
theorem known_and (a : Int) (b : Bool) : andV a 2 = 2 ∨ (andV a 2 ≠ 2 ∧ andV a (ofV b) = andV a 2) := by
  rcases cases3 a with rfl | rfl | ⟨h, h'⟩
  · exact .inr ⟨by decide, by cases b <;> rfl⟩
  · exact .inl rfl
  · exact .inl (by simp [andV, *])
theorem known_or (a : Int) (b : Bool) : orV a 2 = 2 ∨ (orV a 2 ≠ 2 ∧ orV a (ofV b) = orV a 2) := by
  rcases cases3 a with rfl | rfl | ⟨h, h'⟩
  · exact .inl rfl
  · exact .inr ⟨by decide, by cases b <;> rfl⟩
  · exact .inl (by simp [orV, *])
theorem logicKnown_any (a : Int) (b : Bool) (w : World) (ht : Tabs w) (hx : Tab w 3 xors) :
    Calls Tryd.prog 6 #[.int .i64 a, .bool b] w fun e w' => e = .returned (.bool true) ∧ Below w.heap.size w w' :=
  logicKnown_at a _ _ _ _ _ b w ht hx rfl rfl (xor_two a) rfl rfl rfl (known_and a b) (known_or a b)
end Logic
end Go.Proofs.YtpkokofjniiagaaDoor
