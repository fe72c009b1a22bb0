/- Show, plain: what stands in quotes. -/
import Derived.Test.YtoaliaohbpdibaaDoorShUnesc
namespace Go.Proofs.YtoaliaohbpdibaaDoor
open Go.RowKit
set_option linter.unusedVariables false
set_option linter.unusedSimpArgs false
namespace Sh
def unqF : Nat → List UInt8 → Option (List UInt8)
  | 0, _ => some []
  | f + 1, l => if l = [] then some [] else if bareL l then (unqF f (l.drop (sgL l))).map (l.take (sgL l) ++ ·) else if (escR l).2 = 0 then none else (unqF f (l.drop (escR l).2)).map ((escR l).1 :: ·)
/-- What a text in quotes stands for. -/
def unqL (l : List UInt8) : Option (List UInt8) :=
  if l.length < 2 ∨ l.getD 0 0 ≠ 39 ∨ l.getD (l.length - 1) 0 ≠ 39 then none else unqF (l.length - 2) ((l.drop 1).take (l.length - 2))
def unqT : Option (List UInt8) → Value
  | some b => .tuple #[.string ⟨b.toArray⟩, .int .i64 0]
  | none => .tuple #[.string ⟨#[]⟩, .int .i64 1]
theorem unqF_nil (f : Nat) : unqF f [] = some [] := by cases f <;> simp [unqF]
theorem unqF_bare (f : Nat) (l : List UInt8) (hl : l ≠ []) (hb : bareL l = true) : unqF (f + 1) l = (unqF f (l.drop (sgL l))).map (l.take (sgL l) ++ ·) := by
  rw [unqF, if_neg hl, if_pos hb]
theorem unqF_none (f : Nat) (l : List UInt8) (hl : l ≠ []) (hb : bareL l = false) (he : (escR l).2 = 0) : unqF (f + 1) l = none := by
  rw [unqF, if_neg hl, if_neg (by rw [hb]; simp), if_pos he]
theorem unqF_esc (f : Nat) (l : List UInt8) (hl : l ≠ []) (hb : bareL l = false) (he : (escR l).2 ≠ 0) : unqF (f + 1) l = (unqF f (l.drop (escR l).2)).map ((escR l).1 :: ·) := by
  rw [unqF, if_neg hl, if_neg (by rw [hb]; simp), if_neg he]
theorem hexF_lt (l : List UInt8) (acc n : Nat) (h : hexF acc l = some n) : ∀ c ∈ l, c.toNat < 128 := by
  induction l generalizing acc with
  | nil => intro c hc; cases hc
  | cons a l ih =>
    unfold hexF at h
    split at h
    · rename_i ha
      intro c hc
      rcases List.mem_cons.1 hc with rfl | hc
      · unfold hexv at ha
        repeat' split at ha
        all_goals omega
      · exact ih _ h c hc
    · cases h
/-- An escape is of bytes below 128, and not longer than what is there. -/
theorem escR_ascii (l : List UInt8) (h : (escR l).2 ≠ 0) : 2 ≤ (escR l).2 ∧ (escR l).2 ≤ 4 ∧ (escR l).2 ≤ l.length ∧ ∀ j, j < (escR l).2 → (l.getD j 0).toNat < 128 := by
  rcases l with _ | ⟨a, _ | ⟨b, r⟩⟩
  · simp [escR] at h
  · simp [escR] at h
  · unfold escR at h ⊢
    simp only at h ⊢
    by_cases ha : a ≠ 92
    · rw [if_pos ha] at h; simp at h
    · rw [if_neg ha] at h ⊢
      have ha : a = 92 := by simpa using ha
      subst ha
      have two : ∀ (x b : UInt8), b.toNat < 128 → 2 ≤ (x, 2).2 ∧ (x, 2).2 ≤ 4 ∧ (x, 2).2 ≤ (92 :: b :: r).length ∧ ∀ j, j < (x, 2).2 → ((92 :: b :: r).getD j 0).toNat < 128 := by
        intro x b hb
        refine ⟨by simp, by simp, by simp, ?_⟩
        intro j hj
        have : j = 0 ∨ j = 1 := by simp at hj; omega
        rcases this with rfl | rfl
        · simp
        · simpa using hb
      by_cases b1 : b = 92
      · rw [if_pos b1]; exact two _ b (by rw [b1]; decide)
      rw [if_neg b1] at h ⊢
      by_cases b2 : b = 39
      · rw [if_pos b2]; exact two _ b (by rw [b2]; decide)
      rw [if_neg b2] at h ⊢
      by_cases b3 : b = 110
      · rw [if_pos b3]; exact two _ b (by rw [b3]; decide)
      rw [if_neg b3] at h ⊢
      by_cases b4 : b = 116
      · rw [if_pos b4]; exact two _ b (by rw [b4]; decide)
      rw [if_neg b4] at h ⊢
      by_cases b5 : b = 114
      · rw [if_pos b5]; exact two _ b (by rw [b5]; decide)
      rw [if_neg b5] at h ⊢
      by_cases b6 : b ≠ 120
      · rw [if_pos b6] at h; simp at h
      · rw [if_neg b6] at h ⊢
        have b6 : b = 120 := by simpa using b6
        subst b6
        rcases r with _ | ⟨c, _ | ⟨d, r⟩⟩
        · simp at h
        · simp at h
        · simp only at h ⊢
          cases hq : hexF 0 [c, d] with
          | none => rw [hq] at h; simp at h
          | some n =>
            have hh := hexF_lt _ _ _ hq
            refine ⟨by simp, by simp, by simp, ?_⟩
            intro j hj
            have : j = 0 ∨ j = 1 ∨ j = 2 ∨ j = 3 := by simp at hj; omega
            rcases this with rfl | rfl | rfl | rfl
            · simp
            · simp
            · simpa using hh c (by simp)
            · simpa using hh d (by simp)
end Sh
end Go.Proofs.YtoaliaohbpdibaaDoor
