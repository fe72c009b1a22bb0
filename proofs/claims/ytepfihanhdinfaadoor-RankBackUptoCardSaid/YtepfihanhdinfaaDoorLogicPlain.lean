/- PLAIN TRUTHS for layer logic: what a number counts as, and what is told of one, of two, of many. Nothing of the program. -/
import Derived.WalkKit
namespace Go.Proofs.YtepfihanhdinfaaDoor
namespace Logic
/-- What a number counts as: 0, 1 or 2. -/
def cnt (n : Int) : Int := if n = 0 then 0 else if n = 1 then 1 else 2
def notV (n : Int) : Int := if n = 0 then 1 else if n = 1 then 0 else 2
def andV (a b : Int) : Int := if a = 0 then 0 else if b = 0 then 0 else if a = 1 ∧ b = 1 then 1 else 2
def orV (a b : Int) : Int := if a = 1 then 1 else if b = 1 then 1 else if a = 0 ∧ b = 0 then 0 else 2
def xorV (a b : Int) : Int := if a = 0 then (if b = 0 then 0 else if b = 1 then 1 else 2) else if a = 1 then (if b = 0 then 1 else if b = 1 then 0 else 2) else 2
def ofV (b : Bool) : Int := if b then 1 else 0
def allV (l : List Int) : Int := l.foldl andV 1
def anyV (l : List Int) : Int := l.foldl orV 0
theorem ret_int {k : IntKind} {a b : Int} (h : a = b) : Ending.returned (.int k a) = .returned (.int k b) := by rw [h]
/-- A number is 0, is 1, or counts as 2. -/
theorem cases3 (n : Int) : n = 0 ∨ n = 1 ∨ (n ≠ 0 ∧ n ≠ 1) := by omega
theorem andV_comm (a b : Int) : andV a b = andV b a := by unfold andV; split <;> split <;> try rfl
                                                          all_goals (split <;> split <;> first | rfl | omega)
theorem orV_comm (a b : Int) : orV a b = orV b a := by unfold orV; split <;> split <;> try rfl
                                                       all_goals (split <;> split <;> first | rfl | omega)
theorem xorV_comm (a b : Int) : xorV a b = xorV b a := by
  rcases cases3 a with rfl | rfl | ⟨ha, ha'⟩ <;> rcases cases3 b with rfl | rfl | ⟨hb, hb'⟩ <;> simp [xorV, *]
theorem andV_range (a b : Int) : andV a b = 0 ∨ andV a b = 1 ∨ andV a b = 2 := by unfold andV; split; · omega
                                                                                  split; · omega
                                                                                  split <;> omega
theorem orV_range (a b : Int) : orV a b = 0 ∨ orV a b = 1 ∨ orV a b = 2 := by unfold orV; split; · omega
                                                                              split; · omega
                                                                              split <;> omega
theorem notV_range (a : Int) : notV a = 0 ∨ notV a = 1 ∨ notV a = 2 := by unfold notV; split; · omega
                                                                          split <;> omega
theorem xorV_range (a b : Int) : xorV a b = 0 ∨ xorV a b = 1 ∨ xorV a b = 2 := by
  rcases cases3 a with rfl | rfl | ⟨ha, ha'⟩ <;> rcases cases3 b with rfl | rfl | ⟨hb, hb'⟩ <;> simp [xorV, *]
theorem cnt_range (a : Int) : cnt a = 0 ∨ cnt a = 1 ∨ cnt a = 2 := by unfold cnt; split; · omega
                                                                      split <;> omega
theorem not_and (a b : Int) : notV (andV a b) = orV (notV a) (notV b) := by
  rcases cases3 a with rfl | rfl | ⟨ha, ha'⟩ <;> rcases cases3 b with rfl | rfl | ⟨hb, hb'⟩ <;> simp [andV, orV, notV, *]
theorem not_not_and (a b : Int) : notV (notV (andV a b)) = andV a b := by
  rcases andV_range a b with h | h | h <;> rw [h] <;> rfl
theorem andV_assoc (a b c : Int) : andV (andV a b) c = andV a (andV b c) := by
  rcases cases3 a with rfl | rfl | ⟨ha, ha'⟩ <;> rcases cases3 b with rfl | rfl | ⟨hb, hb'⟩ <;> rcases cases3 c with rfl | rfl | ⟨hc, hc'⟩ <;> simp [andV, *]
theorem orV_assoc (a b c : Int) : orV (orV a b) c = orV a (orV b c) := by
  rcases cases3 a with rfl | rfl | ⟨ha, ha'⟩ <;> rcases cases3 b with rfl | rfl | ⟨hb, hb'⟩ <;> rcases cases3 c with rfl | rfl | ⟨hc, hc'⟩ <;> simp [orV, *]
theorem and_one (a : Int) (h : a = 0 ∨ a = 1 ∨ a = 2) : andV a 1 = a := by rcases h with rfl | rfl | rfl <;> rfl
theorem or_zero (a : Int) (h : a = 0 ∨ a = 1 ∨ a = 2) : orV a 0 = a := by rcases h with rfl | rfl | rfl <;> rfl
theorem fold_and_range (l : List Int) : ∀ z, (z = 0 ∨ z = 1 ∨ z = 2) → (l.foldl andV z = 0 ∨ l.foldl andV z = 1 ∨ l.foldl andV z = 2) := by
  induction l with
  | nil => intro z h; exact h
  | cons x l ih => intro z _; exact ih _ (andV_range z x)
theorem fold_or_range (l : List Int) : ∀ z, (z = 0 ∨ z = 1 ∨ z = 2) → (l.foldl orV z = 0 ∨ l.foldl orV z = 1 ∨ l.foldl orV z = 2) := by
  induction l with
  | nil => intro z h; exact h
  | cons x l ih => intro z _; exact ih _ (orV_range z x)
theorem allV_range (l : List Int) : allV l = 0 ∨ allV l = 1 ∨ allV l = 2 := fold_and_range l 1 (by omega)
theorem anyV_range (l : List Int) : anyV l = 0 ∨ anyV l = 1 ∨ anyV l = 2 := fold_or_range l 0 (by omega)
theorem fold_and (l : List Int) : ∀ z, (z = 0 ∨ z = 1 ∨ z = 2) → l.foldl andV z = andV z (allV l) := by
  unfold allV
  induction l with
  | nil => intro z h; exact (and_one z h).symm
  | cons x l ih =>
    intro z h
    simp only [List.foldl_cons]
    rw [ih _ (andV_range z x), ih _ (andV_range 1 x), andV_assoc, andV_assoc 1]
    have : andV 1 (andV x (l.foldl andV 1)) = andV x (l.foldl andV 1) := by rw [andV_comm]; exact and_one _ (andV_range _ _)
    rw [this]
theorem fold_or (l : List Int) : ∀ z, (z = 0 ∨ z = 1 ∨ z = 2) → l.foldl orV z = orV z (anyV l) := by
  unfold anyV
  induction l with
  | nil => intro z h; exact (or_zero z h).symm
  | cons x l ih =>
    intro z h
    simp only [List.foldl_cons]
    rw [ih _ (orV_range z x), ih _ (orV_range 0 x), orV_assoc, orV_assoc 0]
    have : orV 0 (orV x (l.foldl orV 0)) = orV x (l.foldl orV 0) := by rw [orV_comm]; exact or_zero _ (orV_range _ _)
    rw [this]
theorem allV_append (l m : List Int) : allV (l ++ m) = andV (allV l) (allV m) := by
  unfold allV; rw [List.foldl_append]; exact fold_and m _ (allV_range l)
theorem anyV_append (l m : List Int) : anyV (l ++ m) = orV (anyV l) (anyV m) := by
  unfold anyV; rw [List.foldl_append]; exact fold_or m _ (anyV_range l)
theorem not_fold (l : List Int) : ∀ z, notV (l.foldl andV z) = (l.map notV).foldl orV (notV z) := by
  induction l with
  | nil => intro z; rfl
  | cons x l ih => intro z; simp only [List.foldl_cons, List.map_cons]; rw [ih, not_and]
theorem not_all (l : List Int) : notV (allV l) = anyV (l.map notV) := by unfold allV anyV; exact not_fold l 1
/-- One more at the end. -/
theorem allV_snoc (l : List Int) (x : Int) : allV (l ++ [x]) = andV (allV l) x := by unfold allV; rw [List.foldl_append]; rfl
theorem anyV_snoc (l : List Int) (x : Int) : anyV (l ++ [x]) = orV (anyV l) x := by unfold anyV; rw [List.foldl_append]; rfl
theorem take_succ_getD (zs : List Int) {k : Nat} (h : k < zs.length) : zs.take (k + 1) = zs.take k ++ [zs.getD k 0] := by
  rw [List.take_add_one, List.getElem?_eq_getElem h, List.getD_eq_getElem?_getD, List.getElem?_eq_getElem h]; rfl
/-- What stops the look: a False makes all of it False. -/
theorem fold_and_zero (l : List Int) : l.foldl andV 0 = 0 := by
  induction l with
  | nil => rfl
  | cons x l ih => simpa [andV] using ih
theorem fold_or_one (l : List Int) : l.foldl orV 1 = 1 := by
  induction l with
  | nil => rfl
  | cons x l ih => simpa [orV] using ih
theorem allV_stop (zs : List Int) {k : Nat} (h : k < zs.length) (h0 : zs.getD k 0 = 0) : allV zs = 0 := by
  have e : zs = zs.take k ++ ([zs.getD k 0] ++ zs.drop (k + 1)) := by
    rw [← List.append_assoc, ← take_succ_getD zs h, List.take_append_drop]
  unfold allV
  rw [e, List.foldl_append, List.foldl_append, h0]
  have : List.foldl andV (List.foldl andV 1 (zs.take k)) [0] = 0 := by simp only [List.foldl_cons, List.foldl_nil]; rw [andV_comm]; rfl
  rw [this]
  exact fold_and_zero _
theorem anyV_stop (zs : List Int) {k : Nat} (h : k < zs.length) (h0 : zs.getD k 0 = 1) : anyV zs = 1 := by
  have e : zs = zs.take k ++ ([zs.getD k 0] ++ zs.drop (k + 1)) := by
    rw [← List.append_assoc, ← take_succ_getD zs h, List.take_append_drop]
  unfold anyV
  rw [e, List.foldl_append, List.foldl_append, h0]
  have : List.foldl orV (List.foldl orV 0 (zs.take k)) [1] = 1 := by simp only [List.foldl_cons, List.foldl_nil]; rw [orV_comm]; rfl
  rw [this]
  exact fold_or_one _
end Logic
end Go.Proofs.YtepfihanhdinfaaDoor
