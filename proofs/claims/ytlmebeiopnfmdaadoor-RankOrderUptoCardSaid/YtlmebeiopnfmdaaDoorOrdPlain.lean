/- THE ORDER as a plain function of two trees, and what holds of it. Nothing of the program. -/
import Derived.Test.YtlmebeiopnfmdaaDoorRows
import Derived.Test.YtlmebeiopnfmdaaDoorVal
import Derived.Test.YtlmebeiopnfmdaaDoorValBase
import Derived.Test.YtlmebeiopnfmdaaDoorValOrd
import Derived.Test.YtlmebeiopnfmdaaDoorValSame
import Derived.Test.YtlmebeiopnfmdaaDoorEqPlain
import Derived.WalkKit
namespace Go.Proofs.YtlmebeiopnfmdaaDoor
open Go.RowKit
set_option linter.unusedVariables false
set_option linter.unusedSimpArgs false
namespace Val
/-- Two lists of texts, in order. -/
def namesC : List ByteArray → List ByteArray → Int
  | [], [] => 0
  | [], _ :: _ => -1
  | _ :: _, [] => 1
  | x :: a, y :: b => orE (Lib.compareBytes x.data.toList y.data.toList) (namesC a b)
mutual
/-- Which of two values stands ahead. -/
def ordV : VT → VT → Int
  | .mk k b n s l ks, .mk k' b' n' s' l' ks' => orE (flatV k n k' n' b b' s s') (orE (ordL l l' ks ks') (orE (namesC ks ks') (cmpV (l.length : Int) (l'.length : Int))))
def ordL : List VT → List VT → List ByteArray → List ByteArray → Int
  | t :: ts, u :: us, ks, ks' => orE (if 0 < min ks.length ks'.length then Lib.compareBytes (ks.getD 0 default).data.toList (ks'.getD 0 default).data.toList else 0) (orE (ordV t u) (ordL ts us (ks.drop 1) (ks'.drop 1)))
  | _, _, _, _ => 0
end
theorem namesC_swap : ∀ a b : List ByteArray, namesC b a = - namesC a b
  | [], [] => rfl
  | [], _ :: _ => rfl
  | _ :: _, [] => rfl
  | x :: a, y :: b => by
    unfold namesC
    exact orE_swap _ _ _ _ (cmpB_swap _ _) (namesC_swap a b)
theorem namesC_zero : ∀ a b : List ByteArray, namesC a b = 0 ↔ a = b
  | [], [] => by simp [namesC]
  | [], _ :: _ => by simp [namesC]
  | _ :: _, [] => by simp [namesC]
  | x :: a, y :: b => by
    unfold namesC
    rw [orE_zero, cmpB_zero, bytes_eq, namesC_zero a b]
    simp
theorem names_eq : ∀ a b : List ByteArray, namesV a b = true ↔ a = b
  | [], [] => by simp [namesV]
  | [], _ :: _ => by simp [namesV]
  | _ :: _, [] => by simp [namesV]
  | x :: a, y :: b => by
    unfold namesV
    rw [Bool.and_eq_true, names_eq a b]
    constructor
    · rintro ⟨h1, rfl⟩
      rw [bytes_len h1]
    · intro h
      injection h with h1 h2
      subst h1
      subst h2
      simp
mutual
theorem ordV_swap : ∀ t u : VT, ordV u t = - ordV t u
  | .mk k b n s l ks, .mk k' b' n' s' l' ks' => by
    unfold ordV
    exact orE_swap _ _ _ _ (flat_swap _ _ _ _ _ _ _ _) (orE_swap _ _ _ _ (ordL_swap l l' ks ks') (orE_swap _ _ _ _ (namesC_swap _ _) (cmpV_swap _ _)))
theorem ordL_swap : ∀ (l l' : List VT) (ks ks' : List ByteArray), ordL l' l ks' ks = - ordL l l' ks ks'
  | [], [], _, _ => by unfold ordL; rfl
  | [], _ :: _, _, _ => by unfold ordL; rfl
  | _ :: _, [], _, _ => by unfold ordL; rfl
  | t :: ts, u :: us, ks, ks' => by
    unfold ordL
    refine orE_swap _ _ _ _ ?_ (orE_swap _ _ _ _ (ordV_swap t u) (ordL_swap ts us _ _))
    rw [Nat.min_comm ks'.length]
    by_cases h : 0 < min ks.length ks'.length
    · rw [if_pos h, if_pos h]; exact cmpB_swap _ _
    · rw [if_neg h, if_neg h]; rfl
end
/-- What is not behind what is not behind is not behind; and so on. -/
def Tri (x y z : Int) : Prop := (x ≤ 0 → y ≤ 0 → z ≤ 0) ∧ (x < 0 → y ≤ 0 → z < 0) ∧ (x ≤ 0 → y < 0 → z < 0)
theorem Tri.or {x y z x' y' z' : Int} (h : Tri x y z) (hz : x = 0 → y = 0 → z = 0) (h2 : x = 0 → y = 0 → Tri x' y' z') : Tri (orE x x') (orE y y') (orE z z') := by
  obtain ⟨a1, a2, a3⟩ := h
  unfold orE
  by_cases hx : x = 0
  · by_cases hy : y = 0
    · have hz0 := hz hx hy
      rw [if_pos hx, if_pos hy, if_pos hz0]
      exact h2 hx hy
    · rw [if_pos hx, if_neg hy]
      refine ⟨fun _ h => ?_, fun _ h => ?_, fun _ h => ?_⟩ <;> (have := a3 (by omega) (by omega); rw [if_neg (by omega)]; omega)
  · rw [if_neg hx]
    by_cases hy : y = 0
    · rw [if_pos hy]
      refine ⟨fun h _ => ?_, fun h _ => ?_, fun h _ => ?_⟩ <;> (have := a2 (by omega) (by omega); rw [if_neg (by omega)]; omega)
    · rw [if_neg hy]
      refine ⟨fun h1 h2 => ?_, fun h1 h2 => ?_, fun h1 h2 => ?_⟩ <;> (have := a2 (by omega) (by omega); rw [if_neg (by omega)]; omega)
theorem cmpV_z {a b c : Int} (h : cmpV a b = 0) (h' : cmpV b c = 0) : cmpV a c = 0 := by
  rw [cmpV_zero] at *; omega
theorem cmpB_z {a b c : List UInt8} (h : Lib.compareBytes a b = 0) (h' : Lib.compareBytes b c = 0) : Lib.compareBytes a c = 0 := by
  rw [cmpB_zero] at *; exact h.trans h'
theorem cmpV_tri (a b c : Int) : Tri (cmpV a b) (cmpV b c) (cmpV a c) := by
  unfold Tri cmpV
  refine ⟨?_, ?_, ?_⟩ <;> (split <;> split <;> split <;> omega) <;> skip
theorem cmpB_tri : ∀ a b c : List UInt8, Tri (Lib.compareBytes a b) (Lib.compareBytes b c) (Lib.compareBytes a c)
  | [], [], [] => by simp [Lib.compareBytes, Tri]
  | [], [], _ :: _ => by simp [Lib.compareBytes, Tri]
  | [], _ :: _, [] => by simp [Lib.compareBytes, Tri]
  | [], _ :: _, _ :: _ => by simp [Lib.compareBytes, Tri]
  | _ :: _, [], [] => by simp [Lib.compareBytes, Tri]
  | _ :: _, [], _ :: _ => by simp [Lib.compareBytes, Tri]
  | _ :: _, _ :: _, [] => by simp [Lib.compareBytes, Tri]
  | x :: a, y :: b, z :: c => by
    have e : ∀ (x y : UInt8) (a b : List UInt8), Lib.compareBytes (x :: a) (y :: b) = orE (cmpV (x.toNat : Int) (y.toNat : Int)) (Lib.compareBytes a b) := fun x y a b => by
      rw [Lib.compareBytes]
      unfold orE cmpV
      by_cases h1 : x < y
      · have h1' : (x.toNat : Int) < (y.toNat : Int) := by have := UInt8.lt_iff_toNat_lt.1 h1; omega
        rw [if_pos h1, if_pos h1']; rfl
      · have h1' : ¬ (x.toNat : Int) < (y.toNat : Int) := fun h => h1 (UInt8.lt_iff_toNat_lt.2 (by omega))
        rw [if_neg h1, if_neg h1']
        by_cases h2 : y < x
        · have h2' : (y.toNat : Int) < (x.toNat : Int) := by have := UInt8.lt_iff_toNat_lt.1 h2; omega
          rw [if_pos h2, if_pos h2']; rfl
        · have h2' : ¬ (y.toNat : Int) < (x.toNat : Int) := fun h => h2 (UInt8.lt_iff_toNat_lt.2 (by omega))
          rw [if_neg h2, if_neg h2']; rfl
    rw [e, e, e]
    exact Tri.or (cmpV_tri _ _ _) cmpV_z (fun _ _ => cmpB_tri a b c)
theorem flat_tri (k1 n1 k2 n2 k3 n3 : Int) (b1 b2 b3 : Bool) (s1 s2 s3 : ByteArray) : Tri (flatV k1 n1 k2 n2 b1 b2 s1 s2) (flatV k2 n2 k3 n3 b2 b3 s2 s3) (flatV k1 n1 k3 n3 b1 b3 s1 s3) := by
  unfold flatV
  exact Tri.or (cmpV_tri _ _ _) cmpV_z (fun _ _ => Tri.or (cmpV_tri _ _ _) cmpV_z (fun _ _ => Tri.or (cmpV_tri _ _ _) cmpV_z (fun _ _ => cmpB_tri _ _ _)))
/-- Keys with values, in order, and by their number. -/
def lexP : List VT → List VT → List ByteArray → List ByteArray → Int
  | [], [], _, _ => 0
  | [], _ :: _, _, _ => -1
  | _ :: _, [], _, _ => 1
  | t :: ts, u :: us, ks, ks' => orE (if 0 < min ks.length ks'.length then Lib.compareBytes (ks.getD 0 default).data.toList (ks'.getD 0 default).data.toList else 0) (orE (ordV t u) (lexP ts us (ks.drop 1) (ks'.drop 1)))
/-- Both are lists, or both are maps. -/
def Mode (l l' : List VT) (ks ks' : List ByteArray) : Prop := (ks = [] ∧ ks' = []) ∨ (ks.length = l.length ∧ ks'.length = l'.length)
theorem Mode.tail {t u : VT} {ts us : List VT} {ks ks' : List ByteArray} (h : Mode (t :: ts) (u :: us) ks ks') : Mode ts us (ks.drop 1) (ks'.drop 1) := by
  rcases h with ⟨rfl, rfl⟩ | ⟨h1, h2⟩
  · exact .inl ⟨rfl, rfl⟩
  · refine .inr ⟨?_, ?_⟩
    · rw [List.length_drop, h1, List.length_cons]; omega
    · rw [List.length_drop, h2, List.length_cons]; omega
theorem orE_assoc (a b c : Int) : orE (orE a b) c = orE a (orE b c) := by
  unfold orE
  by_cases ha : a = 0
  · rw [if_pos ha, if_pos ha]
  · rw [if_neg ha, if_neg ha, if_neg ha]
theorem orE_left (a b c : Int) (h : a = 0 → b = c) : orE a b = orE a c := by
  unfold orE
  by_cases ha : a = 0
  · rw [if_pos ha, if_pos ha]; exact h ha
  · rw [if_neg ha, if_neg ha]
theorem cmpV_succ (a b : Nat) : cmpV ((a + 1 : Nat) : Int) ((b + 1 : Nat) : Int) = cmpV (a : Int) (b : Int) := by
  unfold cmpV
  by_cases h1 : (a : Int) < b
  · rw [if_pos h1, if_pos (by omega)]
  · rw [if_neg h1, if_neg (by omega)]
    by_cases h2 : (b : Int) < a
    · rw [if_pos h2, if_pos (by omega)]
    · rw [if_neg h2, if_neg (by omega)]
theorem lex_of : ∀ (l l' : List VT) (ks ks' : List ByteArray), Mode l l' ks ks' → orE (ordL l l' ks ks') (orE (namesC ks ks') (cmpV (l.length : Int) (l'.length : Int))) = lexP l l' ks ks'
  | [], [], ks, ks', h => by
    have h1 : ks = [] := by rcases h with ⟨h, -⟩ | ⟨h, -⟩; exact h; exact List.eq_nil_of_length_eq_zero h
    have h2 : ks' = [] := by rcases h with ⟨-, h⟩ | ⟨-, h⟩; exact h; exact List.eq_nil_of_length_eq_zero h
    subst h1 h2
    unfold ordL lexP
    rfl
  | [], u :: us, ks, ks', h => by
    have h1 : ks = [] := by rcases h with ⟨h, -⟩ | ⟨h, -⟩; exact h; exact List.eq_nil_of_length_eq_zero h
    subst h1
    unfold ordL lexP
    cases ks' with
    | nil =>
      show orE 0 (orE 0 (cmpV ((0 : Nat) : Int) _)) = -1
      unfold orE cmpV
      rw [if_pos rfl, if_pos rfl, if_pos (by rw [List.length_cons]; omega)]
    | cons k ks' => rfl
  | t :: ts, [], ks, ks', h => by
    have h2 : ks' = [] := by rcases h with ⟨-, h⟩ | ⟨-, h⟩; exact h; exact List.eq_nil_of_length_eq_zero h
    subst h2
    unfold ordL lexP
    cases ks with
    | nil =>
      show orE 0 (orE 0 (cmpV _ ((0 : Nat) : Int))) = 1
      unfold orE cmpV
      rw [if_pos rfl, if_pos rfl, if_neg (by rw [List.length_cons]; omega), if_pos (by rw [List.length_cons]; omega)]
    | cons k ks => rfl
  | t :: ts, u :: us, ks, ks', h => by
    have ih := lex_of ts us (ks.drop 1) (ks'.drop 1) h.tail
    unfold ordL lexP
    rw [orE_assoc, orE_assoc, List.length_cons, List.length_cons, cmpV_succ, ← ih]
    rcases h with ⟨rfl, rfl⟩ | ⟨h1, h2⟩
    · rfl
    · match ks, ks', h1, h2 with
      | k :: ks, k' :: ks', h1, h2 =>
        have hm : 0 < min (k :: ks).length (k' :: ks').length := by rw [List.length_cons, List.length_cons]; omega
        rw [if_pos hm]
        refine orE_left _ _ _ fun hk => orE_left _ _ _ fun _ => orE_left _ _ _ fun _ => ?_
        have hk' : Lib.compareBytes k.data.toList k'.data.toList = 0 := hk
        show orE (orE (Lib.compareBytes k.data.toList k'.data.toList) (namesC ks ks')) _ = _
        rw [hk', orE_assoc]
        rfl
theorem formed_map {n : Int} {b : Bool} {s : ByteArray} {l : List VT} {ks : List ByteArray} (h : formedV (.mk 5 b n s l ks) = true) : ks.length = l.length := by
  replace h : formedF 5 b n s l.length ks.length (keysTo ks ks.length) = true := h
  unfold formedF at h
  simp at h
  exact h.1
/-- Two formed values of one kind are both lists, or both maps, or neither. -/
theorem mode_of {k n n' : Int} {b b' : Bool} {s s' : ByteArray} {l l' : List VT} {ks ks' : List ByteArray} (h : formedV (.mk k b n s l ks) = true) (h' : formedV (.mk k b' n' s' l' ks') = true) : Mode l l' ks ks' := by
  by_cases h5 : k = 5
  · subst h5
    exact .inr ⟨formed_map h, formed_map h'⟩
  · exact .inl ⟨(formed_fields h).2.2.2.1 h5, (formed_fields h').2.2.2.1 h5⟩
mutual
theorem ord_eq : ∀ t u : VT, allV formedV t = true → allV formedV u = true → ordV t u = 0 → t = u
  | .mk k b n s l ks, .mk k' b' n' s' l' ks', ht, hu, h => by
    rw [allV, Bool.and_eq_true] at ht hu
    obtain ⟨f0, f1, -⟩ := formed_fields ht.1
    obtain ⟨g0, g1, -⟩ := formed_fields hu.1
    unfold ordV at h
    rw [orE_zero] at h
    obtain ⟨hf, h⟩ := h
    obtain ⟨hp, rfl, rfl, rfl⟩ := (flat_zero _ _ _ _ _ _ _ _).1 hf
    obtain rfl := place_inj f0 f1 g0 g1 hp
    rw [lex_of _ _ _ _ (mode_of ht.1 hu.1)] at h
    obtain ⟨rfl, rfl⟩ := lex_eq l l' ks ks' ht.2 hu.2 (mode_of ht.1 hu.1) h
    rfl
theorem lex_eq : ∀ (l l' : List VT) (ks ks' : List ByteArray), allL formedV l = true → allL formedV l' = true → Mode l l' ks ks' → lexP l l' ks ks' = 0 → l = l' ∧ ks = ks'
  | [], [], ks, ks', _, _, hm, _ => by
    have h1 : ks = [] := by rcases hm with ⟨h, -⟩ | ⟨h, -⟩; exact h; exact List.eq_nil_of_length_eq_zero h
    have h2 : ks' = [] := by rcases hm with ⟨-, h⟩ | ⟨-, h⟩; exact h; exact List.eq_nil_of_length_eq_zero h
    exact ⟨rfl, by rw [h1, h2]⟩
  | [], _ :: _, _, _, _, _, _, h => by unfold lexP at h; cases h
  | _ :: _, [], _, _, _, _, _, h => by unfold lexP at h; cases h
  | t :: ts, u :: us, ks, ks', ht, hu, hm, h => by
    rw [allL, Bool.and_eq_true] at ht hu
    unfold lexP at h
    rw [orE_zero, orE_zero] at h
    obtain ⟨h1, h2, h3⟩ := h
    obtain ⟨rfl, hk⟩ := lex_eq ts us _ _ ht.2 hu.2 hm.tail h3
    refine ⟨by rw [ord_eq t u ht.1 hu.1 h2], ?_⟩
    rcases hm with ⟨rfl, rfl⟩ | ⟨e1, e2⟩
    · rfl
    · match ks, ks', e1, e2, h1, hk with
      | k :: ks, k' :: ks', e1, e2, h1, hk =>
        rw [if_pos (by rw [List.length_cons, List.length_cons]; omega)] at h1
        have hkk : k = k' := bytes_eq.1 ((cmpB_zero _ _).1 h1)
        have hks : ks = ks' := hk
        rw [hkk, hks]
end
mutual
theorem ordV_self : ∀ t : VT, ordV t t = 0
  | .mk k b n s l ks => by
    unfold ordV
    rw [orE_zero, orE_zero, orE_zero, flat_zero, namesC_zero, cmpV_zero]
    exact ⟨⟨rfl, rfl, rfl, rfl⟩, ordL_self l ks, rfl, rfl⟩
theorem ordL_self : ∀ (l : List VT) (ks : List ByteArray), ordL l l ks ks = 0
  | [], ks => by unfold ordL; rfl
  | t :: ts, ks => by
    unfold ordL
    rw [orE_zero, orE_zero]
    refine ⟨?_, ordV_self t, ordL_self ts _⟩
    split
    · exact (cmpB_zero _ _).2 rfl
    · rfl
end
mutual
theorem same_eq : ∀ t u : VT, sameV t u = true → t = u
  | .mk k b n s l ks, .mk k' b' n' s' l' ks', h => by
    unfold sameV at h
    simp only [Bool.and_eq_true, beq_iff_eq] at h
    obtain ⟨rfl, rfl, rfl, hs, hn, hl⟩ := h
    have e : s = s' := bytes_len (by rw [hs]; simp)
    rw [e, (names_eq _ _).1 hn, same_eqL l l' hl]
theorem same_eqL : ∀ l l' : List VT, sameL l l' = true → l = l'
  | [], [], _ => rfl
  | [], _ :: _, h => by unfold sameL at h; cases h
  | _ :: _, [], h => by unfold sameL at h; cases h
  | t :: ts, u :: us, h => by
    unfold sameL at h
    rw [Bool.and_eq_true] at h
    rw [same_eq t u h.1, same_eqL ts us h.2]
end
mutual
theorem ordV_tri : ∀ t u v : VT, allV formedV t = true → allV formedV u = true → allV formedV v = true → Tri (ordV t u) (ordV u v) (ordV t v)
  | .mk k b n s l ks, .mk k' b' n' s' l' ks', .mk k'' b'' n'' s'' l'' ks'', ht, hu, hv => by
    rw [allV, Bool.and_eq_true] at ht hu hv
    obtain ⟨f0, f1, -⟩ := formed_fields ht.1
    obtain ⟨g0, g1, -⟩ := formed_fields hu.1
    obtain ⟨e0, e1, -⟩ := formed_fields hv.1
    unfold ordV
    refine Tri.or (flat_tri _ _ _ _ _ _ _ _ _ _ _ _) (fun hx hy => ?_) (fun hx hy => ?_)
    · rw [flat_zero] at hx hy ⊢
      exact ⟨hx.1.trans hy.1, hx.2.1.trans hy.2.1, hx.2.2.1.trans hy.2.2.1, hx.2.2.2.trans hy.2.2.2⟩
    · rw [flat_zero] at hx hy
      obtain rfl := place_inj f0 f1 g0 g1 hx.1
      obtain rfl := place_inj f0 f1 e0 e1 hy.1
      rw [lex_of _ _ _ _ (mode_of ht.1 hu.1), lex_of _ _ _ _ (mode_of hu.1 hv.1), lex_of _ _ _ _ (mode_of ht.1 hv.1)]
      exact lex_tri l l' l'' ks ks' ks'' ht.2 hu.2 hv.2 (mode_of ht.1 hu.1) (mode_of hu.1 hv.1) (mode_of ht.1 hv.1)
theorem lex_tri : ∀ (l l' l'' : List VT) (ks ks' ks'' : List ByteArray), allL formedV l = true → allL formedV l' = true → allL formedV l'' = true → Mode l l' ks ks' → Mode l' l'' ks' ks'' → Mode l l'' ks ks'' → Tri (lexP l l' ks ks') (lexP l' l'' ks' ks'') (lexP l l'' ks ks'')
  | [], [], [], _, _, _, _, _, _, _, _, _ => by simp [lexP, Tri]
  | [], [], _ :: _, _, _, _, _, _, _, _, _, _ => by simp [lexP, Tri]
  | [], _ :: _, [], _, _, _, _, _, _, _, _, _ => by simp [lexP, Tri]
  | [], _ :: _, _ :: _, _, _, _, _, _, _, _, _, _ => by simp [lexP, Tri]
  | _ :: _, [], [], _, _, _, _, _, _, _, _, _ => by simp [lexP, Tri]
  | _ :: _, [], _ :: _, _, _, _, _, _, _, _, _, _ => by simp [lexP, Tri]
  | _ :: _, _ :: _, [], _, _, _, _, _, _, _, _, _ => by simp [lexP, Tri]
  | t :: ts, u :: us, v :: vs, ks, ks', ks'', ht, hu, hv, m1, m2, m3 => by
    rw [allL, Bool.and_eq_true] at ht hu hv
    unfold lexP
    have hkeys : Tri (if 0 < min ks.length ks'.length then Lib.compareBytes (ks.getD 0 default).data.toList (ks'.getD 0 default).data.toList else 0) (if 0 < min ks'.length ks''.length then Lib.compareBytes (ks'.getD 0 default).data.toList (ks''.getD 0 default).data.toList else 0) (if 0 < min ks.length ks''.length then Lib.compareBytes (ks.getD 0 default).data.toList (ks''.getD 0 default).data.toList else 0) ∧
        ((if 0 < min ks.length ks'.length then Lib.compareBytes (ks.getD 0 default).data.toList (ks'.getD 0 default).data.toList else 0) = 0 → (if 0 < min ks'.length ks''.length then Lib.compareBytes (ks'.getD 0 default).data.toList (ks''.getD 0 default).data.toList else 0) = 0 → (if 0 < min ks.length ks''.length then Lib.compareBytes (ks.getD 0 default).data.toList (ks''.getD 0 default).data.toList else 0) = 0) := by
      by_cases h1 : 0 < ks.length
      · have p1 : 0 < ks'.length := by
          rcases m1 with ⟨e, -⟩ | ⟨-, e⟩
          · rw [e] at h1; simp at h1
          · rw [e, List.length_cons]; omega
        have p2 : 0 < ks''.length := by
          rcases m2 with ⟨e, -⟩ | ⟨-, e⟩
          · rw [e] at p1; simp at p1
          · rw [e, List.length_cons]; omega
        rw [if_pos (by omega), if_pos (by omega), if_pos (by omega)]
        exact ⟨cmpB_tri _ _ _, cmpB_z⟩
      · have p1 : ¬ 0 < ks'.length := by
          rcases m1 with ⟨-, e⟩ | ⟨e, -⟩
          · rw [e]; simp
          · rw [e, List.length_cons] at h1; omega
        rw [if_neg (by omega), if_neg (by omega), if_neg (by omega)]
        exact ⟨by simp [Tri], fun _ _ => rfl⟩
    refine Tri.or hkeys.1 hkeys.2 (fun _ _ => Tri.or (ordV_tri t u v ht.1 hu.1 hv.1) (fun hx hy => ?_) (fun _ _ => lex_tri ts us vs _ _ _ ht.2 hu.2 hv.2 m1.tail m2.tail m3.tail))
    rw [ord_eq t u ht.1 hu.1 hx]
    exact hy
end
end Val
end Go.Proofs.YtlmebeiopnfmdaaDoor
