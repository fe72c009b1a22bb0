/- Order of any two values that may be. -/
import Derived.Test.YtlmebeiopnfmdaaDoorOrdDeep
import Derived.Test.YtlmebeiopnfmdaaDoorValPlain
import Derived.Test.YtlmebeiopnfmdaaDoorValMay4
import Derived.Test.YtlmebeiopnfmdaaDoorValFirst
import Derived.WalkKit
import Derived.Lib.Hide
namespace Go.Proofs.YtlmebeiopnfmdaaDoor
open Go.RowKit
set_option linter.unusedVariables false
set_option linter.unusedSimpArgs false
namespace Val
theorem mayHere_keys {k : Int} {b : Bool} {n : Int} {s : ByteArray} {nl nk : Nat} {ok : Bool} {d p : Nat} (h : mayHere k b n s nl nk ok d p = true) : nk = nl ∨ nk = 0 := by
  unfold mayHere at h
  simp only [Bool.and_eq_true] at h
  obtain ⟨-, -, -, -, h1, -, h2⟩ := h
  by_cases hk : k = 5
  · subst hk
    left
    simp only [beq_self_eq_true, Bool.not_true, Bool.false_or, Bool.and_eq_true, beq_iff_eq] at h2
    exact h2.1
  · right
    unfold unusedF at h1
    have e : (k == 5) = false := by simpa using hk
    rw [e, Bool.false_or] at h1
    split at h1
    · cases h1
    · split at h1
      · cases h1
      · split at h1
        · cases h1
        · split at h1
          · cases h1
          · simpa using h1
mutual
theorem may_small : ∀ (t : VT) (d p p' : Nat), mayV t d p = some p' → p' ≤ 4096 → small t
  | .mk k b n s l ks, d, p, p', h, hp => by
    unfold mayV at h
    unfold small
    split at h
    · rename_i hh
      have h1 := may_partsL l _ _ _ h
      have h2 := len_le_parts l
      have h3 := mayHere_keys hh
      exact ⟨by omega, may_smallL l _ _ _ h hp⟩
    · cases h
theorem may_smallL : ∀ (l : List VT) (d p p' : Nat), mayL l d p = some p' → p' ≤ 4096 → smallL l
  | [], d, p, p', h, hp => by unfold smallL; trivial
  | t :: ts, d, p, p', h, hp => by
    unfold mayL at h
    unfold smallL
    cases hv : mayV t d p with
    | none => rw [hv] at h; cases h
    | some p1 =>
      rw [hv] at h
      have h2 := may_partsL ts _ _ _ h
      exact ⟨may_small t _ _ _ hv (by omega), may_smallL ts _ _ _ h hp⟩
end
theorem small_may {t : VT} (h : mayB t = true) : small t := by
  unfold mayB at h
  obtain ⟨p, hp⟩ := Option.isSome_iff_exists.1 h
  exact may_small t _ _ _ hp (mayV_le t _ _ _ hp).2
theorem cmp_rec (lo B l R : Nat) (Wl : World) (WS : Int → World) (hY : Yld lo l B Wl WS) (hB : B ≤ Wl.heap.size) (hRB : B ≤ R) (hlo : lo ≤ B) (hg : 1 < B) : ∀ N, CmpIH N lo B l R Wl WS
  | 0 => fun t u v z W d m h => by have := t.parts_pos; omega
  | N + 1 => cmp_step N lo B l R Wl WS hY hB hRB hlo hg (cmp_rec lo B l R Wl WS hY hB hRB hlo hg N)
theorem CmpPost.ended {B R d m np : Nat} {WS : Int → World} {c : Int} {Wl W w' : World} {e : Ending} (hlow : Below B Wl W) (hB : B ≤ Wl.heap.size) (hRB : B ≤ R) (h : CmpPost B R d m WS c np W e w') : Ended B Wl WS c e w' := by
  rcases h with ⟨h0, he, hk, -⟩ | ⟨h0, he, hb, -⟩
  · exact ⟨⟨_, he⟩, .inl ⟨h0, hlow.trans (hk.below (fun k e => by omega) (Nat.le_trans hB hlow.size))⟩⟩
  · exact ⟨⟨_, he⟩, .inr ⟨h0, hb⟩⟩
/-- Order of two trees that may. -/
theorem order_any (t u : VT) (v z : Value) (w : World) (hIn : VT.In w w.heap.size t v) (hIn2 : VT.In w w.heap.size u z) (hmt : mayB t = true) (hmu : mayB u = true) (hP : Places w) :
    Calls Tryd.prog 23 #[v, z] w fun e w' => e = .returned (.int .i64 (ordV t u)) ∧ Below w.heap.size w w' := by
  have ht := parts_le hmt
  have hu := parts_le hmu
  have hst := small_may hmt
  have hsu := small_may hmu
  obtain ⟨T, hT⟩ : ∃ T, T = t := ⟨_, rfl⟩
  obtain ⟨U, hU⟩ : ∃ U, U = u := ⟨_, rfl⟩
  have hx := hIn
  have hx2 := hIn2
  obtain ⟨k, b, n, s, l, ks⟩ := t
  obtain ⟨k', b', n', s', l', ks'⟩ := u
  unfold VT.In at hx hx2
  obtain ⟨pl, cl, pk, ck, rfl, -⟩ := hx
  obtain ⟨pl', cl', pk', ck', rfl, -⟩ := hx2
  rw [← hT] at hIn ht hst ⊢
  rw [← hU] at hIn2 hu hsu ⊢
  exact order_of _ w _ _ _ _ _ _ _ _ _ _ _ _ hP fun lo l0 R B Wl V WS hY h1 h2 h3 h4 hWl h6 hV hR hPV =>
    (cmp_rec lo B l0 R Wl WS hY h3 h4 h2 (Nat.lt_of_lt_of_le hP.lt h6) T.parts T U _ _ V 65536 4194304 (Nat.le_refl _) hst hsu ((hIn.below hWl).more h1) ((hIn2.below hWl).more h1) (by omega) hV hR hPV (by omega) (by omega) (by omega) (by omega)).mono fun e w' h => h.ended hV h3 h4
end Val
end Go.Proofs.YtlmebeiopnfmdaaDoor
