/- May a value be? The document's own answer, and the program's: one and the same. -/
import Derived.Test.YtmhlipncelgmlaaRows
import Derived.Test.YtmhlipncelgmlaaValBase
import Derived.Test.YtmhlipncelgmlaaVal
import Derived.Test.YtmhlipncelgmlaaValForm
import Derived.Test.YtmhlipncelgmlaaValForm2
import Derived.Test.YtmhlipncelgmlaaValCmp
import Derived.Test.YtmhlipncelgmlaaValWalk
import Derived.Test.YtmhlipncelgmlaaValRef
import Derived.Test.YtmhlipncelgmlaaValMay
import Derived.Test.YtmhlipncelgmlaaValMay2
import Derived.Test.YtmhlipncelgmlaaValMay3
import Derived.WalkKit
import Derived.Lib.Hide
namespace Go.Proofs.Ytmhlipncelgmlaa
open Go.RowKit
set_option linter.unusedVariables false
set_option linter.unusedSimpArgs false
namespace Val
theorem mayV_none {k : Int} {b : Bool} {n : Int} {s : ByteArray} {l : List VT} {ks : List ByteArray} {d p : Nat} (h : mayHere k b n s l.length ks.length (keysTo ks ks.length) d p = false) : mayV (.mk k b n s l ks) d p = none := by
  unfold mayV
  rw [h]
  rfl
theorem no_post {t : VT} {d p : Nat} {w : World} {f : FuncId} {args : Array Value} (h : mayV t d p = none) (hc : Calls Try.prog f args w fun e w' => (∃ n : Int, e = .returned (.tuple #[.int .i64 n, .bool false])) ∧ Below w.heap.size w w') : Calls Try.prog f args w (MayPost t d p w) :=
  hc.mono fun e w' ⟨⟨n, he⟩, hb⟩ => by rw [he]; exact MayPost.no h hb n
theorem may_any : ∀ N, MayIH N
  | 0 => fun t _ _ _ _ _ h _ _ _ _ => by have := t.parts_pos; omega
  | N + 1 => fun t v B w d p hN hIn hB hd hp => by
    have IH := may_any N
    obtain ⟨k, b, n, s, l, ks⟩ := t
    have hx := hIn
    unfold VT.In at hx
    obtain ⟨pl, cl, pk, ck, rfl, h1, h2, h3, h4, hks, hl⟩ := hx
    have hTp : ∀ x, x ∈ l → x.parts ≤ N := fun x hx => by have := VT.parts_mem hx; rw [VT.parts] at hN; omega
    by_cases c1 : 4096 < p + 1
    · exact no_post (mayV_none (by unfold mayHere; rw [decide_eq_false (by omega)]; rfl)) (may_no_a k b n s pl pk _ cl _ ck d p w hp c1)
    · by_cases c2 : d = 0
      · exact no_post (mayV_none (by subst c2; unfold mayHere; simp)) (may_no_b k b n s pl pk _ cl _ ck d p w (by omega) c2)
      · by_cases c3 : k < 0
        · exact no_post (mayV_none (by unfold mayHere; rw [decide_eq_false (p := 0 ≤ k) (by omega)]; simp)) (may_no_c k b n s pl pk _ cl _ ck d p w (by omega) (by omega) c3)
        · by_cases c4 : 7 < k
          · exact no_post (mayV_none (by unfold mayHere; rw [decide_eq_false (p := k ≤ 7) (by omega)]; simp)) (may_no_d k b n s pl pk _ cl _ ck d p w (by omega) (by omega) (by omega) c4)
          · cases c5 : unusedF k b n s l.length ks.length
            · exact no_post (mayV_none (by unfold mayHere; rw [c5]; simp)) (may_no_e k b n s pl pk _ cl _ ck d p w (by omega) (by omega) (by omega) (by omega) c5)
            · by_cases c6 : (k = 6 ∨ k = 7) ∧ n < 1
              · refine no_post (mayV_none ?_) (may_no_f k b n s pl pk _ cl _ ck d p w (by omega) (by omega) (by omega) (by omega) c5 c6.1 c6.2)
                unfold mayHere
                have e : ((k == 6 || k == 7) && decide (n < 1)) = true := by
                  rw [decide_eq_true c6.2]
                  rcases c6.1 with h | h <;> subst h <;> rfl
                rw [e]
                simp
              · obtain ⟨d', rfl⟩ : ∃ d', d = d' + 1 := ⟨d - 1, by omega⟩
                have e6 : ((k == 6 || k == 7) && decide (n < 1)) = false := by
                  rw [Bool.eq_false_iff]
                  intro h
                  simp only [Bool.and_eq_true, Bool.or_eq_true, beq_iff_eq, decide_eq_true_eq] at h
                  exact c6 h
                have hhere : mayHere k b n s l.length ks.length (keysTo ks ks.length) (d' + 1) p = (!(k == 5) || (ks.length == l.length && keysTo ks ks.length)) := by
                  unfold mayHere
                  rw [decide_eq_true (p := p + 1 ≤ 4096) (by omega), decide_eq_true (p := 1 ≤ d' + 1) (by omega), decide_eq_true (p := 0 ≤ k) (by omega), decide_eq_true (p := k ≤ 7) (by omega), c5, e6]
                  rfl
                have hgo : MGo N l pl l.length d' p B w := ⟨IH, hTp, rfl, hl, hB, by omega, by omega, by unfold maxLen at h2; omega⟩
                have hend : (!(k == 5) || (ks.length == l.length && keysTo ks ks.length)) = true → MEnd (.mk k b n s l ks) l d' p w := fun ht w' hb => by
                  have hV : mayV (.mk k b n s l ks) (d' + 1) p = mayL l d' (p + 1) := by
                    unfold mayV
                    rw [hhere, if_pos ht]
                    rfl
                  exact ⟨fun h n => MayPost.no (by rw [hV]; exact h) hb n, fun q h => MayPost.yes (by rw [hV]; exact h) hb⟩
                by_cases k5 : k = 5
                · subst k5
                  by_cases hlen : ks.length = l.length
                  · rw [hlen] at c5 h3 hhere hend ⊢
                    have e1 : (!((5 : Int) == 5) || (l.length == l.length && keysTo ks l.length)) = keysTo ks l.length := by simp
                    rw [e1] at hhere hend
                    exact may_go_map b n s (.mk 5 b n s l ks) l ks N B pl pk l.length cl ck d' p w (Lib.hid hgo) (Lib.hid hend) (Lib.hid fun hf w' hb n => MayPost.no (mayV_none (by rw [hlen, hhere]; exact hf)) hb n) (Lib.hid hks) (Lib.hid hlen) c5
                  · refine no_post (mayV_none ?_) (may_no_g b n s pl pk _ cl _ ck (d' + 1) p w (by omega) (by omega) c5 hlen)
                    rw [hhere]
                    have : (ks.length == l.length) = false := by simpa using hlen
                    rw [this]
                    rfl
                · have ht : (!(k == 5) || (ks.length == l.length && keysTo ks ks.length)) = true := by
                    have : (k == 5) = false := by simpa using k5
                    rw [this]
                    rfl
                  by_cases k6 : k = 6
                  · subst k6
                    exact may_go_node6 b n s _ l ks N B pl pk l.length cl ks.length ck d' p w (Lib.hid hgo) (Lib.hid (hend ht)) (by omega) c5
                  · by_cases k7 : k = 7
                    · subst k7
                      exact may_go_node7 b n s _ l ks N B pl pk l.length cl ks.length ck d' p w (Lib.hid hgo) (Lib.hid (hend ht)) (by omega) c5
                    · exact may_go_plain k b n s _ l ks N B pl pk l.length cl ks.length ck d' p w (Lib.hid hgo) (Lib.hid (hend ht)) (by omega) (by omega) k5 k6 k7 c5
/-- May a value be? -/
def mayB (t : VT) : Bool := (mayV t 32 0).isSome
theorem May_any (t : VT) (v : Value) (B : Nat) (w : World) (h : VT.In w B t v) (hB : B ≤ w.heap.size) : Calls Try.prog 35 #[v] w fun e w' => e = .returned (.bool (mayB t)) ∧ Below w.heap.size w w' := by
  have hm : ∀ cs : Array Value, Hid (Calls Try.prog 59 #[v, .int .i64 32, .int .i64 0] (w.alloc (.cells cs 25)) (MayPost t 32 0 (w.alloc (.cells cs 25)))) := fun cs =>
    Lib.hid (may_any t.parts t v w.heap.size _ 32 0 (Nat.le_refl _) ((h.more hB).below (one_below w _)) (by simp) (by omega) (by omega))
  obtain ⟨k, b, n, s, l, ks⟩ := t
  unfold VT.In at h
  obtain ⟨pl, cl, pk, ck, rfl, -⟩ := h
  obtain ⟨T, hT⟩ : ∃ T, VT.mk k b n s l ks = T := ⟨_, rfl⟩
  rw [hT] at hm ⊢
  clear hT
  obtain ⟨bq, hq⟩ : ∃ bq, mayB T = bq := ⟨_, rfl⟩
  rw [hq]
  have HQ := Lib.hid hq
  clear hq
  generalize l.length = nl at *
  generalize ks.length = nk at *
  go_enter Try.func35, Try.ntmps35
  go_wp2_with fail
  refine (hm _).out.mono ?_
  rintro e w1 ⟨hb, hn, hs⟩
  have hlow : Below w.heap.size w w1 := (one_below w _).trans (hb.mono (by simp))
  cases hv : mayV T 32 0 with
  | none =>
    obtain rfl : bq = false := by rw [← HQ.out]; unfold mayB; rw [hv]; rfl
    obtain ⟨q, rfl⟩ := hn hv
    clear hn hs hb hm hv
    go_wp2_with fail
    go_ret
    exact ⟨rfl, hlow⟩
  | some q =>
    obtain rfl : bq = true := by rw [← HQ.out]; unfold mayB; rw [hv]; rfl
    obtain rfl := hs q hv
    clear hn hs hb hm hv
    go_wp2_with fail
    go_ret
    exact ⟨rfl, hlow⟩
/-! ### One and the same -/
theorem here_formed {k : Int} {b : Bool} {n : Int} {s : ByteArray} {nl nk : Nat} {ok : Bool} {d p : Nat} (hp : p + 1 ≤ 4096) (hd : 1 ≤ d) : mayHere k b n s nl nk ok d p = formedF k b n s nl nk ok := by
  unfold mayHere
  rw [decide_eq_true hp, decide_eq_true hd]
  by_cases h0 : k < 0
  · rw [decide_eq_false (p := 0 ≤ k) (by omega)]
    unfold formedF
    rw [if_neg (by omega), if_neg (by omega), if_neg (by omega), if_neg (by omega), if_neg (by omega), if_neg (by omega), if_neg (by omega)]
    rfl
  · by_cases h7 : 7 < k
    · rw [decide_eq_false (p := k ≤ 7) (by omega)]
      unfold formedF
      rw [if_neg (by omega), if_neg (by omega), if_neg (by omega), if_neg (by omega), if_neg (by omega), if_neg (by omega), if_neg (by omega)]
      simp
    · have hn : ∀ m : Int, decide (m < 1) = !decide (1 ≤ m) := fun m => by
        by_cases h : m < 1
        · rw [decide_eq_true h, decide_eq_false (by omega)]; rfl
        · rw [decide_eq_false h, decide_eq_true (by omega)]; rfl
      rcases (show k = 0 ∨ k = 1 ∨ k = 2 ∨ k = 3 ∨ k = 4 ∨ k = 5 ∨ k = 6 ∨ k = 7 by omega) with rfl | rfl | rfl | rfl | rfl | rfl | rfl | rfl <;>
        (simp only [unusedF, formedF, hn]
         generalize s.toList.isEmpty = se
         generalize (nl == 0) = z1
         generalize (nk == 0) = z2
         generalize (nk == nl) = z3
         generalize (n == 0) = z4
         generalize decide (1 ≤ n) = z5
         revert b ok se z1 z2 z3 z4 z5
         decide)
mutual
theorem same_may : ∀ (t : VT) (d p : Nat), p ≤ 4096 → mayV t d p = (walkV formedV t d (4096 - p)).map (4096 - ·)
  | .mk k b n s l ks, d, p, hp => by
    have hM : mayV (.mk k b n s l ks) d p = if mayHere k b n s l.length ks.length (keysTo ks ks.length) d p then mayL l (d - 1) (p + 1) else none := by unfold mayV; rfl
    by_cases hd : d = 0
    · subst hd
      have h1 : mayHere k b n s l.length ks.length (keysTo ks ks.length) 0 p = false := by unfold mayHere; simp
      have h2 : walkV formedV (.mk k b n s l ks) 0 (4096 - p) = none := by unfold walkV; rfl
      rw [hM, h1, h2]
      rfl
    · by_cases hq : p = 4096
      · subst hq
        have h1 : mayHere k b n s l.length ks.length (keysTo ks ks.length) d 4096 = false := by unfold mayHere; simp
        have h2 : walkV formedV (.mk k b n s l ks) d (4096 - 4096) = none := by unfold walkV; rw [if_neg hd]; rfl
        rw [hM, h1, h2]
        rfl
      · have h2 : walkV formedV (.mk k b n s l ks) d (4096 - p) = if formedV (.mk k b n s l ks) then walkL formedV l (d - 1) (4096 - p - 1) else none := by
          conv => lhs; unfold walkV
          rw [if_neg hd, if_neg (by omega)]
        rw [hM, h2, here_formed (by omega) (by omega)]
        show (if formedV (.mk k b n s l ks) = true then _ else _) = _
        by_cases hf : formedV (.mk k b n s l ks) = true
        · rw [if_pos hf, if_pos hf, same_mayL l (d - 1) (p + 1) (by omega), show 4096 - (p + 1) = 4096 - p - 1 by omega]
        · rw [if_neg hf, if_neg hf]
          rfl
theorem same_mayL : ∀ (l : List VT) (d p : Nat), p ≤ 4096 → mayL l d p = (walkL formedV l d (4096 - p)).map (4096 - ·)
  | [], d, p, hp => by
    unfold mayL walkL
    simp
    omega
  | t :: ts, d, p, hp => by
    unfold mayL walkL
    rw [same_may t d p hp]
    cases hv : walkV formedV t d (4096 - p) with
    | none => rfl
    | some m =>
      have hm := walkV_le t _ _ _ hv
      simp only [Option.map_some]
      rw [same_mayL ts d (4096 - m) (by omega), show 4096 - (4096 - m) = m by omega]
end
/-- WHETHER A VALUE MAY BE: the walk over its parts says what the document says. -/
theorem may_walk (t : VT) : (walkV formedV t 32 4096).isSome = mayB t := by
  unfold mayB
  rw [same_may t 32 0 (by omega)]
  cases walkV formedV t 32 (4096 - 0) <;> rfl
end Val
end Go.Proofs.Ytmhlipncelgmlaa
