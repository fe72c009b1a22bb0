/- Show: the laws that speak of texts alone: what is put in quotes comes back; what it looks like. -/
import Derived.Test.YtoaliaohbpdibaaDoorShWorks
import Derived.Test.YtoaliaohbpdibaaDoorShLawPlain
namespace Go.Proofs.YtoaliaohbpdibaaDoor
open Go.RowKit
set_option linter.unusedVariables false
set_option linter.unusedSimpArgs false
namespace Sh
/-- A call that answers true and leaves what was there. -/
def Yes (w : World) (e : Ending) (w' : World) : Prop := e = .returned (.bool true) ∧ Below w.heap.size w w'
theorem str_back (s : ByteArray) : (⟨(s.data.toList).toArray⟩ : ByteArray) = s := by cases s; simp
theorem small_quote (s : ByteArray) (hs : s.size ≤ 1048576) : (⟨(quoteL s.data.toList).toArray⟩ : ByteArray).size ≤ 4194306 := by
  have h1 := quoteL_len s.data.toList
  have h2 : s.data.toList.length = s.size := by simp
  have h3 : (⟨(quoteL s.data.toList).toArray⟩ : ByteArray).size = (quoteL s.data.toList).length := by simp [ByteArray.size]
  omega
theorem back_of_quote (s : ByteArray) (hs : s.size ≤ 1048576) (w : World) (hE : Err w) : Calls Tryd.prog 8 #[.string ⟨(quoteL s.data.toList).toArray⟩] w fun e w' => e = .returned (.tuple #[.string s, .int .i64 0]) ∧ Below w.heap.size w w' := by
  have h1 := small_quote s hs
  have h := unquote_any ⟨(quoteL s.data.toList).toArray⟩ w (by omega) hE
  rw [show (⟨(quoteL s.data.toList).toArray⟩ : ByteArray).data.toList = quoteL s.data.toList by simp, unqL_quoteL] at h
  refine h.mono fun e w' ⟨h1, h2, _⟩ => ⟨?_, h2⟩
  rw [h1, unqT, str_back]
theorem unqF_len : ∀ (f : Nat) (l u : List UInt8), unqF f l = some u → u.length ≤ l.length
  | 0, l, u, h => by simp [unqF] at h; subst h; simp
  | f + 1, l, u, h => by
    unfold unqF at h
    split at h
    · simp at h; subst h; simp
    · split at h
      · have hle := sgL_le l
        obtain ⟨x, hx, rfl⟩ := Option.map_eq_some_iff.1 h
        have := unqF_len f _ _ hx
        rw [List.length_drop] at this
        rw [List.length_append, List.length_take]
        omega
      · split at h
        · cases h
        · rename_i h0
          obtain ⟨x, hx, rfl⟩ := Option.map_eq_some_iff.1 h
          have := unqF_len f _ _ hx
          obtain ⟨h2, _, hl, _⟩ := escR_ascii l h0
          rw [List.length_drop] at this
          rw [List.length_cons]
          omega
theorem unqL_len (l u : List UInt8) (h : unqL l = some u) : u.length ≤ l.length := by
  unfold unqL at h
  split at h
  · cases h
  · have := unqF_len _ _ _ h
    rw [List.length_take, List.length_drop] at this
    omega
set_option maxHeartbeats 2000000 in
set_option maxRecDepth 100000 in
theorem showBack_any (s : ByteArray) (w : World) (hs : s.size ≤ 1048576) (hE : Err w) : Calls Tryd.prog 5 #[.string s] w (Yes w) := by
  have HE := Lib.hid hE
  have Q := Lib.hid (fun V => quote_any s V (by omega))
  have U := Lib.hid (fun V hV => back_of_quote s hs V hV)
  have U2 := Lib.hid (fun V hV => unquote_any s V (by omega) hV)
  have W := Lib.hid (fun V hV => works_any V hV)
  clear hE
  obtain ⟨q, hq⟩ : ∃ q : ByteArray, (⟨(quoteL s.data.toList).toArray⟩ : ByteArray) = q := ⟨_, rfl⟩
  rw [hq] at U Q
  clear hq
  cases hu : unqL s.data.toList with
  | none =>
    rw [hu] at U2
    clear hu hs
    go_enter Tryd.func5, Tryd.ntmps5
    go_wp2_with fail
    refine (Q.out _).mono ?_
    rintro e w1 ⟨rfl, hb, _⟩
    have HB1 := Lib.hid hb
    have HE1 := Lib.hid (HE.out.below HB1.out HE.out.lt)
    clear hb
    go_wp2_with fail
    refine (U.out _ HE1.out).mono ?_
    rintro e w2 ⟨rfl, hb⟩
    have HB2 := Lib.hid (HB1.out.trans (hb.mono HB1.out.size))
    have HE2 := Lib.hid (HE.out.below HB2.out HE.out.lt)
    clear hb
    go_wp2_with fail
    refine (U2.out _ HE2.out).mono ?_
    rintro e w3 ⟨rfl, hb, _⟩
    have HB3 := Lib.hid (HB2.out.trans (hb.mono HB2.out.size))
    have HE3 := Lib.hid (HE.out.below HB3.out HE.out.lt)
    clear hb
    simp only [unqT]
    go_wp2_with fail
    refine (W.out _ HE3.out).mono ?_
    rintro e w4 ⟨rfl, hb⟩
    have HB4 := Lib.hid (HB3.out.trans (hb.mono HB3.out.size))
    clear hb
    go_wp2_with fail
    go_ret
    exact ⟨rfl, HB4.out⟩
  | some u =>
    rw [hu] at U2
    have hul := unqL_len _ _ hu
    have h2 : s.data.toList.length = s.size := by simp
    obtain ⟨t, ht⟩ : ∃ t : ByteArray, (⟨u.toArray⟩ : ByteArray) = t := ⟨_, rfl⟩
    have hts : t.size ≤ 1048576 := by
      rw [← ht]
      have : (⟨u.toArray⟩ : ByteArray).size = u.length := by simp [ByteArray.size]
      omega
    have Q2 := Lib.hid (fun V => quote_any t V (by omega))
    have U3 := Lib.hid (fun V hV => back_of_quote t hts V hV)
    have U2 := Lib.hid (fun V hV => (U2.out V hV).mono fun e w' h => (⟨by rw [h.1, unqT, ht], h.2.1⟩ : e = .returned (.tuple #[.string t, .int .i64 0]) ∧ Below V.heap.size V w'))
    obtain ⟨r, hr⟩ : ∃ q : ByteArray, (⟨(quoteL t.data.toList).toArray⟩ : ByteArray) = q := ⟨_, rfl⟩
    rw [hr] at U3 Q2
    clear hu hs ht hts hul h2 hr
    go_enter Tryd.func5, Tryd.ntmps5
    go_wp2_with fail
    refine (Q.out _).mono ?_
    rintro e w1 ⟨rfl, hb, _⟩
    have HB1 := Lib.hid hb
    have HE1 := Lib.hid (HE.out.below HB1.out HE.out.lt)
    clear hb
    go_wp2_with fail
    refine (U.out _ HE1.out).mono ?_
    rintro e w2 ⟨rfl, hb⟩
    have HB2 := Lib.hid (HB1.out.trans (hb.mono HB1.out.size))
    have HE2 := Lib.hid (HE.out.below HB2.out HE.out.lt)
    clear hb
    go_wp2_with fail
    refine (U2.out _ HE2.out).mono ?_
    rintro e w3 ⟨rfl, hb⟩
    have HB3 := Lib.hid (HB2.out.trans (hb.mono HB2.out.size))
    have HE3 := Lib.hid (HE.out.below HB3.out HE.out.lt)
    clear hb
    go_wp2_with fail
    refine (Q2.out _).mono ?_
    rintro e w4 ⟨rfl, hb, _⟩
    have HB4 := Lib.hid (HB3.out.trans (hb.mono HB3.out.size))
    have HE4 := Lib.hid (HE.out.below HB4.out HE.out.lt)
    clear hb
    go_wp2_with fail
    refine (U3.out _ HE4.out).mono ?_
    rintro e w5 ⟨rfl, hb⟩
    have HB5 := Lib.hid (HB4.out.trans (hb.mono HB4.out.size))
    have HE5 := Lib.hid (HE.out.below HB5.out HE.out.lt)
    clear hb
    go_wp2_with fail
    refine (W.out _ HE5.out).mono ?_
    rintro e w6 ⟨rfl, hb⟩
    have HB6 := Lib.hid (HB5.out.trans (hb.mono HB5.out.size))
    clear hb
    go_wp2_with fail
    go_ret
    exact ⟨rfl, HB6.out⟩
theorem plainS_at (F : Nat) (l : List UInt8) (h : plainS F l = true) (h1 : 1 < l.length) : ∃ f, F = f + 1 ∧ 0 < sgL l ∧ 32 ≤ (l.getD 0 0).toNat ∧ (l.getD 0 0).toNat ≠ 127 ∧ (l.getD 0 0).toNat ≠ 39 ∧ plainS f (l.drop (if (l.getD 0 0).toNat = 92 then 2 else sgL l)) = true := by
  cases F with
  | zero =>
    unfold plainS at h
    have := of_decide_eq_true h
    omega
  | succ f =>
    rw [plainS, if_neg (by omega)] at h
    split at h
    · cases h
    · exact ⟨f, rfl, by omega, by omega, by omega, by omega, h⟩
set_option maxHeartbeats 2000000 in
set_option maxRecDepth 100000 in
theorem showPlain_any (s : ByteArray) (w : World) (hs : s.size ≤ 1048576) (hE : Err w) : Calls Tryd.prog 6 #[.string s] w (Yes w) := by
  have HE := Lib.hid hE
  have Q := Lib.hid (fun V => quote_any s V (by omega))
  have W := Lib.hid (fun V hV => works_any V hV)
  have hqs := small_quote s hs
  obtain ⟨q, hq⟩ : ∃ q : ByteArray, (⟨(quoteL s.data.toList).toArray⟩ : ByteArray) = q := ⟨_, rfl⟩
  have hql : q.data.toList = quoteL s.data.toList := by rw [← hq]
  have hsz : q.size = (quoteF s.data.toList.length s.data.toList).length + 2 := by
    have h1 : q.size = q.data.toList.length := by simp
    rw [h1, hql, quoteL, List.length_cons, List.length_append, List.length_singleton]
  rw [hq] at Q hqs
  have hlt : (0 : Nat) < q.size := by omega
  have hlt2 : q.size - 1 < q.size := by omega
  have h0 : q[0]'hlt = 39 := by rw [← getD_at q 0 (by omega), hql]; rfl
  have h1 : q[q.size - 1]'hlt2 = 39 := by
    rw [← getD_at q (q.size - 1) (by omega), hql, hsz]
    have : (quoteF s.data.toList.length s.data.toList).length + 2 - 1 = (quoteF s.data.toList.length s.data.toList).length + 1 := by omega
    rw [this, quoteL]
    simp [List.getD]
  have h0i : ((q[0]'hlt).toNat : Int) = 39 := by rw [h0]; rfl
  have h1i : ((q[q.size - 1]'hlt2).toNat : Int) = 39 := by rw [h1]; rfl
  have HP : Hid (plainS q.size (q.data.toList.drop 1) = true) := Lib.hid (by
    rw [hql, quoteL, List.drop_one, List.tail_cons]
    exact plain_quote _ _ (Nat.le_refl _) _ (by rw [hsz, List.length_append, List.length_singleton]; omega))
  have h2 : 2 ≤ (q.size : Int) := by omega
  have h7 : (q.size : Int) - 1 < q.size := by omega
  have h8 : ((q.size : Int) - 1).toNat = q.size - 1 := by omega
  clear hE hs hq hql hsz h0 h1
  go_enter Tryd.func6, Tryd.ntmps6
  go_wp2_with fail
  refine (Q.out _).mono ?_
  rintro e w1 ⟨rfl, hb, _⟩
  have HB1 := Lib.hid hb
  have HE1 := Lib.hid (HE.out.below HB1.out HE.out.lt)
  clear hb
  go_wp2
  go_loop [4] (fun i => ∃ k F : Nat, i = .int .i64 (k : Int) ∧ Hid (plainS F (q.data.toList.drop k) = true ∧ k ≤ 4194400)) (fun i => q.size - (intOf i).toNat)
  case atStart => exact ⟨1, q.size, rfl, Lib.hid ⟨HP.out, by omega⟩⟩
  case round =>
    obtain ⟨k, F, rfl, HR⟩ := hrel
    have hk := HR.out.2
    by_cases hlk : k + 1 < q.size
    · have hll : (q.data.toList.drop k).length = q.size - k := by simp
      obtain ⟨f, rfl, g1, g2, g3, g4, g5⟩ := plainS_at F _ HR.out.1 (by omega)
      have hc : (q.data.toList.drop k).getD 0 0 = q[k] := by rw [Lib.getD_dropU, Nat.add_zero, getD_at q k (by omega)]
      have hS := fun V => sign_any q k V (by omega) (by omega)
      have hle := sgL_le (q.data.toList.drop k)
      rw [hc] at g2 g3 g4 g5
      rw [List.drop_drop] at g5
      obtain ⟨n, hn⟩ : ∃ n, sgL (q.data.toList.drop k) = n := ⟨_, rfl⟩
      rw [hn] at g1 g5 hS hle
      have hlki : (k : Int) + 1 < q.size := by omega
      have hkq : k < q.size := by omega
      have hn1 : 1 ≤ (n : Int) := by omega
      have hn4 : (n : Int) ≤ 4 := by omega
      have hc32 : 32 ≤ (q[k].toNat : Int) := by omega
      have hc127 : ((q[k].toNat : Int) == 127) = false := by simp; omega
      have hc39 : ((q[k].toNat : Int) == 39) = false := by simp; omega
      have hki : (k : Int) ≤ 4194400 := by omega
      clear hn hc hll hle g3 g4
      by_cases h92 : q[k].toNat = 92
      · rw [if_pos h92] at g5
        have HN : Hid (plainS f (q.data.toList.drop (k + 2)) = true ∧ k + 2 ≤ 4194400) := Lib.hid ⟨g5, by omega⟩
        have hc92 : ((q[k].toNat : Int) == 92) = true := by simp; omega
        clear g5 h92
        go_wp2_with (go_at_call 20; refine (hS _).mono ?_; rintro e w' ⟨rfl, rfl⟩)
        go_round
        case rel => exact ⟨k + 2, f, by go_num, HN⟩
        case measure => simp [intOf]; omega
      · rw [if_neg h92] at g5
        have HN : Hid (plainS f (q.data.toList.drop (k + n)) = true ∧ k + n ≤ 4194400) := Lib.hid ⟨g5, by omega⟩
        have hc92 : ((q[k].toNat : Int) == 92) = false := by simp; omega
        clear g5 h92
        go_wp2_with (go_at_call 20; refine (hS _).mono ?_; rintro e w' ⟨rfl, rfl⟩)
        go_round
        case rel => exact ⟨k + n, f, by go_num, HN⟩
        case measure => simp [intOf]; omega
    · have hlki : ¬ (k : Int) + 1 < q.size := by omega
      go_wp2_with (go_at_call 16; refine (W.out _ HE1.out).mono ?_; rintro e w4 ⟨rfl, hb⟩)
      go_ret
      exact ⟨rfl, HB1.out.trans (hb.mono HB1.out.size)⟩
end Sh
end Go.Proofs.YtoaliaohbpdibaaDoor
