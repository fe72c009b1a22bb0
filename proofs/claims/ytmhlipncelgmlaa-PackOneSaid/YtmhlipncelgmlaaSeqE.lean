/- A region that draws its order, walked in one order: its calls may throw, and what the loads look at need stand only till the last operation, a store that waits for all of them. Of no program. -/
import Derived.Test.YtmhlipncelgmlaaSeq
namespace Go.Proofs.Ytmhlipncelgmlaa
open Go.RowKit
set_option linter.unusedVariables false
section
variable {F : Fence} {n : Nat} {P : Program} {ops : Array Oper} {Q : Exit → Act → World → Prop} {md : Region.Mode} {S : World → Prop}
def anyE (F : Fence) (n : Nat) (P : Program) (md : Region.Mode) (ops : Array Oper) (Q : Exit → Act → World → Prop) (S : World → Prop) (m : Nat) : Nat → Array Bool → Act → World → Prop
  | 0, listed, a, w => Region.ready md ops listed = [] ∧ Q .normal a w
  | fuel + 1, listed, a, w => (Region.ready md ops listed = [] → Q .normal a w) ∧
    ∀ i ∈ Region.ready md ops listed, wpOpIn F n P ops Q i (fun a' w' => (i ≠ m → S w') ∧ anyE F n P md ops Q S m fuel (listed.setIfInBounds i true) a' w') a w
theorem anyE.any {m : Nat} : ∀ (fuel : Nat) (listed : Array Bool) (a : Act) (w : World), anyE F n P md ops Q S m fuel listed a w → wpAnyIn F n P md ops Q fuel listed a w
  | 0, _, _, _, h => h
  | fuel + 1, listed, a, w, h => ⟨h.1, fun i hi => wpOpIn_mono (fun a' w' h' => anyE.any fuel _ a' w' h'.2) (h.2 i hi)⟩
/-- Does operation m wait for operation i? -/
def waits (md : Region.Mode) (ops : Array Oper) (m i : Nat) : Bool := match ops[m]? with | none => false | some o => o.after.any (fun e => Region.binds md e && e.on == i)
theorem waits_spec {m i : Nat} {o : Oper} (ho : ops[m]? = some o) (h : waits md ops m i = true) : ∃ e ∈ o.after, Region.binds md e = true ∧ e.on = i := by
  unfold waits at h
  rw [ho] at h
  simp only [Array.any_eq_true'] at h
  obtain ⟨e, he, h⟩ := h
  simp only [Bool.and_eq_true, beq_iff_eq] at h
  exact ⟨e, he, h.1, h.2⟩
theorem anyE_first {i m : Nat} {oi : Oper} {v : Value} (hro : F.round = none) (hi : ops[i]? = some oi) (him : i ≠ m) (hwait : waits md ops m i = true) (hsel : ∀ (j : Nat) (o : Oper) cs b, ops[j]? = some o → o.op ≠ .select cs b)
    (hQ : ∀ c a w, Q (.panic c) (a.put oi.dst v) w → Q (.panic c) a w) :
    ∀ (fuel : Nat) (listed : Array Bool) (a : Act) (w : World),
      (∀ j oj, ops[j]? = some oj → j ≠ i → listed.getD j true = false → (∀ e ∈ oj.after, Region.binds md e = true → e.on ≠ i) → oi.apart ops oj = true) →
      i ∈ Region.ready md ops listed → YieldsS P ops S oi v a → S w →
      anyE F n P md ops Q S m fuel (listed.setIfInBounds i true) (a.put oi.dst v) w → anyE F n P md ops Q S m (fuel + 1) listed a w := by
  intro fuel
  induction fuel with
  | zero =>
    intro listed a w _ hr hy hS H
    refine ⟨fun h => (by rw [h] at hr; cases hr), fun j hj => ?_⟩
    by_cases hji : j = i
    · subst hji; exact hy.wpOpIn hro hi hS ⟨fun _ => hS, H⟩
    · have := ready_mono hj hji
      rw [H.1] at this
      cases this
  | succ fuel ih =>
    intro listed a w hfree hr hy hS H
    refine ⟨fun h => (by rw [h] at hr; cases hr), fun j hj => ?_⟩
    by_cases hji : j = i
    · subst hji; exact hy.wpOpIn hro hi hS ⟨fun _ => hS, H⟩
    · have h1 := H.2 j (ready_mono hj hji)
      obtain ⟨hjun, oj, hoj, hall⟩ := mem_ready.1 hj
      have hnot : ∀ e ∈ oj.after, Region.binds md e = true → e.on ≠ i := fun e he hb heq => by
        have h1 := hall e he hb
        have h0 := (mem_ready.1 hr).1
        rw [heq] at h1
        rcases Nat.lt_or_ge i listed.size with h' | h'
        · simp [h'] at h0 h1; rw [h0] at h1; cases h1
        · simp [Array.getElem?_eq_none h'] at h1
      have hjm : j ≠ m := fun e => by
        subst e
        obtain ⟨e, he, hb, heq⟩ := waits_spec hoj hwait
        exact hnot e he hb heq
      have hap := hfree j oj hoj hji hjun hnot
      obtain ⟨p1, p2, p3⟩ := Oper.apart_spec hap
      have hsi := fun cs b => hsel i oi cs b hi
      have hyc : YieldsFenced P ops (constOp oi v) (if Region.wanted oi (yielded ops a.tmps) = true then v else undef) a := by
        refine ⟨?_, fun w => rfl⟩
        by_cases hw : Region.wanted oi (yielded ops a.tmps) = true
        · rw [if_pos hw]
          exact .inl ⟨hw, fun w => rfl⟩
        · rw [if_neg hw]
          exact .inr ⟨eq_false_of_ne_true hw, rfl⟩
      have hv : (if Region.wanted oi (yielded ops a.tmps) = true then v else undef) = v := by
        rcases hy.1 with ⟨hw, _⟩ | ⟨hw, rfl⟩
        · rw [if_pos hw]
        · split <;> rfl
      rw [hv] at hyc
      have h2 := wpOpIn_shape hoj (wpOpIn_put hro hoj (constOp_apart hap) (by intro cs b; simp [constOp]) (fun cs b => hsel j oj cs b hoj) hQ hyc h1)
      have hfree' : ∀ k ok, ops[k]? = some ok → k ≠ i → (listed.setIfInBounds j true).getD k true = false →
          (∀ e ∈ ok.after, Region.binds md e = true → e.on ≠ i) → oi.apart ops ok = true := fun k ok hk hki hun hno => by
        refine hfree k ok hk hki ?_ hno
        by_cases hjk : j = k
        · subst hjk; exact hjun
        · rw [getD_set_ne true hjk] at hun; exact hun
      refine wpOpIn_mono (fun a' w' h3 => ?_) h2
      obtain ⟨⟨ds, u, ha'⟩, -, hS', h4⟩ := h3
      have hS' := hS' hjm
      have hy' : YieldsS P ops S oi v a' := by
        rw [ha']
        exact (hy.of_same (a' := { a with defers := ds }) rfl rfl (fun _ => rfl)).of_same (execOp_put oi hsi _ oj.dst u p3) (wanted_put oi _ oj.dst u p3) (fun w => about_put oi w _ oj.dst u p3)
      refine ⟨fun _ => hS', ih (listed.setIfInBounds j true) a' w' hfree' (ready_mono hr (Ne.symm hji)) hy' hS' ?_⟩
      rw [Array.setIfInBounds_comm _ _ hji]
      exact h4
def seqOkE (md : Region.Mode) (ops : Array Oper) (m : Nat) : List Nat → Array Bool → Bool
  | [], listed => (Region.ready md ops listed).isEmpty
  | i :: rest, listed => (match ops[i]? with
      | none => false
      | some o => if isSeqOp o then Region.ready md ops listed == [i] && (!rest.isEmpty || i == m) else Region.free md ops listed i && ((Region.ready md ops listed).contains i && (waits md ops m i && !(i == m)))) &&
      seqOkE md ops m rest (listed.setIfInBounds i true)
def seqE (F : Fence) (n : Nat) (P : Program) (ops : Array Oper) (Q : Exit → Act → World → Prop) (S : World → Prop) : List Nat → Act → World → Prop
  | [], a, w => Q .normal a w
  | i :: rest, a, w => match ops[i]? with
      | none => False
      | some o => if isSeqOp o then wpOpIn F n P ops Q i (fun a' w' => (rest ≠ [] → S w') ∧ seqE F n P ops Q S rest a' w') a w
          else ∃ v, YieldsS P ops S o v a ∧ seqE F n P ops Q S rest (a.put o.dst v) w
theorem anyE_of_seq {m : Nat} (hro : F.round = none) (hsel : Region.noSelect ops = true) (hQ : ∀ c (a : Act) d v w, Q (.panic c) (a.put d v) w → Q (.panic c) a w) : ∀ (ord : List Nat) (listed : Array Bool) (a : Act) (w : World), seqOkE md ops m ord listed = true → (ord ≠ [] → S w) → seqE F n P ops Q S ord a w →
    anyE F n P md ops Q S m ord.length listed a w
  | [], listed, a, w, hok, hS, h => ⟨by simpa [seqOkE] using hok, h⟩
  | i :: rest, listed, a, w, hok, hS, h => by
    unfold seqOkE at hok
    unfold seqE at h
    have hS := hS (by simp)
    cases ho : ops[i]? with
    | none => rw [ho] at h; exact h.elim
    | some o =>
      rw [ho] at hok h
      simp only [Bool.and_eq_true] at hok h
      obtain ⟨h1, h2⟩ := hok
      by_cases hc : isSeqOp o = true
      · rw [if_pos hc] at h1 h
        simp only [Bool.and_eq_true] at h1
        have hr : Region.ready md ops listed = [i] := by simpa using h1.1
        refine ⟨fun h0 => by rw [hr] at h0; simp at h0, fun j hj => ?_⟩
        rw [hr] at hj
        obtain rfl : j = i := by simpa using hj
        refine wpOpIn_mono (fun a' w' h' => ⟨fun hjm => h'.1 (fun e => ?_), anyE_of_seq hro hsel hQ rest _ a' w' h2 h'.1 h'.2⟩) h
        subst e
        have h3 := h1.2
        simp at h3
        exact hjm h3
      · rw [if_neg hc] at h1 h
        simp only [Bool.and_eq_true] at h1
        obtain ⟨v, hy, h⟩ := h
        exact anyE_first hro ho (by simpa using h1.2.2.2) h1.2.2.1 (Region.noSelect_spec hsel) (fun c a w hq => hQ c a _ _ w hq) rest.length listed a w (Region.free_spec ho h1.1) (by simpa using h1.2.1) hy hS (anyE_of_seq hro hsel hQ rest _ _ w h2 (fun _ => hS) h)
/-- **A REGION THAT DRAWS, WALKED IN ONE ORDER**; its calls may throw. -/
theorem wp_region_seqE {id : Nat} {a : Act} {w : World} (S : World → Prop) (m : Nat) (ord : List Nat) (hm : P.follows .mixedOrders = true) (hsel : Region.noSelect ops = true) (hlen : ord.length = ops.size) (hok : seqOkE .any ops m ord (Array.replicate ops.size false) = true)
    (hQ : ∀ c (a : Act) d v w, Q (.panic c) (a.put d v) w → Q (.panic c) a w) (hS : S w.drew) (h : seqE Fence.wide 5 P ops Q S ord a w.drew) : (Code.region id ops true).wp P Q a w := by
  refine (wpIn_wide (n := 5)).1 ?_
  have h2 := anyE_of_seq (F := Fence.wide) (n := 5) (P := P) (md := .any) rfl hsel hQ ord _ _ _ hok (fun _ => hS) h
  rw [hlen] at h2
  exact wpIn_region_any hm (anyE.any _ _ _ _ h2)
/-! ### The steps of such a walk -/
theorem seqE_take {i : Nat} {rest : List Nat} {a : Act} {w : World} {o : Oper} (v : Value) (ho : ops[i]? = some o) (hc : isSeqOp o = false) (hw : Region.wanted o (yielded ops a.tmps) = true) (hv : ∀ w, S w → (execOp a.eval o).run P w = .ok (.value v) w) {a' : Act} (hb : ∀ w, o.about P w a.eval = none) (ha : a.put o.dst v = a')
    (h : seqE F n P ops Q S rest a' w) : seqE F n P ops Q S (i :: rest) a w := by
  subst ha
  unfold seqE
  simp only [ho]
  rw [if_neg (by rw [hc]; decide)]
  exact ⟨v, ⟨.inl ⟨hw, hv⟩, hb⟩, h⟩
theorem seqE_call {i : Nat} {rest : List Nat} {a : Act} {w w1 : World} {o : Oper} {f : FuncId} {args : Array Value} {R : Ending → World → Prop} (hro : F = Fence.wide) (ho : ops[i]? = some o) (hc : isSeqOp o = true) (hw : Region.wanted o (yielded ops a.tmps) = true)
    (hrun : (execOp a.eval o).run P w = .ok (.enter f args) w1) (hcall : Calls P f args w1 R)
    (hR : ∀ e w2, R e w2 → (∃ v a', e = .returned v ∧ a.put o.dst v = a' ∧ S w2 ∧ seqE F n P ops Q S rest a' w2) ∨ (∃ c, e = .panicked c ∧ Q (.panic c) a w2)) : seqE F n P ops Q S (i :: rest) a w := by
  subst hro
  unfold seqE
  simp only [ho]
  rw [if_pos hc]
  unfold wpOpIn
  simp only [ho]
  rw [if_pos hw]
  refine ⟨fun _ _ => trivial, ?_⟩
  show Oper.uponIn Fence.wide n P o a _ Q ((execOp a.eval o).run P w)
  rw [hrun]
  refine ⟨(fun h => by cases h), (callsIn_wide.2 hcall).mono fun e w2 he => ?_⟩
  rcases hR e w2 he with ⟨v, a', rfl, rfl, hs, hk⟩ | ⟨c, rfl, hq⟩
  · exact ⟨fun _ => hs, hk⟩
  · exact hq
theorem seqE_do {i : Nat} {rest : List Nat} {a : Act} {w w1 : World} {o : Oper} (v : Value) (hro : F = Fence.wide) (ho : ops[i]? = some o) (hc : isSeqOp o = true) (hw : Region.wanted o (yielded ops a.tmps) = true)
    (hrun : (execOp a.eval o).run P w = .ok (.value v) w1) {a' : Act} (ha : a.put o.dst v = a') (hS : S w1) (h : seqE F n P ops Q S rest a' w1) : seqE F n P ops Q S (i :: rest) a w := by
  subst hro
  subst ha
  unfold seqE
  simp only [ho]
  rw [if_pos hc]
  unfold wpOpIn
  simp only [ho]
  rw [if_pos hw]
  refine ⟨fun _ _ => trivial, ?_⟩
  show Oper.uponIn Fence.wide n P o a _ Q ((execOp a.eval o).run P w)
  rw [hrun]
  exact ⟨fun _ => hS, h⟩
/-- The last operation, a store. -/
theorem seqE_lay {i : Nat} {a : Act} {w w1 : World} {o : Oper} (hro : F = Fence.wide) (ho : ops[i]? = some o) (hc : isSeqOp o = true) (hw : Region.wanted o (yielded ops a.tmps) = true)
    (hd : o.dst = none) (hrun : (execOp a.eval o).run P w = .ok .skip w1) (h : Q .normal a w1) : seqE F n P ops Q S [i] a w := by
  subst hro
  unfold seqE
  simp only [ho]
  rw [if_pos hc]
  unfold wpOpIn
  simp only [ho]
  rw [if_pos hw]
  refine ⟨fun _ _ => trivial, ?_⟩
  show Oper.uponIn Fence.wide n P o a _ Q ((execOp a.eval o).run P w)
  rw [hrun]
  have hp : a.put o.dst undef = a := by rw [hd]; rfl
  show ([] ≠ [] → S w1) ∧ seqE Fence.wide n P ops Q S [] (a.put o.dst undef) w1
  rw [hp]
  exact ⟨fun h => absurd rfl h, h⟩
/-- Append of a slice that lies in known cells; where the new row lies is told. -/
theorem seqE_append {i : Nat} {rest : List Nat} {a : Act} {w : World} {o : Oper} (hro : F = Fence.wide) (ho' : ops[i]? = some o) (hgd : o.guard = none) (s x : Operand) (t : TypeId)
    (ho : o.op = .call { callee := .builtin .append, args := #[s, x], argTypes := #[t, t] })
    (base : Nat) (e : TypeId) (i0 : TypeInfo) (z : Value) (size bytes : Nat) (ht : P.underlying t = some (.slice e)) (hi : P.info? e = some i0) (hz : i0.zero = some z)
    (hsize : i0.size = size) (hby : i0.bytes = bytes) (hzs : z.cells.size = size) (hsz : 0 < size)
    (v : Value) (k : Nat) (xs : List Value) (hs : a.eval s = v) (hown : w.ownsRow base e size v k xs)
    (ad : Addr) (m c : Nat) (news : List Value) (hx : a.eval x = .slice (some ad) m c) (hl : news.length = m * size) (hnews : ∀ j u, news[j]? = some u → w.cell? (ad.add j) = some u) (h1 : ∀ u ∈ news, u.oneCell' = true)
    (hm : 0 < m) (h63 : k + m ≤ maxLen) (hbytes : (k + m) * bytes ≤ 140737488355328) (hbase : base ≤ w.heap.size) (H : Nat) (hH : w.heap.size = H)
    (h : ∀ g cap w', w'.ownsRow base e size (.slice (some ⟨g, 0, none⟩) (k + m) cap) (k + m) (xs ++ news) → w.grownBy w' v.ownBlock → (v.ownBlock = some g ∨ g = H) → ∃ a', a.put o.dst (.slice (some ⟨g, 0, none⟩) (k + m) cap) = a' ∧ S w' ∧ seqE F n P ops Q S rest a' w') : seqE F n P ops Q S (i :: rest) a w := by
  obtain ⟨g, cap, w', hr, h2, h3, h4, h5⟩ := run_append_lies (P := P) w t o.type base e i0 z size bytes ht hi hz hsize hby hzs hsz v k xs hown ad m c news hl hnews h1 hm h63 hbytes hbase H hH
  obtain ⟨a', ha, hS', hk⟩ := h g cap w' h2 h3 h4
  have hc : isSeqOp o = true := by unfold isSeqOp; rw [ho]
  have hw : Region.wanted o (yielded ops a.tmps) = true := by simp [Region.wanted, hgd]
  refine seqE_do _ hro ho' hc hw ?_ ha hS' hk
  unfold execOp
  simp only [ho, resolve, invoke, builtin, Sem.run_bind, Sem.run_pure, Result.andThen_ok, List.map_toArray, List.map_cons, List.map_nil, hs, hx, hr]
end
end Go.Proofs.Ytmhlipncelgmlaa
