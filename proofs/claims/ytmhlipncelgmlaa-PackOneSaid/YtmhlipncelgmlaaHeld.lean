/- A REGION THAT DRAWS ITS ORDER, AT THE WIDE FENCE, WHOSE CALLS MAY WRITE: one walk in the order of the text, where whatever is no call yields in every world that meets a condition S, and S is shown anew behind each call. Of no program. -/
import Derived.OrdersIn
import Derived.ControlIn
import Derived.WalkKit
namespace Go.Proofs.Ytmhlipncelgmlaa
open Go.RowKit
set_option linter.unusedVariables false
section
variable {F : Fence} {n : Nat} {P : Program} {ops : Array Oper} {Q : Exit → Act → World → Prop} {md : Region.Mode} {S : World → Prop}
/-- What the walk finds behind an operation is the state ahead of it with its temporary put. -/
theorem wpOpIn_shape {j : Nat} {oj : Oper} {K : Act → World → Prop} {a : Act} {w : World} (hj : ops[j]? = some oj) (h : wpOpIn F n P ops Q j K a w) :
    wpOpIn F n P ops Q j (fun a' w' => (∃ ds u, a' = ({ a with defers := ds } : Act).put oj.dst u) ∧ K a' w') a w := by
  unfold wpOpIn at *
  simp only [hj] at *
  split
  · rename_i hw
    simp only [hw, if_true] at h
    unfold Oper.wpIn at *
    obtain ⟨h0, h⟩ := h
    refine ⟨h0, ?_⟩
    generalize (oj.semAt F.round a.eval).run P w = r at *
    cases r with
    | ok x w' =>
      cases x <;> simp only [Oper.uponIn] at h ⊢
      case value u => exact ⟨⟨a.defers, u, rfl⟩, h⟩
      case skip => exact ⟨⟨a.defers, undef, rfl⟩, h⟩
      case defer d => exact ⟨⟨d :: a.defers, undef, rfl⟩, h⟩
      case enter f args =>
        refine ⟨h.1, CallsIn.mono h.2 fun e w'' he => ?_⟩
        cases e with
        | returned u => exact ⟨⟨a.defers, u, rfl⟩, he⟩
        | panicked c => exact he
        | outgrown => exact he
      case row row args => exact ⟨h.1, RowsIn.mono h.2 fun u w'' he => ⟨⟨a.defers, u, rfl⟩, he⟩⟩
      case round l f tmps assign body =>
        refine ⟨h.1, RoundIn.mono h.2 fun e w'' he => ?_⟩
        cases e with
        | returned u => exact ⟨⟨a.defers, u, rfl⟩, he⟩
        | panicked c => exact he
        | outgrown => exact he
    | halt x w' => cases x <;> simp only [Oper.uponIn] at h ⊢; exact h
  · rename_i hw
    simp only [hw] at h
    exact ⟨h.1, ⟨a.defers, undef, rfl⟩, h.2⟩
/-- In every world that meets S the operation leaves v in its temporary and does nothing else; it makes no call. -/
def YieldsS (P : Program) (ops : Array Oper) (S : World → Prop) (o : Oper) (v : Value) (a : Act) : Prop :=
  ((Region.wanted o (yielded ops a.tmps) = true ∧ ∀ w, S w → (execOp a.eval o).run P w = .ok (.value v) w) ∨ (Region.wanted o (yielded ops a.tmps) = false ∧ v = undef)) ∧ ∀ w, o.about P w a.eval = none
theorem YieldsS.of_same {o : Oper} {v : Value} {a a' : Act} (hy : YieldsS P ops S o v a) (he : execOp a'.eval o = execOp a.eval o)
    (hw : Region.wanted o (yielded ops a'.tmps) = Region.wanted o (yielded ops a.tmps)) (hb : ∀ w, o.about P w a'.eval = o.about P w a.eval) : YieldsS P ops S o v a' := by
  unfold YieldsS at *
  rw [he, hw]
  exact ⟨hy.1, fun w => by rw [hb w]; exact hy.2 w⟩
theorem YieldsS.wpOpIn {i : Nat} {o : Oper} {v : Value} {a : Act} (hro : F.round = none) (hi : ops[i]? = some o) (hy : YieldsS P ops S o v a)
    {K : Act → World → Prop} {w : World} (hS : S w) (h : K (a.put o.dst v) w) : wpOpIn F n P ops Q i K a w := by
  unfold Go.wpOpIn
  simp only [hi]
  have hab : ∀ f, o.about P w a.eval = some f → F.fn f := fun f hf => by rw [hy.2 w] at hf; cases hf
  rcases hy.1 with ⟨hw, hv⟩ | ⟨hw, rfl⟩
  · simp only [hw, if_true, Oper.wpIn, hro, Oper.semAt_none, hv w hS, Oper.uponIn]; exact ⟨hab, h⟩
  · simp only [hw, Bool.false_eq_true, if_false]; exact ⟨hab, h⟩
/-- Whichever operation comes up: behind it S is shown anew. -/
def anyS (F : Fence) (n : Nat) (P : Program) (md : Region.Mode) (ops : Array Oper) (Q : Exit → Act → World → Prop) (S : World → Prop) : Nat → Array Bool → Act → World → Prop
  | 0, listed, a, w => Region.ready md ops listed = [] ∧ Q .normal a w
  | fuel + 1, listed, a, w => (Region.ready md ops listed = [] → Q .normal a w) ∧
    ∀ i ∈ Region.ready md ops listed, wpOpIn F n P ops Q i (fun a' w' => S w' ∧ anyS F n P md ops Q S fuel (listed.setIfInBounds i true) a' w') a w
theorem anyS.any : ∀ (fuel : Nat) (listed : Array Bool) (a : Act) (w : World), anyS F n P md ops Q S fuel listed a w → wpAnyIn F n P md ops Q fuel listed a w
  | 0, _, _, _, h => h
  | fuel + 1, listed, a, w, h => ⟨h.1, fun i hi => wpOpIn_mono (fun a' w' h' => anyS.any fuel _ a' w' h'.2) (h.2 i hi)⟩
/-- The same operation, but it moves a constant. -/
def constOp (o : Oper) (v : Value) : Oper := { o with op := .move (.const v) }
theorem constOp_apart {oi oj : Oper} {v : Value} (h : oi.apart ops oj = true) : (constOp oi v).apart ops oj = true := by
  obtain ⟨h1, h2, h3⟩ := Oper.apart_spec h
  have hl : ∀ d, d ∈ (constOp oi v).looksAt ops → d ∈ oi.looksAt ops := fun d hd => by
    simp only [Oper.looksAt, constOp, Op.operands, List.mem_append] at hd ⊢
    rcases hd with hd | hd
    · simp at hd
    · exact .inr hd
  have hd : (constOp oi v).dst = oi.dst := rfl
  unfold Oper.apart
  rw [hd]
  rw [Bool.and_eq_true]
  constructor
  · cases e : oi.dst with
    | none => rfl
    | some d =>
      have a1 := h1 d e
      have a2 := h2 d e
      simp [a1]
      exact a2
  · cases e : oj.dst with
    | none => rfl
    | some d =>
      have a3 := h3 d e
      simp
      exact fun hh => a3 (hl d hh)
theorem anyS_first {i : Nat} {oi : Oper} {v : Value} (hro : F.round = none) (hi : ops[i]? = some oi) (hsel : ∀ (j : Nat) (o : Oper) cs b, ops[j]? = some o → o.op ≠ .select cs b)
    (hQ : ∀ c a w, Q (.panic c) (a.put oi.dst v) w → Q (.panic c) a w) :
    ∀ (fuel : Nat) (listed : Array Bool) (a : Act) (w : World),
      (∀ j oj, ops[j]? = some oj → j ≠ i → listed.getD j true = false → (∀ e ∈ oj.after, Region.binds md e = true → e.on ≠ i) → oi.apart ops oj = true) →
      i ∈ Region.ready md ops listed → YieldsS P ops S oi v a → S w →
      anyS F n P md ops Q S fuel (listed.setIfInBounds i true) (a.put oi.dst v) w → anyS F n P md ops Q S (fuel + 1) listed a w := by
  intro fuel
  induction fuel with
  | zero =>
    intro listed a w _ hr hy hS H
    refine ⟨fun h => (by rw [h] at hr; cases hr), fun j hj => ?_⟩
    by_cases hji : j = i
    · subst hji; exact hy.wpOpIn hro hi hS ⟨hS, H⟩
    · have := ready_mono hj hji
      rw [H.1] at this
      cases this
  | succ fuel ih =>
    intro listed a w hfree hr hy hS H
    refine ⟨fun h => (by rw [h] at hr; cases hr), fun j hj => ?_⟩
    by_cases hji : j = i
    · subst hji; exact hy.wpOpIn hro hi hS ⟨hS, H⟩
    · have h1 := H.2 j (ready_mono hj hji)
      obtain ⟨hjun, oj, hoj, hall⟩ := mem_ready.1 hj
      have hnot : ∀ e ∈ oj.after, Region.binds md e = true → e.on ≠ i := fun e he hb heq => by
        have h1 := hall e he hb
        have h0 := (mem_ready.1 hr).1
        rw [heq] at h1
        rcases Nat.lt_or_ge i listed.size with h' | h'
        · simp [h'] at h0 h1; rw [h0] at h1; cases h1
        · simp [Array.getElem?_eq_none h'] at h1
      have hap := hfree j oj hoj hji hjun hnot
      obtain ⟨p1, p2, p3⟩ := Oper.apart_spec hap
      have hsi := fun cs b => hsel i oi cs b hi
      have hyc : YieldsFenced P ops (constOp oi v) (if Region.wanted oi (yielded ops a.tmps) = true then v else undef) a := by
        refine ⟨?_, fun w => rfl⟩
        by_cases hw : Region.wanted oi (yielded ops a.tmps) = true
        · rw [if_pos hw]
          exact .inl ⟨hw, fun w => rfl⟩
        · rw [if_neg hw]
          exact .inr ⟨eq_false_of_ne_true hw, rfl⟩
      have hv : (if Region.wanted oi (yielded ops a.tmps) = true then v else undef) = v := by
        rcases hy.1 with ⟨hw, _⟩ | ⟨hw, rfl⟩
        · rw [if_pos hw]
        · split <;> rfl
      rw [hv] at hyc
      have h2 := wpOpIn_shape hoj (wpOpIn_put hro hoj (constOp_apart hap) (by intro cs b; simp [constOp]) (fun cs b => hsel j oj cs b hoj) hQ hyc h1)
      have hfree' : ∀ k ok, ops[k]? = some ok → k ≠ i → (listed.setIfInBounds j true).getD k true = false →
          (∀ e ∈ ok.after, Region.binds md e = true → e.on ≠ i) → oi.apart ops ok = true := fun k ok hk hki hun hno => by
        refine hfree k ok hk hki ?_ hno
        by_cases hjk : j = k
        · subst hjk; exact hjun
        · rw [getD_set_ne true hjk] at hun; exact hun
      refine wpOpIn_mono (fun a' w' h3 => ?_) h2
      obtain ⟨⟨ds, u, ha'⟩, -, hS', h4⟩ := h3
      have hy' : YieldsS P ops S oi v a' := by
        rw [ha']
        exact (hy.of_same (a' := { a with defers := ds }) rfl rfl (fun _ => rfl)).of_same (execOp_put oi hsi _ oj.dst u p3) (wanted_put oi _ oj.dst u p3) (fun w => about_put oi w _ oj.dst u p3)
      refine ⟨hS', ih (listed.setIfInBounds j true) a' w' hfree' (ready_mono hr (Ne.symm hji)) hy' hS' ?_⟩
      rw [Array.setIfInBounds_comm _ _ hji]
      exact h4
/-- IS IT A CALL? -/
def isCallOp (o : Oper) : Bool := match o.op with | .call c => (match c.callee with | .value _ => true | _ => false) | _ => false
/-- In a given order: a call is alone in what may come up; whatever else may be taken first. -/
def textOk (md : Region.Mode) (ops : Array Oper) : List Nat → Array Bool → Bool
  | [], listed => (Region.ready md ops listed).isEmpty
  | i :: rest, listed => (match ops[i]? with
      | none => false
      | some o => if isCallOp o then Region.ready md ops listed == [i] else Region.free md ops listed i && (Region.ready md ops listed).contains i) &&
      textOk md ops rest (listed.setIfInBounds i true)
/-- The walk in that order. -/
def textS (F : Fence) (n : Nat) (P : Program) (ops : Array Oper) (Q : Exit → Act → World → Prop) (S : World → Prop) : List Nat → Act → World → Prop
  | [], a, w => Q .normal a w
  | i :: rest, a, w => match ops[i]? with
      | none => False
      | some o => if isCallOp o then wpOpIn F n P ops Q i (fun a' w' => S w' ∧ textS F n P ops Q S rest a' w') a w
          else ∃ v, YieldsS P ops S o v a ∧ textS F n P ops Q S rest (a.put o.dst v) w
theorem anyS_of_text (hro : F.round = none) (hsel : Region.noSelect ops = true) (hQ : ∀ c (a : Act) d v w, Q (.panic c) (a.put d v) w → Q (.panic c) a w) : ∀ (ord : List Nat) (listed : Array Bool) (a : Act) (w : World), textOk md ops ord listed = true → S w → textS F n P ops Q S ord a w →
    anyS F n P md ops Q S ord.length listed a w
  | [], listed, a, w, hok, hS, h => ⟨by simpa [textOk] using hok, h⟩
  | i :: rest, listed, a, w, hok, hS, h => by
    unfold textOk at hok
    unfold textS at h
    cases ho : ops[i]? with
    | none => rw [ho] at h; exact h.elim
    | some o =>
      rw [ho] at hok h
      simp only [Bool.and_eq_true] at hok h
      obtain ⟨h1, h2⟩ := hok
      by_cases hc : isCallOp o = true
      · rw [if_pos hc] at h1 h
        have hr : Region.ready md ops listed = [i] := by simpa using h1
        refine ⟨fun h0 => by rw [hr] at h0; simp at h0, fun j hj => ?_⟩
        rw [hr] at hj
        obtain rfl : j = i := by simpa using hj
        exact wpOpIn_mono (fun a' w' h' => ⟨h'.1, anyS_of_text hro hsel hQ rest _ a' w' h2 h'.1 h'.2⟩) h
      · rw [if_neg hc] at h1 h
        simp only [Bool.and_eq_true] at h1
        obtain ⟨v, hy, h⟩ := h
        exact anyS_first hro ho (Region.noSelect_spec hsel) (fun c a w hq => hQ c a _ _ w hq) rest.length listed a w (Region.free_spec ho h1.1) (by simpa using h1.2) hy hS (anyS_of_text hro hsel hQ rest _ _ w h2 hS h)
/-- **A REGION THAT DRAWS, WALKED IN ONE ORDER.** -/
theorem wpIn_region_text {id : Nat} {a : Act} {w : World} (S : World → Prop) (ord : List Nat) (hro : F.round = none) (hm : P.follows .mixedOrders = true) (hsel : Region.noSelect ops = true) (hlen : ord.length = ops.size) (hok : textOk .any ops ord (Array.replicate ops.size false) = true)
    (hQ : ∀ c (a : Act) d v w, Q (.panic c) (a.put d v) w → Q (.panic c) a w) (hS : S w.drew) (h : textS F n P ops Q S ord a w.drew) : (Code.region id ops true).wpIn F n P Q a w :=
  wpIn_region_any hm (anyS.any _ _ _ _ (hlen ▸ anyS_of_text hro hsel hQ ord _ _ _ hok hS h))
/-! ### The steps of such a walk -/
theorem textS_take {i : Nat} {rest : List Nat} {a : Act} {w : World} {o : Oper} (v : Value) (ho : ops[i]? = some o) (hc : isCallOp o = false) (hw : Region.wanted o (yielded ops a.tmps) = true) (hv : ∀ w, S w → (execOp a.eval o).run P w = .ok (.value v) w) {a' : Act} (hb : ∀ w, o.about P w a.eval = none) (ha : a.put o.dst v = a')
    (h : textS F n P ops Q S rest a' w) : textS F n P ops Q S (i :: rest) a w := by
  subst ha
  unfold textS
  simp only [ho]
  rw [if_neg (by rw [hc]; decide)]
  exact ⟨v, ⟨.inl ⟨hw, hv⟩, hb⟩, h⟩
theorem textS_skip {i : Nat} {rest : List Nat} {a : Act} {w : World} {o : Oper} (ho : ops[i]? = some o) (hc : isCallOp o = false) (hw : Region.wanted o (yielded ops a.tmps) = false) {a' : Act} (hb : ∀ w, o.about P w a.eval = none) (ha : a.put o.dst undef = a')
    (h : textS F n P ops Q S rest a' w) : textS F n P ops Q S (i :: rest) a w := by
  subst ha
  unfold textS
  simp only [ho]
  rw [if_neg (by rw [hc]; decide)]
  exact ⟨undef, ⟨.inr ⟨hw, rfl⟩, hb⟩, h⟩
theorem textS_call {i : Nat} {rest : List Nat} {a : Act} {w : World} {o : Oper} (ho : ops[i]? = some o) (hc : isCallOp o = true) (hw : Region.wanted o (yielded ops a.tmps) = true)
    (h : o.wpIn F n P a w (fun a' w' => S w' ∧ textS F n P ops Q S rest a' w') Q) : textS F n P ops Q S (i :: rest) a w := by
  unfold textS
  simp only [ho]
  rw [if_pos hc]
  unfold wpOpIn
  simp only [ho]
  rw [if_pos hw]
  exact h
theorem textS_callSkip {i : Nat} {rest : List Nat} {a : Act} {w : World} {o : Oper} (ho : ops[i]? = some o) (hc : isCallOp o = true) (hw : Region.wanted o (yielded ops a.tmps) = false) {a' : Act} (hF : ∀ f, F.fn f) (hS : S w) (ha : a.put o.dst undef = a')
    (h : textS F n P ops Q S rest a' w) : textS F n P ops Q S (i :: rest) a w := by
  subst ha
  unfold textS
  simp only [ho]
  rw [if_pos hc]
  unfold wpOpIn
  simp only [ho]
  rw [if_neg (by rw [hw]; decide)]
  exact ⟨fun f _ => hF f, hS, h⟩
/-- A call of a function of the program: its contract. -/
theorem wpIn_call {a : Act} {w w1 : World} {o : Oper} {K : Act → World → Prop} {f : FuncId} {args : Array Value} {R : Ending → World → Prop} (hro : F = Fence.wide) (hrun : (execOp a.eval o).run P w = .ok (.enter f args) w1) (hcall : Calls P f args w1 R)
    (hR : ∀ e w2, R e w2 → ∃ v a', e = .returned v ∧ a.put o.dst v = a' ∧ K a' w2) : o.wpIn F n P a w K Q := by
  subst hro
  refine ⟨fun _ _ => trivial, ?_⟩
  show Oper.uponIn Fence.wide n P o a K Q ((execOp a.eval o).run P w)
  rw [hrun]
  refine ⟨(fun h => by cases h), (callsIn_wide.2 hcall).mono fun e w2 he => ?_⟩
  obtain ⟨v, a', rfl, rfl, hk⟩ := hR e w2 he
  exact hk
/-- A call of yield: its round. -/
theorem wpIn_yield {a : Act} {w w1 : World} {o : Oper} {K : Act → World → Prop} {l f : Nat} {tmps : Array Value} {as bd : Code} {R : Ending → World → Prop} (hro : F = Fence.wide) (hrun : (execOp a.eval o).run P w = .ok (.round l f tmps as bd) w1) (hcall : RoundIn F (n - 1) P l f tmps as bd w1 R)
    (hR : ∀ e w2, R e w2 → ∃ v a', e = .returned v ∧ a.put o.dst v = a' ∧ K a' w2) : o.wpIn F n P a w K Q := by
  subst hro
  refine ⟨fun _ _ => trivial, ?_⟩
  show Oper.uponIn Fence.wide n P o a K Q ((execOp a.eval o).run P w)
  rw [hrun]
  refine ⟨(fun h => by cases h), hcall.mono fun e w2 he => ?_⟩
  obtain ⟨v, a', rfl, rfl, hk⟩ := hR e w2 he
  exact hk
end
end Go.Proofs.Ytmhlipncelgmlaa
