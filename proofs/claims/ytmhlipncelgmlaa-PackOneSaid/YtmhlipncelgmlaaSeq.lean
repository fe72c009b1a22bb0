/- A region that draws its order, whose calls, appends, new slices and stores follow one another: one walk in a given order. Of no program. -/
import Derived.Test.YtmhlipncelgmlaaHeld
import Derived.Deep.AppendLies
import Derived.Lib.AppendStr
import Derived.Deep.RegionHeld3
namespace Go.Proofs.Ytmhlipncelgmlaa
open Go.RowKit
set_option linter.unusedVariables false
section
variable {F : Fence} {n : Nat} {P : Program} {ops : Array Oper} {Q : Exit → Act → World → Prop} {md : Region.Mode} {S : World → Prop}
/-- Does it call, or make or change memory? -/
def isSeqOp (o : Oper) : Bool := match o.op with
  | .call c => (match c.callee with | .value _ => true | .builtin .append => true | _ => false)
  | .buildSlice .. => true
  | .alloc .. => true
  | .store .. => true
  | _ => false
def seqOk (md : Region.Mode) (ops : Array Oper) : List Nat → Array Bool → Bool
  | [], listed => (Region.ready md ops listed).isEmpty
  | i :: rest, listed => (match ops[i]? with
      | none => false
      | some o => if isSeqOp o then Region.ready md ops listed == [i] else Region.free md ops listed i && (Region.ready md ops listed).contains i) &&
      seqOk md ops rest (listed.setIfInBounds i true)
def seqS (F : Fence) (n : Nat) (P : Program) (ops : Array Oper) (Q : Exit → Act → World → Prop) (S : World → Prop) : List Nat → Act → World → Prop
  | [], a, w => Q .normal a w
  | i :: rest, a, w => match ops[i]? with
      | none => False
      | some o => if isSeqOp o then wpOpIn F n P ops Q i (fun a' w' => S w' ∧ seqS F n P ops Q S rest a' w') a w
          else ∃ v, YieldsS P ops S o v a ∧ seqS F n P ops Q S rest (a.put o.dst v) w
theorem anyS_of_seq (hro : F.round = none) (hsel : Region.noSelect ops = true) (hQ : ∀ c (a : Act) d v w, Q (.panic c) (a.put d v) w → Q (.panic c) a w) : ∀ (ord : List Nat) (listed : Array Bool) (a : Act) (w : World), seqOk md ops ord listed = true → S w → seqS F n P ops Q S ord a w →
    anyS F n P md ops Q S ord.length listed a w
  | [], listed, a, w, hok, hS, h => ⟨by simpa [seqOk] using hok, h⟩
  | i :: rest, listed, a, w, hok, hS, h => by
    unfold seqOk at hok
    unfold seqS at h
    cases ho : ops[i]? with
    | none => rw [ho] at h; exact h.elim
    | some o =>
      rw [ho] at hok h
      simp only [Bool.and_eq_true] at hok h
      obtain ⟨h1, h2⟩ := hok
      by_cases hc : isSeqOp o = true
      · rw [if_pos hc] at h1 h
        have hr : Region.ready md ops listed = [i] := by simpa using h1
        refine ⟨fun h0 => by rw [hr] at h0; simp at h0, fun j hj => ?_⟩
        rw [hr] at hj
        obtain rfl : j = i := by simpa using hj
        exact wpOpIn_mono (fun a' w' h' => ⟨h'.1, anyS_of_seq hro hsel hQ rest _ a' w' h2 h'.1 h'.2⟩) h
      · rw [if_neg hc] at h1 h
        simp only [Bool.and_eq_true] at h1
        obtain ⟨v, hy, h⟩ := h
        exact anyS_first hro ho (Region.noSelect_spec hsel) (fun c a w hq => hQ c a _ _ w hq) rest.length listed a w (Region.free_spec ho h1.1) (by simpa using h1.2) hy hS (anyS_of_seq hro hsel hQ rest _ _ w h2 hS h)
/-- **A REGION THAT DRAWS, WALKED IN ONE ORDER.** -/
theorem wp_region_seq {id : Nat} {a : Act} {w : World} (S : World → Prop) (ord : List Nat) (hm : P.follows .mixedOrders = true) (hsel : Region.noSelect ops = true) (hlen : ord.length = ops.size) (hok : seqOk .any ops ord (Array.replicate ops.size false) = true)
    (hS : S w.drew) (h : seqS Fence.wide 5 P ops (NoPanic Q) S ord a w.drew) : (Code.region id ops true).wp P Q a w := by
  refine wp_region_noPanic ?_
  refine (wpIn_wide (n := 5)).1 ?_
  exact wpIn_region_any hm (anyS.any _ _ _ _ (hlen ▸ anyS_of_seq rfl hsel (fun _ _ _ _ _ h => h) ord _ _ _ hok hS h))
/-! ### The steps of such a walk -/
theorem seqS_take {i : Nat} {rest : List Nat} {a : Act} {w : World} {o : Oper} (v : Value) (ho : ops[i]? = some o) (hc : isSeqOp o = false) (hw : Region.wanted o (yielded ops a.tmps) = true) (hv : ∀ w, S w → (execOp a.eval o).run P w = .ok (.value v) w) {a' : Act} (hb : ∀ w, o.about P w a.eval = none) (ha : a.put o.dst v = a')
    (h : seqS F n P ops Q S rest a' w) : seqS F n P ops Q S (i :: rest) a w := by
  subst ha
  unfold seqS
  simp only [ho]
  rw [if_neg (by rw [hc]; decide)]
  exact ⟨v, ⟨.inl ⟨hw, hv⟩, hb⟩, h⟩
theorem seqS_skip {i : Nat} {rest : List Nat} {a : Act} {w : World} {o : Oper} (ho : ops[i]? = some o) (hc : isSeqOp o = false) (hw : Region.wanted o (yielded ops a.tmps) = false) {a' : Act} (hb : ∀ w, o.about P w a.eval = none) (ha : a.put o.dst undef = a')
    (h : seqS F n P ops Q S rest a' w) : seqS F n P ops Q S (i :: rest) a w := by
  subst ha
  unfold seqS
  simp only [ho]
  rw [if_neg (by rw [hc]; decide)]
  exact ⟨undef, ⟨.inr ⟨hw, rfl⟩, hb⟩, h⟩
theorem seqS_call {i : Nat} {rest : List Nat} {a : Act} {w w1 : World} {o : Oper} {f : FuncId} {args : Array Value} {R : Ending → World → Prop} (hro : F = Fence.wide) (ho : ops[i]? = some o) (hc : isSeqOp o = true) (hw : Region.wanted o (yielded ops a.tmps) = true)
    (hrun : (execOp a.eval o).run P w = .ok (.enter f args) w1) (hcall : Calls P f args w1 R)
    (hR : ∀ e w2, R e w2 → ∃ v a', e = .returned v ∧ a.put o.dst v = a' ∧ S w2 ∧ seqS F n P ops Q S rest a' w2) : seqS F n P ops Q S (i :: rest) a w := by
  unfold seqS
  simp only [ho]
  rw [if_pos hc]
  unfold wpOpIn
  simp only [ho]
  rw [if_pos hw]
  exact wpIn_call hro hrun hcall hR
theorem seqS_skip2 {i : Nat} {rest : List Nat} {a : Act} {w : World} {o : Oper} (ho : ops[i]? = some o) (hc : isSeqOp o = true) (hw : Region.wanted o (yielded ops a.tmps) = false) {a' : Act} (hF : ∀ f, F.fn f) (hS : S w) (ha : a.put o.dst undef = a')
    (h : seqS F n P ops Q S rest a' w) : seqS F n P ops Q S (i :: rest) a w := by
  subst ha
  unfold seqS
  simp only [ho]
  rw [if_pos hc]
  unfold wpOpIn
  simp only [ho]
  rw [if_neg (by rw [hw]; decide)]
  exact ⟨fun f _ => hF f, hS, h⟩
/-- An operation that makes or changes memory. -/
theorem seqS_do {i : Nat} {rest : List Nat} {a : Act} {w w1 : World} {o : Oper} (v : Value) (hro : F = Fence.wide) (ho : ops[i]? = some o) (hc : isSeqOp o = true) (hw : Region.wanted o (yielded ops a.tmps) = true)
    (hrun : (execOp a.eval o).run P w = .ok (.value v) w1) {a' : Act} (ha : a.put o.dst v = a') (hS : S w1) (h : seqS F n P ops Q S rest a' w1) : seqS F n P ops Q S (i :: rest) a w := by
  subst hro
  subst ha
  unfold seqS
  simp only [ho]
  rw [if_pos hc]
  unfold wpOpIn
  simp only [ho]
  rw [if_pos hw]
  refine ⟨fun _ _ => trivial, ?_⟩
  show Oper.uponIn Fence.wide n P o a _ Q ((execOp a.eval o).run P w)
  rw [hrun]
  exact ⟨hS, h⟩
/-- Append of a slice that lies in known cells. -/
theorem seqS_append {i : Nat} {rest : List Nat} {a : Act} {w : World} {o : Oper} (hro : F = Fence.wide) (ho' : ops[i]? = some o) (hgd : o.guard = none) (s x : Operand) (t : TypeId)
    (ho : o.op = .call { callee := .builtin .append, args := #[s, x], argTypes := #[t, t] })
    (base : Nat) (e : TypeId) (i0 : TypeInfo) (z : Value) (size bytes : Nat) (ht : P.underlying t = some (.slice e)) (hi : P.info? e = some i0) (hz : i0.zero = some z)
    (hsize : i0.size = size) (hby : i0.bytes = bytes) (hzs : z.cells.size = size) (hsz : 0 < size)
    (v : Value) (k : Nat) (xs : List Value) (hs : a.eval s = v) (hown : w.ownsRow base e size v k xs)
    (ad : Addr) (m c : Nat) (news : List Value) (hx : a.eval x = .slice (some ad) m c) (hl : news.length = m * size) (hnews : ∀ j u, news[j]? = some u → w.cell? (ad.add j) = some u) (h1 : ∀ u ∈ news, u.oneCell' = true)
    (hm : 0 < m) (h63 : k + m ≤ maxLen) (hbytes : (k + m) * bytes ≤ 140737488355328) (hbase : base ≤ w.heap.size)
    (h : ∀ g cap w', w'.ownsRow base e size (.slice (some ⟨g, 0, none⟩) (k + m) cap) (k + m) (xs ++ news) → w.grownBy w' v.ownBlock → ∃ a', a.put o.dst (.slice (some ⟨g, 0, none⟩) (k + m) cap) = a' ∧ S w' ∧ seqS F n P ops Q S rest a' w') : seqS F n P ops Q S (i :: rest) a w := by
  obtain ⟨g, cap, w', hr, h2, h3, h4, h5⟩ := run_append_lies (P := P) w t o.type base e i0 z size bytes ht hi hz hsize hby hzs hsz v k xs hown ad m c news hl hnews h1 hm h63 hbytes hbase w.heap.size rfl
  obtain ⟨a', ha, hS', hk⟩ := h g cap w' h2 h3
  have hc : isSeqOp o = true := by unfold isSeqOp; rw [ho]
  have hw : Region.wanted o (yielded ops a.tmps) = true := by simp [Region.wanted, hgd]
  refine seqS_do _ hro ho' hc hw ?_ ha hS' hk
  unfold execOp
  simp only [ho, resolve, invoke, builtin, Sem.run_bind, Sem.run_pure, Result.andThen_ok, List.map_toArray, List.map_cons, List.map_nil, hs, hx, hr]
/-- Append of a text. -/
theorem seqS_appendString {i : Nat} {rest : List Nat} {a : Act} {w : World} {o : Oper} (hro : F = Fence.wide) (ho' : ops[i]? = some o) (hgd : o.guard = none) (sl x : Operand) (t u : TypeId)
    (ho : o.op = .call { callee := .builtin .append, args := #[sl, x], argTypes := #[t, u] })
    (base : Nat) (e : TypeId) (i0 : TypeInfo) (ht : P.underlying t = some (.slice e)) (hu : P.underlying u = some .string) (hi : P.info? e = some i0) (hz : i0.zero = some (.int .u8 0))
    (hsize : i0.size = 1) (hby : i0.bytes = 1)
    (v : Value) (k : Nat) (xs : List Value) (hs : a.eval sl = v) (hown : w.ownsRow base e 1 v k xs) (s : ByteArray) (hx : a.eval x = .string s)
    (h63 : k + s.size ≤ maxLen) (hbytes : k + s.size ≤ 140737488355328) (hbase : base ≤ w.heap.size)
    (h : ∀ v' w', w'.ownsRow base e 1 v' (k + s.size) (xs ++ Lib.strCells s) → w.grownBy w' v.ownBlock → ∃ a', a.put o.dst v' = a' ∧ S w' ∧ seqS F n P ops Q S rest a' w') : seqS F n P ops Q S (i :: rest) a w := by
  obtain ⟨v', w', hr, h2, h3, h4⟩ := Lib.run_append_own_string (P := P) w base t u o.type e i0 ht hu hi hz hsize hby v k xs hown s h63 hbytes hbase
  obtain ⟨a', ha, hS', hk⟩ := h v' w' h2 h3
  have hc : isSeqOp o = true := by unfold isSeqOp; rw [ho]
  have hw : Region.wanted o (yielded ops a.tmps) = true := by simp [Region.wanted, hgd]
  refine seqS_do _ hro ho' hc hw ?_ ha hS' hk
  unfold execOp
  simp only [ho, resolve, invoke, builtin, Sem.run_bind, Sem.run_pure, Result.andThen_ok, List.map_toArray, List.map_cons, List.map_nil, hs, hx, hr]
end
end Go.Proofs.Ytmhlipncelgmlaa
