/- Frame: pieces; the same loads. -/
import Derived.Test.YtbejacmbbkdbnaaFrTold
namespace Go.Proofs.Ytbejacmbbkdbnaa
open Go.RowKit
set_option linter.unusedVariables false
set_option linter.unusedSimpArgs false
namespace Fr
set_option maxRecDepth 100000 in
/-- How long the next piece is. -/
theorem piece_any (p : Option Addr) (c at_ left : Nat) (zs : List Int) (B : Nat) (w : World) (h : IntsIn B w p zs) (hz : zs.length ≤ 1048576) (ha : at_ ≤ 1099511627776) (hl : 1 ≤ left) (hl2 : left ≤ 1099511627776) :
    Calls Try.prog 17 #[.slice p zs.length c, .int .i64 (at_ : Int), .int .i64 (left : Int)] w fun e w' => ∃ r : Nat, e = .returned (.int .i64 (r : Int)) ∧ 1 ≤ r ∧ r ≤ left ∧ w' = w := by
  obtain ⟨n, hn⟩ : ∃ n, zs.length = n := ⟨_, rfl⟩
  rw [hn] at hz ⊢
  have hai : (at_ : Int) ≤ 1099511627776 := by omega
  have hli : (left : Int) ≤ 1099511627776 := by omega
  by_cases hlt : at_ < n
  · obtain ⟨z, hz'⟩ : ∃ z, zs[at_]? = some z := ⟨_, List.getElem?_eq_getElem (by rw [hn]; exact hlt)⟩
    obtain ⟨a, rfl, -, hc, h1, h2⟩ := h at_ z hz'
    have hw : ∃ y : Nat, wrap64 (1 + wrap64 ((IntKind.u64.wrap z).tmod 11)) = ((y + 1 : Nat) : Int) := by
      have hu : 0 ≤ IntKind.u64.wrap z := by rw [IntKind.wrap_u64]; omega
      have t1 := Int.tmod_nonneg 11 hu
      have t2 := Int.tmod_lt_of_pos (IntKind.u64.wrap z) (show (0 : Int) < 11 by decide)
      generalize (IntKind.u64.wrap z).tmod 11 = t at *
      refine ⟨t.toNat, ?_⟩
      unfold wrap64
      omega
    obtain ⟨y, hy⟩ := hw
    have hlti : (at_ : Int) < (n : Int) := by omega
    clear h hn hz'
    go_enter Try.func17, Try.ntmps17
    go_wp2
    · go_ret
      exact ⟨left, rfl, hl, Nat.le_refl _, rfl⟩
    · go_ret
      refine ⟨y + 1, ?_, by omega, by omega, rfl⟩
      show Ending.returned (Value.int .i64 ((y : Int) + 1)) = _
      simp
  · have hlti : ¬ (at_ : Int) < (n : Int) := by omega
    clear h hn
    go_enter Try.func17, Try.ntmps17
    go_wp2
    go_ret
    exact ⟨left, rfl, hl, Nat.le_refl _, rfl⟩
/-- A row of loads that is read. -/
def RdRow (w : World) (q : Option Addr) (LS : List Ar) : Prop := ∀ i e, LS[i]? = some e → ∃ a, q = some a ∧ w.cell? (a.add i) = some (hdr e) ∧ Src w (fun _ => False) e.1 e.2.2
def arL (e : Ld) : Ar := (some ⟨e.1, 4, none⟩, e.2.1, e.2.2)
theorem RowL.rd {b n c : Nat} {M N : Nat → Prop} {w : World} {q : Option Addr} {L : List Ld} (h : RowL b M N w (.slice q n c) L) : RdRow w q (L.map arL) := fun i e he => by
  rw [List.getElem?_map] at he
  obtain ⟨x, hx, rfl⟩ := Option.map_eq_some_iff.1 he
  have hi := (List.getElem?_eq_some_iff.1 hx).1
  rcases h.own.2 with ⟨hn, hn0⟩ | ⟨g, cap, cur, hn, -⟩
  · omega
  · injection hn with e1 e2 e3
    subst e1
    have h1 := World.ownsRow.cells h.own (g := g) rfl i (headV x) (by unfold heads; rw [List.getElem?_map, hx]; rfl)
    exact ⟨⟨g, 0, none⟩, rfl, h1, (h.each x (List.mem_of_getElem? hx)).2.2.2.src _ (fun f => f)⟩
theorem Src.drewN {w : World} {X : Nat → Prop} {p : Option Addr} {bs : List UInt8} (h : Src w X p bs) (k : Nat) : Src (w.drewN k) X p bs := h
theorem RdRow.drewN {w : World} {q : Option Addr} {LS : List Ar} (h : RdRow w q LS) (k : Nat) : RdRow (w.drewN k) q LS := h
theorem RowsIn.rd {B : Nat} {w : World} {p : Option Addr} {LS : List Ar} (h : RowsIn B w p LS) : RdRow w p LS := fun i e he => by
  obtain ⟨a, h1, h2, h3, h4⟩ := h i e he
  exact ⟨a, h1, h3, h4.src.keeps (Keeps.refl (fun _ => False) w) (fun _ f _ => f.elim) (fun _ f _ => f.elim)⟩
set_option maxHeartbeats 1000000 in
set_option maxRecDepth 100000 in
/-- Two rows with the same loads are the same: it only reads. -/
theorem same_quiet (q1 q2 : Option Addr) (n c1 c2 : Nat) (LS MS : List Ar) (w : World) (h1 : RdRow w q1 LS) (h2 : RdRow w q2 MS) (hn1 : LS.length = n) (hn2 : MS.length = n) (hq : LS.map (·.2.2) = MS.map (·.2.2)) (hnz : n ≤ 1099511627776) :
    Calls Try.prog 14 #[.slice q1 n c1, .slice q2 n c2] w fun e w' => e = .returned (.bool true) ∧ ∃ m, w' = w.drewN m := by
  have H1 := Lib.hid h1
  have H2 := Lib.hid h2
  have HN1 := Lib.hid hn1
  have HN2 := Lib.hid hn2
  have HQ := Lib.hid hq
  have hni : (n : Int) ≤ 1099511627776 := by omega
  clear h1 h2 hn1 hn2 hq hnz
  go_enter Try.func14, Try.ntmps14
  go_wp2
  go_loopw [5] (fun i wr => ∃ j d : Nat, i = .int .i64 (j : Int) ∧ j ≤ n ∧ wr = w.drewN d) (fun i _ => n - (intOf i).toNat)
  case atStart => exact ⟨0, 0, rfl, by omega, rfl⟩
  case round =>
    obtain ⟨j, d, rfl, hj, rfl⟩ := hrel
    by_cases hlt : j < n
    · have hji : (j : Int) < (n : Int) := by omega
      obtain ⟨e, he⟩ : ∃ e, LS[j]? = some e := ⟨_, List.getElem?_eq_getElem (by rw [HN1.out]; exact hlt)⟩
      obtain ⟨f, hf⟩ : ∃ e, MS[j]? = some e := ⟨_, List.getElem?_eq_getElem (by rw [HN2.out]; exact hlt)⟩
      obtain ⟨a1, ha1, k1, s1⟩ := H1.out j e he
      obtain ⟨a2, ha2, k2, s2⟩ := H2.out j f hf
      have hef : e.2.2 = f.2.2 := by
        have h7 := congrArg (fun l => l[j]?) HQ.out
        simp only [List.getElem?_map, he, hf, Option.map_some, Option.some.injEq] at h7
        exact h7
      subst ha1 ha2
      obtain ⟨p1, m1, b1⟩ := e
      obtain ⟨p2, m2, b2⟩ := f
      simp only at hef
      subst hef
      have hc1 : ∀ k, (convert 22 9 (.slice p1 b1.length m1)).run Try.prog (w.drewN k) = .ok (.string ⟨b1.toArray⟩) (w.drewN k) := fun k => conv_src (Src.drewN s1 k) rfl
      have hd1 : ∀ k, (convert 22 9 (.slice p1 b1.length m1)).run Try.prog ((w.drewN d).drewN k) = .ok (.string ⟨b1.toArray⟩) ((w.drewN d).drewN k) := fun k => conv_src (Src.drewN (Src.drewN s1 d) k) rfl
      have hc2 : ∀ k, (convert 22 9 (.slice p2 b1.length m2)).run Try.prog (w.drewN k) = .ok (.string ⟨b1.toArray⟩) (w.drewN k) := fun k => conv_src (Src.drewN s2 k) rfl
      have hd2 : ∀ k, (convert 22 9 (.slice p2 b1.length m2)).run Try.prog ((w.drewN d).drewN k) = .ok (.string ⟨b1.toArray⟩) ((w.drewN d).drewN k) := fun k => conv_src (Src.drewN (Src.drewN s2 d) k) rfl
      unfold hdr at k1 k2
      simp only at k1 k2
      obtain ⟨T, hT⟩ : ∃ T : ByteArray, (⟨b1.toArray⟩ : ByteArray) = T := ⟨_, rfl⟩
      obtain ⟨nb, hnb⟩ : ∃ n, b1.length = n := ⟨_, rfl⟩
      rw [hT, hnb] at hc1 hc2 hd1 hd2
      rw [hnb] at k1 k2
      clear hT hnb s1 s2 he hf
      go_upto_region 6 with fail
      go_quiet (fail)
      go_wp2
      refine ⟨⟨j + 1, _, by go_num, by omega, rfl⟩, by simp [intOf]; omega⟩
    · have hji : ¬ (j : Int) < (n : Int) := by omega
      go_wp2
      go_ret
      exact ⟨rfl, d, rfl⟩
theorem same_any (q1 q2 : Option Addr) (n c1 c2 : Nat) (LS MS : List Ar) (w : World) (h1 : RdRow w q1 LS) (h2 : RdRow w q2 MS) (hn1 : LS.length = n) (hn2 : MS.length = n) (hq : LS.map (·.2.2) = MS.map (·.2.2)) (hnz : n ≤ 1099511627776) :
    Calls Try.prog 14 #[.slice q1 n c1, .slice q2 n c2] w fun e w' => e = .returned (.bool true) ∧ Below w.heap.size w w' :=
  (same_quiet q1 q2 n c1 c2 LS MS w h1 h2 hn1 hn2 hq hnz).mono fun e w' ⟨he, d, hd⟩ => ⟨he, by rw [hd]; exact below_drewN (Below.refl _ _) _⟩
end Fr
end Go.Proofs.Ytbejacmbbkdbnaa
