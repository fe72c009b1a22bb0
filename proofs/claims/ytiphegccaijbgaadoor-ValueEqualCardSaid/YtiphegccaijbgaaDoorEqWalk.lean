/- THE WALKS over equal and equals. -/
import Derived.Test.YtiphegccaijbgaaDoorRows
import Derived.Test.YtiphegccaijbgaaDoorHeld
import Derived.Test.YtiphegccaijbgaaDoorShelf
import Derived.Test.YtiphegccaijbgaaDoorValBase
import Derived.Test.YtiphegccaijbgaaDoorVal
import Derived.Test.YtiphegccaijbgaaDoorValCmp
import Derived.Test.YtiphegccaijbgaaDoorValOrd
import Derived.Test.YtiphegccaijbgaaDoorValWalk
import Derived.Test.YtiphegccaijbgaaDoorValSame
import Derived.Test.YtiphegccaijbgaaDoorEqAll
import Derived.Test.YtiphegccaijbgaaDoorEqPlain
import Derived.WalkKit
import Derived.Lib.Hide
import Derived.WalkSpells
import Derived.WalkLawsBesides
import Derived.Defers
import Derived.Outline
namespace Go.Proofs.YtiphegccaijbgaaDoor
open Go.RowKit
set_option linter.unusedVariables false
set_option linter.unusedSimpArgs false
namespace Val
/-- leave, as a deferred call. -/
theorem leave_door (R : Nat) (d m : Int) (u : FrameMode) (w : World) (h : Reach w R d m) (h0 : 0 ≤ d) (h2 : d ≤ 65536) : CallsD Tryd.prog 46 #[.pointer (some ⟨R, 0, none⟩)] u w fun e u' w' => u' = u ∧ (e = .returned (.tuple #[]) ∧ w' = w.setCell ⟨R, 0, none⟩ (.int .i64 (d + 1))) := by
  obtain ⟨c0, c1, f0, f1⟩ := h.cell
  go_enter_d Tryd.func46, Tryd.ntmps46
  go_wp2
  go_end0
  exact ⟨rfl, rfl⟩
theorem names_take : ∀ ka kb : List ByteArray, decide (ka.take ka.length = kb.take kb.length) = namesV ka kb
  | [], [] => rfl
  | [], _ :: _ => rfl
  | _ :: _, [] => rfl
  | x :: a, y :: b => by
    have ih := names_take a b
    rw [List.take_length, List.take_length] at ih ⊢
    unfold namesV
    rw [← ih]
    by_cases h : x = y
    · subst h
      simp
    · have : (x.toList == y.toList) = false := by
        cases hv : x.toList == y.toList
        · rfl
        · exact absurd (bytes_len hv) h
      rw [this]
      simp [h]
theorem keys_eq (pa pb : Option Addr) (ca cb B : Nat) (ka kb : List ByteArray) (w : World) (ha : VT.KeysIn w B pa ka) (hb : VT.KeysIn w B pb kb) (hla : ka.length ≤ 4194304) (hlb : kb.length ≤ 4194304) :
    Calls Tryd.prog 58 #[.slice pa ka.length ca, .slice pb kb.length cb] w fun e w' => e = .returned (.bool (namesV ka kb)) ∧ ∃ q, w' = w.drewN q := by
  by_cases hlen : ka.length = kb.length
  · by_cases h0 : ka.length = 0
    · have ea : ka = [] := List.eq_nil_of_length_eq_zero h0
      have eb : kb = [] := List.eq_nil_of_length_eq_zero (by omega)
      subst ea
      subst eb
      refine (Tryd.slices_Equal_string_empty pa pb ca 0 cb w (by omega)).mono ?_
      rintro e w' ⟨rfl, rfl⟩
      exact ⟨rfl, 0, rfl⟩
    · obtain ⟨b1, o1, rfl, -, h1⟩ := ha (by omega)
      obtain ⟨b2, o2, rfl, -, h2⟩ := hb (by omega)
      refine (Tryd.slices_Equal_string b1 o1 ka.length ca b2 o2 kb.length cb ka kb w (Nat.le_refl _) (Nat.le_refl _) (by omega) (by omega) h1 h2).mono ?_
      rintro e w' ⟨rfl, q, rfl⟩
      exact ⟨by rw [names_take], q, rfl⟩
  · refine (Tryd.slices_Equal_string_lens pa pb ka.length ca kb.length cb w hlen).mono ?_
    rintro e w' ⟨rfl, rfl⟩
    exact ⟨by rw [namesV_len hlen], 0, rfl⟩
def EqPost (R d m : Nat) (t u : VT) (w : World) (e : Ending) (w' : World) : Prop := ∃ m' : Nat, e = .returned (.int .i64 (eqV t u)) ∧ Keeps (· = R) w w' ∧ Reach w' R d m' ∧ m' ≤ m ∧ m ≤ m' + t.parts
/-- The world behind the two boxes and enter. -/
theorem eq_enter {R d m : Nat} {w : World} (ca cb : Array Value) (hR : Reach w R ((d + 1 : Nat) : Int) ((m + 1 : Nat) : Int)) :
    Reach ((((w.alloc (.cells ca 25)).alloc (.cells cb 25)).setCell ⟨R, 0, none⟩ (.int .i64 d)).setCell ⟨R, 1, none⟩ (.int .i64 m)) R d m ∧
    Keeps (· = R) w ((((w.alloc (.cells ca 25)).alloc (.cells cb 25)).setCell ⟨R, 0, none⟩ (.int .i64 d)).setCell ⟨R, 1, none⟩ (.int .i64 m)) ∧
    Box ((((w.alloc (.cells ca 25)).alloc (.cells cb 25)).setCell ⟨R, 0, none⟩ (.int .i64 d)).setCell ⟨R, 1, none⟩ (.int .i64 m)) w.heap.size ca ∧
    Box ((((w.alloc (.cells ca 25)).alloc (.cells cb 25)).setCell ⟨R, 0, none⟩ (.int .i64 d)).setCell ⟨R, 1, none⟩ (.int .i64 m)) (w.heap.size + 1) cb := by
  have hlt := hR.lt
  have h1 := (hR.alloc (.cells ca 25)).alloc (.cells cb 25)
  refine ⟨h1.set d m, ?_, ?_, ?_⟩
  · exact (((Keeps.refl (· = R) w).alloc _).alloc _).setCell (p := ⟨R, 0, none⟩) (.inl rfl) _ |>.setCell (p := ⟨R, 1, none⟩) (.inl rfl) _
  · exact (((Box.new w ca).alloc _).far (p := ⟨R, 0, none⟩) (by show w.heap.size ≠ R; omega) _).far (p := ⟨R, 1, none⟩) (by show w.heap.size ≠ R; omega) _
  · have := Box.new (w.alloc (.cells ca 25)) cb
    rw [World.size_alloc] at this
    exact (this.far (p := ⟨R, 0, none⟩) (by show w.heap.size + 1 ≠ R; omega) _).far (p := ⟨R, 1, none⟩) (by show w.heap.size + 1 ≠ R; omega) _
/-- Behind the deferred call. -/
theorem eq_left {R d m m' : Nat} {w wd : World} (hk : Keeps (· = R) w wd) (hR : Reach wd R d m') (h1 : m' ≤ m) (t u : VT) (h2 : m + 1 ≤ m' + t.parts) (x : Int) (hx : x = eqV t u) :
    EqPost R (d + 1) (m + 1) t u w (.returned (.int .i64 x)) (wd.setCell ⟨R, 0, none⟩ (.int .i64 ((d : Int) + 1))) := by
  subst hx
  exact ⟨m', rfl, hk.setCell (p := ⟨R, 0, none⟩) (.inl rfl) _, by have := hR.set0 ((d : Int) + 1); exact this, by omega, h2⟩
set_option maxRecDepth 100000 in
set_option maxHeartbeats 2000000 in
theorem equal_null (R d m : Nat) (kb : Int) (la qa lb qb : Value) (n nb : Int) (b bb : Bool) (s sb : ByteArray) (t u : VT) (w : World) (hR : Reach w R ((d + 1 : Nat) : Int) ((m + 1 : Nat) : Int)) (hd : d + 1 ≤ 65536) (hm : m + 1 ≤ 4194304) (hx : 2 = eqV t u) :
    Calls Tryd.prog 42 #[.pointer (some ⟨R, 0, none⟩), .agg #[.int .i64 0, .bool b, .int .i64 n, .string s, la, qa], .agg #[.int .i64 kb, .bool bb, .int .i64 nb, .string sb, lb, qb]] w (EqPost R (d + 1) (m + 1) t u w) := by
  obtain ⟨e1, e2, e3, e4⟩ := eq_enter (w := w) #[.int .i64 0, .bool b, .int .i64 n, .string s, la, qa] #[.int .i64 kb, .bool bb, .int .i64 nb, .string sb, lb, qb] hR
  have hE := enter_yes R _ _ _ ((hR.alloc (.cells #[.int .i64 0, .bool b, .int .i64 n, .string s, la, qa] 25)).alloc (.cells #[.int .i64 kb, .bool bb, .int .i64 nb, .string sb, lb, qb] 25)) (by omega) (by omega) (by omega) (by omega)
  rw [show (((d + 1 : Nat) : Int) - 1) = (d : Int) by omega, show (((m + 1 : Nat) : Int) - 1) = (m : Int) by omega] at hE
  obtain ⟨a0, a1, a2, a3, a4, a5⟩ := e3.cell
  obtain ⟨b0, b1, b2, b3, b4, b5⟩ := e4.cell
  have HE := Lib.hid hE
  have H1 := Lib.hid e1
  have H2 := Lib.hid e2
  have H3 := Lib.hid e3
  have H4 := Lib.hid e4
  have HX := Lib.hid hx
  clear hE e1 e2 e3 e4 hR hx
  go_enter_defers Tryd.func42, Tryd.ntmps42
  go_wp2_with fail
  refine HE.out.mono ?_
  rintro e w1 ⟨rfl, rfl⟩
  go_wp2_with fail
  refine leaves_cons (f := 46) (args := #[.pointer (some ⟨R, 0, none⟩)]) (by simp) (by simp [go_sem]) ?_
  refine (leave_door R d m .returning _ H1.out (by omega) (by omega)).mono ?_
  rintro e u' w'' ⟨rfl, rfl, rfl⟩
  have hf := eq_left H2.out H1.out (Nat.le_refl _) t u (by have := t.parts_pos; omega) _ HX.out
  refine ⟨_, results_tmp rfl _ _ _, ?_⟩
  go_simp
set_option maxRecDepth 100000 in
set_option maxHeartbeats 2000000 in
theorem equal_null2 (R d m : Nat) (ka : Int) (h0 : (ka == 0) = false) (la qa lb qb : Value) (n nb : Int) (b bb : Bool) (s sb : ByteArray) (t u : VT) (w : World) (hR : Reach w R ((d + 1 : Nat) : Int) ((m + 1 : Nat) : Int)) (hd : d + 1 ≤ 65536) (hm : m + 1 ≤ 4194304) (hx : 2 = eqV t u) :
    Calls Tryd.prog 42 #[.pointer (some ⟨R, 0, none⟩), .agg #[.int .i64 ka, .bool b, .int .i64 n, .string s, la, qa], .agg #[.int .i64 0, .bool bb, .int .i64 nb, .string sb, lb, qb]] w (EqPost R (d + 1) (m + 1) t u w) := by
  obtain ⟨e1, e2, e3, e4⟩ := eq_enter (w := w) #[.int .i64 ka, .bool b, .int .i64 n, .string s, la, qa] #[.int .i64 0, .bool bb, .int .i64 nb, .string sb, lb, qb] hR
  have hE := enter_yes R _ _ _ ((hR.alloc (.cells #[.int .i64 ka, .bool b, .int .i64 n, .string s, la, qa] 25)).alloc (.cells #[.int .i64 0, .bool bb, .int .i64 nb, .string sb, lb, qb] 25)) (by omega) (by omega) (by omega) (by omega)
  rw [show (((d + 1 : Nat) : Int) - 1) = (d : Int) by omega, show (((m + 1 : Nat) : Int) - 1) = (m : Int) by omega] at hE
  obtain ⟨a0, a1, a2, a3, a4, a5⟩ := e3.cell
  obtain ⟨b0, b1, b2, b3, b4, b5⟩ := e4.cell
  have HE := Lib.hid hE
  have H1 := Lib.hid e1
  have H2 := Lib.hid e2
  have H3 := Lib.hid e3
  have H4 := Lib.hid e4
  have HX := Lib.hid hx
  clear hE e1 e2 e3 e4 hR hx
  go_enter_defers Tryd.func42, Tryd.ntmps42
  go_wp2_with fail
  refine HE.out.mono ?_
  rintro e w1 ⟨rfl, rfl⟩
  go_wp2_with fail
  refine leaves_cons (f := 46) (args := #[.pointer (some ⟨R, 0, none⟩)]) (by simp) (by simp [go_sem]) ?_
  refine (leave_door R d m .returning _ H1.out (by omega) (by omega)).mono ?_
  rintro e u' w'' ⟨rfl, rfl, rfl⟩
  have hf := eq_left H2.out H1.out (Nat.le_refl _) t u (by have := t.parts_pos; omega) _ HX.out
  refine ⟨_, results_tmp rfl _ _ _, ?_⟩
  go_simp
set_option maxRecDepth 100000 in
set_option maxHeartbeats 2000000 in
theorem equal_kinds (R d m : Nat) (ka kb : Int) (h0 : (ka == 0) = false) (h1 : (kb == 0) = false) (h2 : (ka == kb) = false) (h3 : (ka != kb) = true) (la qa lb qb : Value) (n nb : Int) (b bb : Bool) (s sb : ByteArray) (t u : VT) (w : World) (hR : Reach w R ((d + 1 : Nat) : Int) ((m + 1 : Nat) : Int)) (hd : d + 1 ≤ 65536) (hm : m + 1 ≤ 4194304) (hx : 0 = eqV t u) :
    Calls Tryd.prog 42 #[.pointer (some ⟨R, 0, none⟩), .agg #[.int .i64 ka, .bool b, .int .i64 n, .string s, la, qa], .agg #[.int .i64 kb, .bool bb, .int .i64 nb, .string sb, lb, qb]] w (EqPost R (d + 1) (m + 1) t u w) := by
  obtain ⟨e1, e2, e3, e4⟩ := eq_enter (w := w) #[.int .i64 ka, .bool b, .int .i64 n, .string s, la, qa] #[.int .i64 kb, .bool bb, .int .i64 nb, .string sb, lb, qb] hR
  have hE := enter_yes R _ _ _ ((hR.alloc (.cells #[.int .i64 ka, .bool b, .int .i64 n, .string s, la, qa] 25)).alloc (.cells #[.int .i64 kb, .bool bb, .int .i64 nb, .string sb, lb, qb] 25)) (by omega) (by omega) (by omega) (by omega)
  rw [show (((d + 1 : Nat) : Int) - 1) = (d : Int) by omega, show (((m + 1 : Nat) : Int) - 1) = (m : Int) by omega] at hE
  obtain ⟨a0, a1, a2, a3, a4, a5⟩ := e3.cell
  obtain ⟨b0, b1, b2, b3, b4, b5⟩ := e4.cell
  have HE := Lib.hid hE
  have H1 := Lib.hid e1
  have H2 := Lib.hid e2
  have H3 := Lib.hid e3
  have H4 := Lib.hid e4
  have HX := Lib.hid hx
  clear hE e1 e2 e3 e4 hR hx
  go_enter_defers Tryd.func42, Tryd.ntmps42
  go_wp2_with fail
  refine HE.out.mono ?_
  rintro e w1 ⟨rfl, rfl⟩
  go_wp2_with fail
  refine leaves_cons (f := 46) (args := #[.pointer (some ⟨R, 0, none⟩)]) (by simp) (by simp [go_sem]) ?_
  refine (leave_door R d m .returning _ H1.out (by omega) (by omega)).mono ?_
  rintro e u' w'' ⟨rfl, rfl, rfl⟩
  have hf := eq_left H2.out H1.out (Nat.le_refl _) t u (by have := t.parts_pos; omega) _ HX.out
  refine ⟨_, results_tmp rfl _ _ _, ?_⟩
  go_simp
set_option maxRecDepth 100000 in
set_option maxHeartbeats 2000000 in
theorem equal_flat (w : World) (R d m : Nat) (ka : Int) (h0 : (ka == 0) = false) (h2 : (ka != 4) = true) (h3 : (ka != 5) = true) (h4 : (ka == 4) = false) (h5 : (ka == 5) = false) (pla pqa plb pqb : Option Addr) (cla cqa clb cqb : Nat) (hP : Places w) (hgR : 1 ≠ R) (n nb : Int) (b bb : Bool) (s sb : ByteArray) (t u : VT) (hR : Reach w R ((d + 1 : Nat) : Int) ((m + 1 : Nat) : Int)) (hd : d + 1 ≤ 65536) (hm : m + 1 ≤ 4194304) (hx : ofV (flatV ka n ka nb b bb s sb == 0) = eqV t u) :
    Calls Tryd.prog 42 #[.pointer (some ⟨R, 0, none⟩), .agg #[.int .i64 ka, .bool b, .int .i64 n, .string s, .slice pla 0 cla, .slice pqa 0 cqa], .agg #[.int .i64 ka, .bool bb, .int .i64 nb, .string sb, .slice plb 0 clb, .slice pqb 0 cqb]] w (EqPost R (d + 1) (m + 1) t u w) := by
  obtain ⟨e1, e2, e3, e4⟩ := eq_enter (w := w) #[.int .i64 ka, .bool b, .int .i64 n, .string s, .slice pla 0 cla, .slice pqa 0 cqa] #[.int .i64 ka, .bool bb, .int .i64 nb, .string sb, .slice plb 0 clb, .slice pqb 0 cqb] hR
  have hE := enter_yes R _ _ _ ((hR.alloc (.cells #[.int .i64 ka, .bool b, .int .i64 n, .string s, .slice pla 0 cla, .slice pqa 0 cqa] 25)).alloc (.cells #[.int .i64 ka, .bool bb, .int .i64 nb, .string sb, .slice plb 0 clb, .slice pqb 0 cqb] 25)) (by omega) (by omega) (by omega) (by omega)
  rw [show (((d + 1 : Nat) : Int) - 1) = (d : Int) by omega, show (((m + 1 : Nat) : Int) - 1) = (m : Int) by omega] at hE
  obtain ⟨a0, a1, a2, a3, a4, a5⟩ := e3.cell
  obtain ⟨b0, b1, b2, b3, b4, b5⟩ := e4.cell
  have HE := Lib.hid hE
  have H1 := Lib.hid e1
  have H2 := Lib.hid e2
  have H3 := Lib.hid e3
  have H4 := Lib.hid e4
  have HX := Lib.hid hx
  have hPP : Places _ := hP.keep fun i => e2.cell (p := ⟨1, i, none⟩) hP.lt (by show ¬ _ = _; exact hgR)
  have hS := same_flat ka n ka nb b bb s sb pla pqa plb pqb cla cqa clb cqb _ hPP
  obtain ⟨fb, hfb⟩ : ∃ fb, (flatV ka n ka nb b bb s sb == 0) = fb := ⟨_, rfl⟩
  rw [hfb] at hS hx
  have HS := Lib.hid hS
  replace HX := Lib.hid hx
  clear hS hfb hP hPP
  clear hE e1 e2 e3 e4 hR hx
  go_enter_defers Tryd.func42, Tryd.ntmps42
  go_wp2_with fail
  refine HE.out.mono ?_
  rintro e w1 ⟨rfl, rfl⟩
  go_wp2_with fail
  refine HS.out.mono ?_
  rintro e w2 ⟨rfl, hb⟩
  have H1b := Lib.hid (H1.out.below hb H1.out.lt)
  have H2b := Lib.hid (H2.out.trans (Keeps.of_below (X := (· = R)) hb))
  clear hb
  go_wp2_with fail
  refine (of_any _ _).mono ?_
  rintro e w3 ⟨rfl, rfl⟩
  go_wp2_with fail
  refine leaves_cons (f := 46) (args := #[.pointer (some ⟨R, 0, none⟩)]) (by simp) (by simp [go_sem]) ?_
  refine (leave_door R d m .returning _ H1b.out (by omega) (by omega)).mono ?_
  rintro e u' w'' ⟨rfl, rfl, rfl⟩
  have hf := eq_left H2b.out H1b.out (Nat.le_refl _) t u (by have := t.parts_pos; omega) _ HX.out
  refine ⟨_, results_tmp rfl _ _ _, ?_⟩
  go_simp
set_option maxRecDepth 100000 in
set_option maxHeartbeats 2000000 in
theorem equal_lenL (R d m : Nat) (pla pqa plb pqb : Option Addr) (nla cla nqa cqa nlb clb nqb cqb : Nat) (hl : ((nla : Int) != (nlb : Int)) = true) (hl2 : ((nla : Int) == (nlb : Int)) = false) (n nb : Int) (b bb : Bool) (s sb : ByteArray) (t u : VT) (w : World) (hR : Reach w R ((d + 1 : Nat) : Int) ((m + 1 : Nat) : Int)) (hd : d + 1 ≤ 65536) (hm : m + 1 ≤ 4194304) (hx : 0 = eqV t u) :
    Calls Tryd.prog 42 #[.pointer (some ⟨R, 0, none⟩), .agg #[.int .i64 4, .bool b, .int .i64 n, .string s, .slice pla nla cla, .slice pqa nqa cqa], .agg #[.int .i64 4, .bool bb, .int .i64 nb, .string sb, .slice plb nlb clb, .slice pqb nqb cqb]] w (EqPost R (d + 1) (m + 1) t u w) := by
  obtain ⟨e1, e2, e3, e4⟩ := eq_enter (w := w) #[.int .i64 4, .bool b, .int .i64 n, .string s, .slice pla nla cla, .slice pqa nqa cqa] #[.int .i64 4, .bool bb, .int .i64 nb, .string sb, .slice plb nlb clb, .slice pqb nqb cqb] hR
  have hE := enter_yes R _ _ _ ((hR.alloc (.cells #[.int .i64 4, .bool b, .int .i64 n, .string s, .slice pla nla cla, .slice pqa nqa cqa] 25)).alloc (.cells #[.int .i64 4, .bool bb, .int .i64 nb, .string sb, .slice plb nlb clb, .slice pqb nqb cqb] 25)) (by omega) (by omega) (by omega) (by omega)
  rw [show (((d + 1 : Nat) : Int) - 1) = (d : Int) by omega, show (((m + 1 : Nat) : Int) - 1) = (m : Int) by omega] at hE
  obtain ⟨a0, a1, a2, a3, a4, a5⟩ := e3.cell
  obtain ⟨b0, b1, b2, b3, b4, b5⟩ := e4.cell
  have HE := Lib.hid hE
  have H1 := Lib.hid e1
  have H2 := Lib.hid e2
  have H3 := Lib.hid e3
  have H4 := Lib.hid e4
  have HX := Lib.hid hx
  clear hE e1 e2 e3 e4 hR hx
  go_enter_defers Tryd.func42, Tryd.ntmps42
  go_wp2_with fail
  refine HE.out.mono ?_
  rintro e w1 ⟨rfl, rfl⟩
  go_wp2_with fail
  refine leaves_cons (f := 46) (args := #[.pointer (some ⟨R, 0, none⟩)]) (by simp) (by simp [go_sem]) ?_
  refine (leave_door R d m .returning _ H1.out (by omega) (by omega)).mono ?_
  rintro e u' w'' ⟨rfl, rfl, rfl⟩
  have hf := eq_left H2.out H1.out (Nat.le_refl _) t u (by have := t.parts_pos; omega) _ HX.out
  refine ⟨_, results_tmp rfl _ _ _, ?_⟩
  go_simp
set_option maxRecDepth 100000 in
set_option maxHeartbeats 2000000 in
theorem equal_keysL (w : World) (R d m : Nat) (pla pqa plb pqb : Option Addr) (nla cla nqa cqa clb nqb cqb B : Nat) (qa qb : List ByteArray) (hna : qa.length = nqa) (hnb : qb.length = nqb) (hqa : qa.length ≤ 4194304) (hqb : qb.length ≤ 4194304) (hka : VT.KeysIn w B pqa qa) (hkb : VT.KeysIn w B pqb qb) (hB : B ≤ w.heap.size) (hBR : B ≤ R) (hf : namesV qa qb = false) (n nb : Int) (b bb : Bool) (s sb : ByteArray) (t u : VT) (hR : Reach w R ((d + 1 : Nat) : Int) ((m + 1 : Nat) : Int)) (hd : d + 1 ≤ 65536) (hm : m + 1 ≤ 4194304) (hx : 0 = eqV t u) :
    Calls Tryd.prog 42 #[.pointer (some ⟨R, 0, none⟩), .agg #[.int .i64 4, .bool b, .int .i64 n, .string s, .slice pla nla cla, .slice pqa nqa cqa], .agg #[.int .i64 4, .bool bb, .int .i64 nb, .string sb, .slice plb nla clb, .slice pqb nqb cqb]] w (EqPost R (d + 1) (m + 1) t u w) := by
  obtain ⟨e1, e2, e3, e4⟩ := eq_enter (w := w) #[.int .i64 4, .bool b, .int .i64 n, .string s, .slice pla nla cla, .slice pqa nqa cqa] #[.int .i64 4, .bool bb, .int .i64 nb, .string sb, .slice plb nla clb, .slice pqb nqb cqb] hR
  have hE := enter_yes R _ _ _ ((hR.alloc (.cells #[.int .i64 4, .bool b, .int .i64 n, .string s, .slice pla nla cla, .slice pqa nqa cqa] 25)).alloc (.cells #[.int .i64 4, .bool bb, .int .i64 nb, .string sb, .slice plb nla clb, .slice pqb nqb cqb] 25)) (by omega) (by omega) (by omega) (by omega)
  rw [show (((d + 1 : Nat) : Int) - 1) = (d : Int) by omega, show (((m + 1 : Nat) : Int) - 1) = (m : Int) by omega] at hE
  obtain ⟨a0, a1, a2, a3, a4, a5⟩ := e3.cell
  obtain ⟨b0, b1, b2, b3, b4, b5⟩ := e4.cell
  have HE := Lib.hid hE
  have H1 := Lib.hid e1
  have H2 := Lib.hid e2
  have H3 := Lib.hid e3
  have H4 := Lib.hid e4
  have HX := Lib.hid hx
  have hQ := keys_eq pqa pqb cqa cqb B qa qb _ (hka.keep fun q hq => e2.cell (p := q) (Nat.lt_of_lt_of_le hq hB) (by show ¬ _ = _; omega)) (hkb.keep fun q hq => e2.cell (p := q) (Nat.lt_of_lt_of_le hq hB) (by show ¬ _ = _; omega)) hqa hqb
  rw [hf, hna, hnb] at hQ
  have HQ := Lib.hid hQ
  clear hQ hka hkb hf hqa hqb hB hBR hna hnb
  clear hE e1 e2 e3 e4 hR hx
  go_enter_defers Tryd.func42, Tryd.ntmps42
  go_wp2_with fail
  refine HE.out.mono ?_
  rintro e w1 ⟨rfl, rfl⟩
  go_wp2_with fail
  refine HQ.out.mono ?_
  rintro e w2 ⟨rfl, q, rfl⟩
  go_wp2_with fail
  refine leaves_cons (f := 46) (args := #[.pointer (some ⟨R, 0, none⟩)]) (by simp) (by simp [go_sem]) ?_
  refine (leave_door R d m .returning _ (H1.out.drewN q) (by omega) (by omega)).mono ?_
  rintro e u' w'' ⟨rfl, rfl, rfl⟩
  have hf := eq_left (H2.out.drewN q) (H1.out.drewN q) (Nat.le_refl _) t u (by have := t.parts_pos; omega) _ HX.out
  refine ⟨_, results_tmp rfl _ _ _, ?_⟩
  go_simp
set_option maxRecDepth 100000 in
set_option maxHeartbeats 2000000 in
theorem equal_lenM (R d m : Nat) (pla pqa plb pqb : Option Addr) (nla cla nqa cqa nlb clb nqb cqb : Nat) (hl : ((nla : Int) != (nlb : Int)) = true) (hl2 : ((nla : Int) == (nlb : Int)) = false) (n nb : Int) (b bb : Bool) (s sb : ByteArray) (t u : VT) (w : World) (hR : Reach w R ((d + 1 : Nat) : Int) ((m + 1 : Nat) : Int)) (hd : d + 1 ≤ 65536) (hm : m + 1 ≤ 4194304) (hx : 0 = eqV t u) :
    Calls Tryd.prog 42 #[.pointer (some ⟨R, 0, none⟩), .agg #[.int .i64 5, .bool b, .int .i64 n, .string s, .slice pla nla cla, .slice pqa nqa cqa], .agg #[.int .i64 5, .bool bb, .int .i64 nb, .string sb, .slice plb nlb clb, .slice pqb nqb cqb]] w (EqPost R (d + 1) (m + 1) t u w) := by
  obtain ⟨e1, e2, e3, e4⟩ := eq_enter (w := w) #[.int .i64 5, .bool b, .int .i64 n, .string s, .slice pla nla cla, .slice pqa nqa cqa] #[.int .i64 5, .bool bb, .int .i64 nb, .string sb, .slice plb nlb clb, .slice pqb nqb cqb] hR
  have hE := enter_yes R _ _ _ ((hR.alloc (.cells #[.int .i64 5, .bool b, .int .i64 n, .string s, .slice pla nla cla, .slice pqa nqa cqa] 25)).alloc (.cells #[.int .i64 5, .bool bb, .int .i64 nb, .string sb, .slice plb nlb clb, .slice pqb nqb cqb] 25)) (by omega) (by omega) (by omega) (by omega)
  rw [show (((d + 1 : Nat) : Int) - 1) = (d : Int) by omega, show (((m + 1 : Nat) : Int) - 1) = (m : Int) by omega] at hE
  obtain ⟨a0, a1, a2, a3, a4, a5⟩ := e3.cell
  obtain ⟨b0, b1, b2, b3, b4, b5⟩ := e4.cell
  have HE := Lib.hid hE
  have H1 := Lib.hid e1
  have H2 := Lib.hid e2
  have H3 := Lib.hid e3
  have H4 := Lib.hid e4
  have HX := Lib.hid hx
  clear hE e1 e2 e3 e4 hR hx
  go_enter_defers Tryd.func42, Tryd.ntmps42
  go_wp2_with fail
  refine HE.out.mono ?_
  rintro e w1 ⟨rfl, rfl⟩
  go_wp2_with fail
  refine leaves_cons (f := 46) (args := #[.pointer (some ⟨R, 0, none⟩)]) (by simp) (by simp [go_sem]) ?_
  refine (leave_door R d m .returning _ H1.out (by omega) (by omega)).mono ?_
  rintro e u' w'' ⟨rfl, rfl, rfl⟩
  have hf := eq_left H2.out H1.out (Nat.le_refl _) t u (by have := t.parts_pos; omega) _ HX.out
  refine ⟨_, results_tmp rfl _ _ _, ?_⟩
  go_simp
set_option maxRecDepth 100000 in
set_option maxHeartbeats 2000000 in
theorem equal_keysM (w : World) (R d m : Nat) (pla pqa plb pqb : Option Addr) (nla cla nqa cqa clb nqb cqb B : Nat) (qa qb : List ByteArray) (hna : qa.length = nqa) (hnb : qb.length = nqb) (hqa : qa.length ≤ 4194304) (hqb : qb.length ≤ 4194304) (hka : VT.KeysIn w B pqa qa) (hkb : VT.KeysIn w B pqb qb) (hB : B ≤ w.heap.size) (hBR : B ≤ R) (hf : namesV qa qb = false) (n nb : Int) (b bb : Bool) (s sb : ByteArray) (t u : VT) (hR : Reach w R ((d + 1 : Nat) : Int) ((m + 1 : Nat) : Int)) (hd : d + 1 ≤ 65536) (hm : m + 1 ≤ 4194304) (hx : 0 = eqV t u) :
    Calls Tryd.prog 42 #[.pointer (some ⟨R, 0, none⟩), .agg #[.int .i64 5, .bool b, .int .i64 n, .string s, .slice pla nla cla, .slice pqa nqa cqa], .agg #[.int .i64 5, .bool bb, .int .i64 nb, .string sb, .slice plb nla clb, .slice pqb nqb cqb]] w (EqPost R (d + 1) (m + 1) t u w) := by
  obtain ⟨e1, e2, e3, e4⟩ := eq_enter (w := w) #[.int .i64 5, .bool b, .int .i64 n, .string s, .slice pla nla cla, .slice pqa nqa cqa] #[.int .i64 5, .bool bb, .int .i64 nb, .string sb, .slice plb nla clb, .slice pqb nqb cqb] hR
  have hE := enter_yes R _ _ _ ((hR.alloc (.cells #[.int .i64 5, .bool b, .int .i64 n, .string s, .slice pla nla cla, .slice pqa nqa cqa] 25)).alloc (.cells #[.int .i64 5, .bool bb, .int .i64 nb, .string sb, .slice plb nla clb, .slice pqb nqb cqb] 25)) (by omega) (by omega) (by omega) (by omega)
  rw [show (((d + 1 : Nat) : Int) - 1) = (d : Int) by omega, show (((m + 1 : Nat) : Int) - 1) = (m : Int) by omega] at hE
  obtain ⟨a0, a1, a2, a3, a4, a5⟩ := e3.cell
  obtain ⟨b0, b1, b2, b3, b4, b5⟩ := e4.cell
  have HE := Lib.hid hE
  have H1 := Lib.hid e1
  have H2 := Lib.hid e2
  have H3 := Lib.hid e3
  have H4 := Lib.hid e4
  have HX := Lib.hid hx
  have hQ := keys_eq pqa pqb cqa cqb B qa qb _ (hka.keep fun q hq => e2.cell (p := q) (Nat.lt_of_lt_of_le hq hB) (by show ¬ _ = _; omega)) (hkb.keep fun q hq => e2.cell (p := q) (Nat.lt_of_lt_of_le hq hB) (by show ¬ _ = _; omega)) hqa hqb
  rw [hf, hna, hnb] at hQ
  have HQ := Lib.hid hQ
  clear hQ hka hkb hf hqa hqb hB hBR hna hnb
  clear hE e1 e2 e3 e4 hR hx
  go_enter_defers Tryd.func42, Tryd.ntmps42
  go_wp2_with fail
  refine HE.out.mono ?_
  rintro e w1 ⟨rfl, rfl⟩
  go_wp2_with fail
  refine HQ.out.mono ?_
  rintro e w2 ⟨rfl, q, rfl⟩
  go_wp2_with fail
  refine leaves_cons (f := 46) (args := #[.pointer (some ⟨R, 0, none⟩)]) (by simp) (by simp [go_sem]) ?_
  refine (leave_door R d m .returning _ (H1.out.drewN q) (by omega) (by omega)).mono ?_
  rintro e u' w'' ⟨rfl, rfl, rfl⟩
  have hf := eq_left (H2.out.drewN q) (H1.out.drewN q) (Nat.le_refl _) t u (by have := t.parts_pos; omega) _ HX.out
  refine ⟨_, results_tmp rfl _ _ _, ?_⟩
  go_simp
end Val
end Go.Proofs.YtiphegccaijbgaaDoor
