/- Keys: the call's own row of bytes, and the small functions that write behind it. -/
import Derived.Test.YtepfihanhdinfaaDoorRows
import Derived.Test.YtepfihanhdinfaaDoorShelf
import Derived.Test.YtepfihanhdinfaaDoorRkPlain
import Derived.Test.YtepfihanhdinfaaDoorValCmp
import Derived.WalkKit
import Derived.Lib.Hide
import Derived.Lib.OthersKept
import Derived.Lib.AppendStr
import Derived.WalkSpells
import Derived.WalkLawsBesides
import Derived.Outline
import Derived.Deep.AppendLies
import Derived.Deep.QuietTactic
import Derived.BigQuiet
import Derived.Lib.BufferWrite
import Derived.Laws.BytesArg
import Derived.Laws.AppendOwnNone
namespace Go.Proofs.YtepfihanhdinfaaDoor
open Go.RowKit
set_option linter.unusedVariables false
set_option linter.unusedSimpArgs false
namespace Rk
open Val (VT Keeps Box)
theorem infoB : (Tryd.prog.info? 5).map (fun i => (i.zero, i.size, i.bytes)) = some (some (.int .u8 0), 1, 1) := by kernel_rfl
theorem info_parts {e : TypeId} {z : Value} {a b : Nat} (h : (Tryd.prog.info? e).map (fun i => (i.zero, i.size, i.bytes)) = some (some z, a, b)) : ∃ i, Tryd.prog.info? e = some i ∧ i.zero = some z ∧ i.size = a ∧ i.bytes = b := by
  cases hi : Tryd.prog.info? e with
  | none => rw [hi] at h; cases h
  | some i => rw [hi] at h; simp at h; exact ⟨i, rfl, h.1, h.2.1, h.2.2⟩
/-- The call's own row of bytes. -/
def Buf (B : Nat) (w : World) (v : Value) (bs : List UInt8) : Prop := w.ownsRow B 5 1 v bs.length (Lib.byteCells bs)
theorem Buf.nil (B : Nat) (w : World) : Buf B w (.slice none 0 0) [] := World.ownsRow_nil _ _ _ _
theorem Buf.kind {B : Nat} {w : World} {v : Value} {bs : List UInt8} (h : Buf B w v bs) : ∀ g, v.ownBlock = some g → ∃ c fz, w.heap[g]? = some (.cells c 5 fz) := by
  intro g hg
  rcases h.2 with ⟨rfl, _⟩ | ⟨g', cap, cur, rfl, _, hgg, _⟩
  · simp [Value.ownBlock] at hg
  · simp [Value.ownBlock] at hg
    subst hg
    exact ⟨cur, _, hgg⟩
theorem Buf.append {B : Nat} {w : World} {v : Value} {bs new : List UInt8} {n : Nat} {xs : List Value} (h : w.ownsRow B 5 1 v n xs) (hn : n = (bs ++ new).length) (hx : xs = Lib.byteCells (bs ++ new)) : Buf B w v (bs ++ new) := by
  unfold Buf; rw [← hn, ← hx]; exact h
theorem Buf.far {B : Nat} {w w' : World} {v : Value} {bs : List UInt8} (h : Buf B w v bs) (hb : Below w.heap.size w w') : Buf B w' v bs := by
  refine ⟨h.1, ?_⟩
  rcases h.2 with hn | ⟨g, cap, cur, hv, hg0, hg, rest⟩
  · exact .inl hn
  · exact .inr ⟨g, cap, cur, hv, hg0, (hb.block g (Array.getElem?_eq_some_iff.1 hg).1).trans hg, rest⟩
/-- Where a call stands that writes behind such a row. -/
structure Sk (C : Nat) (w V : World) (u : Value) (acc : List UInt8) : Prop where
  buf : Buf C V u acc
  low : Below C w V
  kept : Lib.OthersKept 5 none w V
/-- What a call that writes behind such a row comes to. -/
def RkPost (C : Nat) (w : World) (bs : List UInt8) (e : Ending) (w' : World) : Prop := ∃ v', e = .returned v' ∧ Sk C w w' v' bs
theorem box_kept {w w' : World} {A : Nat} {cs : Array Value} (h : Box w A cs) (hk : Lib.OthersKept 5 none w w') : Box w' A cs :=
  hk A _ h (by simp) (fun c fz e => by injection e with _ e2 _; revert e2; decide)
section
variable {C : Nat} {w V V' : World} {u u' : Value} {acc : List UInt8}
theorem Sk.start (h : Buf C w u acc) : Sk C w w u acc := ⟨h, Below.refl _ _, Lib.OthersKept.refl _ _ _⟩
theorem Sk.hC (h : Sk C w V u acc) (hC : C ≤ w.heap.size) : C ≤ V.heap.size := Nat.le_trans hC h.low.size
theorem kept_of_below (hb : Below V.heap.size V V') : Lib.OthersKept 5 none V V' := fun k o hk _ _ => (hb.block k (Array.getElem?_eq_some_iff.1 hk).1).trans hk
theorem Sk.far (h : Sk C w V u acc) (hC : C ≤ w.heap.size) (hb : Below V.heap.size V V') : Sk C w V' u acc :=
  ⟨h.buf.far hb, h.low.trans (hb.mono (h.hC hC)), h.kept.trans (kept_of_below hb)⟩
theorem Sk.alloc (h : Sk C w V u acc) (hC : C ≤ w.heap.size) (o : Obj) : Sk C w (V.alloc o) u acc := h.far hC ((Below.refl _ _).alloc (Nat.le_refl _) _)
theorem Sk.drew (h : Sk C w V u acc) (hC : C ≤ w.heap.size) : Sk C w V.drew u acc := h.far hC (Below.refl _ _).drew
theorem Sk.trans (h : Sk C w V u acc) {bs : List UInt8} (h2 : Sk C V V' u' bs) : Sk C w V' u' bs := ⟨h2.buf, h.low.trans h2.low, h.kept.trans h2.kept⟩
/-- Cells are written behind. -/
theorem Sk.cells (h : Sk C w V u acc) (hC : C ≤ w.heap.size) {new : List UInt8} {n : Nat} {xs : List Value} (ho : V'.ownsRow C 5 1 u' n xs) (hg : V.grownBy V' u.ownBlock) (hn : n = (acc ++ new).length) (hx : xs = Lib.byteCells (acc ++ new)) : Sk C w V' u' (acc ++ new) :=
  ⟨Buf.append ho hn hx, h.low.trans ((Below.refl C V).grown hg (h.hC hC) (fun k hk => (World.ownsRow.lt h.buf k hk).1)), h.kept.trans ((Lib.OthersKept.refl _ _ V).grown hg h.buf.kind)⟩
theorem Sk.text (h : Sk C w V u acc) (hC : C ≤ w.heap.size) {s : ByteArray} (ho : V'.ownsRow C 5 1 u' (acc.length + s.size) (Lib.byteCells acc ++ Lib.strCells s)) (hg : V.grownBy V' u.ownBlock) : Sk C w V' u' (acc ++ s.data.toList) :=
  h.cells hC ho hg (by rw [List.length_append, ba_len]) (by rw [Lib.byteCells_append]; rfl)
theorem Sk.byte (h : Sk C w V u acc) (hC : C ≤ w.heap.size) {c : UInt8} (ho : V'.ownsRow C 5 1 u' (acc.length + 1) (Lib.byteCells acc ++ [.int .u8 (c.toNat : Int)])) (hg : V.grownBy V' u.ownBlock) : Sk C w V' u' (acc ++ [c]) :=
  h.text hC (s := ⟨#[c]⟩) ho hg
theorem Sk.post (h : Sk C w V u acc) : RkPost C w acc (.returned u) V := ⟨u, rfl, h⟩
theorem lit_one (V : World) (x : Value) : ∀ j u, ([x] : List Value)[j]? = some u → (V.alloc (.cells #[x] 5)).cell? ((⟨V.heap.size, 0, none⟩ : Addr).add j) = some u := by
  intro j u hj
  match j, hj with
  | 0, hj => simp at hj; subst hj; simp [Addr.add]
  | (j + 1), hj => simp at hj
theorem one_one (x : Int) : ∀ u ∈ ([Value.int .u8 x] : List Value), u.oneCell' = true := by
  intro u hu; simp at hu; subst hu; rfl
end
theorem be8_take (n j : Nat) (h : j < 8) : (be8 n).take (j + 1) = (be8 n).take j ++ [dig n (7 - j)] := by
  have h8 : j = 0 ∨ j = 1 ∨ j = 2 ∨ j = 3 ∨ j = 4 ∨ j = 5 ∨ j = 6 ∨ j = 7 := by omega
  rcases h8 with rfl | rfl | rfl | rfl | rfl | rfl | rfl | rfl <;> rfl
theorem dig_toNat (n k : Nat) : ((dig n k).toNat : Int) = ((n / 256 ^ k % 256 : Nat) : Int) := by
  unfold dig
  simp
set_option maxRecDepth 100000 in
theorem putNumber_any (C : Nat) (v : Value) (bs : List UInt8) (n : Nat) (w : World) (h : Buf C w v bs) (hC : C ≤ w.heap.size) (hlen : bs.length + 40 ≤ 140737488355328) (hn : (n : Int) ≤ 18446744073709551615) :
    Calls Tryd.prog 54 #[v, .int .u64 (n : Int)] w fun e w' => RkPost C w (bs ++ be8 n) e w' := by
  obtain ⟨i0, hi0, hz0, hz1, hz2⟩ := info_parts infoB
  have H := Lib.hid (Sk.start h)
  clear h
  go_enter Tryd.func54, Tryd.ntmps54
  go_wp2
  go_loopw [0, 6] (fun u i wr => ∃ j : Nat, i = .int .i64 (j : Int) ∧ j ≤ 8 ∧ Hid (Sk C w wr u (bs ++ (be8 n).take j))) (fun _ i _ => 8 - (intOf i).toNat)
  case atStart => exact ⟨0, rfl, by omega, Lib.hid (by rw [List.take_zero, List.append_nil]; exact H.out)⟩
  case round =>
    rename_i u wr
    obtain ⟨j, rfl, hj, HS⟩ := hrel
    by_cases hlt : j < 8
    · have hji : (j : Int) < 8 := by omega
      have hl : (bs ++ (be8 n).take j).length = bs.length + j := by rw [List.length_append, List.length_take]; simp [be8]; omega
      have HL := Lib.hid hl
      go_wp2_with (at_builtin; go_loud (refine wpList_append_lies _ rfl _ _ 56 rfl C 5 i0 (.int .u8 0) 1 1 Tryd.underlying56 hi0 hz0 hz1 hz2 rfl (by decide) _ (bs ++ (be8 n).take j).length (Lib.byteCells (bs ++ (be8 n).take j)) rfl (HS.out.alloc hC _).buf ⟨wr.heap.size, 0, none⟩ 1 1 [_] rfl rfl (lit_one wr _) (one_one _) (by omega) (by unfold maxLen; omega) (by omega) (by simp; have := HS.out.hC hC; omega) _ rfl (fun g cap w2 ho hg _ _ => ?_)))
      refine ⟨⟨j + 1, by go_num, by omega, Lib.hid ?_⟩, by simp [intOf]; omega⟩
      have hd : ((n : Int) / 2 ^ (8 * (7 - j)) % 256) = ((dig n (7 - j)).toNat : Int) := by
        have hp : (2 : Int) ^ (8 * (7 - j)) = ((256 ^ (7 - j) : Nat) : Int) := by
          rw [show (256 : Nat) = 2 ^ 8 from rfl, ← Nat.pow_mul]
          simp
        rw [dig_toNat, hp]
        simp
      rw [hd] at ho hg
      have hq := (HS.out.alloc hC _).byte hC ho hg
      rw [hl] at hq
      rw [be8_take n j hlt, ← List.append_assoc]
      exact hq
    · have hj8 : j = 8 := by omega
      have HJ := Lib.hid hj8
      have hji : ¬ (j : Int) < 8 := by omega
      clear hj8
      go_wp2
      go_ret
      have hq := HS.out
      rw [HJ.out] at hq
      exact hq.post
def truthB (b : Bool) : List UInt8 := [if b then 1 else 0]
set_option maxRecDepth 100000 in
theorem putTruth_any (C : Nat) (v : Value) (bs : List UInt8) (b : Bool) (w : World) (h : Buf C w v bs) (hC : C ≤ w.heap.size) (hlen : bs.length + 40 ≤ 140737488355328) :
    Calls Tryd.prog 57 #[v, .bool b] w fun e w' => RkPost C w (bs ++ truthB b) e w' := by
  obtain ⟨i0, hi0, hz0, hz1, hz2⟩ := info_parts infoB
  have H := Lib.hid (Sk.start h)
  clear h
  cases b
  all_goals
    go_enter Tryd.func57, Tryd.ntmps57
    go_wp2_with (at_builtin; go_loud (refine wpList_append_lies _ rfl _ _ 56 rfl C 5 i0 (.int .u8 0) 1 1 Tryd.underlying56 hi0 hz0 hz1 hz2 rfl (by decide) _ bs.length (Lib.byteCells bs) rfl (H.out.alloc hC _).buf ⟨w.heap.size, 0, none⟩ 1 1 [_] rfl rfl (lit_one w _) (one_one _) (by omega) (by unfold maxLen; omega) (by omega) (by simp; omega) _ rfl (fun g cap w2 ho hg _ _ => ?_)))
    go_ret
  · exact ((H.out.alloc hC _).cells hC ho hg (new := truthB false) (by rw [List.length_append]; rfl) (by rw [Lib.byteCells_append]; rfl)).post
  · exact ((H.out.alloc hC _).cells hC ho hg (new := truthB true) (by rw [List.length_append]; rfl) (by rw [Lib.byteCells_append]; rfl)).post
/-- The library's own variable that holds a whole number. -/
def MaxAt (w : World) : Prop := ∃ m : Int, w.cell? ⟨0, 0, none⟩ = some (.int .i64 m)
theorem MaxAt.low {w w' : World} {C : Nat} (h : MaxAt w) (hb : Below C w w') (hC : 0 < C) : MaxAt w' := by
  obtain ⟨m, hm⟩ := h
  exact ⟨m, (hb.cell (p := ⟨0, 0, none⟩) hC).trans hm⟩
theorem esc_string (s : ByteArray) : (⟨(Lib.replaceAll s.data.toList [0] [0, 255]).toArray⟩ : ByteArray).data.toList = escZ s.data.toList := by
  rw [replaceAll_esc]
set_option maxRecDepth 100000 in
theorem putText_any (C : Nat) (v : Value) (bs : List UInt8) (s : ByteArray) (w : World) (h : Buf C w v bs) (hC : C ≤ w.heap.size) (hlen : bs.length + (2 * s.size + 8) ≤ 70368744177664) (hs : s.size ≤ 4294967000) (hM : MaxAt w) :
    Calls Tryd.prog 56 #[v, .string s] w fun e w' => RkPost C w (bs ++ endB s.data.toList) e w' := by
  obtain ⟨i0, hi0, hz0, hz1, hz2⟩ := info_parts infoB
  obtain ⟨m, hm⟩ := hM
  have hcount : Lib.countB s ⟨#[0]⟩ ≤ s.size := by
    have := count_le s.data.toList
    rw [ba_len] at this
    exact this
  have hz2' : (ByteArray.mk #[0, 255]).size = 2 := rfl
  have HR := Lib.hid (Tryd.strings_ReplaceAll s ⟨#[0]⟩ ⟨#[0, 255]⟩ m w (by omega) hm (by decide) (by rw [hz2']; omega))
  obtain ⟨q, hq⟩ : ∃ q : ByteArray, (⟨(Lib.replaceAll s.data.toList [0] [0, 255]).toArray⟩ : ByteArray) = q := ⟨_, rfl⟩
  have hqd : q.data.toList = escZ s.data.toList := by rw [← hq]; exact esc_string s
  have hqs : q.size ≤ 2 * s.size := by
    have := escZ_len s.data.toList
    rw [← hqd, ba_len, ba_len] at this
    omega
  have HQ := Lib.hid hq
  have HQD := Lib.hid hqd
  have H := Lib.hid (Sk.start h)
  clear h hq hqd hm hcount hz2'
  go_enter Tryd.func56, Tryd.ntmps56
  go_wp2_with fail
  refine HR.out.mono ?_
  rintro e w1 ⟨rfl, hb⟩
  rw [show (⟨(Lib.replaceAll s.data.toList (ByteArray.mk #[0]).data.toList (ByteArray.mk #[0, 255]).data.toList).toArray⟩ : ByteArray) = q from HQ.out]
  have S1 := Lib.hid (H.out.far hC hb)
  clear hb
  go_wp2_with (first | (at_builtin; refine Lib.wpList_append_own_string _ rfl (.tmp 5) (.tmp 7) 56 9 rfl C 5 i0 Tryd.underlying56 Tryd.underlying9 hi0 hz0 hz1 hz2 v bs.length (Lib.byteCells bs) rfl S1.out.buf q rfl (by unfold maxLen; omega) (by omega) (S1.out.hC hC) (fun v' w4 ho hg hx => ?_); have S2 := Lib.hid (S1.out.text hC ho hg); clear ho hg hx; have hl2 : (bs ++ q.data.toList).length = bs.length + q.size := by rw [List.length_append, ba_len]) | (at_builtin; refine Lib.wpList_append_own_string _ rfl (.tmp 9) _ 56 9 rfl C 5 i0 Tryd.underlying56 Tryd.underlying9 hi0 hz0 hz1 hz2 _ (bs ++ q.data.toList).length (Lib.byteCells (bs ++ q.data.toList)) rfl S2.out.buf ⟨#[0, 0]⟩ rfl (by unfold maxLen; show _ + 2 ≤ _; omega) (by show _ + 2 ≤ _; omega) (S2.out.hC hC) (fun v2 w5 ho hg hx => ?_); have S3 := Lib.hid (S2.out.text hC (s := ⟨#[0, 0]⟩) ho hg); clear ho hg hx))
  go_ret
  have hq := S3.out.post
  rw [HQD.out, List.append_assoc] at hq
  exact hq
end Rk
end Go.Proofs.YtepfihanhdinfaaDoor
