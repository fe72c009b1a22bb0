/- Frame: Encode, and the document's; texts of rows; New, Held, Broken. -/
import Derived.Test.YtbejacmbbkdbnaaFrFeed
import Derived.Laws.MakeOwn
import Derived.Lib.BytesSpace
import Derived.Laws.BytesString
import Derived.Lib.BufferRead
namespace Go.Proofs.Ytbejacmbbkdbnaa
open Go.RowKit
set_option linter.unusedVariables false
set_option linter.unusedSimpArgs false
namespace Fr
/-- What Encode says of a load. -/
def encB (l : List UInt8) : List UInt8 := if okN l.length then frameB l else []
def encE (l : List UInt8) : Int := if okN l.length then 0 else 21
def EncPost (w : World) (l : List UInt8) (e : Ending) (w' : World) : Prop :=
  ∃ (q : Option Addr) (n c : Nat), e = .returned (.tuple #[.slice q n c, .int .i64 (encE l)]) ∧ n = (encB l).length ∧ Buf w.heap.size w' (.slice q n c) (encB l) ∧ Below w.heap.size w w'
theorem enc_no {w : World} {l : List UInt8} (h : okN l.length = false) : EncPost w l (.returned (.tuple #[.slice none 0 0, .int .i64 21])) w :=
  ⟨none, 0, 0, by unfold encE; rw [h]; rfl, by unfold encB; rw [h]; rfl, by unfold encB; rw [h]; exact Buf.nil _ _, Below.refl _ _⟩
/-- A block that was made just now, as a source. -/
theorem lit_src (V : World) (cs : Array Value) (bs : List UInt8) (X : Nat → Prop) (H : Nat) (hH : V.heap.size = H) (h : cs.toList = Lib.byteCells bs) (hX : ¬ X H) {fr : Nat × Nat} : Src (V.alloc (.cells cs 5 fr)) X (some ⟨H, 0, none⟩) bs := fun _ => by
  subst hH
  refine ⟨⟨V.heap.size, 0, none⟩, rfl, by simp, hX, fun j u hu => ?_⟩
  rw [← h] at hu
  exact World.news_of_block (heap_alloc_new V _) j u hu
theorem head4_cells (n : Nat) (h : n ≤ 32768) : ([.int .u8 ((n : Int) / 16777216), .int .u8 ((n : Int) / 65536), .int .u8 ((n : Int) / 256), .int .u8 ((n : Int) % 256)] : List Value) = Lib.byteCells (head4 n) := by
  unfold head4 Lib.byteCells
  have h1 : n / 16777216 % 256 = n / 16777216 := by omega
  have h2 : n / 65536 % 256 = n / 65536 := by omega
  have h3 : n / 256 % 256 = n / 256 := by omega
  simp [h1, h2, h3]
theorem head4_small (n : Nat) (h : n ≤ 32768) : ([.int .u8 0, .int .u8 0, .int .u8 ((n : Int) / 256), .int .u8 ((n : Int) % 256)] : List Value) = Lib.byteCells (head4 n) := by
  rw [← head4_cells n h, show (n : Int) / 16777216 = 0 by omega, show (n : Int) / 65536 = 0 by omega]
theorem Src.low {X : Nat → Prop} {w w' : World} {p : Option Addr} {bs : List UInt8} (h : Src w X p bs) (hb : Below w.heap.size w w') : Src w' X p bs := h.keeps (Keeps.of_below (X := fun _ => False) hb) (fun _ f _ => f.elim) (fun _ x _ => x)
set_option maxRecDepth 100000 in
theorem encode_any (p : Option Addr) (c : Nat) (l : List UInt8) (X : Nat → Prop) (w : World) (hs : Src w X p l) (hl : (l.length : Int) ≤ 9223372036854775807) :
    Calls Try.prog 8 #[.slice p l.length c] w (EncPost w l) := by
  obtain ⟨n, hn⟩ : ∃ n, l.length = n := ⟨_, rfl⟩
  have MC := Lib.hid (fun V => may_any n V (by rw [← hn]; exact hl))
  rw [hn]
  have HN := Lib.hid hn
  cases ho : okN n with
  | false =>
    have HE := Lib.hid (enc_no (w := w) (l := l) (by rw [hn]; exact ho))
    rw [ho] at MC
    clear hs hl hn ho
    go_enter Try.func8, Try.ntmps8
    go_wp2_with fail
    refine (MC.out _).mono ?_
    rintro e w2 ⟨rfl, rfl⟩
    go_wp2
    go_ret2
    exact HE.out
  | true =>
    rw [ho] at MC
    have hok := okN_true.1 ho
    have HO := Lib.hid ho
    obtain ⟨i0, hi0, hz0, hz1, hz2⟩ := info_parts infoB
    have hmk : ∀ V, (Instr.makeSlice 22 (.int .i64 0) (.int .i64 (4 + (n : Int)))).run Try.prog V = .ok (.slice (some ⟨V.heap.size, 0, none⟩) 0 (4 + n)) (V.alloc (.cells (madeCells #[.int .u8 0] (4 + n)) 5)) := fun V => by
      have := run_make (P := Try.prog) V 22 5 i0 _ Try.underlying22 hi0 hz0 .i64 .i64 0 (4 + (n : Int)) (by omega) (by omega) (by rw [hz2]; omega) (by omega)
      rw [hz1] at this
      have e4 : (4 + (n : Int)).toNat = 4 + n := by omega
      rw [e4] at this
      simpa [Value.cells] using this
    have B0 : Buf w.heap.size (w.alloc (.cells (madeCells #[.int .u8 0] (4 + n)) 5)) (.slice (some ⟨w.heap.size, 0, none⟩) 0 (4 + n)) [] := World.ownsRow_made w _ (4 + n) (Nat.le_refl _) (by unfold maxLen; omega) (by rw [size_madeCells, Nat.mul_one])
    have L1 : Below w.heap.size w (w.alloc (.cells (madeCells #[.int .u8 0] (4 + n)) 5)) := (Below.refl _ w).alloc (Nat.le_refl _) _
    have HB0 := Lib.hid B0
    have HC4 := Lib.hid (head4_cells n hok.2)
    have HL1 := Lib.hid L1
    have HS := Lib.hid hs
    clear B0 L1 hs hn ho
    go_enter Try.func8, Try.ntmps8
    go_wp2_with fail
    refine (MC.out _).mono ?_
    rintro e w2 ⟨rfl, rfl⟩
    go_wp2_with (first | (at_builtin; go_loud (refine wpList_append_src rfl (.tmp 14) (.tmp 26) rfl w.heap.size (fun _ => False) _ [] (head4 n) _ 4 4 4 rfl rfl rfl (HB0.out.alloc _) (lit_src _ _ (head4 n) _ _ (by simp) HC4.out (fun f => f)) (by simp [head4]) (by simp; omega) rfl (fun q1 c1 w3 hb3 hg3 _ => ?_)); have L3 : Below w.heap.size w w3 := ((HL1.out.alloc HL1.out.size _).grown hg3 (by simp; omega) (fun k hk => (HB0.out.lt k hk).1)); have HB3 := Lib.hid hb3; have HL3 := Lib.hid L3; clear hb3 hg3 L3) | (at_builtin; go_loud (refine wpList_append_src rfl (.tmp 28) (.tmp 29) rfl w.heap.size X _ ([] ++ head4 n) l p n c (4 + n) rfl rfl HN.out.symm HB3.out (HS.out.low HL3.out) (by rw [HN.out]; simp [head4]; omega) HL3.out.size (by rw [HN.out]; simp [head4]) (fun q2 c2 w4 hb4 hg4 _ => ?_)); have L4 : Below w.heap.size w w4 := (HL3.out.grown hg4 HL3.out.size (fun k hk => (HB3.out.lt k hk).1)); have HB4 := Lib.hid hb4; have HL4 := Lib.hid L4; clear hb4 hg4 L4))
    go_ret2
    have e1 : encE l = 0 := by unfold encE; rw [HN.out, HO.out]; rfl
    have e2 : encB l = head4 n ++ l := by unfold encB frameB; rw [HN.out, HO.out]; rfl
    refine ⟨q2, 4 + n, c2, by rw [e1]; rfl, by rw [e2, List.length_append, HN.out]; rfl, ?_, HL4.out⟩
    rw [e2]
    exact HB4.out
set_option maxRecDepth 100000 in
theorem refEncode_any (p : Option Addr) (c : Nat) (l : List UInt8) (X : Nat → Prop) (w : World) (hs : Src w X p l) (hl : (l.length : Int) ≤ 9223372036854775807) :
    Calls Try.prog 9 #[.slice p l.length c] w (EncPost w l) := by
  obtain ⟨n, hn⟩ : ∃ n, l.length = n := ⟨_, rfl⟩
  rw [hn]
  have HN := Lib.hid hn
  cases ho : okN n with
  | false =>
    have HE := Lib.hid (enc_no (w := w) (l := l) (by rw [hn]; exact ho))
    have h2 : n = 0 ∨ (¬ n = 0 ∧ 32768 < (n : Int)) := by have := okN_false.1 ho; omega
    rw [hn] at hl
    clear hs hn ho
    rcases h2 with rfl | ⟨h0, h3⟩
    all_goals
     go_enter Try.func9, Try.ntmps9
     go_wp2
     go_ret2
     exact HE.out
  | true =>
    have hok := okN_true.1 ho
    have HO := Lib.hid ho
    have HC4 := Lib.hid (head4_small n hok.2)
    have h0 : ¬ n = 0 := by omega
    have h3 : ¬ 32768 < (n : Int) := by omega
    have B0 : Buf w.heap.size (w.alloc (.cells #[.int .u8 0, .int .u8 0, .int .u8 ((n : Int) / 256), .int .u8 ((n : Int) % 256)] 5)) (.slice (some ⟨w.heap.size, 0, none⟩) 4 4) (head4 n) := by
      have := World.ownsRow_lit (e := 5) (size := 1) w #[.int .u8 0, .int .u8 0, .int .u8 ((n : Int) / 256), .int .u8 ((n : Int) % 256)] 4 (Nat.le_refl _) (by unfold maxLen; omega) rfl
      unfold Buf
      rw [← head4_small n hok.2]
      exact this
    have L1 : Below w.heap.size w (w.alloc (.cells #[.int .u8 0, .int .u8 0, .int .u8 ((n : Int) / 256), .int .u8 ((n : Int) % 256)] 5)) := (Below.refl _ w).alloc (Nat.le_refl _) _
    have HB0 := Lib.hid B0
    have HL1 := Lib.hid L1
    have HS := Lib.hid hs
    clear B0 L1 hs hn ho
    go_enter Try.func9, Try.ntmps9
    go_wp2_with (at_builtin; go_loud (refine wpList_append_src rfl (.tmp 21) (.tmp 22) rfl w.heap.size X _ (head4 n) l p n c (4 + n) rfl rfl HN.out.symm HB0.out (HS.out.low HL1.out) (by rw [HN.out]; simp [head4]; omega) HL1.out.size (by rw [HN.out]; simp [head4]) (fun q2 c2 w4 hb4 hg4 _ => ?_)); have L4 : Below w.heap.size w w4 := (HL1.out.grown hg4 HL1.out.size (fun k hk => (HB0.out.lt k hk).1)); have HB4 := Lib.hid hb4; have HL4 := Lib.hid L4; clear hb4 hg4 L4)
    go_ret2
    have e1 : encE l = 0 := by unfold encE; rw [HN.out, HO.out]; rfl
    have e2 : encB l = head4 n ++ l := by unfold encB frameB; rw [HN.out, HO.out]; rfl
    refine ⟨q2, 4 + n, c2, by rw [e1]; rfl, by rw [e2, List.length_append, HN.out]; rfl, ?_, HL4.out⟩
    rw [e2]
    exact HB4.out
/-- Bytes as a text. -/
theorem conv_src {w : World} {X : Nat → Prop} {p : Option Addr} {bs : List UInt8} {n c : Nat} (h : Src w X p bs) (hn : bs.length = n) : (convert 22 9 (.slice p n c)).run Try.prog w = .ok (.string ⟨bs.toArray⟩) w := by
  subst hn
  rcases Nat.eq_zero_or_pos bs.length with h0 | h0
  · obtain rfl := List.eq_nil_of_length_eq_zero h0
    cases p with
    | none => exact Lib.run_convert_nil_bytes w 22 9 5 c Try.underlying22 Try.underlying5 Try.underlying9
    | some a => exact run_convert_bytes_back w 22 9 5 a c [] Try.underlying22 Try.underlying5 Try.underlying9 (fun j hj => absurd hj (by simp))
  · obtain ⟨a, rfl, -, -, hc⟩ := h h0
    exact run_convert_bytes_back w 22 9 5 a c bs Try.underlying22 Try.underlying5 Try.underlying9 (fun j hj => hc j _ (by unfold Lib.byteCells; rw [List.getElem?_map, List.getElem?_eq_getElem hj]; rfl))
theorem text_eq (a b : List UInt8) : ((⟨a.toArray⟩ : ByteArray).toList == (⟨b.toArray⟩ : ByteArray).toList) = (a == b) := by
  rw [ByteArray.toList_eq, ByteArray.toList_eq]
set_option maxRecDepth 100000 in
theorem new_any (w : World) : Calls Try.prog 11 #[] w fun e w' => e = .returned (.pointer (some ⟨w.heap.size, 0, none⟩)) ∧ w' = w.alloc (.cells #[.slice none 0 0, .bool false] 46) := by
  go_enter Try.func11, Try.ntmps11
  go_wp2
  go_ret
  exact ⟨rfl, rfl⟩
theorem Rdr.new (w : World) (b : Nat) (hb : b ≤ w.heap.size) : Rdr b (w.alloc (.cells #[.slice none 0 0, .bool false] 46)) w.heap.size (.slice none 0 0) [] false :=
  ⟨heap_alloc_new w _, hb, Buf.nil _ _, fun e => by cases e⟩
set_option maxRecDepth 100000 in
theorem held_any (b R : Nat) (hv : Value) (held : List UInt8) (br : Bool) (w : World) (hR : Rdr b w R hv held br) : Calls Try.prog 15 #[.pointer (some ⟨R, 0, none⟩)] w fun e w' => e = .returned (.int .i64 (held.length : Int)) ∧ w' = w := by
  obtain ⟨q, c, hv', -⟩ := hR.buf.shape
  subst hv'
  obtain ⟨c0, c1, f0, f1⟩ := hR.cell
  clear hR
  go_enter Try.func15, Try.ntmps15
  go_wp2
  go_ret
  exact ⟨rfl, rfl⟩
set_option maxRecDepth 100000 in
theorem broken_any (b R : Nat) (hv : Value) (held : List UInt8) (br : Bool) (w : World) (hR : Rdr b w R hv held br) : Calls Try.prog 16 #[.pointer (some ⟨R, 0, none⟩)] w fun e w' => e = .returned (.bool br) ∧ w' = w := by
  obtain ⟨c0, c1, f0, f1⟩ := hR.cell
  clear hR
  go_enter Try.func16, Try.ntmps16
  go_wp2
  go_ret
  exact ⟨rfl, rfl⟩
/-- Feed, whether broken or not. -/
theorem feed_any (b R : Nat) (hv : Value) (held bs : List UInt8) (br : Bool) (p : Option Addr) (c : Nat) (w : World) (hR : Rdr b w R hv held br) (hbr : br = true → held = []) (hs : Src w (Ft R hv) p bs) (hc : bs.length ≤ c) (hcm : c ≤ maxLen) (hp : Part held) (hb : b ≤ w.heap.size) (hz : (held ++ bs).length ≤ 1099511627776) :
    Calls Try.prog 12 #[.pointer (some ⟨R, 0, none⟩), .slice p bs.length c] w (FeedPost b R hv w (told br (held ++ bs))) := by
  cases br with
  | false => exact feed_open b R hv held bs p c w hR hs hc hcm hp hb hz
  | true =>
    obtain rfl := hbr rfl
    exact feed_broken b R hv _ p _ c w hR
theorem told_rest (br : Bool) (s : List UInt8) : Part (told br s).2.2 ∧ ((told br s).2.1 = true → (told br s).2.2 = []) := by
  cases br with
  | false => exact parse_rest s.length s (Nat.le_refl _)
  | true => exact ⟨.nil, fun _ => rfl⟩
end Fr
end Go.Proofs.Ytbejacmbbkdbnaa
