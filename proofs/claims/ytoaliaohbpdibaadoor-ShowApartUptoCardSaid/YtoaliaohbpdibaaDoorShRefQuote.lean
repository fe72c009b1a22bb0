/- Show: the document's text in quotes. -/
import Derived.Test.YtoaliaohbpdibaaDoorShRefName
import Derived.Test.YtoaliaohbpdibaaDoorShLawPlain
import Derived.Laws.BytesArg
import Derived.RegionTactic
import Derived.ChangeAlike
namespace Go.Proofs.YtoaliaohbpdibaaDoor
open Go.RowKit
set_option linter.unusedVariables false
set_option linter.unusedSimpArgs false
namespace Sh
theorem conv_two (p q : UInt8) (w : World) (b : Nat) (fr : Nat × Nat) (h : w.heap[b]? = some (.cells #[.int .u8 (p.toNat : Int), .int .u8 (q.toNat : Int)] 5 fr)) :
    (convert 36 9 (.slice (some ⟨b, 0, none⟩) 2 2)).run Tryd.prog w = .ok (.string ⟨#[p, q]⟩) w :=
  run_convert_bytes_back w 36 9 5 ⟨b, 0, none⟩ 2 [p, q] Tryd.underlying36 Tryd.underlying5 Tryd.underlying9 (fun j hj => by
    have hadd : (⟨b, 0, none⟩ : Addr).add j = ⟨b, j, none⟩ := by unfold Addr.add; split <;> simp_all
    rw [hadd, cell_of_row w b j _ _ fr h]
    match j, hj with
    | 0, _ => rfl
    | 1, _ => rfl)
theorem hex_nat (n : Nat) (hn : n < 16) (h : n < (ByteArray.mk #[48, 49, 50, 51, 52, 53, 54, 55, 56, 57, 97, 98, 99, 100, 101, 102]).size) : (ByteArray.mk #[48, 49, 50, 51, 52, 53, 54, 55, 56, 57, 97, 98, 99, 100, 101, 102])[n]'h = hx n := by
  have h16 : n = 0 ∨ n = 1 ∨ n = 2 ∨ n = 3 ∨ n = 4 ∨ n = 5 ∨ n = 6 ∨ n = 7 ∨ n = 8 ∨ n = 9 ∨ n = 10 ∨ n = 11 ∨ n = 12 ∨ n = 13 ∨ n = 14 ∨ n = 15 := by omega
  clear hn
  rcases h16 with rfl | rfl | rfl | rfl | rfl | rfl | rfl | rfl | rfl | rfl | rfl | rfl | rfl | rfl | rfl | rfl <;> rfl
set_option maxHeartbeats 1000000 in
set_option maxRecDepth 100000 in
theorem hex_any (c : UInt8) (w : World) : Calls Tryd.prog 27 #[.int .u8 (c.toNat : Int)] w fun e w' => e = .returned (.string ⟨#[hx (c.toNat / 16), hx (c.toNat % 16)]⟩) ∧ Below w.heap.size w w' := by
  have hc2 := u8_lt c
  obtain ⟨n, hn⟩ : ∃ n, c.toNat = n := ⟨_, rfl⟩
  rw [hn] at hc2 ⊢
  clear hn
  have g1 : n / 16 < (ByteArray.mk #[48, 49, 50, 51, 52, 53, 54, 55, 56, 57, 97, 98, 99, 100, 101, 102]).size := by show n / 16 < 16; omega
  have g2 : n % 16 < (ByteArray.mk #[48, 49, 50, 51, 52, 53, 54, 55, 56, 57, 97, 98, 99, 100, 101, 102]).size := by show n % 16 < 16; omega
  have HX1 := Lib.hid (hex_nat (n / 16) (by omega) g1)
  have HX2 := Lib.hid (hex_nat (n % 16) (by omega) g2)
  have hcv := conv_two ((ByteArray.mk #[48, 49, 50, 51, 52, 53, 54, 55, 56, 57, 97, 98, 99, 100, 101, 102])[n / 16]'g1) ((ByteArray.mk #[48, 49, 50, 51, 52, 53, 54, 55, 56, 57, 97, 98, 99, 100, 101, 102])[n % 16]'g2) ((w.alloc (.cells #[.int .u8 (((ByteArray.mk #[48, 49, 50, 51, 52, 53, 54, 55, 56, 57, 97, 98, 99, 100, 101, 102])[n / 16]'g1).toNat : Int), .int .u8 (((ByteArray.mk #[48, 49, 50, 51, 52, 53, 54, 55, 56, 57, 97, 98, 99, 100, 101, 102])[n % 16]'g2).toNat : Int)] 5)).drew) w.heap.size (0, 0) (heap_alloc_new w _)
  have hb1 : 0 ≤ (n : Int) / 16 ∧ (n : Int) / 16 < 16 := by omega
  have hb2 : 0 ≤ (n : Int) % 16 ∧ (n : Int) % 16 < 16 := by omega
  go_enter Tryd.func27, Tryd.ntmps27
  go_wp2
  go_region
  all_goals
    go_wp2
    go_ret
    refine ⟨by rw [← HX1.out, ← HX2.out]; rfl, ?_⟩
    exact ((Below.refl _ w).alloc (Nat.le_refl _) _).drew
def RRel (w : World) (s : ByteArray) (u i : Value) (wr : World) : Prop :=
  ∃ (pos fuel : Nat) (o : ByteArray), u = .string o ∧ i = .int .i64 (pos : Int) ∧ Below w.heap.size w wr ∧ o.data.toList ++ quoteF fuel (s.data.toList.drop pos) = 39 :: quoteF s.size s.data.toList ∧ s.size ≤ pos + fuel ∧ o.size ≤ 1 + 4 * pos ∧ pos ≤ s.size
theorem escL_hex (c : UInt8) (h1 : c ≠ 92) (h2 : c ≠ 39) (h3 : c ≠ 10) (h4 : c ≠ 9) (h5 : c ≠ 13) : escL c = [92, 120, hx (c.toNat / 16), hx (c.toNat % 16)] := by
  unfold escL; rw [if_neg h1, if_neg h2, if_neg h3, if_neg h4, if_neg h5]
theorem u8_ne {c : UInt8} {k : Nat} (hk : k < 256) (h : c ≠ k.toUInt8) : ((c.toNat : Int) == (k : Int)) = false := by
  have := u8_eq c k hk
  have h2 : (c == k.toUInt8) = false := by simpa using h
  rw [h2] at this
  have h3 : ¬ c.toNat = k := by simpa using this.symm
  simp
  omega
theorem ba_append (a b : ByteArray) : (a ++ b).data.toList = a.data.toList ++ b.data.toList := by simp
theorem ba_ext {a b : ByteArray} (h : a.data.toList = b.data.toList) : a = b := by
  rw [bytes_eq h, ← bytes_eq rfl]
theorem ba_split (o a b c : ByteArray) (h : (a ++ b).data.toList = c.data.toList) : o ++ a ++ b = o ++ c := by
  apply ba_ext
  rw [ba_append, ba_append, ba_append, List.append_assoc, ← ba_append, h]
theorem ba_size (a : ByteArray) : a.size = a.data.toList.length := by simp
set_option maxHeartbeats 4000000 in
set_option maxRecDepth 100000 in
theorem refQuote_any (s : ByteArray) (w : World) (hs : s.size ≤ 35184372088000) : Calls Tryd.prog 11 #[.string s] w fun e w' => e = .returned (.string ⟨(quoteL s.data.toList).toArray⟩) ∧ Below w.heap.size w w' := by
  go_enter Tryd.func11, Tryd.ntmps11
  go_wp2
  go_loopw [3, 4] (fun u i wr => RRel w s u i wr) (fun _ i _ => s.size - (intOf i).toNat)
  case atStart => exact ⟨0, s.size, _, rfl, rfl, Below.refl _ _, rfl, by omega, by decide, by omega⟩
  case round =>
    obtain ⟨pos, fuel, o, rfl, rfl, hbw, hacc, hfu, hol, hpt⟩ := hrel
    have HB := Lib.hid hbw
    clear hbw
    by_cases hp : pos < s.size
    · obtain ⟨hl, hc0, hst, hrr, hsl⟩ := at_place s pos hp
      have hS := fun V => sign_any s pos V hs (by omega)
      have hH := fun V => hex_any s[pos] V
      obtain ⟨f, rfl⟩ : ∃ f, fuel = f + 1 := ⟨fuel - 1, by omega⟩
      rw [quoteF_step _ _ hl, List.drop_drop] at hacc
      have hle := sgL_le (s.data.toList.drop pos)
      have hone := st_one (s.data.toList.drop pos) hl
      have hbi := bareL_iff (s.data.toList.drop pos)
      have hlow := fun h => (decodeL_one (s.data.toList.drop pos) h hl).2
      have hLt : ∀ k, (s.data.toList.drop pos).take k = (s.extract pos (pos + k)).data.toList := fun k => by rw [Lib.extract_data]; congr 1; omega
      obtain ⟨L, hL⟩ : ∃ L, s.data.toList.drop pos = L := ⟨_, rfl⟩
      rw [hL] at hl hc0 hst hrr hsl hS hacc hle hone hbi hlow
      simp only [hL] at hLt
      rw [hc0] at hacc hbi hlow
      obtain ⟨n, hn⟩ : ∃ n, sgL L = n := ⟨_, rfl⟩
      rw [hn] at hS hle hbi hlow
      have hpi : (pos : Int) < s.size := by omega
      have hsi : (s.size : Int) ≤ 35184372088000 := by omega
      have hoi : (o.size : Int) ≤ 140737488352001 := by omega
      have next : ∀ (t : ByteArray) (k : Nat) (w3 : World), (if bareL L then L.take (sgL L) else escL s[pos]) = t.data.toList → stL L = k → 1 ≤ k → t.size ≤ 4 → Below w.heap.size w w3 → Hid (RRel w s (.string (o ++ t)) (.int .i64 ((pos : Int) + (k : Int))) w3) := fun t k w3 h1 h2 h3 h4 h5 => by
        refine Lib.hid ⟨pos + k, f, o ++ t, rfl, rfl, h5, ?_, by omega, ?_, by omega⟩
        · rw [ba_append, List.append_assoc]
          rw [h1, h2] at hacc
          exact hacc
        · rw [ba_size, ba_append, List.length_append, ← ba_size, ← ba_size]; omega
      have NX := Lib.hid next
      have HO := Lib.hid hone
      have HLT := Lib.hid hLt
      have HN := Lib.hid hn
      clear next hacc hone hLt hn hrr hL hl hst
      have HC := Lib.hid hc0
      clear hc0
      have HLE := Lib.hid hsl
      clear hsl
      by_cases hA : n = 0 ∨ s[pos] = 127
      · have hb : bareL L = false := by
          rw [Bool.eq_false_iff]; intro h; have := hbi.1 h
          rcases hA with h | h
          · omega
          · exact this.2.2.1 h
        have hge : 127 ≤ s[pos].toNat := by
          rcases hA with h | h
          · rcases Nat.lt_or_ge s[pos].toNat 128 with h2 | h2
            · have := hlow h2; omega
            · omega
          · rw [h]; decide
        have hne : ∀ k : UInt8, k.toNat < 127 → s[pos] ≠ k := fun k hk h => by rw [h] at hge; omega
        have hX := NX.out ⟨#[92, 120, hx (s[pos].toNat / 16), hx (s[pos].toNat % 16)]⟩ 1
        rw [hb, if_neg (by simp), escL_hex _ (hne 92 (by decide)) (hne 39 (by decide)) (hne 10 (by decide)) (hne 9 (by decide)) (hne 13 (by decide))] at hX
        have HX := Lib.hid (fun w3 => hX w3 rfl (HO.out hb) (by omega) (Nat.le_refl 4))
        clear hX hb hge hne hlow hbi
        have htest : ((n : Int) == 0) = true ∨ (((n : Int) == 0) = false ∧ ((s[pos].toNat : Int) == 127) = true) := by
          by_cases h0 : n = 0
          · left; simp [h0]
          · right
            refine ⟨by simp; omega, ?_⟩
            rcases hA with h | h
            · exact absurd h h0
            · rw [h]; rfl
        clear hA
        rcases htest with h1 | ⟨h1, h2⟩
        all_goals
          go_wp2_with (first | (go_at_call 20; refine (hS _).mono ?_; rintro e w' ⟨rfl, rfl⟩) | (go_at_call 27; refine (hH _).mono ?_; rintro e w3 ⟨rfl, hb3⟩))
          all_goals
            have HB3 := Lib.hid (HB.out.trans (hb3.mono HB.out.size))
            clear hb3
            go_roundw
            case rel =>
              have h3 := HX.out _ HB3.out
              rw [show o ++ ByteArray.mk #[92, 120, hx (s[pos].toNat / 16), hx (s[pos].toNat % 16)] = o ++ ByteArray.mk #[92, 120] ++ ByteArray.mk #[hx (s[pos].toNat / 16), hx (s[pos].toNat % 16)] from (ba_split _ _ _ _ (by rw [ba_append]; rfl)).symm] at h3
              exact h3.out
            case measure => simp [intOf]; omega
      · have hn0 : n ≠ 0 := fun h => hA (.inl h)
        have h127 : s[pos] ≠ 127 := fun h => hA (.inr h)
        clear hA
        by_cases c39 : s[pos] = 39
        · have hn1 : n = 1 := hlow (by rw [c39]; decide)
          subst hn1
          have hb : bareL L = false := by
            rw [Bool.eq_false_iff]; intro h; have := hbi.1 h
            rw [c39] at this
            revert this; decide
          have hX := NX.out ⟨#[92, 39]⟩ 1
          rw [hb, if_neg (by simp), c39, show escL 39 = [92, 39] from rfl] at hX
          have HX := Lib.hid (fun w3 => hX w3 rfl (HO.out hb) (by omega) (by decide))
          have hci : (s[pos].toNat : Int) = 39 := by rw [c39]; rfl
          have HEX : Hid ((s.extract pos (pos + 1)).data.toList = [39]) := by
            have h1 := HLT.out 1
            have h2 := (takes L).1 (by omega)
            rw [h2, HC.out, c39] at h1
            exact h1.symm
          clear hX hb hlow hbi c39
          go_wp2_with (go_at_call 20; refine (hS _).mono ?_; rintro e w' ⟨rfl, rfl⟩)
          go_roundw
          case rel =>
            have h3 := HX.out _ HB.out
            rw [show o ++ ByteArray.mk #[92, 39] = o ++ ByteArray.mk #[92] ++ s.extract pos (pos + 1) from (ba_split _ _ _ _ (by rw [ba_append, HEX.out]; rfl)).symm] at h3
            exact h3.out
          case measure => simp [intOf]; omega
        by_cases c92 : s[pos] = 92
        · have hn1 : n = 1 := hlow (by rw [c92]; decide)
          subst hn1
          have hb : bareL L = false := by
            rw [Bool.eq_false_iff]; intro h; have := hbi.1 h
            rw [c92] at this
            revert this; decide
          have hX := NX.out ⟨#[92, 92]⟩ 1
          rw [hb, if_neg (by simp), c92, show escL 92 = [92, 92] from rfl] at hX
          have HX := Lib.hid (fun w3 => hX w3 rfl (HO.out hb) (by omega) (by decide))
          have hci : (s[pos].toNat : Int) = 92 := by rw [c92]; rfl
          have HEX : Hid ((s.extract pos (pos + 1)).data.toList = [92]) := by
            have h1 := HLT.out 1
            have h2 := (takes L).1 (by omega)
            rw [h2, HC.out, c92] at h1
            exact h1.symm
          clear hX hb hlow hbi c92
          go_wp2_with (go_at_call 20; refine (hS _).mono ?_; rintro e w' ⟨rfl, rfl⟩)
          go_roundw
          case rel =>
            have h3 := HX.out _ HB.out
            rw [show o ++ ByteArray.mk #[92, 92] = o ++ ByteArray.mk #[92] ++ s.extract pos (pos + 1) from (ba_split _ _ _ _ (by rw [ba_append, HEX.out]; rfl)).symm] at h3
            exact h3.out
          case measure => simp [intOf]; omega
        by_cases c10 : s[pos] = 10
        · have hn1 : n = 1 := hlow (by rw [c10]; decide)
          subst hn1
          have hb : bareL L = false := by
            rw [Bool.eq_false_iff]; intro h; have := hbi.1 h
            rw [c10] at this
            revert this; decide
          have hX := NX.out ⟨#[92, 110]⟩ 1
          rw [hb, if_neg (by simp), c10, show escL 10 = [92, 110] from rfl] at hX
          have HX := Lib.hid (fun w3 => hX w3 rfl (HO.out hb) (by omega) (by decide))
          have hci : (s[pos].toNat : Int) = 10 := by rw [c10]; rfl
          have HEX : Hid ((s.extract pos (pos + 1)).data.toList = [10]) := by
            have h1 := HLT.out 1
            have h2 := (takes L).1 (by omega)
            rw [h2, HC.out, c10] at h1
            exact h1.symm
          clear hX hb hlow hbi c10
          go_wp2_with (go_at_call 20; refine (hS _).mono ?_; rintro e w' ⟨rfl, rfl⟩)
          go_roundw
          case rel =>
            have h3 := HX.out _ HB.out
            
            exact h3.out
          case measure => simp [intOf]; omega
        by_cases c9 : s[pos] = 9
        · have hn1 : n = 1 := hlow (by rw [c9]; decide)
          subst hn1
          have hb : bareL L = false := by
            rw [Bool.eq_false_iff]; intro h; have := hbi.1 h
            rw [c9] at this
            revert this; decide
          have hX := NX.out ⟨#[92, 116]⟩ 1
          rw [hb, if_neg (by simp), c9, show escL 9 = [92, 116] from rfl] at hX
          have HX := Lib.hid (fun w3 => hX w3 rfl (HO.out hb) (by omega) (by decide))
          have hci : (s[pos].toNat : Int) = 9 := by rw [c9]; rfl
          have HEX : Hid ((s.extract pos (pos + 1)).data.toList = [9]) := by
            have h1 := HLT.out 1
            have h2 := (takes L).1 (by omega)
            rw [h2, HC.out, c9] at h1
            exact h1.symm
          clear hX hb hlow hbi c9
          go_wp2_with (go_at_call 20; refine (hS _).mono ?_; rintro e w' ⟨rfl, rfl⟩)
          go_roundw
          case rel =>
            have h3 := HX.out _ HB.out
            
            exact h3.out
          case measure => simp [intOf]; omega
        by_cases c13 : s[pos] = 13
        · have hn1 : n = 1 := hlow (by rw [c13]; decide)
          subst hn1
          have hb : bareL L = false := by
            rw [Bool.eq_false_iff]; intro h; have := hbi.1 h
            rw [c13] at this
            revert this; decide
          have hX := NX.out ⟨#[92, 114]⟩ 1
          rw [hb, if_neg (by simp), c13, show escL 13 = [92, 114] from rfl] at hX
          have HX := Lib.hid (fun w3 => hX w3 rfl (HO.out hb) (by omega) (by decide))
          have hci : (s[pos].toNat : Int) = 13 := by rw [c13]; rfl
          have HEX : Hid ((s.extract pos (pos + 1)).data.toList = [13]) := by
            have h1 := HLT.out 1
            have h2 := (takes L).1 (by omega)
            rw [h2, HC.out, c13] at h1
            exact h1.symm
          clear hX hb hlow hbi c13
          go_wp2_with (go_at_call 20; refine (hS _).mono ?_; rintro e w' ⟨rfl, rfl⟩)
          go_roundw
          case rel =>
            have h3 := HX.out _ HB.out
            
            exact h3.out
          case measure => simp [intOf]; omega
        have t127 := u8_ne (k := 127) (by omega) h127
        have t39 := u8_ne (k := 39) (by omega) c39
        have t92 := u8_ne (k := 92) (by omega) c92
        have t10 := u8_ne (k := 10) (by omega) c10
        have t9 := u8_ne (k := 9) (by omega) c9
        have t13 := u8_ne (k := 13) (by omega) c13
        have tn : ((n : Int) == 0) = false := by simp; omega
        simp only [Int.cast_ofNat_Int] at t127 t39 t92 t10 t9 t13
        by_cases hlo : s[pos].toNat < 32
        · have hn1 : n = 1 := hlow (by omega)
          subst hn1
          have hb : bareL L = false := by
            rw [Bool.eq_false_iff]; intro h; have := hbi.1 h
            omega
          have hX := NX.out ⟨#[92, 120, hx (s[pos].toNat / 16), hx (s[pos].toNat % 16)]⟩ 1
          rw [hb, if_neg (by simp), escL_hex _ c92 c39 c10 c9 c13] at hX
          have HX := Lib.hid (fun w3 => hX w3 rfl (HO.out hb) (by omega) (Nat.le_refl 4))
          have hli : (s[pos].toNat : Int) < 32 := by omega
          clear hX hb hlow hbi hn0 h127 c39 c92 c10 c9 c13 hlo
          go_wp2_with (first | (go_at_call 20; refine (hS _).mono ?_; rintro e w' ⟨rfl, rfl⟩) | (go_at_call 27; refine (hH _).mono ?_; rintro e w3 ⟨rfl, hb3⟩))
          all_goals
            have HB3 := Lib.hid (HB.out.trans (hb3.mono HB.out.size))
            clear hb3
            go_roundw
            case rel =>
              have h3 := HX.out _ HB3.out
              rw [show o ++ ByteArray.mk #[92, 120, hx (s[pos].toNat / 16), hx (s[pos].toNat % 16)] = o ++ ByteArray.mk #[92, 120] ++ ByteArray.mk #[hx (s[pos].toNat / 16), hx (s[pos].toNat % 16)] from (ba_split _ _ _ _ (by rw [ba_append]; rfl)).symm] at h3
              exact h3.out
            case measure => simp [intOf]; omega
        · have hb : bareL L = true := hbi.2 ⟨by omega, by omega, h127, c92, c39⟩
          have hX := NX.out (s.extract pos (pos + n)) n
          rw [hb, if_pos rfl, HN.out] at hX
          have hst : stL L = n := by unfold stL; rw [HN.out, if_neg hn0]
          have hpn : pos + n ≤ s.size := by have := HLE.out; rw [hst] at this; omega
          have HX := Lib.hid (fun w3 => hX w3 (HLT.out n) hst (by omega) (by rw [ba_size, ← HLT.out n, List.length_take]; omega))
          have hli : 32 ≤ (s[pos].toNat : Int) := by omega
          have hni : (n : Int) ≤ 4 := by omega
          have hn2 : 1 ≤ (n : Int) := by omega
          have hpni : (pos : Int) + n ≤ s.size := by omega
          have hes : (s.extract pos (pos + n)).size ≤ 4 := by rw [ba_size, ← HLT.out n, List.length_take]; omega
          clear hX hb hlow hbi hn0 h127 c39 c92 c10 c9 c13 hlo hst
          go_wp2_with (go_at_call 20; refine (hS _).mono ?_; rintro e w' ⟨rfl, rfl⟩)
          go_roundw
          case rel => exact (HX.out _ HB.out).out
          case measure => simp [intOf]; omega
    · have hpi : ¬ (pos : Int) < s.size := by omega
      have HA : Hid (o.data.toList = 39 :: quoteF s.size s.data.toList) := Lib.hid (by
        have h2 : s.data.toList.length = s.size := by simp
        have : s.data.toList.drop pos = [] := List.drop_eq_nil_of_le (by omega)
        rw [this, quoteF_nil, List.append_nil] at hacc
        exact hacc)
      have hoi : (o.size : Int) ≤ 140737488352001 := by omega
      clear hacc
      go_wp2
      go_ret
      refine ⟨str_eq (bytes_eq ?_), HB.out⟩
      rw [ba_append, HA.out]
      have h2 : s.data.toList.length = s.size := by simp
      simp only [quoteL, h2, List.cons_append]
theorem refKey_any (s : ByteArray) (w : World) (hs : s.size ≤ 35184372088000) : Calls Tryd.prog 15 #[.string s] w fun e w' => e = .returned (.string ⟨(keyL s.data.toList).toArray⟩) ∧ Below w.heap.size w w' := by
  have N := fun V => Name_any s V hs
  have Q := fun V => refQuote_any s V hs
  have HS : (⟨(s.data.toList).toArray⟩ : ByteArray) = s := by cases s; simp
  unfold keyL
  cases h : nameL s.data.toList with
  | true =>
    rw [h] at N
    simp only [if_true]
    rw [HS]
    have HN := Lib.hid N
    clear N Q HS h hs
    go_enter Tryd.func15, Tryd.ntmps15
    go_wp2_with (go_at_call 13; refine (HN.out _).mono ?_; rintro e w1 ⟨rfl, rfl⟩)
    go_ret
    exact ⟨rfl, Below.refl _ _⟩
  | false =>
    rw [h] at N
    rw [if_neg (by simp)]
    have HN := Lib.hid N
    have HQ := Lib.hid Q
    obtain ⟨q, hq⟩ : ∃ q : ByteArray, (⟨(quoteL s.data.toList).toArray⟩ : ByteArray) = q := ⟨_, rfl⟩
    rw [hq] at HQ ⊢
    clear N Q HS h hs hq
    go_enter Tryd.func15, Tryd.ntmps15
    go_wp2_with fail
    refine (HN.out _).mono ?_
    rintro e w1 ⟨rfl, rfl⟩
    go_wp2_with fail
    refine (HQ.out _).mono ?_
    rintro e w2 ⟨rfl, hb⟩
    go_wp2
    go_ret
    exact ⟨rfl, hb⟩
end Sh
end Go.Proofs.YtoaliaohbpdibaaDoor
