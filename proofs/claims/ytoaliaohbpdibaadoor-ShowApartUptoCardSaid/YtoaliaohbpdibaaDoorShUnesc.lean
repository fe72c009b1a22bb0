/- Show: the escape at the front of a text. -/
import Derived.Test.YtoaliaohbpdibaaDoorShHex
import Derived.Test.YtoaliaohbpdibaaDoorShSign
import Derived.Lib.Strings
namespace Go.Proofs.YtoaliaohbpdibaaDoor
open Go.RowKit
set_option linter.unusedVariables false
set_option linter.unusedSimpArgs false
namespace Sh
/-- The library's variable of a fault of syntax holds something. -/
def Err (w : World) : Prop := ∃ ev, w.cell? ⟨2, 0, none⟩ = some ev ∧ (ev = .nilIface ∨ ∃ te pe, ev = .iface te pe)
theorem Err.lt {w : World} (h : Err w) : 2 < w.heap.size := by
  obtain ⟨ev, h, _⟩ := h
  exact World.block_lt_of_cell? _ _ h
theorem Err.below {w w' : World} {B : Nat} (h : Err w) (hb : Below B w w') (hB : 2 < B) : Err w' := by
  obtain ⟨ev, h, h2⟩ := h
  exact ⟨ev, by rw [hb.cell (p := ⟨2, 0, none⟩) hB]; exact h, h2⟩
theorem below_bytes (w : World) (e : TypeId) (s : ByteArray) : Below w.heap.size w (Lib.bytesWorld w e s) := by
  refine ⟨?_, ?_, ?_, by rw [Lib.bytesWorld_size]; omega, fun k hk => Lib.bytesWorld_at_old w e s k hk⟩
  all_goals
    unfold Lib.bytesWorld World.freeze
    split <;> rfl
set_option maxRecDepth 100000 in
theorem parseU_ok (t : ByteArray) (ht : t.size = 2) (n : Nat) (hn : hexF 0 t.data.toList = some n) (w : World) :
    Calls Tryd.prog 42 #[.string t, .int .i64 16, .int .i64 8] w fun e w' => e = .returned (.tuple #[.int .u64 (n : Int), .nilIface]) ∧ Below w.heap.size w w' := by
  have hp := parse16 t ht w
  rw [hn] at hp
  have HP := Lib.hid hp
  have HB := Lib.hid (below_bytes w 5 t)
  clear hp ht hn
  go_enter Tryd.func42, Tryd.ntmps42
  go_wp2_with (go_at_call 51; refine HP.out.mono ?_; rintro e w' ⟨rfl, rfl⟩; simp only [hexT])
  go_ret2
  exact ⟨rfl, HB.out⟩
set_option maxRecDepth 100000 in
theorem parseU_bad (t : ByteArray) (ht : t.size = 2) (hn : hexF 0 t.data.toList = none) (w : World) (hE : Err w) :
    Calls Tryd.prog 42 #[.string t, .int .i64 16, .int .i64 8] w fun e w' => ∃ N, e = .returned (.tuple #[.int .u64 0, .iface 74 (.pointer (some ⟨N, 0, none⟩))]) ∧ Below w.heap.size w w' := by
  have hp := parse16 t ht w
  rw [hn] at hp
  have HP := Lib.hid hp
  have HB := Lib.hid (below_bytes w 5 t)
  obtain ⟨ev, he, hev⟩ := Err.below hE HB.out hE.lt
  have HQ := Lib.hid (fun fn => Tryd.strconv_toError_syntax fn t 16 8 ev _ (by omega) he hev)
  clear hp ht hn he hev hE
  go_enter Tryd.func42, Tryd.ntmps42
  go_wp2_with (go_at_call 51; refine HP.out.mono ?_; rintro e w' ⟨rfl, rfl⟩; simp only [hexT])
  refine (HQ.out _).mono ?_
  rintro e w2 ⟨N, rfl, _, _, hb2⟩
  have H2 := Lib.hid (HB.out.trans (hb2.mono (by rw [Lib.bytesWorld_size]; omega)))
  clear hb2
  go_wp2
  go_ret2
  exact ⟨_, rfl, H2.out⟩
/-- The escape at the front, and how long it is (0: there is none). -/
def escR (l : List UInt8) : UInt8 × Nat :=
  match l with
  | a :: b :: r =>
    if a ≠ 92 then (0, 0) else if b = 92 then (92, 2) else if b = 39 then (39, 2) else if b = 110 then (10, 2) else if b = 116 then (9, 2) else if b = 114 then (13, 2)
    else if b ≠ 120 then (0, 0) else
      match r with
      | c :: d :: _ => match hexF 0 [c, d] with | some n => (n.toUInt8, 4) | none => (0, 0)
      | _ => (0, 0)
  | _ => (0, 0)
/-- What escape answers. -/
def EscPost (w : World) (c : UInt8) (n : Nat) (e : Ending) (w' : World) : Prop := e = .returned (.tuple #[.int .u8 (c.toNat : Int), .int .i64 (n : Int)]) ∧ Below w.heap.size w w'
theorem index_letters (c : UInt8) (h1 : c ≠ 92) (h2 : c ≠ 39) (h3 : c ≠ 110) (h4 : c ≠ 116) (h5 : c ≠ 114) : Lib.indexByte [92, 39, 110, 116, 114] c = -1 := by
  simp [Lib.indexByte, Ne.symm h1, Ne.symm h2, Ne.symm h3, Ne.symm h4, Ne.symm h5]
set_option maxRecDepth 100000 in
theorem esc_short (s : ByteArray) (w : World) (h : s.size < 2) : Calls Tryd.prog 24 #[.string s] w (EscPost w 0 0) := by
  have h2 : (s.size : Int) < 2 := by omega
  go_enter Tryd.func24, Tryd.ntmps24
  go_wp2
  go_ret2
  exact ⟨rfl, Below.refl _ _⟩
set_option maxRecDepth 100000 in
theorem esc_plain (s : ByteArray) (w : World) (h : 2 ≤ s.size) (h0 : (s[0].toNat : Int) ≠ 92) : Calls Tryd.prog 24 #[.string s] w (EscPost w 0 0) := by
  have h2 : 2 ≤ (s.size : Int) := by omega
  have h3 : ((s[0].toNat : Int) == 92) = false := by simpa using h0
  have h4 : ((s[0].toNat : Int) != 92) = true := by simpa using h0
  have hlt : (0 : Nat) < s.size := by omega
  clear h0
  go_enter Tryd.func24, Tryd.ntmps24
  go_wp2
  go_ret2
  exact ⟨rfl, Below.refl _ _⟩
set_option maxRecDepth 100000 in
theorem esc_letter (s : ByteArray) (w : World) (h : 2 ≤ s.size) (h0 : (s[0].toNat : Int) = 92) (c l : UInt8) (h1 : s[1] = c) (i : Nat) (hi5 : i < 5) (hi : Lib.indexByte [92, 39, 110, 116, 114] c = i)
    (hl : (⟨#[92, 39, 10, 9, 13]⟩ : ByteArray).data.toList.getD i 0 = l) : Calls Tryd.prog 24 #[.string s] w (EscPost w l 2) := by
  have h2 : 2 ≤ (s.size : Int) := by omega
  have hlt : (0 : Nat) < s.size := by omega
  have hlt1 : (1 : Nat) < s.size := by omega
  have HI := fun V => (Tryd.strings_IndexByte ⟨#[92, 39, 110, 116, 114]⟩ (s[1].toNat : Int) V).mono fun _ _ h => And.intro h.1 h.2.symm
  have hc : ((s[1].toNat : Int).toNat.toUInt8) = c := by simp [h1]
  rw [hc] at HI
  rw [show (⟨#[92, 39, 110, 116, 114]⟩ : ByteArray).data.toList = [92, 39, 110, 116, 114] from rfl, hi] at HI
  have hi6 : (i : Int) < 5 := by omega
  have hi7 : 0 ≤ (i : Int) ∧ (i : Int) < 5 := by omega
  have HL := Lib.hid hl
  clear hc hi hl h1
  go_enter Tryd.func24, Tryd.ntmps24
  go_wp2_with (go_at_call 41; refine (HI _).mono ?_; rintro e w' ⟨rfl, rfl⟩)
  go_ret2
  refine ⟨?_, Below.refl _ _⟩
  have h5 : i = 0 ∨ i = 1 ∨ i = 2 ∨ i = 3 ∨ i = 4 := by omega
  rw [← HL.out]
  rcases h5 with rfl | rfl | rfl | rfl | rfl <;> rfl
set_option maxRecDepth 100000 in
theorem esc_none (s : ByteArray) (w : World) (h : 2 ≤ s.size) (h0 : (s[0].toNat : Int) = 92) (hi : Lib.indexByte [92, 39, 110, 116, 114] s[1] = -1) (hx : s.size < 4 ∨ (s[1].toNat : Int) ≠ 120) : Calls Tryd.prog 24 #[.string s] w (EscPost w 0 0) := by
  have h2 : 2 ≤ (s.size : Int) := by omega
  have hlt : (0 : Nat) < s.size := by omega
  have hlt1 : (1 : Nat) < s.size := by omega
  have HI := fun V => (Tryd.strings_IndexByte ⟨#[92, 39, 110, 116, 114]⟩ (s[1].toNat : Int) V).mono fun _ _ h => And.intro h.1 h.2.symm
  have hc : ((s[1].toNat : Int).toNat.toUInt8) = s[1] := by simp
  rw [hc] at HI
  rw [show (⟨#[92, 39, 110, 116, 114]⟩ : ByteArray).data.toList = [92, 39, 110, 116, 114] from rfl, hi] at HI
  clear hc hi
  by_cases h4 : s.size < 4
  · have h4i : (s.size : Int) < 4 := by omega
    clear hx
    go_enter Tryd.func24, Tryd.ntmps24
    go_wp2_with (go_at_call 41; refine (HI _).mono ?_; rintro e w' ⟨rfl, rfl⟩)
    go_ret2
    exact ⟨rfl, Below.refl _ _⟩
  · have h4i : 4 ≤ (s.size : Int) := by omega
    have hx : (s[1].toNat : Int) ≠ 120 := by omega
    have h5 : ((s[1].toNat : Int) == 120) = false := by simpa using hx
    have h6 : ((s[1].toNat : Int) != 120) = true := by simpa using hx
    clear hx
    go_enter Tryd.func24, Tryd.ntmps24
    go_wp2_with (go_at_call 41; refine (HI _).mono ?_; rintro e w' ⟨rfl, rfl⟩)
    go_ret2
    exact ⟨rfl, Below.refl _ _⟩
set_option maxRecDepth 100000 in
theorem esc_hex (s : ByteArray) (w : World) (h : 4 ≤ s.size) (h0 : (s[0].toNat : Int) = 92) (h1 : (s[1].toNat : Int) = 120) (hE : Err w) (n : Nat) (hn : n < 256) (hx : hexF 0 (s.extract 2 4).data.toList = some n) : Calls Tryd.prog 24 #[.string s] w (EscPost w n.toUInt8 4) := by
  have h2 : 4 ≤ (s.size : Int) := by omega
  have hlt : (0 : Nat) < s.size := by omega
  have hlt1 : (1 : Nat) < s.size := by omega
  have HI := fun V => (Tryd.strings_IndexByte ⟨#[92, 39, 110, 116, 114]⟩ 120 V).mono fun _ _ h => And.intro h.1 h.2.symm
  rw [show Lib.indexByte (⟨#[92, 39, 110, 116, 114]⟩ : ByteArray).data.toList (Int.toNat 120).toUInt8 = -1 from rfl] at HI
  have hsz : (s.extract 2 4).size = 2 := by simp; omega
  have HP := Lib.hid (parseU_ok (s.extract 2 4) hsz n hx w)
  have HN := Lib.hid hn
  clear hx hsz hE
  have hn' : (n : Int) < 256 := by omega
  go_enter Tryd.func24, Tryd.ntmps24
  go_wp2_with (first | (go_at_call 41; refine (HI _).mono ?_; rintro e w' ⟨rfl, rfl⟩) | (go_at_call 42; refine HP.out.mono ?_; rintro e w' ⟨rfl, hb⟩))
  go_ret2
  refine ⟨?_, hb⟩
  have : (n.toUInt8.toNat : Int) = n := by simp; omega
  rw [this]
  rfl
set_option maxRecDepth 100000 in
theorem esc_nohex (s : ByteArray) (w : World) (h : 4 ≤ s.size) (h0 : (s[0].toNat : Int) = 92) (h1 : (s[1].toNat : Int) = 120) (hE : Err w) (hx : hexF 0 (s.extract 2 4).data.toList = none) : Calls Tryd.prog 24 #[.string s] w (EscPost w 0 0) := by
  have h2 : 4 ≤ (s.size : Int) := by omega
  have hlt : (0 : Nat) < s.size := by omega
  have hlt1 : (1 : Nat) < s.size := by omega
  have HI := fun V => (Tryd.strings_IndexByte ⟨#[92, 39, 110, 116, 114]⟩ 120 V).mono fun _ _ h => And.intro h.1 h.2.symm
  rw [show Lib.indexByte (⟨#[92, 39, 110, 116, 114]⟩ : ByteArray).data.toList (Int.toNat 120).toUInt8 = -1 from rfl] at HI
  have hsz : (s.extract 2 4).size = 2 := by simp; omega
  have HP := Lib.hid (parseU_bad (s.extract 2 4) hsz hx w hE)
  clear hx hsz hE
  go_enter Tryd.func24, Tryd.ntmps24
  go_wp2_with (first | (go_at_call 41; refine (HI _).mono ?_; rintro e w' ⟨rfl, rfl⟩) | (go_at_call 42; refine HP.out.mono ?_; rintro e w' ⟨N, rfl, hb⟩))
  go_ret2
  exact ⟨rfl, hb⟩
theorem hexF_two (c d : UInt8) (n : Nat) (h : hexF 0 [c, d] = some n) : n < 256 := by
  unfold hexF at h
  split at h
  · unfold hexF at h
    split at h
    · unfold hexF at h
      simp at h
      omega
    · cases h
  · cases h
theorem escape_any (s : ByteArray) (w : World) (hE : Err w) : Calls Tryd.prog 24 #[.string s] w (EscPost w (escR s.data.toList).1 (escR s.data.toList).2) := by
  by_cases h : s.size < 2
  · have e : escR s.data.toList = (0, 0) := by
      have : s.data.toList.length = s.size := by simp
      rcases hl : s.data.toList with _ | ⟨a, _ | ⟨b, r⟩⟩
      · rfl
      · rfl
      · rw [hl] at this; simp at this; omega
    rw [e]
    exact esc_short s w h
  · have hlen : s.data.toList.length = s.size := by simp
    have g0 := getD_at s 0 (by omega)
    have g1 := getD_at s 1 (by omega)
    obtain ⟨a, b, r, hl⟩ : ∃ a b r, s.data.toList = a :: b :: r := by
      rcases hl : s.data.toList with _ | ⟨a, _ | ⟨b, r⟩⟩
      · rw [hl] at hlen; simp at hlen; omega
      · rw [hl] at hlen; simp at hlen; omega
      · exact ⟨a, b, r, rfl⟩
    rw [hl] at g0 g1
    simp only [List.getD_cons_zero, List.getD_cons_succ] at g0 g1
    rw [hl]
    unfold escR
    simp only
    by_cases ha : a = 92
    · have h0 : (s[0].toNat : Int) = 92 := by rw [← g0, ha]; rfl
      rw [if_neg (by simpa using ha)]
      by_cases b1 : b = 92
      · rw [if_pos b1]; exact esc_letter s w (by omega) h0 92 92 (by rw [← g1, b1]) 0 (by omega) rfl rfl
      rw [if_neg b1]
      by_cases b2 : b = 39
      · rw [if_pos b2]; exact esc_letter s w (by omega) h0 39 39 (by rw [← g1, b2]) 1 (by omega) rfl rfl
      rw [if_neg b2]
      by_cases b3 : b = 110
      · rw [if_pos b3]; exact esc_letter s w (by omega) h0 110 10 (by rw [← g1, b3]) 2 (by omega) rfl rfl
      rw [if_neg b3]
      by_cases b4 : b = 116
      · rw [if_pos b4]; exact esc_letter s w (by omega) h0 116 9 (by rw [← g1, b4]) 3 (by omega) rfl rfl
      rw [if_neg b4]
      by_cases b5 : b = 114
      · rw [if_pos b5]; exact esc_letter s w (by omega) h0 114 13 (by rw [← g1, b5]) 4 (by omega) rfl rfl
      rw [if_neg b5]
      have hi : Lib.indexByte [92, 39, 110, 116, 114] s[1] = -1 := by rw [← g1]; exact index_letters b b1 b2 b3 b4 b5
      by_cases b6 : b = 120
      · rw [if_neg (by simpa using b6)]
        have h1 : (s[1].toNat : Int) = 120 := by rw [← g1, b6]; rfl
        rcases r with _ | ⟨c, _ | ⟨d, r⟩⟩
        · exact esc_none s w (by omega) h0 hi (.inl (by rw [hl] at hlen; simp at hlen; omega))
        · exact esc_none s w (by omega) h0 hi (.inl (by rw [hl] at hlen; simp at hlen; omega))
        · have hs4 : 4 ≤ s.size := by rw [hl] at hlen; simp at hlen; omega
          have hex : (s.extract 2 4).data.toList = [c, d] := by rw [Lib.extract_data, hl]; rfl
          simp only
          cases hq : hexF 0 [c, d] with
          | none =>
            exact esc_nohex s w hs4 h0 h1 hE (by rw [hex, hq])
          | some n =>
            exact esc_hex s w hs4 h0 h1 hE n (hexF_two c d n hq) (by rw [hex, hq])
      · rw [if_pos (by simpa using b6)]
        refine esc_none s w (by omega) h0 hi (.inr fun h1 => b6 ?_)
        rw [g1]
        exact UInt8.toNat_inj.1 (by simpa using (by omega : s[1].toNat = 120))
    · rw [if_pos (by simpa using ha)]
      refine esc_plain s w (by omega) fun h0 => ha ?_
      rw [g0]
      exact UInt8.toNat_inj.1 (by simpa using (by omega : s[0].toNat = 92))
end Sh
end Go.Proofs.YtoaliaohbpdibaaDoor
