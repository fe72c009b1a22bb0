/- Keys: any value's key is written behind; Key. -/
import Derived.Test.YtepfihanhdinfaaDoorRkPutM
import Derived.Test.YtepfihanhdinfaaDoorValChk
import Derived.Lib.BufferRead
import Derived.Lib.SlBytesRow
namespace Go.Proofs.YtepfihanhdinfaaDoor
open Go.RowKit
set_option linter.unusedVariables false
set_option linter.unusedSimpArgs false
namespace Rk
open Val (VT Keeps Box okN okNL szV szL szK mayB)
theorem put_all : ∀ N, PutIH N
  | 0 => fun t _ _ _ _ _ _ h => by have := t.parts_pos; omega
  | N + 1 => fun t v u bs B C w hN hIn hBC hC hb hok hg hlen hsz hX hMC => by
    have IH := put_all N
    obtain ⟨k, b, n, s, l, ks⟩ := t
    have hx := hIn
    unfold VT.In at hx
    obtain ⟨pl, cl, pk, ck, rfl, h1, h2, h3, h4, hks, hl⟩ := hx
    unfold goodV at hg
    unfold okN at hok
    unfold szV at hsz
    rw [VT.parts] at hN
    have hp : ∀ x, x ∈ l → x.parts ≤ N := fun x hx => by have := VT.parts_mem hx; omega
    obtain ⟨⟨⟨hk0, hk7⟩, hg5, hg67⟩, hgl⟩ := hg
    have hlb : bs.length + 40 ≤ 35184372088872 := by omega
    unfold keyB at hlen ⊢
    by_cases k5 : k = 5
    · subst k5
      rw [if_pos rfl] at hlen ⊢
      have hkl := hg5 rfl
      rw [hkl] at h3 ⊢
      refine put_map C u bs b n s pl pk l.length cl l.length ck w hb hC hlb (partsK l true ks ++ [0]) (Lib.hid fun V u' hT hS => ?_)
      have keep : ∀ q : Addr, q.block < B → V.cell? q = w.cell? q := fun q hq => hS.low.cell (Nat.lt_of_lt_of_le hq hBC)
      refine map_step b n s l ks N B C pl pk l.length cl ck u' (bs ++ [1]) V (Lib.hid IH) (Lib.hid hp) (Lib.hid rfl) (Lib.hid hkl) (Lib.hid fun h0 => by
        obtain ⟨bl, ol, e1, e2, e3⟩ := hl h0
        exact ⟨bl, ol, e1, e2, VT.InL.keep keep e2 e3⟩) (Lib.hid (hks.keep keep)) hBC (hS.hC hC) hS.buf (Lib.hid hok.2) (Lib.hid hgl) (Lib.hid ?_) (Lib.hid (by omega)) (Lib.hid (MaxAt.low hX hS.low hMC)) hMC (by omega)
      simp only [List.length_cons, List.length_append, List.length_nil] at hlen ⊢
      omega
    rw [if_neg k5] at hlen ⊢
    by_cases k6 : k = 6
    · subst k6
      rw [if_pos rfl] at hlen ⊢
      exact put_node C u bs b n s pl pk l.length cl ks.length ck w hb hC hlb ⟨by have := hg67 (.inl rfl); omega, hok.1.2⟩
    rw [if_neg k6] at hlen ⊢
    by_cases k7 : k = 7
    · subst k7
      rw [if_pos rfl] at hlen ⊢
      exact put_edge C u bs b n s pl pk l.length cl ks.length ck w hb hC hlb ⟨by have := hg67 (.inr rfl); omega, hok.1.2⟩
    rw [if_neg k7] at hlen ⊢
    by_cases k4 : k = 4
    · subst k4
      rw [if_pos rfl] at hlen ⊢
      refine put_list C u bs b n s pl pk l.length cl ks.length ck w hb hC hlb (partsK l false [] ++ [0]) (Lib.hid fun V u' hT hS => ?_)
      have keep : ∀ q : Addr, q.block < B → V.cell? q = w.cell? q := fun q hq => hS.low.cell (Nat.lt_of_lt_of_le hq hBC)
      refine list_step l N B C pl l.length cl u' (bs ++ [4]) V (Lib.hid IH) (Lib.hid hp) (Lib.hid rfl) (Lib.hid fun h0 => by
        obtain ⟨bl, ol, e1, e2, e3⟩ := hl h0
        exact ⟨bl, ol, e1, e2, VT.InL.keep keep e2 e3⟩) hBC (hS.hC hC) hS.buf (Lib.hid hok.2) (Lib.hid hgl) (Lib.hid ?_) (Lib.hid (by omega)) (Lib.hid (MaxAt.low hX hS.low hMC)) hMC (by omega)
      simp only [List.length_cons, List.length_append, List.length_nil] at hlen ⊢
      omega
    rw [if_neg k4] at hlen ⊢
    by_cases k3 : k = 3
    · subst k3
      rw [if_pos rfl] at hlen ⊢
      exact put_str C u bs b n s pl pk l.length cl ks.length ck w hb hC hlb (by omega) hX hMC
    rw [if_neg k3] at hlen ⊢
    by_cases k1 : k = 1
    · subst k1
      rw [if_pos rfl] at hlen ⊢
      exact put_bool C u bs b n s pl pk l.length cl ks.length ck w hb hC hlb
    rw [if_neg k1] at hlen ⊢
    by_cases k2 : k = 2
    · subst k2
      rw [if_pos rfl] at hlen ⊢
      exact put_int C u bs b n s pl pk l.length cl ks.length ck w hb hC hlb hok.1
    rw [if_neg k2] at hlen ⊢
    obtain rfl : k = 0 := by omega
    exact put_null C u bs b n s pl pk l.length cl ks.length ck w hb hC hlb
/-- The own row read as a text. -/
theorem conv_buf (B : Nat) (w : World) (v : Value) (bs : List UInt8) (h : Buf B w v bs) (ty : TypeId) (hty : Tryd.prog.underlying ty = some .string) :
    (convert 56 ty v).run Tryd.prog w = .ok (.string ⟨bs.toArray⟩) w := by
  rcases h.2 with ⟨rfl, hn⟩ | ⟨g, cap, cur, rfl, hb, hg, hl, hm, hc, ht⟩
  · have : bs = [] := List.length_eq_zero_iff.1 hn
    subst this
    exact Lib.run_convert_nil_bytes w 56 ty 5 0 Tryd.underlying56 Tryd.underlying5 hty
  · rw [Nat.mul_one] at ht
    exact run_convert_bytes_back w 56 ty 5 ⟨g, 0, none⟩ cap bs Tryd.underlying56 Tryd.underlying5 hty (Lib.bytes_of_row hg ht)
/-- The key of a value that may be, or that it may not be. -/
def keyOf (t : VT) : ByteArray := if mayB t then ⟨(keyB t).toArray⟩ else ByteArray.empty
def errOf (t : VT) : Int := if mayB t then 0 else 20
theorem MaxAt.zero {w : World} (h : MaxAt w) : 0 < w.heap.size := by
  obtain ⟨m, hm⟩ := h
  exact World.block_lt_of_cell? _ _ hm
set_option maxHeartbeats 2000000 in
set_option maxRecDepth 100000 in
theorem key_any (t : VT) (v : Value) (B : Nat) (w : World) (hIn : VT.In w B t v) (hB : B ≤ w.heap.size) (hok : okN t) (hsz : szV t ≤ 1073741824) (hX : MaxAt w) :
    Calls Tryd.prog 18 #[v] w fun e w' => e = .returned (.tuple #[.string (keyOf t), .int .i64 (errOf t)]) ∧ Below w.heap.size w w' := by
  have HC := Lib.hid (fun V (hV : Below w.heap.size w V) => Val.check_any t v B V (hIn.keep fun q hq => hV.cell (Nat.lt_of_lt_of_le hq hB)) (Nat.le_trans hB hV.size))
  rw [Val.may_walk] at HC
  unfold keyOf errOf
  cases hm : mayB t with
  | false =>
    rw [hm] at HC
    obtain ⟨k, b, n, s, l, ks⟩ := t
    have hx := hIn
    unfold VT.In at hx
    obtain ⟨pl, cl, pk, ck, rfl, h1, h2, h3, h4, hks, hl⟩ := hx
    obtain ⟨nl, hnl⟩ : ∃ m, l.length = m := ⟨_, rfl⟩
    obtain ⟨nk, hnk⟩ : ∃ m, ks.length = m := ⟨_, rfl⟩
    rw [hnl, hnk] at HC ⊢
    clear hIn hok hsz hX hB hm h1 h2 h3 h4 hks hl
    have hb0 : Below w.heap.size w (w.alloc (.cells #[.int .i64 k, .bool b, .int .i64 n, .string s, .slice pl nl cl, .slice pk nk ck] 26)) := (Below.refl _ w).alloc (Nat.le_refl _) _
    have HC1 := Lib.hid (HC.out _ hb0)
    have HB0 := Lib.hid hb0
    clear hb0
    go_enter Tryd.func18, Tryd.ntmps18
    go_wp2_with fail
    refine HC1.out.mono ?_
    rintro e w1 ⟨rfl, hb1⟩
    have HB1 := Lib.hid (HB0.out.trans (hb1.mono (by simp)))
    clear hb1
    go_wp2
    go_ret2
    exact ⟨rfl, HB1.out⟩
  | true =>
    rw [hm] at HC
    obtain ⟨hgood, hparts⟩ := mayB_good t hm
    have hlen := keyB_len t hgood
    have PT := Lib.hid (fun (V : World) (hV : Below w.heap.size w V) => put_all 4096 t v (.slice none 0 0) [] B w.heap.size V hparts (hIn.keep fun q hq => hV.cell (Nat.lt_of_lt_of_le hq hB)) hB hV.size (Buf.nil _ _) hok hgood (by rw [List.length_nil]; omega) (by omega) (MaxAt.low hX hV hX.zero) hX.zero)
    obtain ⟨q, hq⟩ : ∃ q : ByteArray, (⟨(keyB t).toArray⟩ : ByteArray) = q := ⟨_, rfl⟩
    rw [hq]
    have HQ := Lib.hid hq
    obtain ⟨KB, hKB⟩ : ∃ KB, keyB t = KB := ⟨_, rfl⟩
    rw [hKB] at PT HQ
    obtain ⟨k, b, n, s, l, ks⟩ := t
    have hx := hIn
    unfold VT.In at hx
    obtain ⟨pl, cl, pk, ck, rfl, h1, h2, h3, h4, hks, hl⟩ := hx
    obtain ⟨nl, hnl⟩ : ∃ m, l.length = m := ⟨_, rfl⟩
    obtain ⟨nk, hnk⟩ : ∃ m, ks.length = m := ⟨_, rfl⟩
    rw [hnl, hnk] at HC PT ⊢
    clear hIn hok hsz hX hB hm h1 h2 h3 h4 hks hl hq hKB hgood hparts hlen
    have hb0 : Below w.heap.size w (w.alloc (.cells #[.int .i64 k, .bool b, .int .i64 n, .string s, .slice pl nl cl, .slice pk nk ck] 26)) := (Below.refl _ w).alloc (Nat.le_refl _) _
    have HC1 := Lib.hid (HC.out _ hb0)
    have HB0 := Lib.hid hb0
    clear hb0
    go_enter Tryd.func18, Tryd.ntmps18
    go_wp2_with fail
    refine HC1.out.mono ?_
    rintro e w1 ⟨rfl, hb1⟩
    have hbox : Box w1 w.heap.size #[.int .i64 k, .bool b, .int .i64 n, .string s, .slice pl nl cl, .slice pk nk ck] := (hb1.block _ (by simp)).trans (Box.new w _)
    obtain ⟨c0, c1, c2, c3, c4, c5⟩ := hbox.cell
    have HB1 := Lib.hid (HB0.out.trans (hb1.mono (by simp)))
    clear hb1 hbox
    go_wp2_with fail
    refine (PT.out w1 HB1.out).mono ?_
    rintro e w2 ⟨u, rfl, hs⟩
    have hcv := conv_buf w.heap.size w2 u _ hs.buf 9 Tryd.underlying9
    rw [List.nil_append, HQ.out] at hcv
    have HB2 := Lib.hid (HB1.out.trans hs.low)
    clear c0 c1 c2 c3 c4 c5 hs
    go_wp2
    go_ret2
    exact ⟨rfl, HB2.out⟩
end Rk
end Go.Proofs.YtepfihanhdinfaaDoor
