/- Values as bytes: any value's bytes are written behind; Encode. -/
import Derived.Test.YtmhlipncelgmlaaPkPutM
import Derived.Test.YtmhlipncelgmlaaValChk
import Derived.Lib.BufferRead
import Derived.Lib.SlBytesRow
namespace Go.Proofs.Ytmhlipncelgmlaa
open Go.RowKit
set_option linter.unusedVariables false
set_option linter.unusedSimpArgs false
namespace Pk
open Val (VT Keeps Box okN okNL szV szL szK mayB)
open Rk (Buf Sk RkPost infoB info_parts lit_one one_one ba_len box_kept goodV goodL goodL_at kept_of_below)
theorem put_all : ∀ N, PutIH N
  | 0 => fun t _ _ _ _ _ _ h => by have := t.parts_pos; omega
  | N + 1 => fun t v u bs B C w hN hIn hBC hC hb hok hg hlen => by
    have IH := put_all N
    obtain ⟨k, b, n, s, l, ks⟩ := t
    have hx := hIn
    unfold VT.In at hx
    obtain ⟨pl, cl, pk, ck, rfl, h1, h2, h3, h4, hks, hl⟩ := hx
    unfold goodV at hg
    unfold okN at hok
    rw [VT.parts] at hN
    have hp : ∀ x, x ∈ l → x.parts ≤ N := fun x hx => by have := VT.parts_mem hx; omega
    obtain ⟨⟨⟨hk0, hk7⟩, hg5, hg67⟩, hgl⟩ := hg
    have hlb : bs.length + 40 ≤ 35184372088872 := by omega
    unfold packB at hlen ⊢
    by_cases k5 : k = 5
    · subst k5
      rw [if_pos rfl] at hlen ⊢
      have hkl := hg5 rfl
      rw [hkl] at h3 hlen ⊢
      refine put_map C u bs b n s pl pk l.length cl l.length ck w hb hC hlb (sevL l.length ++ partsP l true ks) (Lib.hid fun V u' hT hS => ?_)
      have keep : ∀ q : Addr, q.block < B → V.cell? q = w.cell? q := fun q hq => hS.low.cell (Nat.lt_of_lt_of_le hq hBC)
      refine map_step b n s l ks N B C pl pk l.length cl ck u' (bs ++ [6]) V (Lib.hid IH) (Lib.hid hp) (Lib.hid rfl) (Lib.hid hkl) (Lib.hid fun h0 => by
        obtain ⟨bl, ol, e1, e2, e3⟩ := hl h0
        exact ⟨bl, ol, e1, e2, VT.InL.keep keep e2 e3⟩) (Lib.hid (hks.keep keep)) hBC (hS.hC hC) hS.buf (Lib.hid hok.2) (Lib.hid hgl) (Lib.hid ?_) (by omega)
      simp only [List.length_cons, List.length_append, List.length_nil] at hlen ⊢
      omega
    rw [if_neg k5] at hlen ⊢
    by_cases k6 : k = 6
    · subst k6
      rw [if_pos rfl] at hlen ⊢
      exact put_node C u bs b n s pl pk l.length cl ks.length ck w hb hC hlb ⟨by have := hg67 (.inl rfl); omega, hok.1.2⟩
    rw [if_neg k6] at hlen ⊢
    by_cases k7 : k = 7
    · subst k7
      rw [if_pos rfl] at hlen ⊢
      exact put_edge C u bs b n s pl pk l.length cl ks.length ck w hb hC hlb ⟨by have := hg67 (.inr rfl); omega, hok.1.2⟩
    rw [if_neg k7] at hlen ⊢
    by_cases k4 : k = 4
    · subst k4
      rw [if_pos rfl] at hlen ⊢
      refine put_list C u bs b n s pl pk l.length cl ks.length ck w hb hC hlb (sevL l.length ++ partsP l false []) (Lib.hid fun V u' hT hS => ?_)
      have keep : ∀ q : Addr, q.block < B → V.cell? q = w.cell? q := fun q hq => hS.low.cell (Nat.lt_of_lt_of_le hq hBC)
      refine list_step l N B C pl l.length cl u' (bs ++ [5]) V (Lib.hid IH) (Lib.hid hp) (Lib.hid rfl) (Lib.hid fun h0 => by
        obtain ⟨bl, ol, e1, e2, e3⟩ := hl h0
        exact ⟨bl, ol, e1, e2, VT.InL.keep keep e2 e3⟩) hBC (hS.hC hC) hS.buf (Lib.hid hok.2) (Lib.hid hgl) (Lib.hid ?_) (by omega)
      simp only [List.length_cons, List.length_append, List.length_nil] at hlen ⊢
      omega
    rw [if_neg k4] at hlen ⊢
    by_cases k3 : k = 3
    · subst k3
      rw [if_pos rfl] at hlen ⊢
      refine put_str C u bs b n s pl pk l.length cl ks.length ck w hb hC ?_
      unfold textB at hlen
      simp only [List.length_cons, List.length_append, ba_len] at hlen
      omega
    rw [if_neg k3] at hlen ⊢
    by_cases k1 : k = 1
    · subst k1
      rw [if_pos rfl] at hlen ⊢
      cases b with
      | true => exact put_true C u bs n s pl pk l.length cl ks.length ck w hb hC hlb
      | false => exact put_false C u bs n s pl pk l.length cl ks.length ck w hb hC hlb
    rw [if_neg k1] at hlen ⊢
    by_cases k2 : k = 2
    · subst k2
      rw [if_pos rfl] at hlen ⊢
      exact put_int C u bs b n s pl pk l.length cl ks.length ck w hb hC hlb hok.1
    rw [if_neg k2] at hlen ⊢
    obtain rfl : k = 0 := by omega
    exact put_null C u bs b n s pl pk l.length cl ks.length ck w hb hC hlb
/-! ### How long the bytes are -/
theorem sevL_le : ∀ (n : Nat), (sevL n).length ≤ n + 1 := fun n => by
  induction n using Nat.strongRecOn with
  | ind n ih =>
    by_cases h : n < 128
    · rw [sevL_lt h]; simp
    · rw [sevL_ge h]
      have := ih (n / 128) (by omega)
      simp only [List.length_cons]
      omega
theorem textB_len (s : ByteArray) : (textB s).length ≤ 2 * s.size + 1 := by
  unfold textB
  have := sevL_le s.size
  rw [List.length_append, ba_len]
  omega
mutual
theorem packB_len : ∀ (t : VT), goodV t → okN t → (packB t).length + 10 ≤ szV t
  | .mk k b n s l ks, g, o => by
    unfold goodV at g
    unfold okN at o
    have h2 := textB_len s
    have h3 := partsP_len l false [] g.2 o.2 (by simp)
    have h4 : k = 5 → (partsP l true ks).length + l.length ≤ szL l + szK ks := fun hk => partsP_len l true ks g.2 o.2 (fun _ => by have := g.1.2.1 hk; omega)
    have h5 := sevL_le l.length
    have h6 : (sevL n.toNat).length ≤ 10 := sevL_len10 (by have := o.1; omega)
    have h7 : (sevL (foldN n)).length ≤ 10 := sevL_len10 (foldN_le o.1)
    unfold packB szV
    simp only [szK] at h3
    by_cases k5 : k = 5
    · have := h4 k5; rw [if_pos k5, g.1.2.1 k5]; simp only [List.length_cons, List.length_append, List.length_nil]; omega
    rw [if_neg k5]
    by_cases k6 : k = 6
    · rw [if_pos k6]; simp only [List.length_cons]; omega
    rw [if_neg k6]
    by_cases k7 : k = 7
    · rw [if_pos k7]; simp only [List.length_cons]; omega
    rw [if_neg k7]
    by_cases k4 : k = 4
    · rw [if_pos k4]; simp only [List.length_cons, List.length_append, List.length_nil]; omega
    rw [if_neg k4]
    by_cases k3 : k = 3
    · rw [if_pos k3]; simp only [List.length_cons]; omega
    rw [if_neg k3]
    by_cases k1 : k = 1
    · rw [if_pos k1]; simp; omega
    rw [if_neg k1]
    by_cases k2 : k = 2
    · rw [if_pos k2]; simp only [List.length_cons]; omega
    rw [if_neg k2]
    simp; omega
theorem partsP_len : ∀ (l : List VT) (m : Bool) (ks : List ByteArray), goodL l → okNL l → (m = true → l.length ≤ ks.length) → (partsP l m ks).length + l.length ≤ szL l + szK ks
  | [], m, ks, _, _, _ => by simp [partsP]
  | t :: ts, m, ks, g, o, hm => by
    unfold goodL at g
    unfold okNL at o
    have h1 := packB_len t g.1 o.1
    unfold partsP szL
    simp only [List.length_append, List.length_cons]
    cases m with
    | false =>
      have h2 := partsP_len ts false ks.tail g.2 o.2 (by simp)
      have h6 : szK ks.tail ≤ szK ks := by
        cases ks with
        | nil => simp
        | cons x ks => rw [List.tail_cons, szK]; omega
      simp
      omega
    | true =>
      have h3 := hm rfl
      cases ks with
      | nil => simp at h3
      | cons x ks =>
        have h2 := partsP_len ts true ks g.2 o.2 (fun _ => by simp at h3; omega)
        have h4 := textB_len x
        simp only [List.headD_cons, List.tail_cons, if_true, szK]
        omega
end
/-- The own row read as a text. -/
theorem conv_buf (B : Nat) (w : World) (v : Value) (bs : List UInt8) (h : Buf B w v bs) (ty : TypeId) (hty : Try.prog.underlying ty = some .string) :
    (convert 27 ty v).run Try.prog w = .ok (.string ⟨bs.toArray⟩) w := by
  rcases h.2 with ⟨rfl, hn⟩ | ⟨g, cap, cur, rfl, hb, hg, hl, hm, hc, ht⟩
  · have : bs = [] := List.length_eq_zero_iff.1 hn
    subst this
    exact Lib.run_convert_nil_bytes w 27 ty 5 0 Try.underlying27 Try.underlying5 hty
  · rw [Nat.mul_one] at ht
    exact run_convert_bytes_back w 27 ty 5 ⟨g, 0, none⟩ cap bs Try.underlying27 Try.underlying5 hty (Lib.bytes_of_row hg ht)
/-- What Encode comes to: a value that may be, as its bytes in a row of the call's own; or it is refused. -/
def encB (t : VT) : List UInt8 := if mayB t then packB t else []
def errOf (t : VT) : Int := if mayB t then 0 else 20
def EncPost (t : VT) (w : World) (e : Ending) (w' : World) : Prop := ∃ u, e = .returned (.tuple #[u, .int .i64 (errOf t)]) ∧ Sk w.heap.size w w' u (encB t)
set_option maxHeartbeats 2000000 in
set_option maxRecDepth 100000 in
theorem encode_any (t : VT) (v : Value) (B : Nat) (w : World) (hIn : VT.In w B t v) (hB : B ≤ w.heap.size) (hok : okN t) (hsz : szV t ≤ 17592186044416) :
    Calls Try.prog 14 #[v] w fun e w' => EncPost t w e w' := by
  have HC := Lib.hid (fun V (hV : Below w.heap.size w V) => Val.check_any t v B V (hIn.keep fun q hq => hV.cell (Nat.lt_of_lt_of_le hq hB)) (Nat.le_trans hB hV.size))
  rw [Val.may_walk] at HC
  unfold EncPost encB errOf
  cases hm : mayB t with
  | false =>
    rw [hm] at HC
    obtain ⟨k, b, n, s, l, ks⟩ := t
    have hx := hIn
    unfold VT.In at hx
    obtain ⟨pl, cl, pk, ck, rfl, h1, h2, h3, h4, hks, hl⟩ := hx
    obtain ⟨nl, hnl⟩ : ∃ m, l.length = m := ⟨_, rfl⟩
    obtain ⟨nk, hnk⟩ : ∃ m, ks.length = m := ⟨_, rfl⟩
    rw [hnl, hnk] at HC ⊢
    clear hIn hok hsz hB hm h1 h2 h3 h4 hks hl
    have hb0 : Below w.heap.size w (w.alloc (.cells #[.int .i64 k, .bool b, .int .i64 n, .string s, .slice pl nl cl, .slice pk nk ck] 25)) := (Below.refl _ w).alloc (Nat.le_refl _) _
    have HC1 := Lib.hid (HC.out _ hb0)
    have HB0 := Lib.hid hb0
    clear hb0
    go_enter Try.func14, Try.ntmps14
    go_wp2_with fail
    refine HC1.out.mono ?_
    rintro e w1 ⟨rfl, hb1⟩
    have HB1 := Lib.hid (HB0.out.trans (hb1.mono (by simp)))
    clear hb1
    go_wp2
    go_ret2
    exact ⟨_, rfl, Buf.nil _ _, HB1.out, kept_of_below HB1.out⟩
  | true =>
    rw [hm] at HC
    obtain ⟨hgood, hparts⟩ := Rk.mayB_good t hm
    have hlen := packB_len t hgood hok
    have PT := Lib.hid (fun (V : World) (hV : Below w.heap.size w V) => put_all 4096 t v (.slice none 0 0) [] B w.heap.size V hparts (hIn.keep fun q hq => hV.cell (Nat.lt_of_lt_of_le hq hB)) hB hV.size (Buf.nil _ _) hok hgood (by rw [List.length_nil]; omega))
    obtain ⟨KB, hKB⟩ : ∃ KB, packB t = KB := ⟨_, rfl⟩
    rw [hKB] at PT ⊢
    obtain ⟨k, b, n, s, l, ks⟩ := t
    have hx := hIn
    unfold VT.In at hx
    obtain ⟨pl, cl, pk, ck, rfl, h1, h2, h3, h4, hks, hl⟩ := hx
    obtain ⟨nl, hnl⟩ : ∃ m, l.length = m := ⟨_, rfl⟩
    obtain ⟨nk, hnk⟩ : ∃ m, ks.length = m := ⟨_, rfl⟩
    rw [hnl, hnk] at HC PT ⊢
    clear hIn hok hsz hB hm h1 h2 h3 h4 hks hl hKB hgood hparts hlen
    have hb0 : Below w.heap.size w (w.alloc (.cells #[.int .i64 k, .bool b, .int .i64 n, .string s, .slice pl nl cl, .slice pk nk ck] 25)) := (Below.refl _ w).alloc (Nat.le_refl _) _
    have HC1 := Lib.hid (HC.out _ hb0)
    have HB0 := Lib.hid hb0
    clear hb0
    go_enter Try.func14, Try.ntmps14
    go_wp2_with fail
    refine HC1.out.mono ?_
    rintro e w1 ⟨rfl, hb1⟩
    have hbox : Box w1 w.heap.size #[.int .i64 k, .bool b, .int .i64 n, .string s, .slice pl nl cl, .slice pk nk ck] := (hb1.block _ (by simp)).trans (Box.new w _)
    obtain ⟨c0, c1, c2, c3, c4, c5⟩ := hbox.cell
    have HB1 := Lib.hid (HB0.out.trans (hb1.mono (by simp)))
    clear hb1 hbox
    go_wp2_with fail
    refine (PT.out w1 HB1.out).mono ?_
    rintro e w2 ⟨u, rfl, hs⟩
    rw [List.nil_append] at hs
    have HS := Lib.hid hs
    clear c0 c1 c2 c3 c4 c5 hs
    go_wp2
    go_ret2
    exact ⟨_, rfl, HS.out.buf, HB1.out.trans HS.out.low, (kept_of_below HB1.out).trans HS.out.kept⟩
end Pk
end Go.Proofs.Ytmhlipncelgmlaa
