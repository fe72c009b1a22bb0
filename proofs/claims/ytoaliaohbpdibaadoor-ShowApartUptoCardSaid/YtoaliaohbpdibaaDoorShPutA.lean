/- Show: any value's text. -/
import Derived.Test.YtoaliaohbpdibaaDoorShPutL
import Derived.Test.YtoaliaohbpdibaaDoorShPutM
import Derived.Test.YtoaliaohbpdibaaDoorShBound
namespace Go.Proofs.YtoaliaohbpdibaaDoor
open Go.RowKit
set_option linter.unusedVariables false
set_option linter.unusedSimpArgs false
namespace Sh
open Val (VT Keeps Box okN okNL szV szL szK)
theorem szK_nn (ks : List ByteArray) : 0 ≤ szK ks := Nat.zero_le _
/-- The text of the parts does not hang on the keys of a list. -/
theorem partsB_nokeys : ∀ (l : List VT) (first : Bool) (ks : List ByteArray), partsB l false first ks = partsB l false first []
  | [], _, _ => by simp [partsB]
  | t :: ts, first, ks => by
    unfold partsB
    rw [partsB_nokeys ts false ks.tail, partsB_nokeys ts false [].tail]
    simp
theorem put_all : ∀ N, PutIH N
  | 0 => fun t _ _ _ _ _ _ h => by have := t.parts_pos; omega
  | N + 1 => fun t v u bs B C w hN hIn hBC hC hb hok hg hlen hsz hD hDC => by
    have IH := put_all N
    obtain ⟨k, b, n, s, l, ks⟩ := t
    have hx := hIn
    unfold VT.In at hx
    obtain ⟨pl, cl, pk, ck, rfl, h1, h2, h3, h4, hks, hl⟩ := hx
    unfold goodV at hg
    unfold okN at hok
    unfold szV at hsz
    rw [VT.parts] at hN
    have hp : ∀ x, x ∈ l → x.parts ≤ N := fun x hx => by have := VT.parts_mem hx; omega
    obtain ⟨⟨hk0, hk7⟩, hg5, hgl⟩ := hg
    have step : ∀ (V : World) (u' : Value) (cs : Array Value) (a : List UInt8), a.length = bs.length + 1 → bs.length + ((partsB l (k == 5) true ks).length + 2) ≤ 70368744177664 → St C w cs u bs.length V u' a → Calls Tryd.prog 48 #[u', .agg #[.int .i64 k, .bool b, .int .i64 n, .string s, .slice pl l.length cl, .slice pk ks.length ck]] V fun e w' => RowPost C V u' a.length (a ++ partsB l (k == 5) true ks) e w' := fun V u' cs a ha hl2 hS => by
      have keep : ∀ q : Addr, q.block < B → V.cell? q = w.cell? q := fun q hq => hS.low.cell (Nat.lt_of_lt_of_le hq hBC)
      exact parts_step k b n s l ks N B C pl pk l.length cl ks.length ck u' a V (Lib.hid IH) (Lib.hid hp) (Lib.hid rfl) (Lib.hid rfl) (Lib.hid fun h0 => by
        obtain ⟨bl, ol, e1, e2, e3⟩ := hl h0
        exact ⟨bl, ol, e1, e2, VT.InL.keep keep e2 e3⟩) (Lib.hid (hks.keep keep)) hBC (hS.hC hC) hS.buf (Lib.hid hok.2) (Lib.hid hgl) (fun h5 => hg5 (by simpa using h5)) (by omega) (Lib.hid (by omega)) (Digs.low hD hS.low hDC) hDC (by omega) (by omega)
    unfold showB at hlen ⊢
    by_cases k0 : k = 0
    · subst k0
      simp only [if_pos] at hlen ⊢
      exact put_null C u bs b n s pl pk l.length cl ks.length ck w hb hC (by omega)
    rw [if_neg k0] at hlen ⊢
    by_cases k1 : k = 1
    · subst k1
      rw [if_pos rfl] at hlen ⊢
      exact put_bool C u bs b n s pl pk l.length cl ks.length ck w hb hC (by omega)
    rw [if_neg k1] at hlen ⊢
    by_cases k2 : k = 2
    · subst k2
      rw [if_pos rfl] at hlen ⊢
      exact put_int C u bs b n s pl pk l.length cl ks.length ck w hb hC (by omega) hok.1 hD hDC
    rw [if_neg k2] at hlen ⊢
    by_cases k3 : k = 3
    · subst k3
      rw [if_pos rfl] at hlen ⊢
      exact put_str C u bs b n s pl pk l.length cl ks.length ck w hb hC (by omega)
    rw [if_neg k3] at hlen ⊢
    by_cases k4 : k = 4
    · subst k4
      rw [if_pos rfl] at hlen ⊢
      have e : partsB l ((4 : Int) == 5) true ks = partsB l false true [] := partsB_nokeys l true ks
      have hl2 : bs.length + ((partsB l false true []).length + 2) ≤ 70368744177664 := by
        simp only [List.length_cons, List.length_append, List.length_nil] at hlen
        omega
      rw [e] at step
      exact put_list C u bs (partsB l false true []) b n s pl pk l.length cl ks.length ck w hb hC hl2 (Lib.hid fun V u' hS => step V u' _ _ (by simp) hl2 hS)
    rw [if_neg k4] at hlen ⊢
    by_cases k5 : k = 5
    · subst k5
      rw [if_pos rfl] at hlen ⊢
      have hl2 : bs.length + ((partsB l true true ks).length + 2) ≤ 70368744177664 := by
        simp only [List.length_cons, List.length_append, List.length_nil] at hlen
        omega
      exact put_map C u bs (partsB l true true ks) b n s pl pk l.length cl ks.length ck w hb hC hl2 (Lib.hid fun V u' hS => step V u' _ _ (by simp) hl2 hS)
    rw [if_neg k5] at hlen ⊢
    by_cases k6 : k = 6
    · subst k6
      rw [if_pos rfl] at hlen ⊢
      exact put_node C u bs b n s pl pk l.length cl ks.length ck w hb hC (by omega) hok.1 hD hDC
    rw [if_neg k6] at hlen ⊢
    obtain rfl : k = 7 := by omega
    rw [if_pos rfl] at hlen ⊢
    exact put_edge C u bs b n s pl pk l.length cl ks.length ck w hb hC (by omega) hok.1 hD hDC
set_option maxHeartbeats 2000000 in
set_option maxRecDepth 100000 in
theorem show_any (t : VT) (v : Value) (B : Nat) (w : World) (hIn : VT.In w B t v) (hB : B ≤ w.heap.size) (hok : okN t) (hg : goodV t) (hp : t.parts ≤ 4096) (hsz : szV t ≤ 1099511627776) (hD : Num.Digs w) :
    Calls Tryd.prog 18 #[v] w fun e w' => e = .returned (.string ⟨(showB t).toArray⟩) ∧ Below w.heap.size w w' := by
  have hdp := hD.pos
  have hlen := showB_len t hok hg
  have BD := Lib.hid (fun (V : World) (hV : Below w.heap.size w V) (hL : LeftAt V (w.heap.size + 1) 4096) => bounded_all 4096 t v B (w.heap.size + 1) 4096 V hp (hIn.keep fun q hq => hV.cell (Nat.lt_of_lt_of_le hq hB)) (Nat.le_trans hB hV.size) (by omega) hg hL hp (Nat.le_refl _))
  have PT := Lib.hid (fun (V : World) (hV : Below w.heap.size w V) => put_all 4096 t v (.slice none 0 0) [] B w.heap.size V hp (hIn.keep fun q hq => hV.cell (Nat.lt_of_lt_of_le hq hB)) hB hV.size (Buf.nil _ _) hok hg (by rw [List.length_nil]; omega) hsz (Digs.low hD hV hdp) hdp)
  obtain ⟨k, b, n, s, l, ks⟩ := t
  have hx := hIn
  unfold VT.In at hx
  obtain ⟨pl, cl, pk, ck, rfl, h1, h2, h3, h4, hks, hl⟩ := hx
  obtain ⟨nl, hnl⟩ : ∃ m, l.length = m := ⟨_, rfl⟩
  obtain ⟨nk, hnk⟩ : ∃ m, ks.length = m := ⟨_, rfl⟩
  rw [hnl, hnk] at BD PT ⊢
  clear hIn hok hg hp hsz hD hlen h1 h2 h3 h4 hks hl hB hdp
  obtain ⟨q, hq⟩ : ∃ q : ByteArray, (⟨(showB (.mk k b n s l ks)).toArray⟩ : ByteArray) = q := ⟨_, rfl⟩
  rw [hq]
  go_enter Tryd.func18, Tryd.ntmps18
  go_wp2_with fail
  have hb0 : Below w.heap.size w ((w.alloc (.cells #[.int .i64 k, .bool b, .int .i64 n, .string s, .slice pl nl cl, .slice pk nk ck] 31)).alloc (.cells #[.int .i64 4096] 3)) := ((Below.refl _ w).alloc (Nat.le_refl _) _).alloc (by simp) _
  have hL0 : LeftAt ((w.alloc (.cells #[.int .i64 k, .bool b, .int .i64 n, .string s, .slice pl nl cl, .slice pk nk ck] 31)).alloc (.cells #[.int .i64 4096] 3)) (w.heap.size + 1) 4096 := by
    unfold LeftAt
    have := World.alloc_heap_new (w.alloc (.cells #[.int .i64 k, .bool b, .int .i64 n, .string s, .slice pl nl cl, .slice pk nk ck] 31)) (.cells #[.int .i64 4096] 3)
    simpa using this
  have hx0 : Box ((w.alloc (.cells #[.int .i64 k, .bool b, .int .i64 n, .string s, .slice pl nl cl, .slice pk nk ck] 31)).alloc (.cells #[.int .i64 4096] 3)) w.heap.size #[.int .i64 k, .bool b, .int .i64 n, .string s, .slice pl nl cl, .slice pk nk ck] := (Box.new w _).alloc _
  refine (BD.out _ hb0 hL0).mono ?_
  rintro e w1 ⟨rfl, _, hk⟩
  have hb1 : Below w.heap.size w w1 := hb0.trans (hk.below (fun j (hj : j = w.heap.size + 1) => by omega) hb0.size)
  have hx1 : Box w1 w.heap.size #[.int .i64 k, .bool b, .int .i64 n, .string s, .slice pl nl cl, .slice pk nk ck] := (hk.block _ hx0.lt (by omega)).trans hx0
  obtain ⟨c0, c1, c2, c3, c4, c5⟩ := hx1.cell
  have HB1 := Lib.hid hb1
  have hlt1 : w.heap.size < w1.heap.size := hx1.lt
  clear hb0 hL0 hx0 hk hb1 hx1
  go_wp2_with fail
  refine (PT.out w1 HB1.out).mono ?_
  rintro e w2 ⟨u, rfl, hb2, hbl2, hk2, _⟩
  have hcv := conv_buf w.heap.size w2 u _ hb2 9 Tryd.underlying9
  rw [List.nil_append, hq] at hcv
  have HB2 := Lib.hid hbl2
  clear c0 c1 c2 c3 c4 c5 hb2 hbl2 hk2
  go_wp2
  go_ret
  exact ⟨rfl, HB1.out.trans HB2.out⟩
end Sh
end Go.Proofs.YtoaliaohbpdibaaDoor
