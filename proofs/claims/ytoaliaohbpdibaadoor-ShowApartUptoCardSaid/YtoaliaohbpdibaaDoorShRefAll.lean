/- The document's Show of any value that may be. -/
import Derived.Test.YtoaliaohbpdibaaDoorShRefShow
namespace Go.Proofs.YtoaliaohbpdibaaDoor
open Go.RowKit
set_option linter.unusedVariables false
set_option linter.unusedSimpArgs false
namespace Sh
open Val (VT Keeps Box okN okNL szV szL szK)
theorem ref_all : ∀ N, RsIH N
  | 0 => fun t _ _ _ h => by have := t.parts_pos; omega
  | N + 1 => fun t v B w hN hIn hB hok hg hsz => by
    have IH := ref_all N
    obtain ⟨k, b, n, s, l, ks⟩ := t
    have hx := hIn
    unfold VT.In at hx
    obtain ⟨pl, cl, pk, ck, rfl, h1, h2, h3, h4, hks, hl⟩ := hx
    unfold goodV at hg
    unfold okN at hok
    unfold szV at hsz
    rw [VT.parts] at hN
    have hp : ∀ x, x ∈ l → x.parts ≤ N := fun x hx => by have := VT.parts_mem hx; omega
    obtain ⟨⟨hk0, hk7⟩, hg5, hgl⟩ := hg
    unfold showB
    by_cases k0 : k = 0
    · subst k0
      rw [if_pos rfl]
      exact ref_null b n s pl pk l.length cl ks.length ck w
    rw [if_neg k0]
    by_cases k1 : k = 1
    · subst k1
      rw [if_pos rfl]
      exact ref_bool b n s pl pk l.length cl ks.length ck w
    rw [if_neg k1]
    by_cases k2 : k = 2
    · subst k2
      rw [if_pos rfl]
      exact ref_int b n s pl pk l.length cl ks.length ck w hok.1
    rw [if_neg k2]
    by_cases k3 : k = 3
    · subst k3
      rw [if_pos rfl]
      exact ref_str b n s pl pk l.length cl ks.length ck w (by omega)
    rw [if_neg k3]
    by_cases k4 : k = 4
    · subst k4
      rw [if_pos rfl, ← partsB_keyless l true ks]
      have hpl := partsB_len l false true ks hok.2 hgl (by simp)
      exact ref_list b n s pl pk l.length cl ks.length ck l ks N B w (Lib.hid IH) (Lib.hid hp) (Lib.hid rfl) (Lib.hid rfl) (Lib.hid hl) (Lib.hid hks) hB (Lib.hid hok.2) (Lib.hid hgl) (Lib.hid trivial) (Lib.hid (by omega)) (Lib.hid (by omega)) (by omega) (by omega)
    rw [if_neg k4]
    by_cases k5 : k = 5
    · subst k5
      rw [if_pos rfl]
      have hpl := partsB_len l true true ks hok.2 hgl (fun _ => hg5 rfl)
      exact ref_map b n s pl pk l.length cl ks.length ck l ks N B w (Lib.hid IH) (Lib.hid hp) (Lib.hid rfl) (Lib.hid rfl) (Lib.hid hl) (Lib.hid hks) hB (Lib.hid hok.2) (Lib.hid hgl) (Lib.hid (hg5 rfl)) (Lib.hid (by omega)) (Lib.hid (by omega)) (by omega) (by omega)
    rw [if_neg k5]
    by_cases k6 : k = 6
    · subst k6
      rw [if_pos rfl]
      exact ref_node b n s pl pk l.length cl ks.length ck w hok.1
    rw [if_neg k6]
    obtain rfl : k = 7 := by omega
    rw [if_pos rfl]
    exact ref_edge b n s pl pk l.length cl ks.length ck w hok.1
end Sh
end Go.Proofs.YtoaliaohbpdibaaDoor
