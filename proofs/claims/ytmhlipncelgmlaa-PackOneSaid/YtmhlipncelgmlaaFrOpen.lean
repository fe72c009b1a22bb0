/- Frame: a slice of bytes that came in. -/
import Derived.Test.YtmhlipncelgmlaaFrBase
import Derived.Test.YtmhlipncelgmlaaLaidKit
import Derived.Test.YtmhlipncelgmlaaBulk
namespace Go.Proofs.Ytmhlipncelgmlaa
open Go.RowKit Go.ChangeShapes Go.WideShapes Go.ChangeAt
set_option linter.unusedVariables false
namespace Fr
/-- Numbers of bytes as bytes. -/
def bytesZ (zs : List Int) : List UInt8 := zs.map fun n => UInt8.ofNat n.toNat
theorem bytesZ_cells {zs : List Int} (h : ∀ n ∈ zs, (Lit.int .u8 n).wf = true) : Lib.byteCells (bytesZ zs) = zs.map (Value.int .u8) := by
  unfold Lib.byteCells bytesZ
  rw [List.map_map]
  refine List.map_congr_left fun n hn => ?_
  have := h n hn
  simp [Lit.wf, IntKind.min, IntKind.max, IntKind.bits, IntKind.signed] at this
  have e : (n.toNat : Int) = n := by omega
  have e2 : n.toNat % 256 = n.toNat := by omega
  simp [e2, e]
theorem open_bytes {H : Type} {enc : TypeId × Value → H} {P : Program} {W : World} {t e : TypeId} {v : Value} {d : DataW H} {ps : List MemPlace}
    (ht : P.underlying t = some (.slice e)) (he : P.underlying e = some (.int .u8)) (hc : P.cellsOf e = 1) (hval : ∃ a n c, v = .slice a n c) (hd : DataW.Trod enc P W 0 (fun _ => true) true t v d ps) :
    ∃ (p : Option Addr) (c : Nat) (bs : List UInt8), v = .slice p bs.length c ∧ bs.length ≤ c ∧ c ≤ maxLen ∧ Src W (fun _ => False) p bs ∧ bs.length + 1 ≤ Rows.uptoBulk d := by
  obtain ⟨a0, len, cap, rfl⟩ := hval
  obtain ⟨fuel, hf⟩ := hd
  rcases open_ints ht he hc hf with ⟨hcs, hx⟩ | ⟨a, len', cap', zs, hcs, hlc, hl, hm, hz, hx, hcell, hwz⟩
  · simp [Value.cells] at hcs
    obtain ⟨rfl, rfl, rfl⟩ := hcs
    simp only [Prod.mk.injEq] at hx
    refine ⟨none, 0, [], rfl, Nat.le_refl _, by unfold maxLen; omega, fun h => absurd h (by simp), ?_⟩
    rw [hx.1]
    simp [Rows.uptoBulk]
  · simp [Value.cells] at hcs
    obtain ⟨rfl, rfl, rfl⟩ := hcs
    simp only [Prod.mk.injEq] at hx
    obtain ⟨rfl, rfl⟩ := hx
    simp only [if_true] at hz
    have hlen : (bytesZ (zs.take len)).length = len := by unfold bytesZ; rw [List.length_map, List.length_take]; omega
    have hwf : ∀ n ∈ zs.take len, (Lit.int .u8 n).wf = true := fun n hn => hwz n (List.mem_of_mem_take hn)
    refine ⟨some a, cap, bytesZ (zs.take len), by rw [hlen], by rw [hlen]; omega, by omega, fun h0 => ?_, ?_⟩
    · have hb : ∀ j u, (Lib.byteCells (bytesZ (zs.take len)))[j]? = some u → W.cell? (a.add j) = some u := fun j u hu => by
        rw [bytesZ_cells hwf, List.getElem?_map, List.getElem?_take] at hu
        split at hu
        · rename_i hj
          rw [hcell j (by omega)]
          have hj2 : j < zs.length := by omega
          rw [List.getElem?_eq_getElem hj2] at hu
          rw [List.getD_eq_getElem?_getD, List.getElem?_eq_getElem hj2]
          exact hu
        · cases hu
      rw [hlen] at h0
      have h1 := World.block_lt_of_cell? _ _ (hcell 0 (by omega))
      exact ⟨a, rfl, by simpa [block_add] using h1, fun f => f, hb⟩
    · rw [hlen]
      have h3 := bulk_slice (H := H) (lits .u8 (zs.take len)) (lits .u8 (zs.drop len))
      have h4 : (lits (H := H) .u8 (zs.take len)).length = len := by simp [lits]; omega
      omega
end Fr
end Go.Proofs.Ytmhlipncelgmlaa
