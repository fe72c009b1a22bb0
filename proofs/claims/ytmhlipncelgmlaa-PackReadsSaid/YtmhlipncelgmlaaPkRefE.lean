/- The document's reader of values, rows: what its two kinds share. -/
import Derived.Test.YtmhlipncelgmlaaPkRefD
import Derived.Test.YtmhlipncelgmlaaPkOneL
import Derived.Test.YtmhlipncelgmlaaPkRdM
namespace Go.Proofs.Ytmhlipncelgmlaa
open Go.RowKit
set_option linter.unusedVariables false
set_option linter.unusedSimpArgs false
namespace Pk
open Val (VT Keeps Box StrBlock)
open Rk (info_parts)

structure TRel (m : Bool) (kk : Int) (d L n : Nat) (all l0 : List UInt8) (p : Nat) (w : World) (j p1 at1 : Nat) (ts : List VT) (ks : List ByteArray) (lv kv : Value) (xs : List Value) (wr : World) : Prop where
  dt : DT kk w ts ks lv kv xs wr
  same : rowsA (parseV d) m n p [] [] l0 = rowsA (parseV d) m (n - j) p1 ts ks (all.drop at1)
  at_ : at1 ≤ L
  le : p1 ≤ 4096
  few : ts.length ≤ p1
  klen : ks.length = bif m then ts.length else 0
def listQ (d p n : Nat) (l : List UInt8) : Except Int (VT × Nat × List UInt8) := thenP (rowsA (parseV d) false n p [] [] l) fun y => .ok (.mk 4 false 0 E0 y.1.1 [], y.2)
def dictQ (d p n : Nat) (l : List UInt8) : Except Int (VT × Nat × List UInt8) := thenP (rowsA (parseV d) true n p [] [] l) fun y => .ok (.mk 5 false 0 E0 y.1.1 y.1.2, y.2)
theorem DT.start4 (w : World) : DT 4 w [] [] (.slice none 0 0) (.slice none 0 0) [] ((w.alloc (.cells #[.int .i64 0, .bool false, .int .i64 0, .string ⟨#[]⟩, .slice none 0 0, .slice none 0 0] 25)).alloc (.cells #[.int .i64 4, .bool false, .int .i64 0, .string ⟨#[]⟩, .slice none 0 0, .slice none 0 0] 25)) :=
  ⟨(Box.new w _).alloc _, by
    have := Box.new (w.alloc (.cells #[.int .i64 0, .bool false, .int .i64 0, .string ⟨#[]⟩, .slice none 0 0, .slice none 0 0] 25)) #[.int .i64 4, .bool false, .int .i64 0, .string ⟨#[]⟩, .slice none 0 0, .slice none 0 0]
    rwa [World.size_alloc] at this, RowW.nil _ _ _, World.ownsRow_nil _ _ _ _, (((Keeps.refl (fun _ => False) w).alloc _).alloc _).below (fun _ f => f.elim) (Nat.le_refl _)⟩
theorem DT.start5 (w : World) : DT 5 w [] [] (.slice none 0 0) (.slice none 0 0) [] ((w.alloc (.cells #[.int .i64 0, .bool false, .int .i64 0, .string ⟨#[]⟩, .slice none 0 0, .slice none 0 0] 25)).alloc (.cells #[.int .i64 5, .bool false, .int .i64 0, .string ⟨#[]⟩, .slice none 0 0, .slice none 0 0] 25)) :=
  ⟨(Box.new w _).alloc _, by
    have := Box.new (w.alloc (.cells #[.int .i64 0, .bool false, .int .i64 0, .string ⟨#[]⟩, .slice none 0 0, .slice none 0 0] 25)) #[.int .i64 5, .bool false, .int .i64 0, .string ⟨#[]⟩, .slice none 0 0, .slice none 0 0]
    rwa [World.size_alloc] at this, RowW.nil _ _ _, World.ownsRow_nil _ _ _ _, (((Keeps.refl (fun _ => False) w).alloc _).alloc _).below (fun _ f => f.elim) (Nat.le_refl _)⟩
theorem takeP_err {n : Nat} {l : List UInt8} {c : Int} (h : takeP n l = .error c) : (c == 0) = false := by
  unfold takeP at h
  split at h
  · injection h with h; subst h; rfl
  · cases h
theorem numP_err {l : List UInt8} {c : Int} (h : numP l = .error c) : (c == 0) = false := by
  rcases numA_fault 10 0 l c h with rfl | rfl <;> rfl
section
variable {kk : Int} {w V : World} {ts : List VT} {ks : List ByteArray} {lv kv : Value} {xs : List Value}
/-- The end where a fault was found. -/
theorem DT.fault (h : DT kk w ts ks lv kv xs V) (L : Nat) (c : Int) : RefPost L w (.error c) (.returned (.tuple #[.agg #[.int .i64 0, .bool false, .int .i64 0, .string ⟨#[]⟩, .slice none 0 0, .slice none 0 0], .int .i64 0, .int .i64 0, .int .i64 c])) (six V w.heap.size (.int .i64 0) (.bool false) (.int .i64 0) (.string ⟨#[]⟩) (.slice none 0 0) (.slice none 0 0)) :=
  ⟨h.low.trans ((keeps_six (Keeps.refl (· = w.heap.size) V) (.inl rfl) (.int .i64 0) (.bool false) (.int .i64 0) (.string ⟨#[]⟩) (.slice none 0 0) (.slice none 0 0)).below (fun k e => by omega) h.low.size), rfl⟩
end
end Pk
end Go.Proofs.Ytmhlipncelgmlaa
