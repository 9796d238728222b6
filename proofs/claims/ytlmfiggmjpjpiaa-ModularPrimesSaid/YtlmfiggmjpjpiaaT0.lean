/- Small facts for the laws' walks: a number that has just been stored. -/
import Derived.Test.YtlmfiggmjpjpiaaF1
import Derived.Test.YtlmfiggmjpjpiaaM1
namespace Go.Proofs.Ytlmfiggmjpjpiaa
open Go.RowKit

theorem bel_st0 (w1 : World) (x : Nat) : Below w1.heap.size w1 ((w1.alloc (.cells (natA 0) 28)).setRow w1.heap.size (natA x)) := below_setRow' ((Below.refl _ _).alloc (Nat.le_refl _) _) (Nat.le_refl _) _
theorem row_st0 (w1 : World) (x : Nat) : rowN ((w1.alloc (.cells (natA 0) 28)).setRow w1.heap.size (natA x)) w1.heap.size = some (natA x) := by
  rw [rowN_setRow, if_pos rfl, rowN_alloc, if_pos rfl]; rfl
theorem row_st0_other (w1 : World) (x g : Nat) (cs : Array Value) (h : rowN w1 g = some cs) : rowN ((w1.alloc (.cells (natA 0) 28)).setRow w1.heap.size (natA x)) g = some cs := by
  have hl := rowN_lt h
  rw [rowN_setRow, if_neg (by omega), rowN_alloc, if_neg (by omega)]; exact h
theorem short_fits0 {zs : List Nat} (h256 : ∀ x ∈ zs, x < 256) (h : zs.length ≤ 128) : valBE 256 zs < P64 ^ 16 := by
  rw [P64_16]
  exact Nat.lt_of_lt_of_le (valBE_lt 256 (by omega) zs h256) (Nat.pow_le_pow_right (by omega) h)
theorem isZero0 (w : World) : Calls Try.prog 16 #[.agg (natA 0)] w fun e w' => e = .returned (.bool true) ∧ Below w.heap.size w w' := by
  have := isZero_any 0 w
  rwa [show natEq 0 0 = true by rw [natEq_iff (Nat.pow_pos P64_pos) (Nat.pow_pos P64_pos)]; rfl] at this
end Go.Proofs.Ytlmfiggmjpjpiaa
