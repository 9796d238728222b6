/- Numbers as values of the program: sixteen digits to the base 2^64. -/
import Derived.Test.YtlmfiggmjpjpiaaRows
import Derived.Test.YtlmfiggmjpjpiaaZMath
import Derived.WalkKit
import Derived.WalkSpells
import Derived.WalkLawsBesides
import Derived.Lib.Hide
namespace Go.Proofs.Ytlmfiggmjpjpiaa
open Go.RowKit

@[irreducible] def P64 : Nat := 18446744073709551616
theorem P64_eq : P64 = 18446744073709551616 := by unfold P64; rfl
theorem P64_pow : P64 = 2 ^ 64 := by unfold P64; rfl
theorem P64_pos : 0 < P64 := by unfold P64; decide

/-- The sixteen cells of a number. -/
@[irreducible] def natA (v : Nat) : Array Value := (Array.range 16).map fun i => .int .u64 (dgt P64 v i : Nat)

theorem natA_size (v : Nat) : (natA v).size = 16 := by unfold natA; simp
theorem natA_get (v i : Nat) (h : i < 16) : (natA v)[i]? = some (.int .u64 (dgt P64 v i : Nat)) := by unfold natA; simp [h]

theorem natA_getElem (v i : Nat) (h : i < (natA v).size) : (natA v)[i] = .int .u64 (dgt P64 v i : Nat) := by
  have := natA_get v i (by rw [natA_size] at h; exact h)
  rw [Array.getElem?_eq_getElem h] at this
  exact Option.some.inj this

theorem natA_set (v u k : Nat) (hk : k < 16) (h : ∀ j, j < 16 → j ≠ k → dgt P64 u j = dgt P64 v j) :
    (natA v).setIfInBounds k (.int .u64 (dgt P64 u k : Nat)) = natA u := by
  refine Array.ext_getElem? fun i => ?_
  rw [Array.getElem?_setIfInBounds]
  by_cases hi : i < 16
  · by_cases e : k = i
    · subst e; rw [if_pos rfl, if_pos (by rw [natA_size]; exact hk), natA_get u k hk]
    · rw [if_neg e, natA_get v i hi, natA_get u i hi, h i hi (fun x => e x.symm)]
  · have hn : ∀ x, (natA x)[i]? = none := fun x => by rw [Array.getElem?_eq_none_iff, natA_size]; omega
    rw [if_neg (by omega), hn, hn]

theorem natA_zero : natA 0 = Array.replicate 16 (.int .u64 0) := by
  refine Array.ext_getElem? fun i => ?_
  by_cases hi : i < 16
  · rw [natA_get _ _ hi, dgt_zero]; simp [hi]
  · rw [Array.getElem?_eq_none_iff.2 (by rw [natA_size]; omega), Array.getElem?_eq_none_iff.2 (by simp; omega)]

end Go.Proofs.Ytlmfiggmjpjpiaa
