/- Rows of digits of any length. -/
import Derived.Test.YtlmfiggmjpjpiaaC9
import Derived.Test.YtlmfiggmjpjpiaaZMath
namespace Go.Proofs.Ytlmfiggmjpjpiaa
open Go.RowKit

/-- The N digits of a number. -/
@[irreducible] def wdA (N v : Nat) : Array Value := (Array.range N).map fun i => .int .u64 (dgt P64 v i : Nat)

@[go_sem] theorem wdA_size (N v : Nat) : (wdA N v).size = N := by unfold wdA; simp
theorem wdA_get (N v i : Nat) (h : i < N) : (wdA N v)[i]? = some (.int .u64 (dgt P64 v i : Nat)) := by unfold wdA; simp [h]
@[go_sem] theorem wdA_getElem (N v i : Nat) (h : i < (wdA N v).size) : (wdA N v)[i] = .int .u64 (dgt P64 v i : Nat) := by
  have := wdA_get N v i (by rw [wdA_size] at h; exact h)
  rw [Array.getElem?_eq_getElem h] at this
  exact Option.some.inj this
theorem wdA_nat (v : Nat) : wdA 16 v = natA v := by unfold wdA natA; rfl
theorem wdA_ext {N : Nat} {cs : Array Value} {v : Nat} (hs : cs.size = N) (h : ∀ j, j < N → cs[j]? = some (.int .u64 (dgt P64 v j : Nat))) : cs = wdA N v := by
  refine Array.ext_getElem? fun i => ?_
  by_cases hi : i < N
  · rw [h i hi, wdA_get _ _ _ hi]
  · rw [Array.getElem?_eq_none_iff.2 (by omega), Array.getElem?_eq_none_iff.2 (by rw [wdA_size]; omega)]
theorem wdA_setD (N X k d : Nat) (hd : d < P64) : (wdA N X).setIfInBounds k (.int .u64 (d : Nat)) = wdA N (setD P64 X k d) := by
  refine wdA_ext (by simp [wdA_size]) fun j hj => ?_
  rw [Array.getElem?_setIfInBounds]
  by_cases e : k = j
  · subst e; rw [if_pos rfl, if_pos (by rw [wdA_size]; exact hj), dgt_setD_same P64_pos hd]
  · rw [if_neg e, wdA_get _ _ _ hj, dgt_setD_other P64_pos hd (fun h => e h.symm)]
theorem wdA_zero (N : Nat) : wdA N 0 = Array.replicate N (.int .u64 0) := by
  refine (wdA_ext (by simp) fun j hj => ?_).symm
  rw [dgt_zero]; simp [hj]
/-- A row whose first digits lie in a shorter one. -/
theorem wdA_take (N M v : Nat) (h : M ≤ N) : (wdA N v).extract 0 M = wdA M v := by
  refine wdA_ext (by simp [wdA_size]; omega) fun j hj => ?_
  rw [Array.getElem?_extract, if_pos (by rw [wdA_size]; omega), Nat.zero_add, wdA_get _ _ _ (by omega)]

theorem mrow_row (N a u P i : Nat) (m : Nat) : ∀ k, k ≤ m → combRow (wdA N P) i (fun k => (((dgt P64 (mrow P64 a u P i k).1 (i + k) + a * dgt P64 u k + (mrow P64 a u P i k).2) % P64 : Nat) : Int)) k = wdA N (mrow P64 a u P i k).1 := by
  intro k
  induction k with
  | zero => intro _; rfl
  | succ k ih =>
    intro h
    rw [combRow, ih (by omega), wdA_setD _ _ _ _ (Nat.mod_lt _ P64_pos)]
    rfl
end Go.Proofs.Ytlmfiggmjpjpiaa
