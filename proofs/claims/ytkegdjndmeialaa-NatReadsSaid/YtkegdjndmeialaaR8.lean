/- Shifting, by the reference. -/
import Derived.Test.YtkegdjndmeialaaR2
namespace Go.Proofs.Ytkegdjndmeialaa
open Go.RowKit

/-- The carry into digit k of a number moved by r bits. -/
def shC (v r k : Nat) : Nat := (v % 65536 ^ k) * 2 ^ r / 65536 ^ k

theorem shC_zero (v r : Nat) : shC v r 0 = 0 := by unfold shC; simp [Nat.mod_one]

theorem sh_step (v r k : Nat) : dgt 65536 v k * 2 ^ r + shC v r k = dgt 65536 (v * 2 ^ r) k + 65536 * shC v r (k + 1) := by
  have hP : 0 < 65536 ^ k := Nat.pow_pos (by omega)
  unfold shC dgt
  rw [Nat.pow_succ]
  generalize 65536 ^ k = P at *
  generalize 2 ^ r = T at *
  have h1 : v % (P * 65536) = v % P + P * (v / P % 65536) := Nat.mod_mul
  have h2 : v = v % (P * 65536) + P * 65536 * (v / (P * 65536)) := (Nat.mod_add_div _ _).symm
  have h3 : v * T / P = v % (P * 65536) * T / P + 65536 * (v / (P * 65536) * T) := by
    conv => lhs; rw [h2]
    rw [Nat.add_mul, show P * 65536 * (v / (P * 65536)) * T = P * (65536 * (v / (P * 65536) * T)) by simp only [Nat.mul_assoc], Nat.add_mul_div_left _ _ hP]
  have h4 : v % (P * 65536) * T / P = v % P * T / P + v / P % 65536 * T := by
    rw [h1, Nat.add_mul, Nat.mul_assoc, Nat.add_mul_div_left _ _ hP]
  have h5 : v % (P * 65536) * T / (P * 65536) = (v % P * T / P + v / P % 65536 * T) / 65536 := by rw [← Nat.div_div_eq_div_mul, h4]
  rw [h3, h4, h5]
  generalize v % P * T / P = X
  generalize v / P % 65536 * T = Y
  generalize v / (P * 65536) * T = Z
  omega

theorem shC_lt (v r k : Nat) : shC v r k < 2 ^ r := by
  unfold shC
  have hP : 0 < 65536 ^ k := Nat.pow_pos (by omega)
  rw [Nat.div_lt_iff_lt_mul hP, Nat.mul_comm]
  exact Nat.mul_lt_mul_of_pos_left (Nat.mod_lt _ hP) (Nat.two_pow_pos r)

theorem sh_done {v r k : Nat} (hv : v < 65536 ^ k) (h : shC v r k = 0) : v * 2 ^ r < 65536 ^ k := by
  unfold shC at h
  rw [Nat.mod_eq_of_lt hv] at h
  rcases Nat.div_eq_zero_iff.1 h with h | h
  · exact absurd h (Nat.ne_of_gt (Nat.pow_pos (by omega)))
  · exact h
theorem shC_end {v r N : Nat} (hv : v < 65536 ^ N) (hr : r < 16) : shC v r (N + 1) = 0 := by
  unfold shC
  have e : (65536 : Nat) ^ (N + 1) = 65536 ^ N * 65536 := Nat.pow_succ ..
  have h2 : 2 ^ r ≤ 2 ^ 16 := Nat.pow_le_pow_right (by omega) (by omega)
  have h3 : (2 : Nat) ^ 16 = 65536 := by decide
  rw [Nat.mod_eq_of_lt (by omega), e]
  refine Nat.div_eq_of_lt ?_
  have := Nat.mul_le_mul_left v (h3 ▸ h2)
  have := Nat.mul_lt_mul_of_pos_right hv (show 0 < 65536 by omega)
  omega

/-- The digits of a number moved by q digits more. -/
theorem dgt_up (V q k : Nat) : dgt 65536 (V * 65536 ^ q) (q + k) = dgt 65536 V k := by
  unfold dgt
  rw [Nat.pow_add, ← Nat.div_div_eq_div_mul, Nat.mul_div_cancel _ (Nat.pow_pos (by omega))]
theorem dgt_low (V q k : Nat) (h : k < q) : dgt 65536 (V * 65536 ^ q) k = 0 := by
  unfold dgt
  obtain ⟨j, rfl⟩ : ∃ j, q = k + (j + 1) := ⟨q - k - 1, by omega⟩
  rw [Nat.pow_add, show V * (65536 ^ k * 65536 ^ (j + 1)) = 65536 ^ k * (V * 65536 ^ (j + 1)) by
    rw [← Nat.mul_assoc, Nat.mul_comm V, Nat.mul_assoc], Nat.mul_div_cancel_left _ (Nat.pow_pos (by omega)), Nat.pow_succ, ← Nat.mul_assoc, Nat.mul_mod_left]
theorem two_pow_16 (n : Nat) : (2 : Nat) ^ n = 2 ^ (n % 16) * 65536 ^ (n / 16) := by
  rw [show (65536 : Nat) = 2 ^ 16 by decide, ← Nat.pow_mul, ← Nat.pow_add]
  congr 1
  omega
theorem dcells_low (V q : Nat) : dcells (V * 65536 ^ q) q = List.replicate q (.int .i64 0) := by
  unfold dcells
  refine List.ext_getElem (by simp) fun i h1 h2 => ?_
  simp at h1
  simp [dgt_low V q i h1]

theorem made_zero (q : Nat) : (madeCells #[Value.int .i64 0] q).toList = List.replicate q (.int .i64 0) := by
  unfold madeCells
  refine List.ext_getElem (by simp) fun i h1 h2 => ?_
  simp [Nat.mod_one]
theorem wrap_id {z : Int} (h0 : -9223372036854775808 ≤ z) (h1 : z ≤ 9223372036854775807) : wrap64 z = z := by
  unfold wrap64
  omega

end Go.Proofs.Ytkegdjndmeialaa
