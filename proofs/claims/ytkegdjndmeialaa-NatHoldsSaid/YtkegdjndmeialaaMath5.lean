/- A row of a product, digit by digit: no program. -/
import Derived.Test.YtkegdjndmeialaaMath4
namespace Go.Proofs.Ytkegdjndmeialaa

/-- What a row of a product has made of P behind k digits of u, and its carry. -/
def mrow (B a u P i : Nat) : Nat → Nat × Nat
  | 0 => (P, 0)
  | k + 1 => (setD B (mrow B a u P i k).1 (i + k) ((dgt B (mrow B a u P i k).1 (i + k) + a * dgt B u k + (mrow B a u P i k).2) % B), (dgt B (mrow B a u P i k).1 (i + k) + a * dgt B u k + (mrow B a u P i k).2) / B)

theorem mrow_acc (B a u P i k : Nat) : (mrow B a u P i k).1 + (mrow B a u P i k).2 * B ^ (i + k) = P + a * (u % B ^ k) * B ^ i := by
  induction k with
  | zero => simp [mrow, Nat.mod_one]
  | succ k ih => exact mul_step B P a u _ _ i k _ rfl ih

theorem mrow_dgt {B a u P i : Nat} (hB : 0 < B) (k j : Nat) (hj : i + k ≤ j) : dgt B (mrow B a u P i k).1 j = dgt B P j := by
  induction k with
  | zero => rfl
  | succ k ih =>
    rw [← ih (by omega)]
    exact dgt_setD_other hB (Nat.mod_lt _ hB) (by omega)

theorem carry_lt {B x a d cy : Nat} (hB : 0 < B) (hx : x < B) (ha : a < B) (hd : d < B) (hc : cy < B) : (x + a * d + cy) / B < B := by
  obtain ⟨q, rfl⟩ : ∃ q, B = q + 1 := ⟨B - 1, by omega⟩
  have h1 : a * d ≤ q * q := Nat.mul_le_mul (by omega) (by omega)
  have h2 : (q + 1) * (q + 1) = q * q + q + q + 1 := by rw [Nat.add_mul, Nat.mul_add, Nat.one_mul, Nat.mul_one]; omega
  rw [Nat.div_lt_iff_lt_mul hB]
  omega

theorem mrow_carry {B a u P i : Nat} (hB : 0 < B) (ha : a < B) (k : Nat) : (mrow B a u P i k).2 < B := by
  induction k with
  | zero => exact hB
  | succ k ih => exact carry_lt hB (dgt_lt hB) ha (dgt_lt hB) ih

theorem mrow_lt {B a u P i N : Nat} (hB : 0 < B) (hP : P < B ^ N) (k : Nat) (hk : i + k ≤ N) : (mrow B a u P i k).1 < B ^ N := by
  induction k with
  | zero => exact hP
  | succ k ih => exact setD_lt hB (Nat.mod_lt _ hB) (by omega) (ih (by omega))

/-- The carry, stored behind the row, makes it the next product. -/
theorem mrow_end {B v u i m : Nat} (hB : 0 < B) (hu : u < B ^ m) :
    setD B (mrow B (dgt B v i) u (v % B ^ i * u) i m).1 (i + m) (mrow B (dgt B v i) u (v % B ^ i * u) i m).2 = v % B ^ (i + 1) * u := by
  have h1 := mrow_acc B (dgt B v i) u (v % B ^ i * u) i m
  have h2 := mul_end (v := v) hB hu (Nat.le_refl m) h1
  have h3 := mrow_dgt (a := dgt B v i) (u := u) (P := v % B ^ i * u) (i := i) hB m (i + m) (Nat.le_refl _)
  have h4 : v % B ^ i * u < B ^ (i + m) := by rw [Nat.pow_add]; exact Nat.mul_lt_mul'' (Nat.mod_lt _ (Nat.pow_pos hB)) hu
  have h5 : dgt B (v % B ^ i * u) (i + m) = 0 := by unfold dgt; rw [Nat.div_eq_of_lt h4, Nat.zero_mod]
  have h6 := setD_eq B (mrow B (dgt B v i) u (v % B ^ i * u) i m).1 (i + m) (mrow B (dgt B v i) u (v % B ^ i * u) i m).2
  rw [h3, h5, Nat.zero_mul, Nat.add_zero] at h6
  omega
end Go.Proofs.Ytkegdjndmeialaa
