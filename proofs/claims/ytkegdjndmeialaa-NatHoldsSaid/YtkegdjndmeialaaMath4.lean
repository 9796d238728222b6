/- Plain facts on setting a digit, and on products digit by digit: no program. -/
import Derived.Test.YtkegdjndmeialaaMath
namespace Go.Proofs.Ytkegdjndmeialaa

/-- X with d in the place of its digit k. -/
def setD (B X k d : Nat) : Nat := X / B ^ (k + 1) * B ^ (k + 1) + d * B ^ k + X % B ^ k

theorem setD_eq (B X k d : Nat) : setD B X k d + dgt B X k * B ^ k = X + d * B ^ k := by
  unfold setD dgt
  have h1 : X % B ^ (k + 1) = X % B ^ k + B ^ k * (X / B ^ k % B) := Nat.mod_pow_succ
  have h2 : X % B ^ (k + 1) + B ^ (k + 1) * (X / B ^ (k + 1)) = X := Nat.mod_add_div _ _
  rw [Nat.mul_comm] at h2
  rw [Nat.mul_comm (B ^ k)] at h1
  omega

theorem setD_own (B X k : Nat) : setD B X k (dgt B X k) = X := by
  have := setD_eq B X k (dgt B X k)
  omega

theorem setD_zero_dgt {B X k : Nat} (hB : 0 < B) : dgt B (setD B X k 0) k = 0 := by
  unfold setD dgt
  have hP : 0 < B ^ k := Nat.pow_pos hB
  rw [Nat.zero_mul, Nat.add_zero, Nat.pow_succ, Nat.mul_comm (B ^ k) B, ← Nat.mul_assoc, Nat.add_comm, Nat.add_mul_div_right _ _ hP, Nat.div_eq_of_lt (Nat.mod_lt _ hP), Nat.zero_add, Nat.mul_mod_left]

theorem setD_add (B X k d : Nat) : setD B X k d = setD B X k 0 + d * B ^ k := by
  unfold setD
  rw [Nat.zero_mul]
  omega

theorem dgt_setD_same {B X k d : Nat} (hB : 0 < B) (hd : d < B) : dgt B (setD B X k d) k = d := by
  rw [setD_add, dgt_add_same hB (by rw [setD_zero_dgt hB]; omega), setD_zero_dgt hB, Nat.zero_add]

theorem dgt_setD_other {B X k d j : Nat} (hB : 0 < B) (hd : d < B) (hj : j ≠ k) : dgt B (setD B X k d) j = dgt B X j := by
  have h1 : dgt B (setD B X k d) j = dgt B (setD B X k 0) j := by
    rw [setD_add B X k d]; exact dgt_add_other hB (by rw [setD_zero_dgt hB]; omega) hj
  have h2 : dgt B (setD B X k (dgt B X k)) j = dgt B (setD B X k 0) j := by
    rw [setD_add B X k (dgt B X k)]; exact dgt_add_other hB (by rw [setD_zero_dgt hB]; have := dgt_lt (B := B) (v := X) (i := k) hB; omega) hj
  rw [setD_own] at h2
  rw [h1, h2]

theorem setD_lt {B X k d n : Nat} (hB : 0 < B) (hd : d < B) (hk : k < n) (hX : X < B ^ n) : setD B X k d < B ^ n := by
  obtain ⟨m, rfl⟩ : ∃ m, n = k + 1 + m := ⟨n - k - 1, by omega⟩
  have hP : 0 < B ^ k := Nat.pow_pos hB
  have hlo : X % B ^ k < B ^ k := Nat.mod_lt _ hP
  have h1 : X / B ^ (k + 1) < B ^ m := by
    rw [Nat.div_lt_iff_lt_mul (Nat.pow_pos hB), Nat.mul_comm, ← Nat.pow_add]; exact hX
  have h2 : (X / B ^ (k + 1) + 1) * B ^ (k + 1) ≤ B ^ m * B ^ (k + 1) := Nat.mul_le_mul_right _ h1
  have h3 : (d + 1) * B ^ k ≤ B * B ^ k := Nat.mul_le_mul_right _ hd
  unfold setD
  rw [show B ^ (k + 1 + m) = B ^ m * B ^ (k + 1) by rw [Nat.pow_add, Nat.mul_comm]]
  rw [Nat.add_mul, Nat.one_mul] at h2 h3
  rw [show B * B ^ k = B ^ (k + 1) by rw [Nat.pow_succ, Nat.mul_comm]] at h3
  omega

/-- One step of a row of a product. -/
theorem mul_step (B O a u X cy i k t : Nat) (ht : t = dgt B X (i + k) + a * dgt B u k + cy) (h : X + cy * B ^ (i + k) = O + a * (u % B ^ k) * B ^ i) :
    setD B X (i + k) (t % B) + t / B * B ^ (i + (k + 1)) = O + a * (u % B ^ (k + 1)) * B ^ i := by
  have h1 := setD_eq B X (i + k) (t % B)
  have h2 : u % B ^ (k + 1) = u % B ^ k + B ^ k * dgt B u k := Nat.mod_pow_succ
  have h3 : t % B + B * (t / B) = t := Nat.mod_add_div _ _
  have h4 : a * (u % B ^ (k + 1)) * B ^ i = a * (u % B ^ k) * B ^ i + a * dgt B u k * B ^ (i + k) := by
    rw [h2, Nat.mul_add, Nat.add_mul, Nat.pow_add]
    congr 1
    simp only [Nat.mul_assoc, Nat.mul_comm, Nat.mul_left_comm]
  have h5 : t % B * B ^ (i + k) + t / B * B ^ (i + (k + 1)) = dgt B X (i + k) * B ^ (i + k) + a * dgt B u k * B ^ (i + k) + cy * B ^ (i + k) := by
    rw [← Nat.add_mul, ← Nat.add_mul, ← ht, ← Nat.add_assoc, Nat.pow_succ]
    conv => rhs; rw [← h3]
    rw [Nat.add_mul]
    congr 1
    simp only [Nat.mul_assoc, Nat.mul_comm, Nat.mul_left_comm]
  rw [h4]
  omega

theorem mul_carry {x a d cy t : Nat} (hx : x < 65536) (ha : a < 65536) (hd : d < 65536) (hc : cy < 65536) (ht : t = x + a * d + cy) : t / 65536 < 65536 ∧ t % 65536 < 65536 ∧ t ≤ 4294967295 := by
  have : a * d ≤ 65535 * 65535 := Nat.mul_le_mul (by omega) (by omega)
  omega

/-- The row's end: no carry lies beyond one digit more. -/
theorem mul_end {B v u X cy i k m : Nat} (hB : 0 < B) (hu : u < B ^ m) (hk : m ≤ k) (h : X + cy * B ^ (i + k) = v % B ^ i * u + dgt B v i * (u % B ^ k) * B ^ i) :
    X + cy * B ^ (i + k) = v % B ^ (i + 1) * u := by
  have h2 : v % B ^ (i + 1) = v % B ^ i + B ^ i * dgt B v i := Nat.mod_pow_succ
  rw [h, h2, Nat.mod_eq_of_lt (Nat.lt_of_lt_of_le hu (Nat.pow_le_pow_right hB hk)), Nat.add_mul]
  congr 1
  simp only [Nat.mul_comm, Nat.mul_left_comm]

theorem mul_over {B v u X cy i k m : Nat} (hB : 0 < B) (hu : u < B ^ m) (hk : m + 1 ≤ k) (h : X + cy * B ^ (i + k) = v % B ^ i * u + dgt B v i * (u % B ^ k) * B ^ i) : cy = 0 := by
  have h1 := mul_end hB hu (by omega) h
  by_cases hc : cy = 0
  · exact hc
  · exfalso
    have hm : v % B ^ (i + 1) < B ^ (i + 1) := Nat.mod_lt _ (Nat.pow_pos hB)
    have h3 : v % B ^ (i + 1) * u < B ^ (i + 1) * B ^ m := Nat.mul_lt_mul'' hm hu
    have h4 : B ^ (i + 1) * B ^ m ≤ B ^ (i + k) := by rw [← Nat.pow_add]; exact Nat.pow_le_pow_right hB (by omega)
    have h5 : 1 * B ^ (i + k) ≤ cy * B ^ (i + k) := Nat.mul_le_mul_right _ (by omega)
    omega
end Go.Proofs.Ytkegdjndmeialaa
