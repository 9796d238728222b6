/- Plain facts on single bits. -/
import Derived.Test.YtkegdjndmeialaaMath
namespace Go.Proofs.Ytkegdjndmeialaa

theorem dgt_or (a b k : Nat) : dgt (2 ^ 64) (a ||| b) k = dgt (2 ^ 64) a k ||| dgt (2 ^ 64) b k := by
  unfold dgt
  rw [← Nat.pow_mul, Nat.or_div_two_pow, Nat.or_mod_two_pow]

theorem dgt_two_pow (n k : Nat) : dgt (2 ^ 64) (2 ^ n) k = if k = n / 64 then 2 ^ (n % 64) else 0 := by
  unfold dgt
  rw [← Nat.pow_mul]
  split
  · rename_i h
    subst h
    have e : n = n % 64 + 64 * (n / 64) := by omega
    conv => lhs; rw [e]
    have e1 : 64 * ((n % 64 + 64 * (n / 64)) / 64) = 64 * (n / 64) := by omega
    rw [e1, Nat.pow_add, Nat.mul_div_cancel _ (Nat.pow_pos (by omega))]
    exact Nat.mod_eq_of_lt (Nat.pow_lt_pow_right (by omega) (by omega))
  · rename_i h
    rcases Nat.lt_or_gt_of_ne h with hlt | hgt
    · have e : n = (64 * k) + ((n - 64 * k - 64) + 64) := by omega
      conv => lhs; rw [e]
      rw [Nat.pow_add, Nat.mul_div_cancel_left _ (Nat.pow_pos (by omega)), Nat.pow_add, Nat.mul_mod_left]
    · rw [Nat.div_eq_of_lt (Nat.pow_lt_pow_right (by omega) (by omega)), Nat.zero_mod]

theorem or_lt {a b n : Nat} (ha : a < 2 ^ n) (hb : b < 2 ^ n) : a ||| b < 2 ^ n := Nat.or_lt_two_pow ha hb

/-- A number below 2^(t+1) with bit t, less that bit. -/
theorem sub_top {a t : Nat} (h1 : a < 2 ^ (t + 1)) (h2 : 2 ^ t ≤ a) : a % 2 ^ t = a - 2 ^ t := by
  have e : a = (a - 2 ^ t) + 2 ^ t := by omega
  have hlt : a - 2 ^ t < 2 ^ t := by rw [Nat.pow_succ] at h1; omega
  conv => lhs; rw [e]
  rw [Nat.add_mod_right, Nat.mod_eq_of_lt hlt]

theorem testBit_top {a t : Nat} (h1 : a < 2 ^ (t + 1)) (h2 : 2 ^ t ≤ a) : a.testBit t = true := by
  rw [Nat.testBit_eq_decide_div_mod_eq]
  have : a / 2 ^ t = 1 := by
    have h3 : 1 ≤ a / 2 ^ t := (Nat.le_div_iff_mul_le (Nat.pow_pos (by omega))).2 (by rw [Nat.one_mul]; exact h2)
    have h4 : a / 2 ^ t < 2 := (Nat.div_lt_iff_lt_mul (Nat.pow_pos (by omega))).2 (by rw [Nat.pow_succ, Nat.mul_comm] at h1; exact h1)
    omega
  rw [this]; rfl

/-- The bits of a digit are those of the number. -/
theorem dgt_testBit (v i j : Nat) (hj : j < 64) : (dgt (2 ^ 64) v i).testBit j = v.testBit (64 * i + j) := by
  unfold dgt
  rw [Nat.testBit_mod_two_pow, ← Nat.pow_mul, Nat.testBit_div_two_pow]
  simp [hj, Nat.add_comm]

theorem two_pow_dlen {v x : Nat} (h : v.testBit x = true) : x < dlen 2 v := by
  have h1 := lt_dlen (show 2 ≤ 2 by omega) v
  by_cases hx : x < dlen 2 v
  · exact hx
  · have : v < 2 ^ x := Nat.lt_of_lt_of_le h1 (Nat.pow_le_pow_right (by omega) (by omega))
    rw [Nat.testBit_lt_two_pow this] at h
    cases h

end Go.Proofs.Ytkegdjndmeialaa
