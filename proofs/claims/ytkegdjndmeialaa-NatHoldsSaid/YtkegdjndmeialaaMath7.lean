/- Plain facts on a division by two digits, on the estimate of a digit, on shifts of rows and on one round of a long division. No program. -/
import Derived.Test.YtkegdjndmeialaaMath4
import Derived.Test.YtkegdjndmeialaaMath2
namespace Go.Proofs.Ytkegdjndmeialaa

theorem half_acc {u d Y y1 y0 q r : Nat} (hY : Y = y1 * 4294967296 + y0) (ha : q * y1 + r = u) : q * Y + (r * 4294967296 + d) = (u * 4294967296 + d) + q * y0 := by
  rw [hY, ← ha, Nat.mul_add, Nat.add_mul, ← Nat.mul_assoc]
  omega

theorem half_keep {u d Y y1 y0 q r : Nat} (hY : Y = y1 * 4294967296 + y0) (hY0 : 0 < Y) (hQ : (u * 4294967296 + d) / Y < 4294967296) (ha : q * y1 + r = u) (hq : (u * 4294967296 + d) / Y ≤ q)
    (h : 4294967296 ≤ q ∨ 4294967296 * r + d < q * y0) : (u * 4294967296 + d) / Y ≤ q - 1 ∧ 1 ≤ q ∧ (q - 1) * y1 + (r + y1) = u := by
  have h1 : (u * 4294967296 + d) / Y < q := by
    rcases h with h | h
    · omega
    · rw [Nat.div_lt_iff_lt_mul hY0]
      have := half_acc (d := d) hY ha
      omega
  generalize (u * 4294967296 + d) / Y = g at *
  refine ⟨by omega, by omega, ?_⟩
  obtain ⟨p, rfl⟩ : ∃ p, q = p + 1 := ⟨q - 1, by omega⟩
  rw [Nat.add_sub_cancel]
  rw [Nat.add_mul, Nat.one_mul] at ha
  omega

theorem half_done {u d Y y1 y0 q r : Nat} (hY : Y = y1 * 4294967296 + y0) (hY0 : 0 < Y) (ha : q * y1 + r = u) (hq : (u * 4294967296 + d) / Y ≤ q) (h : q * y0 ≤ 4294967296 * r + d) : q = (u * 4294967296 + d) / Y := by
  have h1 : q ≤ (u * 4294967296 + d) / Y := by
    rw [Nat.le_div_iff_mul_le hY0]
    have := half_acc (d := d) hY ha
    omega
  omega

theorem half_break {u d Y y1 y0 q r : Nat} (hY : Y = y1 * 4294967296 + y0) (hy0 : y0 < 4294967296) (hu : u < Y) (ha : q * y1 + r = u) (hq : (u * 4294967296 + d) / Y ≤ q) (h : 4294967296 ≤ r) : q = (u * 4294967296 + d) / Y := by
  have hqT : q < 4294967296 := by
    rcases Nat.lt_or_ge q 4294967296 with h1 | h1
    · exact h1
    · have h2 : 4294967296 * y1 ≤ q * y1 := Nat.mul_le_mul_right _ h1
      omega
  refine half_done hY (by omega) ha hq ?_
  have : q * y0 ≤ 4294967295 * 4294967295 := Nat.mul_le_mul (by omega) (by omega)
  omega

theorem half_start {u d Y y1 y0 : Nat} (hY : Y = y1 * 4294967296 + y0) (h1 : 0 < y1) (hd : d < 4294967296) (hu : u < Y) (hn : y0 < y1 * 2) :
    (u * 4294967296 + d) / Y < 4294967296 ∧ (u * 4294967296 + d) / Y ≤ u / y1 ∧ u / y1 ≤ 4294967297 ∧ u / y1 * y1 + u % y1 = u ∧ u % y1 < y1 ∧ u / y1 * y1 ≤ u := by
  have hY0 : 0 < Y := by omega
  have h2 : u / y1 * y1 + u % y1 = u := by rw [Nat.mul_comm]; exact Nat.div_add_mod u y1
  refine ⟨?_, ?_, ?_, h2, Nat.mod_lt _ h1, by omega⟩
  · rw [Nat.div_lt_iff_lt_mul hY0]; omega
  · rw [Nat.le_div_iff_mul_le h1]
    have h3 := Nat.div_mul_le_self (u * 4294967296 + d) Y
    generalize (u * 4294967296 + d) / Y = g at *
    have h4 : g * Y = g * y1 * 4294967296 + g * y0 := by rw [hY, Nat.mul_add, ← Nat.mul_assoc]
    omega
  · have h3 : u / y1 < 4294967298 := by
      rw [Nat.div_lt_iff_lt_mul h1]
      omega
    omega

theorem half_rest {u d Y Q m : Nat} (hY0 : 0 < Y) (hY : Y < 18446744073709551616) (hQ : Q = (u * 4294967296 + d) / Y) (hm : m = Q * Y) : u * 4294967296 + d - m = (u * 4294967296 + d) % Y ∧ m ≤ u * 4294967296 + d ∧ (u * 4294967296 + d) % Y < Y ∧ u * 4294967296 + d - m < 18446744073709551616 := by
  have h1 := Nat.div_add_mod (u * 4294967296 + d) Y
  have h2 := Nat.mod_lt (u * 4294967296 + d) hY0
  rw [← hQ, Nat.mul_comm, ← hm] at h1
  omega

theorem wrap_rest {u d m : Int} (h0 : 0 ≤ u * 4294967296 + d - m) (h1 : u * 4294967296 + d - m < 18446744073709551616) : (u * 4294967296 % 18446744073709551616 + d - m) % 18446744073709551616 = u * 4294967296 + d - m := by omega

/-- The two halves together. -/
theorem halves {T N y P Y u l1 l0 q1 q0 r1 r0 : Nat} (hP : 0 < P) (hy : 0 < y) (hY : Y = y * P) (hN : N * P = (u * T + l1) * T + l0) (h1 : u * T + l1 = q1 * Y + r1) (h2 : r1 * T + l0 = q0 * Y + r0) (h3 : r0 < Y) :
    q1 * T + q0 = N / y ∧ r0 / P = N % y := by
  have e : N * P = (q1 * T + q0) * y * P + r0 := by
    have e1 : q1 * (y * P) * T = q1 * T * y * P := by simp only [Nat.mul_comm, Nat.mul_left_comm]
    have e2 : q0 * (y * P) = q0 * y * P := by rw [Nat.mul_assoc]
    rw [hN, h1, Nat.add_mul, Nat.add_assoc, h2, hY, Nat.add_mul, Nat.add_mul, e1, e2]
    omega
  generalize q1 * T + q0 = Q at *
  have hNQ : N = Q * y + r0 / P := by
    have h4 : N * P / P = (Q * y * P + r0) / P := by rw [e]
    rw [Nat.mul_div_cancel _ hP, Nat.add_comm, Nat.add_mul_div_right _ _ hP] at h4
    omega
  have hlt : r0 / P < y := by rw [Nat.div_lt_iff_lt_mul hP, ← hY]; exact h3
  rw [hNQ, Nat.mul_comm Q y, Nat.mul_add_div hy, Nat.div_eq_of_lt hlt, Nat.mul_add_mod, Nat.mod_eq_of_lt hlt]
  exact ⟨by omega, rfl⟩
end Go.Proofs.Ytkegdjndmeialaa

namespace Go.Proofs.Ytkegdjndmeialaa

/-- The carry into digit k of a product by q. -/
def mulC (B v q k : Nat) : Nat := v % B ^ k * q / B ^ k
theorem mulC_zero (B v q : Nat) : mulC B v q 0 = 0 := by unfold mulC; simp [Nat.mod_one]
theorem mulC_le {B v q k : Nat} (hB : 0 < B) : mulC B v q k ≤ q := by
  unfold mulC
  refine Nat.div_le_of_le_mul ?_
  exact Nat.mul_le_mul_right _ (Nat.le_of_lt (Nat.mod_lt _ (Nat.pow_pos hB)))
theorem mulC_step {B : Nat} (hB : 0 < B) (v q k : Nat) : dgt B v k * q + mulC B v q k = dgt B (v * q) k + B * mulC B v q (k + 1) := by
  have hP : 0 < B ^ k := Nat.pow_pos hB
  unfold mulC dgt
  rw [Nat.pow_succ]
  generalize B ^ k = P at *
  have h1 : v % (P * B) = v % P + P * (v / P % B) := Nat.mod_mul
  have h2 : v = v % (P * B) + P * B * (v / (P * B)) := (Nat.mod_add_div _ _).symm
  have h3 : v * q / P = v % (P * B) * q / P + B * (v / (P * B) * q) := by
    conv => lhs; rw [h2]
    rw [Nat.add_mul, show P * B * (v / (P * B)) * q = P * (B * (v / (P * B) * q)) by simp only [Nat.mul_assoc], Nat.add_mul_div_left _ _ hP]
  have h4 : v % (P * B) * q / P = v % P * q / P + v / P % B * q := by
    rw [h1, Nat.add_mul, Nat.mul_assoc, Nat.add_mul_div_left _ _ hP]
  have h5 : v % (P * B) * q / (P * B) = (v % P * q / P + v / P % B * q) / B := by rw [← Nat.div_div_eq_div_mul, h4]
  rw [h3, h4, h5]
  generalize v % P * q / P = X
  generalize v / P % B * q = Y
  generalize v / (P * B) * q = Z
  rw [Nat.add_mul_mod_self_left]
  have := Nat.mod_add_div (X + Y) B
  omega

theorem dgt_mod {B X i j : Nat} (hB : 0 < B) (h : j < i) : dgt B (X % B ^ i) j = dgt B X j := by
  have h1 : X = X % B ^ i + B ^ i * (X / B ^ i) := (Nat.mod_add_div _ _).symm
  conv => rhs; rw [h1]
  exact (dgt_add_top hB h _).symm
theorem dgt_high {B X i : Nat} (k : Nat) : dgt B X (i + k) = dgt B (X / B ^ i) k := by
  unfold dgt; rw [Nat.pow_add, Nat.div_div_eq_div_mul]
theorem dgt_none {B X i j : Nat} (hB : 0 < B) (h : X < B ^ i) (hj : i ≤ j) : dgt B X j = 0 := by
  unfold dgt; rw [Nat.div_eq_of_lt (Nat.lt_of_lt_of_le h (Nat.pow_le_pow_right hB hj)), Nat.zero_mod]

/-- X with the digits of Z in the window of m digits from i on. -/
def winSet (B X i m Z : Nat) : Nat := Z % B ^ m * B ^ i + X % B ^ i
theorem winSet_lt {B X i m Z : Nat} (hB : 0 < B) : winSet B X i m Z < B ^ (i + m) := by
  unfold winSet
  have h1 : Z % B ^ m < B ^ m := Nat.mod_lt _ (Nat.pow_pos hB)
  have h2 : X % B ^ i < B ^ i := Nat.mod_lt _ (Nat.pow_pos hB)
  have h3 : (Z % B ^ m + 1) * B ^ i ≤ B ^ m * B ^ i := Nat.mul_le_mul_right _ h1
  rw [Nat.pow_add, Nat.mul_comm (B ^ i)]
  rw [Nat.add_mul, Nat.one_mul] at h3
  omega
theorem dgt_win {B X Z i m : Nat} (hB : 0 < B) (hX : X < B ^ (i + m)) (j : Nat) : dgt B (winSet B X i m Z) j = if i ≤ j ∧ j < i + m then dgt B Z (j - i) else dgt B X j := by
  have hP : 0 < B ^ i := Nat.pow_pos hB
  by_cases h1 : i ≤ j
  · obtain ⟨t, rfl⟩ : ∃ t, j = i + t := ⟨j - i, by omega⟩
    by_cases h2 : t < m
    · rw [if_pos ⟨h1, by omega⟩, dgt_high, winSet, Nat.add_comm, Nat.add_mul_div_right _ _ hP, Nat.div_eq_of_lt (Nat.mod_lt _ hP), Nat.zero_add, dgt_mod hB h2, Nat.add_sub_cancel_left]
    · rw [if_neg (by omega), dgt_none hB (winSet_lt hB) (by omega), dgt_none hB hX (by omega)]
  · rw [if_neg (by omega), winSet, Nat.add_comm, Nat.mul_comm, dgt_add_top hB (by omega), dgt_mod hB (by omega)]

/-- The estimate of a digit. -/
def estN (B u0 u1 u2 v1 v2 : Nat) : Nat := if v1 ≤ u0 then B - 1 else (u0 * B * B + u1 * B + u2) / (v1 * B + v2)

theorem top_two {B X k : Nat} (hB : 0 < B) (h : X < B ^ (k + 2)) : dgt B X (k + 1) * B + dgt B X k = X / B ^ k ∧ dgt B X (k + 1) = X / B ^ (k + 1) := by
  have h1 : dgt B X (k + 1) = X / B ^ (k + 1) := by
    unfold dgt
    refine Nat.mod_eq_of_lt ?_
    rw [Nat.div_lt_iff_lt_mul (Nat.pow_pos hB), show B * B ^ (k + 1) = B ^ (k + 2) by rw [Nat.pow_succ B (k + 1), Nat.mul_comm]]
    exact h
  refine ⟨?_, h1⟩
  rw [h1]
  unfold dgt
  rw [Nat.pow_succ, ← Nat.div_div_eq_div_mul, Nat.mul_comm]
  exact Nat.div_add_mod _ _

theorem est_bounds {B W V k : Nat} (hB : 2 ≤ B) (hV : V < B ^ (k + 2)) (hV1 : B ≤ 2 * dgt B V (k + 1)) (hW : W < V * B) :
    W / V ≤ estN B (dgt B W (k + 2)) (dgt B W (k + 1)) (dgt B W k) (dgt B V (k + 1)) (dgt B V k) ∧ estN B (dgt B W (k + 2)) (dgt B W (k + 1)) (dgt B W k) (dgt B V (k + 1)) (dgt B V k) ≤ W / V + 1 ∧
    estN B (dgt B W (k + 2)) (dgt B W (k + 1)) (dgt B W k) (dgt B V (k + 1)) (dgt B V k) ≤ B - 1 := by
  have hB0 : 0 < B := by omega
  have hW3 : W < B ^ (k + 3) := by
    rw [Nat.pow_succ]
    exact Nat.lt_of_lt_of_le hW (Nat.mul_le_mul_right _ (Nat.le_of_lt hV))
  obtain ⟨a1, a2⟩ := top_two hB0 (k := k) hV
  obtain ⟨b1, b2⟩ := top_two hB0 (k := k + 1) hW3
  have c1 : (dgt B W (k + 2) * B + dgt B W (k + 1)) * B + dgt B W k = W / B ^ k := by
    rw [b1]
    unfold dgt
    rw [Nat.pow_succ, ← Nat.div_div_eq_div_mul, Nat.mul_comm]
    exact Nat.div_add_mod _ _
  have hu1 : dgt B W (k + 1) < B := dgt_lt hB0
  have hu2 : dgt B W k < B := dgt_lt hB0
  have hP : 0 < B ^ k := Nat.pow_pos hB0
  have hWd : W / B ^ k * B ^ k ≤ W := Nat.div_mul_le_self _ _
  have hVd : V < (V / B ^ k + 1) * B ^ k := by rw [Nat.add_mul, Nat.one_mul]; have h := Nat.mod_lt V hP; have h2 := Nat.div_add_mod V (B ^ k); rw [Nat.mul_comm] at h2; omega
  have hVl : V / B ^ k * B ^ k ≤ V := Nat.div_mul_le_self _ _
  have hV2 : V < (V / B ^ (k + 1) + 1) * B ^ (k + 1) := by rw [Nat.add_mul, Nat.one_mul]; have h := Nat.mod_lt V (Nat.pow_pos (n := k + 1) hB0); have h2 := Nat.div_add_mod V (B ^ (k + 1)); rw [Nat.mul_comm] at h2; omega
  rw [← a2] at hV2
  rw [← c1] at hWd
  rw [← a1] at hVd hVl
  have hWV0 : W / V * V ≤ W := Nat.div_mul_le_self _ _
  have hpow : B ^ (k + 1) = B ^ k * B := Nat.pow_succ ..
  rw [hpow] at hV2
  have c2 : W / B ^ k = (dgt B W (k + 2) * B + dgt B W (k + 1)) * B + dgt B W k := c1.symm
  unfold estN
  generalize dgt B W (k + 2) = u0 at *
  generalize dgt B W (k + 1) = u1 at *
  generalize dgt B W k = u2 at *
  generalize dgt B V (k + 1) = v1 at *
  generalize dgt B V k = v2 at *
  have hv1 : 1 ≤ v1 := by omega
  have hv0 : B ≤ v1 * B + v2 := by
    have : 1 * B ≤ v1 * B := Nat.mul_le_mul_right _ hv1
    omega
  have hVpos : 0 < V := Nat.lt_of_lt_of_le (Nat.mul_pos (by omega) hP) hVl
  have hWVB : W / V < B := by rw [Nat.div_lt_iff_lt_mul hVpos, Nat.mul_comm]; exact hW
  have e3 : u0 * B * B + u1 * B + u2 = (u0 * B + u1) * B + u2 := by rw [Nat.add_mul]
  by_cases hc : v1 ≤ u0
  · rw [if_pos hc]
    refine ⟨by omega, ?_, Nat.le_refl _⟩
    have h1 : (B - 2) * V ≤ W := by
      have h2 : (B - 2) * V ≤ (B - 2) * ((v1 + 1) * (B ^ k * B)) := Nat.mul_le_mul_left _ (Nat.le_of_lt hV2)
      have h3 : (B - 2) * (v1 + 1) ≤ v1 * B := by
        obtain ⟨b, rfl⟩ : ∃ b, B = b + 2 := ⟨B - 2, by omega⟩
        rw [Nat.add_sub_cancel, Nat.mul_add, Nat.mul_add, Nat.mul_one, Nat.mul_comm b v1]
        omega
      have h4 : (B - 2) * ((v1 + 1) * (B ^ k * B)) ≤ v1 * B * (B ^ k * B) := by rw [← Nat.mul_assoc]; exact Nat.mul_le_mul_right _ h3
      have h5 : v1 * B * (B ^ k * B) ≤ u0 * B * (B ^ k * B) := Nat.mul_le_mul_right _ (Nat.mul_le_mul_right _ hc)
      have h6 : u0 * B * (B ^ k * B) = u0 * B * B * B ^ k := by simp only [Nat.mul_assoc, Nat.mul_comm, Nat.mul_left_comm]
      have h7 : u0 * B * B * B ^ k ≤ ((u0 * B + u1) * B + u2) * B ^ k := by
        refine Nat.mul_le_mul_right _ ?_
        rw [Nat.add_mul]
        omega
      omega
    have h8 : B - 2 ≤ W / V := by rw [Nat.le_div_iff_mul_le hVpos]; exact h1
    omega
  · rw [if_neg hc, e3]
    generalize hu3 : (u0 * B + u1) * B + u2 = u3 at *
    generalize hv : v1 * B + v2 = v at *
    have hv' : 0 < v := by omega
    have hlo : W / V ≤ u3 / v := by
      rw [Nat.le_div_iff_mul_le hv', ← c2, Nat.le_div_iff_mul_le hP, Nat.mul_assoc]
      exact Nat.le_trans (Nat.mul_le_mul_left _ hVl) hWV0
    have hq : u3 / v * v ≤ u3 := Nat.div_mul_le_self _ _
    have hqB : u3 / v < B := by
      rw [Nat.div_lt_iff_lt_mul hv', ← hu3, ← hv]
      have h1 : (u0 + 1) * B ≤ v1 * B := Nat.mul_le_mul_right _ (by omega)
      have h2 : (u0 * B + u1 + 1) * B ≤ v1 * B * B := Nat.mul_le_mul_right _ (by rw [Nat.add_mul, Nat.one_mul] at h1; omega)
      rw [Nat.add_mul, Nat.one_mul] at h2
      rw [Nat.mul_add, Nat.mul_comm B (v1 * B)]
      omega
    generalize hqq : u3 / v = q at *
    refine ⟨hlo, ?_, by omega⟩
    cases q with
    | zero => exact Nat.zero_le _
    | succ p =>
      have h1 : p * V ≤ W := by
        have h2 : p * V ≤ p * ((v + 1) * B ^ k) := Nat.mul_le_mul_left _ (Nat.le_of_lt hVd)
        have h3 : p * (v + 1) ≤ u3 := by
          rw [Nat.add_mul, Nat.one_mul] at hq
          rw [Nat.mul_add, Nat.mul_one]
          omega
        have h4 : p * ((v + 1) * B ^ k) ≤ u3 * B ^ k := by rw [← Nat.mul_assoc]; exact Nat.mul_le_mul_right _ h3
        omega
      have h5 : p ≤ W / V := by rw [Nat.le_div_iff_mul_le hVpos]; exact h1
      exact Nat.succ_le_succ h5
end Go.Proofs.Ytkegdjndmeialaa

namespace Go.Proofs.Ytkegdjndmeialaa

theorem mulC_lt {B v q k : Nat} (hB : 0 < B) (hq : 0 < q) : mulC B v q k < q := by
  unfold mulC
  rw [Nat.div_lt_iff_lt_mul (Nat.pow_pos hB), Nat.mul_comm q]
  exact Nat.mul_lt_mul_of_pos_right (Nat.mod_lt _ (Nat.pow_pos hB)) hq

theorem low_set {B X i : Nat} (hB : 0 < B) : setD B (X % B ^ i) i (dgt B X i) = X % B ^ (i + 1) := by
  have h1 := setD_eq B (X % B ^ i) i (dgt B X i)
  have h2 : dgt B (X % B ^ i) i = 0 := dgt_none hB (Nat.mod_lt _ (Nat.pow_pos hB)) (Nat.le_refl _)
  have h3 : X % B ^ (i + 1) = X % B ^ i + B ^ i * dgt B X i := Nat.mod_pow_succ
  rw [h2, Nat.zero_mul, Nat.add_zero] at h1
  rw [h1, h3, Nat.mul_comm]

/-- A digit moved up, with what came from below. -/
theorem up_or {x lost s : Nat} (hs : s ≤ 64) (hl : lost < 2 ^ s) : x * 2 ^ s % 2 ^ 64 ||| lost = (x * 2 ^ s + lost) % 2 ^ 64 := by
  have e : (2 : Nat) ^ 64 = 2 ^ s * 2 ^ (64 - s) := by rw [← Nat.pow_add]; congr 1; omega
  have h1 : x * 2 ^ s % 2 ^ 64 = 2 ^ s * (x % 2 ^ (64 - s)) := by rw [e, Nat.mul_comm x, Nat.mul_mod_mul_left]
  have h2 : (x * 2 ^ s + lost) % 2 ^ 64 = 2 ^ s * (x % 2 ^ (64 - s)) + lost := by
    rw [e, Nat.mod_mul, Nat.mul_comm x, Nat.mul_add_mod, Nat.mod_eq_of_lt hl, Nat.mul_add_div (Nat.two_pow_pos s), Nat.div_eq_of_lt hl, Nat.add_zero, Nat.add_comm]
  rw [h1, h2]
  exact (Nat.two_pow_add_eq_or_of_lt hl _).symm
theorem up_lost {x lost s : Nat} (hs : s ≤ 64) (hl : lost < 2 ^ s) : (x * 2 ^ s + lost) / 2 ^ 64 = x / 2 ^ (64 - s) := by
  have e : (2 : Nat) ^ 64 = 2 ^ s * 2 ^ (64 - s) := by rw [← Nat.pow_add]; congr 1; omega
  rw [e, ← Nat.div_div_eq_div_mul, Nat.mul_comm x, Nat.mul_add_div (Nat.two_pow_pos s), Nat.div_eq_of_lt hl, Nat.add_zero]
/-- A digit of a number moved down. -/
theorem down_or {X s i : Nat} (hs : s < 64) : dgt (2 ^ 64) X i / 2 ^ s ||| dgt (2 ^ 64) X (i + 1) * 2 ^ (64 - s) % 2 ^ 64 = dgt (2 ^ 64) (X / 2 ^ s) i := by
  have hx : dgt (2 ^ 64) X i < 2 ^ 64 := dgt_lt (by omega)
  have e : (2 : Nat) ^ 64 = 2 ^ (64 - s) * 2 ^ s := by rw [← Nat.pow_add]; congr 1; omega
  have hq : dgt (2 ^ 64) X i / 2 ^ s < 2 ^ (64 - s) := by rw [Nat.div_lt_iff_lt_mul (Nat.two_pow_pos s), ← e]; exact hx
  have h1 : dgt (2 ^ 64) X (i + 1) * 2 ^ (64 - s) % 2 ^ 64 = 2 ^ (64 - s) * (dgt (2 ^ 64) X (i + 1) % 2 ^ s) := by
    rw [Nat.mul_comm, e, Nat.mul_mod_mul_left]
  rw [h1, Nat.or_comm, ← Nat.two_pow_add_eq_or_of_lt hq]
  have h2 : dgt (2 ^ 64) (X / 2 ^ s) i = X / (2 ^ 64) ^ i / 2 ^ s % 2 ^ 64 := by
    unfold dgt; rw [Nat.div_div_eq_div_mul, Nat.div_div_eq_div_mul, Nat.mul_comm]
  rw [h2]
  have h3 : dgt (2 ^ 64) X (i + 1) = X / (2 ^ 64) ^ i / 2 ^ 64 % 2 ^ 64 := by unfold dgt; rw [Nat.pow_succ, Nat.div_div_eq_div_mul]
  have h4 : dgt (2 ^ 64) X i = X / (2 ^ 64) ^ i % 2 ^ 64 := rfl
  rw [h3, h4]
  generalize X / (2 ^ 64) ^ i = Z
  have h5 : Z / 2 ^ 64 % 2 ^ 64 % 2 ^ s = Z / 2 ^ 64 % 2 ^ s := Nat.mod_mod_of_dvd _ (Nat.pow_dvd_pow 2 (by omega))
  rw [h5]
  have h6 : Z / 2 ^ s % 2 ^ 64 = Z / 2 ^ s % 2 ^ (64 - s) + 2 ^ (64 - s) * (Z / 2 ^ s / 2 ^ (64 - s) % 2 ^ s) := by
    conv => lhs; rw [e]
    exact Nat.mod_mul
  have h7 : Z / 2 ^ s / 2 ^ (64 - s) = Z / 2 ^ 64 := by rw [Nat.div_div_eq_div_mul, Nat.mul_comm, ← e]
  have h8 : Z % 2 ^ 64 / 2 ^ s = Z / 2 ^ s % 2 ^ (64 - s) := by
    rw [e, Nat.mul_comm, Nat.mod_mul_right_div_self]
  rw [h6, h7, h8, Nat.add_comm]
end Go.Proofs.Ytkegdjndmeialaa

namespace Go.Proofs.Ytkegdjndmeialaa

theorem win_div {B X i m Z : Nat} (hB : 0 < B) : winSet B X i m Z / B ^ i = Z % B ^ m ∧ winSet B X i m Z % B ^ i = X % B ^ i := by
  have hP : 0 < B ^ i := Nat.pow_pos hB
  unfold winSet
  rw [Nat.add_comm, Nat.add_mul_div_right _ _ hP, Nat.div_eq_of_lt (Nat.mod_lt _ hP), Nat.zero_add, Nat.add_mul_mod_self_right, Nat.mod_eq_of_lt (Nat.mod_lt _ hP)]
  exact ⟨rfl, rfl⟩

/-- What is left of U, divided by V, when the digits below j are still to come. -/
def left (B U V j : Nat) : Nat := U / B ^ j % V * B ^ j + U % B ^ j
theorem left_zero (B U V : Nat) : left B U V 0 = U % V := by unfold left; simp [Nat.mod_one]
theorem left_all {B U V j : Nat} (hB : 0 < B) (h : U < V * B ^ j) : left B U V j = U := by
  have h1 : U / B ^ j < V := by rw [Nat.div_lt_iff_lt_mul (Nat.pow_pos hB)]; exact h
  unfold left
  rw [Nat.mod_eq_of_lt h1, Nat.mul_comm]
  exact Nat.div_add_mod _ _

theorem left_win {B U V k : Nat} (hB : 0 < B) (hV : 0 < V) : left B U V (k + 1) / B ^ k = U / B ^ (k + 1) % V * B + dgt B U k ∧ left B U V (k + 1) % B ^ k = U % B ^ k ∧ left B U V (k + 1) / B ^ k < V * B := by
  have hP : 0 < B ^ k := Nat.pow_pos hB
  have h1 : left B U V (k + 1) = (U / B ^ (k + 1) % V * B + dgt B U k) * B ^ k + U % B ^ k := by
    unfold left
    rw [show U % B ^ (k + 1) = U % B ^ k + B ^ k * dgt B U k from Nat.mod_pow_succ, Nat.add_mul, Nat.pow_succ, Nat.mul_comm (B ^ k) B, ← Nat.mul_assoc, Nat.mul_comm (B ^ k) (dgt B U k)]
    omega
  have hd : dgt B U k < B := dgt_lt hB
  have hr : U / B ^ (k + 1) % V + 1 ≤ V := Nat.mod_lt _ hV
  have hr2 : (U / B ^ (k + 1) % V + 1) * B ≤ V * B := Nat.mul_le_mul_right _ hr
  rw [Nat.add_mul, Nat.one_mul] at hr2
  have h2 : left B U V (k + 1) / B ^ k = U / B ^ (k + 1) % V * B + dgt B U k := by
    rw [h1, Nat.add_comm, Nat.add_mul_div_right _ _ hP, Nat.div_eq_of_lt (Nat.mod_lt _ hP), Nat.zero_add]
  refine ⟨h2, ?_, by rw [h2]; omega⟩
  rw [h1, Nat.add_comm, Nat.add_mul_mod_self_right, Nat.mod_eq_of_lt (Nat.mod_lt _ hP)]

/-- One round: the window W, the digit, what is left. -/
theorem left_step {B U V k : Nat} (hB : 0 < B) (hV : 0 < V) : left B U V (k + 1) / B ^ k / V = dgt B (U / V) k ∧ left B U V k = left B U V (k + 1) / B ^ k % V * B ^ k + left B U V (k + 1) % B ^ k := by
  obtain ⟨h1, h2, _⟩ := left_win (U := U) (k := k) hB hV
  have h3 := short_step hB U V k hV
  rw [h1, h2]
  refine ⟨h3.1, ?_⟩
  unfold left
  rw [h3.2]

theorem round_fits {B X V q i n W : Nat} (hB : 0 < B) (hV : V < B ^ n) (hV0 : 0 < V) (hq : q = W / V) : winSet B X i (n + 1) (subW B (n + 1) W (V * q)) = W % V * B ^ i + X % B ^ i ∧ ¬ W < V * q := by
  have h1 := Nat.div_add_mod W V
  rw [← hq] at h1
  have h2 : ¬ W < V * q := by omega
  refine ⟨?_, h2⟩
  have h3 : subW B (n + 1) W (V * q) = W % V := by unfold subW; rw [if_neg h2]; omega
  have h4 : W % V < B ^ (n + 1) := Nat.lt_trans (Nat.mod_lt _ hV0) (Nat.lt_of_lt_of_le hV (Nat.pow_le_pow_right hB (by omega)))
  unfold winSet
  rw [h3, Nat.mod_eq_of_lt h4]

theorem round_over {B X V q i n W : Nat} (hB : 0 < B) (hV : V < B ^ n) (hV0 : 0 < V) (hq : q = W / V + 1) (hWl : W < V * B) :
    winSet B (winSet B X i (n + 1) (subW B (n + 1) W (V * q))) i (n + 1) (winSet B X i (n + 1) (subW B (n + 1) W (V * q)) / B ^ i + V) = W % V * B ^ i + X % B ^ i ∧ W < V * q := by
  have h1 := Nat.div_add_mod W V
  have hm := Nat.mod_lt W hV0
  have h2 : W < V * q := by rw [hq, Nat.mul_add, Nat.mul_one]; omega
  refine ⟨?_, h2⟩
  have hBn : V * B < B ^ (n + 1) := by rw [Nat.pow_succ]; exact Nat.mul_lt_mul_of_pos_right hV hB
  have h3 : subW B (n + 1) W (V * q) = W + B ^ (n + 1) - V * q := by unfold subW; rw [if_pos h2]
  have hvq : V * q = V * (W / V) + V := by rw [hq, Nat.mul_add, Nat.mul_one]
  have h5 : subW B (n + 1) W (V * q) < B ^ (n + 1) := by
    rw [h3]
    generalize B ^ (n + 1) = T at *
    generalize V * q = T2 at *
    generalize V * (W / V) = T3 at *
    omega
  obtain ⟨d1, d2⟩ := win_div (X := X) (i := i) (m := n + 1) (Z := subW B (n + 1) W (V * q)) hB
  rw [d1, Nat.mod_eq_of_lt h5]
  have hp : B ^ n ≤ B ^ (n + 1) := Nat.pow_le_pow_right hB (by omega)
  have h6 : subW B (n + 1) W (V * q) + V = B ^ (n + 1) + W % V := by rw [h3]; omega
  have h7 : W % V < B ^ (n + 1) := by omega
  rw [h6]
  conv => lhs; unfold winSet
  rw [Nat.add_mod_left, Nat.mod_eq_of_lt h7]
  have h8 : (subW B (n + 1) W (V * q) % B ^ (n + 1) * B ^ i + X % B ^ i) % B ^ i = X % B ^ i := d2
  rw [h8]

/-- What the estimate's bounds leave. -/
theorem two_cases {q g : Nat} (h1 : g ≤ q) (h2 : q ≤ g + 1) : q = g ∨ q = g + 1 := by omega

theorem norm_facts {B u n s d : Nat} (hB : B = 2 ^ 64) (hu : u < B ^ n) (hn : 0 < n) (hd : dgt B u (n - 1) = d) (h1 : 2 ^ 63 ≤ d * 2 ^ s) (h2 : (d + 1) * 2 ^ s ≤ 2 ^ 64) : u * 2 ^ s < B ^ n ∧ B ≤ 2 * dgt B (u * 2 ^ s) (n - 1) := by
  have hB0 : 0 < B := by rw [hB]; exact Nat.two_pow_pos 64
  obtain ⟨k, rfl⟩ : ∃ k, n = k + 1 := ⟨n - 1, by omega⟩
  rw [Nat.add_sub_cancel] at *
  have hP : 0 < B ^ k := Nat.pow_pos hB0
  have hdu : d = u / B ^ k := by
    rw [← hd]
    unfold dgt
    exact Nat.mod_eq_of_lt (by rw [Nat.div_lt_iff_lt_mul hP]; rw [Nat.pow_succ, Nat.mul_comm] at hu; exact hu)
  have hlo : d * B ^ k ≤ u := by rw [hdu]; exact Nat.div_mul_le_self _ _
  have hhi : u < (d + 1) * B ^ k := by
    rw [hdu, Nat.add_mul, Nat.one_mul]
    have := Nat.mod_lt u hP
    have h3 := Nat.div_add_mod u (B ^ k)
    rw [Nat.mul_comm] at h3
    omega
  have hS : 0 < 2 ^ s := Nat.two_pow_pos s
  have e1 : u * 2 ^ s < B ^ (k + 1) := by
    have h3 : u * 2 ^ s < (d + 1) * B ^ k * 2 ^ s := Nat.mul_lt_mul_of_pos_right hhi hS
    have h4 : (d + 1) * B ^ k * 2 ^ s = (d + 1) * 2 ^ s * B ^ k := by rw [Nat.mul_assoc, Nat.mul_comm (B ^ k), ← Nat.mul_assoc]
    have h5 : (d + 1) * 2 ^ s * B ^ k ≤ 2 ^ 64 * B ^ k := Nat.mul_le_mul_right _ h2
    have h6 : B * B ^ k = B ^ (k + 1) := by rw [Nat.pow_succ, Nat.mul_comm]
    have h7 : 2 ^ 64 * B ^ k = B ^ (k + 1) := by rw [← h6]; exact congrArg (· * B ^ k) hB.symm
    rw [h7, ← h4] at h5
    exact Nat.lt_of_lt_of_le h3 h5
  refine ⟨e1, ?_⟩
  have e2 : dgt B (u * 2 ^ s) k = u * 2 ^ s / B ^ k := by
    unfold dgt
    exact Nat.mod_eq_of_lt (by rw [Nat.div_lt_iff_lt_mul hP]; rw [Nat.pow_succ, Nat.mul_comm (B ^ k) B] at e1; exact e1)
  have e3 : d * 2 ^ s ≤ u * 2 ^ s / B ^ k := by
    rw [Nat.le_div_iff_mul_le hP]
    have h4 : d * 2 ^ s * B ^ k = d * B ^ k * 2 ^ s := by rw [Nat.mul_assoc, Nat.mul_comm (2 ^ s), ← Nat.mul_assoc]
    rw [h4]
    exact Nat.mul_le_mul_right _ hlo
  rw [e2]
  have e4 : B = 2 * 2 ^ 63 := by rw [hB]
  have e5 := Nat.le_trans h1 e3
  generalize u * 2 ^ s / B ^ k = Z at *
  omega
end Go.Proofs.Ytkegdjndmeialaa

