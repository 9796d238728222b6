/- Plain facts on the reference's division: the estimate of a digit is never too small. No program. -/
import Derived.Test.YtkegdjndmeialaaMath4
import Derived.Test.YtkegdjndmeialaaMath2
namespace Go.Proofs.Ytkegdjndmeialaa

/-- The digit at a place that may lie below 0. -/
def digI (v : Nat) (i : Int) : Nat := if i < 0 then 0 else dgt 65536 v i.toNat
theorem digI_nat (v k : Nat) : digI v (k : Nat) = dgt 65536 v k := by unfold digI; rw [if_neg (by omega)]; congr 1
theorem digI_at {v k : Nat} {i : Int} (h : i = (k : Nat)) : digI v i = dgt 65536 v k := by rw [h, digI_nat]
theorem digI_neg {v : Nat} {i : Int} (h : i < 0) : digI v i = 0 := by unfold digI; rw [if_pos h]
theorem digI_lt (v : Nat) (i : Int) : digI v i < 65536 := by
  unfold digI
  split
  · omega
  · exact dgt_lt (by omega)

/-- The first two and the first three digits. -/
def top2 (u n : Nat) : Nat := digI u ((n : Int) - 1) * 65536 + digI u ((n : Int) - 2)
def top3 (r n : Nat) : Nat := (digI r (n : Nat) * 65536 + digI r ((n : Int) - 1)) * 65536 + digI r ((n : Int) - 2)

theorem two_digits (X : Nat) (k : Nat) (h : X < 65536 ^ (k + 2)) : dgt 65536 X (k + 1) * 65536 + dgt 65536 X k = X / 65536 ^ k := by
  have h1 : dgt 65536 X (k + 1) = X / 65536 ^ (k + 1) := by
    unfold dgt
    refine Nat.mod_eq_of_lt ?_
    rw [Nat.div_lt_iff_lt_mul (Nat.pow_pos (by omega)), show 65536 * 65536 ^ (k + 1) = 65536 ^ (k + 2) by rw [Nat.pow_succ 65536 (k + 1), Nat.mul_comm]]
    exact h
  rw [h1]
  unfold dgt
  rw [Nat.pow_succ, ← Nat.div_div_eq_div_mul]
  omega
theorem three_digits (X : Nat) (k : Nat) (h : X < 65536 ^ (k + 3)) : (dgt 65536 X (k + 2) * 65536 + dgt 65536 X (k + 1)) * 65536 + dgt 65536 X k = X / 65536 ^ k := by
  rw [two_digits X (k + 1) h]
  unfold dgt
  rw [Nat.pow_succ, ← Nat.div_div_eq_div_mul]
  omega

theorem est_ge {u r n : Nat} (hn : 0 < n) (hu1 : 65536 ^ (n - 1) ≤ u) (hu2 : u < 65536 ^ n) (hr : r < u * 65536) :
    0 < top2 u n ∧ r / u ≤ top3 r n / top2 u n ∧ r / u ≤ 65535 := by
  have hu0 : 0 < u := Nat.lt_of_lt_of_le (Nat.pow_pos (by omega)) hu1
  have hg : r / u * u ≤ r := Nat.div_mul_le_self _ _
  have hlt : r / u < 65536 := by rw [Nat.div_lt_iff_lt_mul hu0, Nat.mul_comm]; exact hr
  refine ⟨?_, ?_, by omega⟩
  all_goals
    rcases (show n = 1 ∨ ∃ k, n = k + 2 from (by rcases Nat.lt_or_ge 1 n with h | h; exact .inr ⟨n - 2, by omega⟩; exact .inl (by omega))) with rfl | ⟨k, rfl⟩
  · have e : dgt 65536 u 0 = u := by unfold dgt; simp at hu2 ⊢; omega
    unfold top2
    rw [digI_at (k := 0) (by omega), e]
    omega
  · unfold top2
    rw [digI_at (k := k + 1) (by omega), digI_at (k := k) (by omega), two_digits u k hu2]
    exact Nat.div_pos (Nat.le_trans (Nat.pow_le_pow_right (by omega) (by omega)) hu1) (Nat.pow_pos (by omega))
  · have e : dgt 65536 u 0 = u := by unfold dgt; simp at hu2 ⊢; omega
    have e1 : top2 u 1 = u * 65536 := by
      unfold top2
      rw [digI_at (k := 0) (by omega), digI_neg (i := ((1 : Nat) : Int) - 2) (by omega), e, Nat.add_zero]
    have hr2 : r < 65536 ^ (0 + 2) := by simp at hu2 ⊢; omega
    have e2 : top3 r 1 = r * 65536 := by
      unfold top3
      rw [digI_at (k := 1) (by omega), digI_at (k := 0) (by omega), digI_neg (i := ((1 : Nat) : Int) - 2) (by omega), two_digits r 0 hr2]
      simp
    rw [e1, e2, Nat.mul_div_mul_right _ _ (by omega)]
    exact Nat.le_refl _
  · have hr2 : r < 65536 ^ (k + 3) := by
      have h2 : u * 65536 ≤ 65536 ^ (k + 2) * 65536 := Nat.mul_le_mul_right _ (by omega)
      rw [← Nat.pow_succ] at h2
      exact Nat.lt_of_lt_of_le hr h2
    have e1 : top2 u (k + 2) = u / 65536 ^ k := by
      unfold top2
      rw [digI_at (k := k + 1) (by omega), digI_at (k := k) (by omega), two_digits u k hu2]
    have e2 : top3 r (k + 2) = r / 65536 ^ k := by
      unfold top3
      rw [digI_nat, digI_at (k := k + 1) (by omega), digI_at (k := k) (by omega), three_digits r k hr2]
    have hP : 0 < 65536 ^ k := Nat.pow_pos (by omega)
    have hd : 0 < u / 65536 ^ k := Nat.div_pos (Nat.le_trans (Nat.pow_le_pow_right (by omega) (by omega)) hu1) hP
    rw [e1, e2, Nat.le_div_iff_mul_le hd, Nat.le_div_iff_mul_le hP, Nat.mul_assoc]
    exact Nat.le_trans (Nat.mul_le_mul_left _ (Nat.div_mul_le_self _ _)) hg

theorem top2_lt (u n : Nat) : top2 u n < 4294967296 := by
  unfold top2
  have := digI_lt u ((n : Int) - 1)
  have := digI_lt u ((n : Int) - 2)
  omega
theorem top3_lt (r n : Nat) : top3 r n < 281474976710656 := by
  unfold top3
  have := digI_lt r (n : Nat)
  have := digI_lt r ((n : Int) - 1)
  have := digI_lt r ((n : Int) - 2)
  omega

/-- One digit of the quotient. -/
theorem div_digit {v u k : Nat} (hu : 0 < u) : (v / 65536 ^ (k + 1) % u * 65536 + dgt 65536 v k) / u = dgt 65536 (v / u) k ∧ (v / 65536 ^ (k + 1) % u * 65536 + dgt 65536 v k) % u = v / 65536 ^ k % u ∧
    v / 65536 ^ (k + 1) % u * 65536 + dgt 65536 v k < u * 65536 := by
  have h := short_step (B := 65536) (by omega) v u k hu
  refine ⟨h.1, h.2, ?_⟩
  have h1 : v / 65536 ^ (k + 1) % u + 1 ≤ u := Nat.mod_lt _ hu
  have h2 : dgt 65536 v k < 65536 := dgt_lt (by omega)
  omega
theorem hiDg_set {B q i : Nat} (hB : 0 < B) : setD B (hiDg B q (i + 1)) i (dgt B q i) = hiDg B q i := by
  have h := setD_eq B (hiDg B q (i + 1)) i (dgt B q i)
  rw [dgt_hiDg hB, Nat.zero_mul, Nat.add_zero] at h
  rw [h, ← hiDg_step]
end Go.Proofs.Ytkegdjndmeialaa
