/- Plain facts on division by a single digit. -/
import Derived.Test.YtkegdjndmeialaaMath
namespace Go.Proofs.Ytkegdjndmeialaa

theorem short_step {B : Nat} (hB : 0 < B) (v b i : Nat) (hb : 0 < b) :
    ((v / B ^ (i + 1) % b) * B + dgt B v i) / b = dgt B (v / b) i ∧ ((v / B ^ (i + 1) % b) * B + dgt B v i) % b = v / B ^ i % b := by
  have hV : v / B ^ i = (v / B ^ (i + 1)) * B + dgt B v i := by
    unfold dgt
    rw [Nat.pow_succ, ← Nat.div_div_eq_div_mul, Nat.mul_comm]
    exact (Nat.div_add_mod _ _).symm
  have hd : dgt B v i < B := dgt_lt hB
  have hq : dgt B (v / b) i = (v / B ^ i) / b % B := by
    unfold dgt
    rw [Nat.div_div_eq_div_mul, Nat.div_div_eq_div_mul, Nat.mul_comm]
  generalize v / B ^ (i + 1) = H at *
  generalize dgt B v i = d at *
  rw [hq, hV]
  have hH : H * B + d = (H % b) * B + d + b * ((H / b) * B) := by
    have h := Nat.div_add_mod H b
    have h2 : H * B = (b * (H / b) + H % b) * B := by rw [h]
    rw [h2, Nat.add_mul, Nat.mul_assoc]
    omega
  have hlt : ((H % b) * B + d) / b < B := by
    rw [Nat.div_lt_iff_lt_mul hb]
    have h1 : H % b + 1 ≤ b := Nat.mod_lt _ hb
    have h2 : (H % b + 1) * B ≤ b * B := Nat.mul_le_mul_right _ h1
    rw [Nat.add_mul, Nat.one_mul] at h2
    rw [Nat.mul_comm B b]
    omega
  rw [hH, Nat.add_mul_div_left _ _ hb, Nat.add_mul_mod_self_left, Nat.add_mul_mod_self_right, Nat.mod_eq_of_lt hlt]
  exact ⟨rfl, rfl⟩

/-- The digits of q from m on. -/
def hiDg (B q m : Nat) : Nat := q / B ^ m * B ^ m
theorem hiDg_top {B q m : Nat} (h : q < B ^ m) : hiDg B q m = 0 := by unfold hiDg; rw [Nat.div_eq_of_lt h, Nat.zero_mul]
theorem hiDg_zero {B q : Nat} : hiDg B q 0 = q := by simp [hiDg]
theorem hiDg_step {B q i : Nat} : hiDg B q i = hiDg B q (i + 1) + dgt B q i * B ^ i := by
  unfold hiDg dgt
  have h := Nat.div_add_mod (q / B ^ i) B
  have e : q / B ^ (i + 1) = q / B ^ i / B := by rw [Nat.pow_succ, Nat.div_div_eq_div_mul]
  rw [e]
  conv => lhs; rw [← h]
  rw [Nat.add_mul, Nat.pow_succ, Nat.mul_comm B (q / B ^ i / B), Nat.mul_assoc, Nat.mul_comm B (B ^ i)]
theorem dgt_hiDg {B q i : Nat} (hB : 0 < B) : dgt B (hiDg B q (i + 1)) i = 0 := by
  unfold hiDg dgt
  rw [Nat.pow_succ, Nat.mul_comm (B ^ i) B, ← Nat.mul_assoc, Nat.mul_div_cancel _ (Nat.pow_pos hB), Nat.mul_mod_left]
end Go.Proofs.Ytkegdjndmeialaa
