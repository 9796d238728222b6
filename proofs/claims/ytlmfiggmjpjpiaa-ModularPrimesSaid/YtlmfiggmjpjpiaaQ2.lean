/- multiplyAdd, and the closure of Mul. -/
import Derived.Test.YtlmfiggmjpjpiaaC9
import Derived.Test.YtlmfiggmjpjpiaaShelf
namespace Go.Proofs.Ytlmfiggmjpjpiaa
open Go.RowKit

theorem mulAdd_num {x y v u P hi lo s1 c1 s2 c2 : Nat} (hP : 2 ≤ P) (hx : x < P) (hy : y < P) (hv : v < P) (hu : u < P) (h1 : x * y = lo + P * hi) (hlo : lo < P) (h2 : lo + v = s1 + P * c1) (hs1 : s1 < P) (h3 : s1 + u = s2 + P * c2) (hs2 : s2 < P) :
    s2 = (x * y + v + u) % P ∧ hi + c1 + c2 = (x * y + v + u) / P ∧ hi + c1 + c2 < P := by
  have e : x * y + v + u = s2 + P * (hi + c1 + c2) := by rw [Nat.mul_add, Nat.mul_add]; omega
  have hm : x * y ≤ (P - 1) * (P - 1) := Nat.mul_le_mul (by omega) (by omega)
  obtain ⟨q, rfl⟩ : ∃ q, P = q + 1 := ⟨P - 1, by omega⟩
  rw [Nat.add_sub_cancel] at hm
  have h4 : (q + 1) * (hi + c1 + c2) < (q + 1) * (q + 1) := by
    have : (q + 1) * (q + 1) = q * q + q + q + 1 := by rw [Nat.add_mul, Nat.mul_add, Nat.one_mul, Nat.mul_one]; omega
    omega
  refine ⟨?_, ?_, Nat.lt_of_mul_lt_mul_left h4⟩
  · rw [e, Nat.add_mul_mod_self_left, Nat.mod_eq_of_lt hs2]
  · rw [e, Nat.add_mul_div_left _ _ (by omega), Nat.div_eq_of_lt hs2, Nat.zero_add]

theorem run_add64_call0 (x y : Nat) (w : World) : (callFunc 78 #[.int .u64 x, .int .u64 y, .int .u64 0]).run Try.prog w =
    .ok (.value (.tuple #[.int .u64 (((x + y + 0) % P64 : Nat) : Int), .int .u64 (((x + y + 0) / P64 : Nat) : Int)])) w := run_add64_call x y 0 (by omega) w

set_option maxRecDepth 100000 in
theorem mulAdd_any (x y v u : Nat) (hx : x < P64) (hy : y < P64) (hv : v < P64) (hu : u < P64) (w : World) :
    Calls Try.prog 81 #[.int .u64 x, .int .u64 y, .int .u64 v, .int .u64 u] w fun e w' => e = .returned (.tuple #[.int .u64 ((x * y + v + u) % P64 : Nat), .int .u64 ((x * y + v + u) / P64 : Nat)]) ∧ w' = w := by
  have hM := Try.bits_Mul64 x y (by rw [← P64_eq]; exact hx) (by rw [← P64_eq]; exact hy)
  rw [← P64_eq] at hM
  obtain ⟨hi, hhi⟩ : ∃ hi, x * y / P64 = hi := ⟨_, rfl⟩
  obtain ⟨lo, hlo⟩ : ∃ lo, x * y % P64 = lo := ⟨_, rfl⟩
  have hll : lo < P64 := by rw [← hlo]; exact Nat.mod_lt _ P64_pos
  have e1 : x * y = lo + P64 * hi := by rw [← hlo, ← hhi]; exact (Nat.mod_add_div _ _).symm
  rw [hhi, hlo] at hM
  have hA := run_add64_call0 lo v
  obtain ⟨s1, hs1⟩ : ∃ s1, (lo + v + 0) % P64 = s1 := ⟨_, rfl⟩
  obtain ⟨c1, hc1⟩ : ∃ c1, (lo + v + 0) / P64 = c1 := ⟨_, rfl⟩
  have hl1 : s1 < P64 := by rw [← hs1]; exact Nat.mod_lt _ P64_pos
  have e2 : lo + v = s1 + P64 * c1 := by rw [← hs1, ← hc1]; exact (Nat.mod_add_div _ _).symm
  rw [hs1, hc1] at hA
  have hB := run_add64_call0 s1 u
  obtain ⟨s2, hs2⟩ : ∃ s2, (s1 + u + 0) % P64 = s2 := ⟨_, rfl⟩
  obtain ⟨c2, hc2⟩ : ∃ c2, (s1 + u + 0) / P64 = c2 := ⟨_, rfl⟩
  have hl2 : s2 < P64 := by rw [← hs2]; exact Nat.mod_lt _ P64_pos
  have e3 : s1 + u = s2 + P64 * c2 := by rw [← hs2, ← hc2]; exact (Nat.mod_add_div _ _).symm
  rw [hs2, hc2] at hB
  obtain ⟨f1, f2, f3⟩ := mulAdd_num (by rw [P64_eq]; decide) hx hy hv hu e1 hll e2 hl1 e3 hl2
  rw [← f1, ← f2]
  have hM2 := Lib.hid hM
  clear hM hhi hlo e1 e2 e3 f1 f2 hs1 hc1 hs2 hc2 hll hl1 hl2 hx hy hv hu
  rw [P64_eq] at f3
  go_enter Try.func81, Try.ntmps81
  go_wp2_with (go_at_call 92; refine (hM2.out _).mono ?_; rintro e w1 ⟨rfl, rfl⟩)
  go_ret2
  exact ⟨rfl, rfl⟩

/-- A cell that holds a factor, a cell that holds a carry. -/
def Carry2 (F C : Nat) (f : Nat) (c : Nat → Nat) (k : Nat) (W : World) : Prop :=
  W.cell? ⟨F, 0, none⟩ = some (.int .u64 (f : Nat)) ∧ Carry C c k W

set_option maxRecDepth 100000 in
theorem mul1_any (x y f c F C : Nat) (hx : x < P64) (hy : y < P64) (hf : f < P64) (hc : c < P64) (w : World) (hF : w.cell? ⟨F, 0, none⟩ = some (.int .u64 (f : Nat))) (hC : w.cell? ⟨C, 0, none⟩ = some (.int .u64 (c : Nat))) (hfr : w.frozen? ⟨C, 0, none⟩ = false) :
    Calls Try.prog 80 #[.int .u64 x, .int .u64 y, .pointer (some ⟨F, 0, none⟩), .pointer (some ⟨C, 0, none⟩)] w fun e w' =>
      e = .returned (.int .u64 ((y * f + x + c) % P64 : Nat)) ∧ w' = w.setCell ⟨C, 0, none⟩ (.int .u64 ((y * f + x + c) / P64 : Nat)) := by
  have hM := Lib.hid (mulAdd_any y f x c hy hf hx hc)
  generalize (y * f + x + c) / P64 = a at *
  generalize (y * f + x + c) % P64 = b at *
  clear hx hy hf hc
  go_enter Try.func80, Try.ntmps80
  go_wp2_with (go_at_call 81; refine (hM.out _).mono ?_; rintro e w1 ⟨rfl, rfl⟩)
  go_ret
  exact ⟨rfl, rfl⟩
end Go.Proofs.Ytlmfiggmjpjpiaa
