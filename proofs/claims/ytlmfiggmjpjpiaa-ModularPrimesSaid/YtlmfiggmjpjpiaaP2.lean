/- NatShifts, walked. -/
import Derived.Test.YtlmfiggmjpjpiaaT0
import Derived.Test.YtlmfiggmjpjpiaaZR
import Derived.Test.YtlmfiggmjpjpiaaQ6
namespace Go.Proofs.Ytlmfiggmjpjpiaa
open Go.RowKit

theorem rdivide_ref (v u m : Nat) (s t : Value) (w : World) (hs : DigN v m s w) (ht : RefN u t w) (hm : m ≤ 100000) (hn : dlen 65536 u ≤ 100000) (hu : 0 < u) :
    Calls Try.prog 43 #[s, t] w fun e w' => ∃ q r, e = .returned (.tuple #[q, r]) ∧ RefN (v / u) q w' ∧ RefN (v % u) r w' ∧ Below w.heap.size w w' := by
  obtain ⟨h1, h2⟩ := dlen_le_of (B := 65536) (by omega) (show u ≠ 0 by omega)
  exact rdivide_any v u m _ s t w hs ht hm hn h1 h2
theorem p64_65536 : P64 ^ 16 = (65536 : Nat) ^ 64 := by rw [P64_16, p16]
theorem pow16_le (m k : Nat) (h : k ≤ 16 * m) : 2 ^ k ≤ 65536 ^ m := by
  rw [show (65536 : Nat) = 2 ^ 16 by decide, ← Nat.pow_mul]
  exact Nat.pow_le_pow_right (by omega) h
theorem dlen_shift {v k : Nat} (hv : v < P64 ^ 16) (hk : k ≤ 1024) : dlen 65536 (v * 2 ^ k) ≤ 129 := by
  rw [p64_65536] at hv
  refine dlen_le (by omega) ?_
  have h1 : 2 ^ k ≤ 65536 ^ 64 := pow16_le 64 k (by omega)
  rw [show (129 : Nat) = 64 + 65 by omega, Nat.pow_add]
  have h2 : (65536 : Nat) ^ 64 ≤ 65536 ^ 65 := Nat.pow_le_pow_right (by omega) (by omega)
  exact Nat.mul_lt_mul_of_lt_of_le hv (Nat.le_trans h1 h2) (Nat.pow_pos (by omega))
theorem ref_shape {v : Nat} {t : Value} {W : World} (h : RefN v t W) : ∃ a c, t = .slice a (dlen 65536 v) c := by
  obtain ⟨_, a, c, h, _⟩ := h
  exact ⟨a, c, h⟩
theorem dlen2_shift {v k : Nat} (h0 : v ≠ 0) : dlen 2 (v * 2 ^ k) = dlen 2 v + k := by
  obtain ⟨h1, h2⟩ := dlen_le_of (B := 2) (by omega) h0
  have h3 := lt_dlen (show 2 ≤ 2 by omega) v
  generalize dlen 2 v = d at *
  refine dlen_eq (by omega) ?_ (.inr ?_)
  · rw [Nat.pow_add]; exact Nat.mul_lt_mul_of_pos_right h3 (Nat.two_pow_pos k)
  · rw [show d + k - 1 = d - 1 + k by omega, Nat.pow_add]; exact Nat.mul_le_mul_right _ h2
theorem right_zero {v k : Nat} (hv : v < P64 ^ 16) (hk : 1024 < k) : v / 2 ^ k = 0 := by
  have h1 := (decide_eq_decide.1 (dlen_1024 (v := v))).1 hv
  have h2 := lt_dlen (show 2 ≤ 2 by omega) v
  exact Nat.div_eq_of_lt (Nat.lt_of_lt_of_le h2 (Nat.pow_le_pow_right (by omega) (by omega)))
theorem fits_iff (x : Nat) : x < P64 ^ 16 ↔ dlen 2 x ≤ 1024 := decide_eq_decide.1 (dlen_1024 (v := x))
theorem fits_shift {v k : Nat} (h : v * 2 ^ k < P64 ^ 16) (h0 : v ≠ 0) : dlen 2 v + k ≤ 1024 := by
  rw [fits_iff, dlen2_shift h0] at h; exact h
theorem full_shift {v k : Nat} (h : ¬ v * 2 ^ k < P64 ^ 16) : v ≠ 0 ∧ 1024 < dlen 2 v + k := by
  have h0 : v ≠ 0 := by
    rintro rfl
    exact h (by rw [Nat.zero_mul]; exact Nat.pow_pos P64_pos)
  rw [fits_iff, dlen2_shift h0] at h
  exact ⟨h0, by omega⟩

end Go.Proofs.Ytlmfiggmjpjpiaa
