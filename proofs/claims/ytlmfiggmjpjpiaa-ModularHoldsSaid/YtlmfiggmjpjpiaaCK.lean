/- Plain facts on residues, for the laws of stage 2: no program. -/
namespace Go.Proofs.Ytlmfiggmjpjpiaa

theorem mh_left (m x y w : Nat) : w * ((x + y) % m) % m = w * (x + y) % m := Nat.mul_mod_mod _ _ _
theorem mh_right (m x y w : Nat) : (w * x % m % m + w * y % m % m) % m = w * (x + y) % m := by
  rw [← Nat.add_mod, Nat.mul_add, ← Nat.add_mod]
theorem mh_sum (m x y : Nat) : (x % m + y % m) % m = (x + y) % m := (Nat.add_mod _ _ _).symm
theorem mh_pq (m x y w : Nat) : w * x % m * y % m = w * x * y % m := Nat.mod_mul_mod _ _ _
theorem mh_wxy (m x y w : Nat) : w * (x * y % m) % m = w * x * y % m := by rw [Nat.mul_mod_mod, Nat.mul_assoc]
theorem mh_back (m x y : Nat) (h : 0 < m) : ((x % m + (m - y % m)) % m % m + y % m) % m = x % m := by
  have hy := Nat.mod_lt y h
  rw [Nat.mod_mod, Nat.mod_add_mod, show x % m + (m - y % m) + y % m = x % m + m by omega, Nat.add_mod_right, Nat.mod_mod]
theorem mh_pow (m x k : Nat) : (x % m) ^ k % m = x ^ k % m := (Nat.pow_mod _ _ _).symm
theorem mh_prod (m x n k : Nat) : x ^ n % m * (x ^ k % m) % m = x ^ (n + k) % m := by rw [← Nat.mul_mod, Nat.pow_add]

/-! ### Fermat's little theorem -/
/-- The binomial coefficients. -/
def cho : Nat → Nat → Nat
  | _, 0 => 1
  | 0, _ + 1 => 0
  | n + 1, k + 1 => cho n k + cho n (k + 1)
theorem cho_zero (n : Nat) : cho n 0 = 1 := by cases n <;> rfl
theorem cho_gt : ∀ (n k : Nat), n < k → cho n k = 0
  | 0, 0, h => absurd h (Nat.lt_irrefl _)
  | 0, k + 1, _ => rfl
  | n + 1, 0, h => absurd h (Nat.not_lt_zero _)
  | n + 1, k + 1, h => by
    show cho n k + cho n (k + 1) = 0
    rw [cho_gt n k (by omega), cho_gt n (k + 1) (by omega)]
theorem cho_self : ∀ n : Nat, cho n n = 1
  | 0 => rfl
  | n + 1 => by show cho n n + cho n (n + 1) = 1; rw [cho_self n, cho_gt n (n + 1) (by omega)]
theorem cho_mul : ∀ (n k : Nat), (k + 1) * cho (n + 1) (k + 1) = (n + 1) * cho n k
  | 0, 0 => rfl
  | 0, k + 1 => by
    have e : cho (0 + 1) (k + 1 + 1) = 0 := cho_gt _ _ (by omega)
    have e2 : cho 0 (k + 1) = 0 := rfl
    rw [e, e2, Nat.mul_zero, Nat.mul_zero]
  | n + 1, 0 => by
    have h := cho_mul n 0
    have e : cho (n + 1 + 1) (0 + 1) = cho (n + 1) 0 + cho (n + 1) (0 + 1) := rfl
    rw [e, Nat.mul_add, h, cho_zero, cho_zero]
    omega
  | n + 1, k + 1 => by
    have h1 := cho_mul n k
    have h2 := cho_mul n (k + 1)
    have e : cho (n + 1 + 1) (k + 1 + 1) = cho (n + 1) (k + 1) + cho (n + 1) (k + 1 + 1) := rfl
    have e2 : cho (n + 1) (k + 1) = cho n k + cho n (k + 1) := rfl
    rw [e, Nat.mul_add, h2, show k + 1 + 1 = (k + 1) + 1 from rfl, Nat.add_mul (k + 1) 1, h1, Nat.one_mul]
    have e3 : (n + 1 + 1) * cho (n + 1) (k + 1) = (n + 1) * cho (n + 1) (k + 1) + cho (n + 1) (k + 1) := by rw [Nat.add_mul, Nat.one_mul]
    rw [e3, e2, Nat.mul_add]
    omega
theorem cho_dvd {p k : Nat} (hp : ∀ j, 0 < j → j < p → Nat.gcd j p = 1) (h0 : 0 < k) (hk : k < p) : p ∣ cho p k := by
  obtain ⟨n, rfl⟩ : ∃ n, p = n + 1 := ⟨p - 1, by omega⟩
  obtain ⟨j, rfl⟩ : ∃ j, k = j + 1 := ⟨k - 1, by omega⟩
  have h := cho_mul n j
  have hd : n + 1 ∣ (j + 1) * cho (n + 1) (j + 1) := ⟨_, h⟩
  have hc : Nat.Coprime (n + 1) (j + 1) := by
    show Nat.gcd (n + 1) (j + 1) = 1
    rw [Nat.gcd_comm]; exact hp _ h0 hk
  exact hc.dvd_of_dvd_mul_left hd

/-- The sum of the terms from 0 on, m of them. -/
def bsum (n a : Nat) : Nat → Nat
  | 0 => 0
  | m + 1 => bsum n a m + cho n m * a ^ m
theorem bsum_step (n a : Nat) : ∀ m, bsum (n + 1) a (m + 1) = bsum n a (m + 1) + a * bsum n a m
  | 0 => by simp [bsum, cho_zero]
  | m + 1 => by
    have h := bsum_step n a m
    have e : cho (n + 1) (m + 1) = cho n m + cho n (m + 1) := rfl
    show bsum (n + 1) a (m + 1) + cho (n + 1) (m + 1) * a ^ (m + 1) = (bsum n a (m + 1) + cho n (m + 1) * a ^ (m + 1)) + a * (bsum n a m + cho n m * a ^ m)
    rw [h, e, Nat.add_mul, Nat.mul_add]
    have e2 : a * (cho n m * a ^ m) = cho n m * a ^ (m + 1) := by rw [Nat.pow_succ]; ac_rfl
    rw [e2]; omega
theorem bsum_more (n a : Nat) : bsum n a (n + 2) = bsum n a (n + 1) := by
  show bsum n a (n + 1) + cho n (n + 1) * a ^ (n + 1) = _
  rw [cho_gt n (n + 1) (by omega), Nat.zero_mul, Nat.add_zero]
theorem binom (a : Nat) : ∀ n, bsum n a (n + 1) = (a + 1) ^ n
  | 0 => by simp [bsum, cho]
  | n + 1 => by
    rw [bsum_step, bsum_more, binom a n, Nat.pow_succ, Nat.mul_add, Nat.mul_one, Nat.mul_comm a, Nat.add_comm]
theorem bsum_mod {p : Nat} (hp : ∀ j, 0 < j → j < p → Nat.gcd j p = 1) (h1 : 1 < p) (a : Nat) : ∀ m, m < p → bsum p a (m + 1) % p = 1 % p
  | 0, _ => by simp [bsum, cho_zero]
  | m + 1, h => by
    have ih := bsum_mod hp h1 a m (by omega)
    obtain ⟨q, hq⟩ := cho_dvd hp (show 0 < m + 1 by omega) h
    show (bsum p a (m + 1) + cho p (m + 1) * a ^ (m + 1)) % p = 1 % p
    rw [hq, Nat.mul_assoc, Nat.add_mul_mod_self_left, ih]
theorem fermat {p : Nat} (hp : ∀ j, 0 < j → j < p → Nat.gcd j p = 1) (h1 : 1 < p) : ∀ a, a ^ p % p = a % p
  | 0 => by rw [Nat.zero_pow (by omega)]
  | a + 1 => by
    have ih := fermat hp h1 a
    rw [← binom a p]
    obtain ⟨q, hq⟩ : ∃ q, p = q + 1 := ⟨p - 1, by omega⟩
    have hs := bsum_mod hp h1 a q (by omega)
    have e : bsum p a (p + 1) = bsum p a (q + 1) + a ^ p := by
      show bsum p a p + cho p p * a ^ p = _
      rw [cho_self, Nat.one_mul, ← hq]
    rw [e, Nat.add_mod, hs, ih, ← Nat.add_mod, Nat.add_comm]

/-! ### Primes by division -/
/-- None of the 2^k numbers from a on divides p. -/
def noDiv (p : Nat) : Nat → Nat → Bool
  | 0, a => Nat.blt 0 (p % a)
  | k + 1, a => noDiv p k a && noDiv p k (a + 2 ^ k)
theorem noDiv_spec (p : Nat) : ∀ (k a : Nat), noDiv p k a = true → ∀ d, a ≤ d → d < a + 2 ^ k → ¬ d ∣ p
  | 0, a, h, d, h1, h2, hd => by
    obtain rfl : d = a := by simp at h2; omega
    rw [noDiv, Nat.mod_eq_zero_of_dvd hd] at h
    exact absurd h (by decide)
  | k + 1, a, h, d, h1, h2, hd => by
    rw [noDiv, Bool.and_eq_true] at h
    rw [Nat.pow_succ] at h2
    by_cases hl : d < a + 2 ^ k
    · exact noDiv_spec p k a h.1 d h1 hl hd
    · exact noDiv_spec p k (a + 2 ^ k) h.2 d (by omega) (by omega) hd
theorem prime_of {p k : Nat} (h : noDiv p k 2 = true) (hp : p < (2 ^ k + 2) * (2 ^ k + 2)) : ∀ j, 0 < j → j < p → Nat.gcd j p = 1 := by
  intro j h0 hj
  have hno := noDiv_spec p k 2 h
  obtain ⟨g, hg⟩ : ∃ g, Nat.gcd j p = g := ⟨_, rfl⟩
  have hgp : g ∣ p := hg ▸ Nat.gcd_dvd_right j p
  have hgj : g ∣ j := hg ▸ Nat.gcd_dvd_left j p
  have hgle : g ≤ j := Nat.le_of_dvd h0 hgj
  rw [hg]
  obtain ⟨q, hq⟩ := hgp
  have hg0 : 0 < g := by
    rcases Nat.eq_zero_or_pos g with rfl | h
    · rw [Nat.zero_mul] at hq; omega
    · exact h
  have hq0 : 0 < q := by
    rcases Nat.eq_zero_or_pos q with rfl | h
    · rw [Nat.mul_zero] at hq; omega
    · exact h
  by_cases hg1 : g = 1
  · exact hg1
  · have h2 : 2 + 2 ^ k ≤ g := by
      rcases Nat.lt_or_ge g (2 + 2 ^ k) with hl | hl
      · exact absurd ⟨q, hq⟩ (hno g (by omega) hl)
      · exact hl
    have hq1 : q ≠ 1 := by rintro rfl; omega
    have h3 : 2 + 2 ^ k ≤ q := by
      rcases Nat.lt_or_ge q (2 + 2 ^ k) with hl | hl
      · exact absurd ⟨g, by rw [hq, Nat.mul_comm]⟩ (hno q (by omega) hl)
      · exact hl
    have := Nat.mul_le_mul h2 h3
    have e : (2 ^ k + 2) * (2 ^ k + 2) = (2 + 2 ^ k) * (2 + 2 ^ k) := by rw [Nat.add_comm]
    omega
theorem pr2 : ∀ j, 0 < j → j < 2 → Nat.gcd j 2 = 1 := fun j h0 h => by
  obtain rfl : j = 1 := by omega
  rfl
theorem pr3 : ∀ j, 0 < j → j < 3 → Nat.gcd j 3 = 1 := fun j h0 h => by
  have : j = 1 ∨ j = 2 := by omega
  rcases this with rfl | rfl <;> rfl
theorem nd2879 : noDiv 2879 6 2 = true := by decide +kernel
theorem nd71850239 : noDiv 71850239 14 2 = true := by decide +kernel
theorem nd2444789759 : noDiv 2444789759 16 2 = true := by decide +kernel
theorem pr2879 : ∀ j, 0 < j → j < 2879 → Nat.gcd j 2879 = 1 := prime_of nd2879 (by decide +kernel)
theorem pr71850239 : ∀ j, 0 < j → j < 71850239 → Nat.gcd j 71850239 = 1 := prime_of nd71850239 (by decide +kernel)
theorem pr2444789759 : ∀ j, 0 < j → j < 2444789759 → Nat.gcd j 2444789759 = 1 := prime_of nd2444789759 (by decide +kernel)
end Go.Proofs.Ytlmfiggmjpjpiaa
