/- Plain facts on digits of natural numbers to any base: no program. Plain facts on division by a single digit. Plain facts on single bits. Plain facts on setting a digit, and on products digit by digit: no program. Plain facts on a division by two digits, on the estimate of a digit, on shifts of rows and on one round of a long division. No program. A row of a product, digit by digit: no program. Plain facts on the reference's division: the estimate of a digit is never too small. No program. -/
namespace Go.Proofs.Ytlmfiggmjpjpiaa

/-- The digit i of v to the base B. -/
def dgt (B v i : Nat) : Nat := v / B ^ i % B

theorem dgt_lt {B v i : Nat} (hB : 0 < B) : dgt B v i < B := Nat.mod_lt _ hB

theorem dgt_zero {B i : Nat} : dgt B 0 i = 0 := by simp [dgt]

theorem dgt_add_same {B v y k : Nat} (hB : 0 < B) (h : dgt B v k + y < B) : dgt B (v + y * B ^ k) k = dgt B v k + y := by
  unfold dgt at *
  rw [Nat.add_mul_div_right _ _ (Nat.pow_pos hB), Nat.add_mod, Nat.mod_eq_of_lt (a := y) (by omega)]
  exact Nat.mod_eq_of_lt h

theorem dgt_add_other {B v y k j : Nat} (hB : 0 < B) (h : dgt B v k + y < B) (hj : j ≠ k) : dgt B (v + y * B ^ k) j = dgt B v j := by
  unfold dgt at *
  rcases Nat.lt_or_gt_of_ne hj with hlt | hgt
  · obtain ⟨d, rfl⟩ : ∃ d, k = j + (d + 1) := ⟨k - j - 1, by omega⟩
    have e : y * B ^ (j + (d + 1)) = (y * B ^ d * B) * B ^ j := by rw [Nat.pow_add, Nat.pow_succ]; simp only [Nat.mul_comm, Nat.mul_left_comm]
    rw [e, Nat.add_mul_div_right _ _ (Nat.pow_pos hB), Nat.add_mul_mod_self_right]
  · obtain ⟨d, rfl⟩ : ∃ d, j = (k + 1) + d := ⟨j - k - 1, by omega⟩
    have hm : v % B ^ (k + 1) = v % B ^ k + B ^ k * (v / B ^ k % B) := Nat.mod_pow_succ
    have hl : v % B ^ k < B ^ k := Nat.mod_lt _ (Nat.pow_pos hB)
    have hlt : v % B ^ (k + 1) + y * B ^ k < B ^ (k + 1) := by
      have h1 : v / B ^ k % B + y + 1 ≤ B := h
      have h2 : B ^ k * (v / B ^ k % B + y + 1) ≤ B ^ k * B := Nat.mul_le_mul_left _ h1
      rw [Nat.mul_add, Nat.mul_add, Nat.mul_one, Nat.mul_comm (B ^ k) y] at h2
      rw [hm, Nat.pow_succ]
      omega
    have hd : (v + y * B ^ k) / B ^ (k + 1) = v / B ^ (k + 1) := by
      have hv : v = v % B ^ (k + 1) + B ^ (k + 1) * (v / B ^ (k + 1)) := (Nat.mod_add_div _ _).symm
      have e : v + y * B ^ k = (v % B ^ (k + 1) + y * B ^ k) + B ^ (k + 1) * (v / B ^ (k + 1)) := by omega
      rw [e, Nat.add_mul_div_left _ _ (Nat.pow_pos hB), Nat.div_eq_of_lt hlt, Nat.zero_add]
    rw [Nat.pow_add, ← Nat.div_div_eq_div_mul, ← Nat.div_div_eq_div_mul, hd]

theorem dgt_ext {B : Nat} (_hB : 0 < B) (n : Nat) : ∀ {v u : Nat}, v < B ^ n → u < B ^ n → (∀ i, i < n → dgt B v i = dgt B u i) → v = u := by
  induction n with
  | zero => intro v u hv hu _; simp at hv hu; omega
  | succ n ih =>
    intro v u hv hu h
    have h0 : v % B = u % B := by have := h 0 (by omega); simpa [dgt] using this
    have h1 : v / B = u / B := by
      refine ih (Nat.div_lt_of_lt_mul (by rw [Nat.pow_succ, Nat.mul_comm] at hv; exact hv)) (Nat.div_lt_of_lt_mul (by rw [Nat.pow_succ, Nat.mul_comm] at hu; exact hu)) ?_
      intro i hi
      have := h (i + 1) (by omega)
      unfold dgt at *
      rw [Nat.pow_succ, Nat.mul_comm, ← Nat.div_div_eq_div_mul, ← Nat.div_div_eq_div_mul] at this
      exact this
    rw [← Nat.mod_add_div v B, ← Nat.mod_add_div u B, h0, h1]

/-- The value of bytes (or digits to any base), the most significant one first. -/
def valBE (B : Nat) : List Nat → Nat := List.foldl (fun a x => a * B + x) 0

theorem valBE_snoc (B : Nat) (l : List Nat) (x : Nat) : valBE B (l ++ [x]) = valBE B l * B + x := by simp [valBE]

theorem foldl_lin (B : Nat) : ∀ (l : List Nat) (a : Nat), l.foldl (fun a x => a * B + x) a = a * B ^ l.length + valBE B l := by
  intro l
  induction l with
  | nil => intro a; simp [valBE]
  | cons x l ih =>
    intro a
    simp only [List.foldl_cons, valBE, List.length_cons, Nat.zero_mul, Nat.zero_add]
    rw [ih, ih x, Nat.pow_succ, Nat.add_mul, Nat.mul_assoc, Nat.mul_comm B, Nat.add_assoc]

theorem valBE_cons (B x : Nat) (l : List Nat) : valBE B (x :: l) = x * B ^ l.length + valBE B l := by
  conv => lhs; simp only [valBE, List.foldl_cons, Nat.zero_mul, Nat.zero_add]
  exact foldl_lin B l x

theorem valBE_lt (B : Nat) (_hB : 0 < B) : ∀ (l : List Nat), (∀ x ∈ l, x < B) → valBE B l < B ^ l.length := by
  intro l
  induction l with
  | nil => intro _; simp [valBE]
  | cons x l ih =>
    intro h
    rw [valBE_cons, List.length_cons, Nat.pow_succ]
    have h1 := ih (fun y hy => h y (by simp [hy]))
    have h2 : x + 1 ≤ B := h x (by simp)
    have h3 : (x + 1) * B ^ l.length ≤ B * B ^ l.length := Nat.mul_le_mul_right _ h2
    rw [Nat.add_mul, Nat.one_mul] at h3
    rw [Nat.mul_comm _ B]
    omega


/-- How many digits a number has to the base B. -/
def dlenF (B : Nat) : Nat → Nat → Nat
  | 0, _ => 0
  | f + 1, v => if v = 0 then 0 else dlenF B f (v / B) + 1
def dlen (B v : Nat) : Nat := dlenF B v v

theorem dlenF_eq {B : Nat} (hB : 2 ≤ B) : ∀ (f n v : Nat), v ≤ f → v < B ^ n → (n = 0 ∨ B ^ (n - 1) ≤ v) → dlenF B f v = n := by
  intro f
  induction f with
  | zero =>
    intro n v hf h1 h2
    obtain rfl : v = 0 := by omega
    rcases h2 with rfl | h2
    · rfl
    · have : 0 < B ^ (n - 1) := Nat.pow_pos (by omega)
      omega
  | succ f ih =>
    intro n v hf h1 h2
    unfold dlenF
    by_cases hv : v = 0
    · subst hv
      rw [if_pos rfl]
      rcases h2 with rfl | h2
      · rfl
      · have : 0 < B ^ (n - 1) := Nat.pow_pos (by omega)
        omega
    · rw [if_neg hv]
      cases n with
      | zero => simp at h1; omega
      | succ n =>
        have hd : v / B < v := Nat.div_lt_self (by omega) (by omega)
        rw [ih n (v / B) (by omega) (Nat.div_lt_of_lt_mul (by rw [Nat.pow_succ, Nat.mul_comm] at h1; exact h1)) ?_]
        rcases h2 with h2 | h2
        · omega
        · rw [Nat.add_sub_cancel] at h2
          cases n with
          | zero => exact .inl rfl
          | succ n =>
            refine .inr ?_
            rw [Nat.add_sub_cancel, Nat.le_div_iff_mul_le (by omega), ← Nat.pow_succ]
            exact h2

theorem dlen_eq {B : Nat} (hB : 2 ≤ B) {n v : Nat} (h1 : v < B ^ n) (h2 : n = 0 ∨ B ^ (n - 1) ≤ v) : dlen B v = n := dlenF_eq hB v n v (Nat.le_refl _) h1 h2

theorem dlen_exists {B : Nat} (hB : 2 ≤ B) (v : Nat) : ∃ n, v < B ^ n ∧ (n = 0 ∨ B ^ (n - 1) ≤ v) := by
  have hex : ∃ n, v < B ^ n := ⟨v, Nat.lt_pow_self (by omega)⟩
  have : ∀ k, v < B ^ k → ∃ n, v < B ^ n ∧ (n = 0 ∨ B ^ (n - 1) ≤ v) := by
    intro k
    induction k with
    | zero => intro h; exact ⟨0, h, .inl rfl⟩
    | succ k ih =>
      intro h
      by_cases hk : v < B ^ k
      · exact ih hk
      · exact ⟨k + 1, h, .inr (by rw [Nat.add_sub_cancel]; omega)⟩
  obtain ⟨n, hn⟩ := hex
  exact this n hn

theorem lt_dlen {B : Nat} (hB : 2 ≤ B) (v : Nat) : v < B ^ dlen B v := by
  obtain ⟨n, h1, h2⟩ := dlen_exists hB v
  rw [dlen_eq hB h1 h2]; exact h1

theorem dlen_le_of {B : Nat} (hB : 2 ≤ B) {v : Nat} (hv : v ≠ 0) : 0 < dlen B v ∧ B ^ (dlen B v - 1) ≤ v := by
  obtain ⟨n, h1, h2⟩ := dlen_exists hB v
  rw [dlen_eq hB h1 h2]
  rcases h2 with rfl | h2
  · simp at h1; omega
  · refine ⟨?_, h2⟩
    cases n with
    | zero => simp at h1; omega
    | succ n => omega

theorem dlen_zero {B : Nat} : dlen B 0 = 0 := rfl

theorem dlen_le {B : Nat} (hB : 2 ≤ B) {n v : Nat} (h : v < B ^ n) : dlen B v ≤ n := by
  by_cases hv : v = 0
  · subst hv; rw [dlen_zero]; exact Nat.zero_le _
  · obtain ⟨h0, h1⟩ := dlen_le_of hB hv
    have h2 : B ^ (dlen B v - 1) < B ^ n := Nat.lt_of_le_of_lt h1 h
    have := (Nat.pow_lt_pow_iff_right (by omega)).1 h2
    omega

theorem lt_pow_of_dgt {B v n m : Nat} (hB : 0 < B) (hnm : n ≤ m) (hv : v < B ^ m) (hz : ∀ j, n ≤ j → j < m → dgt B v j = 0) : v < B ^ n := by
  obtain ⟨d, rfl⟩ : ∃ d, m = n + d := ⟨m - n, by omega⟩
  clear hnm
  induction d with
  | zero => exact hv
  | succ d ih =>
    refine ih ?_ (fun j h1 h2 => hz j h1 (by omega))
    have h0 := hz (n + d) (by omega) (by omega)
    unfold dgt at h0
    have hlt : v / B ^ (n + d) < B := Nat.div_lt_of_lt_mul (by rw [← Nat.pow_succ]; exact hv)
    rw [Nat.mod_eq_of_lt hlt] at h0
    rcases Nat.div_eq_zero_iff.1 h0 with h | h
    · exact absurd h (Nat.ne_of_gt (Nat.pow_pos hB))
    · exact h

theorem dlen_of_dgt {B v n m : Nat} (hB : 2 ≤ B) (hnm : n ≤ m) (hv : v < B ^ m) (hz : ∀ j, n ≤ j → j < m → dgt B v j = 0) (hn : 0 < n → dgt B v (n - 1) ≠ 0) : dlen B v = n := by
  refine dlen_eq hB (lt_pow_of_dgt (by omega) hnm hv hz) ?_
  by_cases h : n = 0
  · exact .inl h
  · refine .inr ?_
    have h1 := hn (by omega)
    by_cases h2 : B ^ (n - 1) ≤ v
    · exact h2
    · exact absurd (by unfold dgt; rw [Nat.div_eq_of_lt (by omega), Nat.zero_mod]) h1

/-- The digit i of the base 2^64, shifted and cut. -/
theorem mod_div_mod (x a r s : Nat) (h : r + s ≤ a) : x % 2 ^ a / 2 ^ r % 2 ^ s = x / 2 ^ r % 2 ^ s := by
  obtain ⟨d, rfl⟩ : ∃ d, a = r + (s + d) := ⟨a - r - s, by omega⟩
  rw [Nat.pow_add, Nat.mod_mul_right_div_self, Nat.pow_add, Nat.mod_mul_right_mod]

theorem dgt_bits (v i s : Nat) (h : i % 64 + s ≤ 64) : dgt (2 ^ 64) v (i / 64) / 2 ^ (i % 64) % 2 ^ s = v / 2 ^ i % 2 ^ s := by
  unfold dgt
  rw [mod_div_mod _ 64 _ s h, ← Nat.pow_mul, Nat.div_div_eq_div_mul, ← Nat.pow_add]
  have e : 64 * (i / 64) + i % 64 = i := by omega
  rw [e]

/-- The number of bits, by the first digit. -/
theorem dlen2_of_top {v n b d : Nat} (hn : 0 < n) (hd : v / (2 ^ 64) ^ (n - 1) = d) (h1 : 2 ^ b ≤ d) (h2 : d < 2 ^ (b + 1)) : dlen 2 v = 64 * (n - 1) + b + 1 := by
  have e : ((2 : Nat) ^ 64) ^ (n - 1) = 2 ^ (64 * (n - 1)) := by rw [← Nat.pow_mul]
  rw [e] at hd
  have hp : 0 < 2 ^ (64 * (n - 1)) := Nat.pow_pos (by omega)
  refine dlen_eq (by omega) ?_ (.inr ?_)
  · have := (Nat.div_lt_iff_lt_mul hp).1 (by rw [hd]; exact h2 : v / 2 ^ (64 * (n - 1)) < 2 ^ (b + 1))
    rw [← Nat.pow_add] at this
    rw [show 64 * (n - 1) + b + 1 = b + 1 + 64 * (n - 1) by omega]
    exact this
  · have := (Nat.le_div_iff_mul_le hp).1 (by rw [hd]; exact h1 : 2 ^ b ≤ v / 2 ^ (64 * (n - 1)))
    rw [← Nat.pow_add] at this
    rw [show 64 * (n - 1) + b + 1 - 1 = b + 64 * (n - 1) by omega]
    exact this


/-- A digit of a number whose last n + s bits are 0, with s bits laid at n. -/
theorem dgt_place {v n s x : Nat} (hs : n % 64 + s ≤ 64) (hx : x < 2 ^ s) (hv : 2 ^ (n + s) ∣ v) :
    dgt (2 ^ 64) v (n / 64) ||| x * 2 ^ (n % 64) = dgt (2 ^ 64) v (n / 64) + x * 2 ^ (n % 64) ∧ dgt (2 ^ 64) v (n / 64) + x * 2 ^ (n % 64) < 2 ^ 64 := by
  obtain ⟨c, rfl⟩ := hv
  obtain ⟨d, hd⟩ : ∃ d, 64 = (n % 64 + s) + d := ⟨64 - (n % 64 + s), by omega⟩
  have hn : n + s = 64 * (n / 64) + (n % 64 + s) := by omega
  have e : dgt (2 ^ 64) (2 ^ (n + s) * c) (n / 64) = 2 ^ (n % 64 + s) * (c % 2 ^ d) := by
    unfold dgt
    rw [← Nat.pow_mul, hn, Nat.pow_add, Nat.mul_assoc, Nat.mul_div_cancel_left _ (Nat.pow_pos (by omega))]
    have h64 : (2 : Nat) ^ 64 = 2 ^ (n % 64 + s) * 2 ^ d := by rw [← Nat.pow_add, ← hd]
    rw [h64, Nat.mul_mod_mul_left]
  have hx2 : x * 2 ^ (n % 64) < 2 ^ (n % 64 + s) := by
    rw [Nat.pow_add, Nat.mul_comm (2 ^ (n % 64))]
    exact Nat.mul_lt_mul_of_pos_right hx (Nat.pow_pos (by omega))
  rw [e]
  refine ⟨(Nat.two_pow_add_eq_or_of_lt hx2 _).symm, ?_⟩
  have h1 : c % 2 ^ d + 1 ≤ 2 ^ d := Nat.mod_lt _ (Nat.pow_pos (by omega))
  have h2 : 2 ^ (n % 64 + s) * (c % 2 ^ d + 1) ≤ 2 ^ (n % 64 + s) * 2 ^ d := Nat.mul_le_mul_left _ h1
  rw [← Nat.pow_add, ← hd, Nat.mul_add, Nat.mul_one] at h2
  omega


/-- One more digit of s bits, laid at its place. -/
theorem valBE_step (s : Nat) (L : List Nat) (m i : Nat) (hm : L.length = m) (hi : i < m) :
    valBE (2 ^ s) (L.take i) * (2 ^ s) ^ (m - i) + L.getD i 0 * 2 ^ ((m - 1 - i) * s) = valBE (2 ^ s) (L.take (i + 1)) * (2 ^ s) ^ (m - (i + 1)) := by
  have h1 : L.take (i + 1) = L.take i ++ [L.getD i 0] := by
    rw [List.take_succ_eq_append_getElem (by omega)]
    simp [List.getD, List.getElem?_eq_getElem (by omega : i < L.length)]
  have h2 : m - i = (m - (i + 1)) + 1 := by omega
  have h3 : m - 1 - i = m - (i + 1) := by omega
  rw [h1, valBE_snoc, h2, h3, Nat.pow_succ, Nat.add_mul, Nat.mul_comm (m - (i + 1)) s, Nat.pow_mul]
  congr 1
  rw [Nat.mul_assoc, Nat.mul_comm (2 ^ s)]

theorem valBE_dvd (s : Nat) (L : List Nat) (m i : Nat) (hi : i < m) : 2 ^ ((m - 1 - i) * s + s) ∣ valBE (2 ^ s) (L.take i) * (2 ^ s) ^ (m - i) := by
  have e : (m - 1 - i) * s + s = s * (m - i) := by
    rw [show m - i = (m - 1 - i) + 1 by omega, Nat.mul_add, Nat.mul_comm, Nat.mul_one]
  rw [e, Nat.pow_mul]
  exact Nat.dvd_mul_left _ _

theorem valBE_drop (B : Nat) (zs : List Nat) : ∀ k, k ≤ zs.length → (∀ j, j < k → zs.getD j 0 = 0) → valBE B zs = valBE B (zs.drop k) := by
  induction zs with
  | nil => intro k hk _; simp at hk; subst hk; rfl
  | cons z zs ih =>
    intro k hk h
    cases k with
    | zero => rfl
    | succ k =>
      have h0 : z = 0 := by have := h 0 (by omega); simpa using this
      rw [List.drop_succ_cons, ← ih k (by simp at hk; omega) (fun j hj => by have := h (j + 1) (by omega); simpa using this), valBE_cons, h0, Nat.zero_mul, Nat.zero_add]

theorem valBE_ge (B : Nat) (zs : List Nat) (k : Nat) (hk : k < zs.length) (h : zs.getD k 0 ≠ 0) : B ^ (zs.length - k - 1) ≤ valBE B (zs.drop k) := by
  have e : zs.drop k = zs.getD k 0 :: zs.drop (k + 1) := by
    rw [List.drop_eq_getElem_cons hk]
    simp [List.getD, List.getElem?_eq_getElem hk]
  rw [e, valBE_cons, List.length_drop, show zs.length - (k + 1) = zs.length - k - 1 by omega]
  have : 1 * B ^ (zs.length - k - 1) ≤ zs.getD k 0 * B ^ (zs.length - k - 1) := Nat.mul_le_mul_right _ (by omega)
  omega


theorem div_eq_of_dgt {B n k v u : Nat} (hB : 0 < B) (hv : v < B ^ n) (hu : u < B ^ n) (hk : k < n) (h : ∀ j, k < j → j < n → dgt B v j = dgt B u j) : v / B ^ (k + 1) = u / B ^ (k + 1) := by
  obtain ⟨d, rfl⟩ : ∃ d, n = (k + 1) + d := ⟨n - (k + 1), by omega⟩
  rw [Nat.pow_add] at hv hu
  refine dgt_ext hB d (Nat.div_lt_of_lt_mul hv) (Nat.div_lt_of_lt_mul hu) fun i hi => ?_
  have := h (k + 1 + i) (by omega) (by omega)
  unfold dgt at *
  rw [Nat.pow_add, ← Nat.div_div_eq_div_mul, ← Nat.div_div_eq_div_mul] at this
  exact this

theorem lt_of_dgt {B n k v u : Nat} (hB : 0 < B) (hv : v < B ^ n) (hu : u < B ^ n) (hk : k < n) (h : ∀ j, k < j → j < n → dgt B v j = dgt B u j) (hlt : dgt B v k < dgt B u k) : v < u := by
  have hq := div_eq_of_dgt hB hv hu hk h
  have e1 : v = v % B ^ (k + 1) + B ^ (k + 1) * (v / B ^ (k + 1)) := (Nat.mod_add_div _ _).symm
  have e2 : u = u % B ^ (k + 1) + B ^ (k + 1) * (u / B ^ (k + 1)) := (Nat.mod_add_div _ _).symm
  have m1 : v % B ^ (k + 1) = v % B ^ k + B ^ k * dgt B v k := Nat.mod_pow_succ
  have m2 : u % B ^ (k + 1) = u % B ^ k + B ^ k * dgt B u k := Nat.mod_pow_succ
  have l1 : v % B ^ k < B ^ k := Nat.mod_lt _ (Nat.pow_pos hB)
  have l2 : B ^ k * (dgt B v k + 1) ≤ B ^ k * dgt B u k := Nat.mul_le_mul_left _ hlt
  rw [Nat.mul_add, Nat.mul_one] at l2
  have e3 : B ^ (k + 1) * (v / B ^ (k + 1)) = B ^ (k + 1) * (u / B ^ (k + 1)) := by rw [hq]
  generalize B ^ (k + 1) * (v / B ^ (k + 1)) = a at *
  generalize B ^ (k + 1) * (u / B ^ (k + 1)) = b at *
  generalize v % B ^ (k + 1) = c at *
  generalize u % B ^ (k + 1) = d at *
  generalize B ^ k * dgt B v k = x at *
  generalize B ^ k * dgt B u k = y at *
  generalize v % B ^ k = s at *
  generalize u % B ^ k = r at *
  generalize B ^ k = p at *
  omega

/-- The order of two numbers, as Go's Compare tells it. -/
def cmpN (v u : Nat) : Int := if v < u then -1 else if u < v then 1 else 0


/-- The carry into digit k of a sum. -/
def addC (B v u k : Nat) : Nat := (v % B ^ k + u % B ^ k) / B ^ k

theorem addC_zero (B v u : Nat) : addC B v u 0 = 0 := by simp [addC, Nat.mod_one]

theorem addC_le {B : Nat} (hB : 0 < B) (v u k : Nat) : addC B v u k ≤ 1 := by
  have hp : 0 < B ^ k := Nat.pow_pos hB
  have h1 : v % B ^ k < B ^ k := Nat.mod_lt _ hp
  have h2 : u % B ^ k < B ^ k := Nat.mod_lt _ hp
  unfold addC
  have : (v % B ^ k + u % B ^ k) / B ^ k < 2 := by rw [Nat.div_lt_iff_lt_mul hp]; omega
  omega

theorem addC_step {B : Nat} (hB : 0 < B) (v u k : Nat) : dgt B v k + dgt B u k + addC B v u k = dgt B (v + u) k + B * addC B v u (k + 1) := by
  have hp : 0 < B ^ k := Nat.pow_pos hB
  have m1 : v % B ^ (k + 1) = v % B ^ k + B ^ k * dgt B v k := Nat.mod_pow_succ
  have m2 : u % B ^ (k + 1) = u % B ^ k + B ^ k * dgt B u k := Nat.mod_pow_succ
  have e1 : addC B v u (k + 1) = (dgt B v k + dgt B u k + addC B v u k) / B := by
    unfold addC
    rw [m1, m2, Nat.pow_succ, ← Nat.div_div_eq_div_mul]
    have : v % B ^ k + B ^ k * dgt B v k + (u % B ^ k + B ^ k * dgt B u k) = v % B ^ k + u % B ^ k + B ^ k * (dgt B v k + dgt B u k) := by rw [Nat.mul_add]; omega
    rw [this, Nat.add_mul_div_left _ _ hp, Nat.add_comm]
  have e2 : dgt B (v + u) k = (dgt B v k + dgt B u k + addC B v u k) % B := by
    have hv : v + u = v % B ^ k + u % B ^ k + B ^ k * (v / B ^ k + u / B ^ k) := by
      have a1 := Nat.mod_add_div v (B ^ k)
      have a2 := Nat.mod_add_div u (B ^ k)
      rw [Nat.mul_add]
      omega
    have : (v + u) / B ^ k = addC B v u k + (v / B ^ k + u / B ^ k) := by
      unfold addC
      conv => lhs; rw [hv]
      exact Nat.add_mul_div_left _ _ hp
    show (v + u) / B ^ k % B = _
    rw [this]
    unfold dgt
    rw [Nat.add_comm (v / B ^ k % B + u / B ^ k % B)]
    simp [Nat.add_mod]
  rw [e1, e2]
  exact (Nat.mod_add_div _ _).symm

theorem addC_top {B v u n : Nat} (hv : v < B ^ n) (hu : u < B ^ n) : addC B v u n = (v + u) / B ^ n := by
  unfold addC
  rw [Nat.mod_eq_of_lt hv, Nat.mod_eq_of_lt hu]

theorem dgt_add_top {B v n k : Nat} (hB : 0 < B) (hk : k < n) (b : Nat) : dgt B (v + B ^ n * b) k = dgt B v k := by
  obtain ⟨d, rfl⟩ : ∃ d, n = k + (d + 1) := ⟨n - k - 1, by omega⟩
  unfold dgt
  rw [Nat.pow_add, Nat.mul_assoc, Nat.add_mul_div_left _ _ (Nat.pow_pos hB), Nat.pow_succ, Nat.mul_comm (B ^ d) B, Nat.mul_assoc, Nat.add_mul_mod_self_left]

/-- The difference, modulo B^n; whether one was borrowed. -/
def subW (B n v u : Nat) : Nat := if v < u then v + B ^ n - u else v - u
theorem subW_eq {B n v u : Nat} (hu : u < B ^ n) : subW B n v u + u = v + B ^ n * (if v < u then 1 else 0) := by
  unfold subW
  split <;> omega
theorem subW_lt {B n v u : Nat} (hv : v < B ^ n) : subW B n v u < B ^ n := by
  unfold subW
  split <;> omega

theorem sub_digit {B n v u k : Nat} (hB : 0 < B) (hu : u < B ^ n) (hk : k < n) :
    (dgt B v k + B - dgt B u k - addC B (subW B n v u) u k) % B = dgt B (subW B n v u) k ∧
    (if dgt B v k < dgt B u k + addC B (subW B n v u) u k then 1 else 0) = addC B (subW B n v u) u (k + 1) := by
  have h := addC_step hB (subW B n v u) u k
  rw [subW_eq hu, dgt_add_top hB hk] at h
  have l1 : dgt B (subW B n v u) k < B := dgt_lt hB
  have l2 : dgt B u k < B := dgt_lt hB
  have l3 : dgt B v k < B := dgt_lt hB
  have c1 := addC_le hB (subW B n v u) u k
  have c2 := addC_le hB (subW B n v u) u (k + 1)
  generalize dgt B (subW B n v u) k = x at *
  generalize dgt B u k = y at *
  generalize dgt B v k = z at *
  generalize addC B (subW B n v u) u k = c at *
  generalize addC B (subW B n v u) u (k + 1) = d at *
  rcases (by omega : d = 0 ∨ d = 1) with rfl | rfl
  · have e : z + B - y - c = x + B := by omega
    rw [e, Nat.add_mod_right, Nat.mod_eq_of_lt l1, if_neg (by omega)]
    exact ⟨rfl, rfl⟩
  · rw [Nat.mul_one] at h
    have e : z + B - y - c = x := by omega
    rw [e, Nat.mod_eq_of_lt l1, if_pos (by omega)]
    exact ⟨rfl, rfl⟩

end Go.Proofs.Ytlmfiggmjpjpiaa

namespace Go.Proofs.Ytlmfiggmjpjpiaa

theorem short_step {B : Nat} (hB : 0 < B) (v b i : Nat) (hb : 0 < b) :
    ((v / B ^ (i + 1) % b) * B + dgt B v i) / b = dgt B (v / b) i ∧ ((v / B ^ (i + 1) % b) * B + dgt B v i) % b = v / B ^ i % b := by
  have hV : v / B ^ i = (v / B ^ (i + 1)) * B + dgt B v i := by
    unfold dgt
    rw [Nat.pow_succ, ← Nat.div_div_eq_div_mul, Nat.mul_comm]
    exact (Nat.div_add_mod _ _).symm
  have hd : dgt B v i < B := dgt_lt hB
  have hq : dgt B (v / b) i = (v / B ^ i) / b % B := by
    unfold dgt
    rw [Nat.div_div_eq_div_mul, Nat.div_div_eq_div_mul, Nat.mul_comm]
  generalize v / B ^ (i + 1) = H at *
  generalize dgt B v i = d at *
  rw [hq, hV]
  have hH : H * B + d = (H % b) * B + d + b * ((H / b) * B) := by
    have h := Nat.div_add_mod H b
    have h2 : H * B = (b * (H / b) + H % b) * B := by rw [h]
    rw [h2, Nat.add_mul, Nat.mul_assoc]
    omega
  have hlt : ((H % b) * B + d) / b < B := by
    rw [Nat.div_lt_iff_lt_mul hb]
    have h1 : H % b + 1 ≤ b := Nat.mod_lt _ hb
    have h2 : (H % b + 1) * B ≤ b * B := Nat.mul_le_mul_right _ h1
    rw [Nat.add_mul, Nat.one_mul] at h2
    rw [Nat.mul_comm B b]
    omega
  rw [hH, Nat.add_mul_div_left _ _ hb, Nat.add_mul_mod_self_left, Nat.add_mul_mod_self_right, Nat.mod_eq_of_lt hlt]
  exact ⟨rfl, rfl⟩

/-- The digits of q from m on. -/
def hiDg (B q m : Nat) : Nat := q / B ^ m * B ^ m
theorem hiDg_top {B q m : Nat} (h : q < B ^ m) : hiDg B q m = 0 := by unfold hiDg; rw [Nat.div_eq_of_lt h, Nat.zero_mul]
theorem hiDg_zero {B q : Nat} : hiDg B q 0 = q := by simp [hiDg]
theorem hiDg_step {B q i : Nat} : hiDg B q i = hiDg B q (i + 1) + dgt B q i * B ^ i := by
  unfold hiDg dgt
  have h := Nat.div_add_mod (q / B ^ i) B
  have e : q / B ^ (i + 1) = q / B ^ i / B := by rw [Nat.pow_succ, Nat.div_div_eq_div_mul]
  rw [e]
  conv => lhs; rw [← h]
  rw [Nat.add_mul, Nat.pow_succ, Nat.mul_comm B (q / B ^ i / B), Nat.mul_assoc, Nat.mul_comm B (B ^ i)]
theorem dgt_hiDg {B q i : Nat} (hB : 0 < B) : dgt B (hiDg B q (i + 1)) i = 0 := by
  unfold hiDg dgt
  rw [Nat.pow_succ, Nat.mul_comm (B ^ i) B, ← Nat.mul_assoc, Nat.mul_div_cancel _ (Nat.pow_pos hB), Nat.mul_mod_left]
end Go.Proofs.Ytlmfiggmjpjpiaa

namespace Go.Proofs.Ytlmfiggmjpjpiaa

theorem dgt_or (a b k : Nat) : dgt (2 ^ 64) (a ||| b) k = dgt (2 ^ 64) a k ||| dgt (2 ^ 64) b k := by
  unfold dgt
  rw [← Nat.pow_mul, Nat.or_div_two_pow, Nat.or_mod_two_pow]

theorem dgt_two_pow (n k : Nat) : dgt (2 ^ 64) (2 ^ n) k = if k = n / 64 then 2 ^ (n % 64) else 0 := by
  unfold dgt
  rw [← Nat.pow_mul]
  split
  · rename_i h
    subst h
    have e : n = n % 64 + 64 * (n / 64) := by omega
    conv => lhs; rw [e]
    have e1 : 64 * ((n % 64 + 64 * (n / 64)) / 64) = 64 * (n / 64) := by omega
    rw [e1, Nat.pow_add, Nat.mul_div_cancel _ (Nat.pow_pos (by omega))]
    exact Nat.mod_eq_of_lt (Nat.pow_lt_pow_right (by omega) (by omega))
  · rename_i h
    rcases Nat.lt_or_gt_of_ne h with hlt | hgt
    · have e : n = (64 * k) + ((n - 64 * k - 64) + 64) := by omega
      conv => lhs; rw [e]
      rw [Nat.pow_add, Nat.mul_div_cancel_left _ (Nat.pow_pos (by omega)), Nat.pow_add, Nat.mul_mod_left]
    · rw [Nat.div_eq_of_lt (Nat.pow_lt_pow_right (by omega) (by omega)), Nat.zero_mod]

theorem or_lt {a b n : Nat} (ha : a < 2 ^ n) (hb : b < 2 ^ n) : a ||| b < 2 ^ n := Nat.or_lt_two_pow ha hb

/-- A number below 2^(t+1) with bit t, less that bit. -/
theorem sub_top {a t : Nat} (h1 : a < 2 ^ (t + 1)) (h2 : 2 ^ t ≤ a) : a % 2 ^ t = a - 2 ^ t := by
  have e : a = (a - 2 ^ t) + 2 ^ t := by omega
  have hlt : a - 2 ^ t < 2 ^ t := by rw [Nat.pow_succ] at h1; omega
  conv => lhs; rw [e]
  rw [Nat.add_mod_right, Nat.mod_eq_of_lt hlt]

theorem testBit_top {a t : Nat} (h1 : a < 2 ^ (t + 1)) (h2 : 2 ^ t ≤ a) : a.testBit t = true := by
  rw [Nat.testBit_eq_decide_div_mod_eq]
  have : a / 2 ^ t = 1 := by
    have h3 : 1 ≤ a / 2 ^ t := (Nat.le_div_iff_mul_le (Nat.pow_pos (by omega))).2 (by rw [Nat.one_mul]; exact h2)
    have h4 : a / 2 ^ t < 2 := (Nat.div_lt_iff_lt_mul (Nat.pow_pos (by omega))).2 (by rw [Nat.pow_succ, Nat.mul_comm] at h1; exact h1)
    omega
  rw [this]; rfl

/-- The bits of a digit are those of the number. -/
theorem dgt_testBit (v i j : Nat) (hj : j < 64) : (dgt (2 ^ 64) v i).testBit j = v.testBit (64 * i + j) := by
  unfold dgt
  rw [Nat.testBit_mod_two_pow, ← Nat.pow_mul, Nat.testBit_div_two_pow]
  simp [hj, Nat.add_comm]

theorem two_pow_dlen {v x : Nat} (h : v.testBit x = true) : x < dlen 2 v := by
  have h1 := lt_dlen (show 2 ≤ 2 by omega) v
  by_cases hx : x < dlen 2 v
  · exact hx
  · have : v < 2 ^ x := Nat.lt_of_lt_of_le h1 (Nat.pow_le_pow_right (by omega) (by omega))
    rw [Nat.testBit_lt_two_pow this] at h
    cases h

end Go.Proofs.Ytlmfiggmjpjpiaa

namespace Go.Proofs.Ytlmfiggmjpjpiaa

/-- X with d in the place of its digit k. -/
def setD (B X k d : Nat) : Nat := X / B ^ (k + 1) * B ^ (k + 1) + d * B ^ k + X % B ^ k

theorem setD_eq (B X k d : Nat) : setD B X k d + dgt B X k * B ^ k = X + d * B ^ k := by
  unfold setD dgt
  have h1 : X % B ^ (k + 1) = X % B ^ k + B ^ k * (X / B ^ k % B) := Nat.mod_pow_succ
  have h2 : X % B ^ (k + 1) + B ^ (k + 1) * (X / B ^ (k + 1)) = X := Nat.mod_add_div _ _
  rw [Nat.mul_comm] at h2
  rw [Nat.mul_comm (B ^ k)] at h1
  omega

theorem setD_own (B X k : Nat) : setD B X k (dgt B X k) = X := by
  have := setD_eq B X k (dgt B X k)
  omega

theorem setD_zero_dgt {B X k : Nat} (hB : 0 < B) : dgt B (setD B X k 0) k = 0 := by
  unfold setD dgt
  have hP : 0 < B ^ k := Nat.pow_pos hB
  rw [Nat.zero_mul, Nat.add_zero, Nat.pow_succ, Nat.mul_comm (B ^ k) B, ← Nat.mul_assoc, Nat.add_comm, Nat.add_mul_div_right _ _ hP, Nat.div_eq_of_lt (Nat.mod_lt _ hP), Nat.zero_add, Nat.mul_mod_left]

theorem setD_add (B X k d : Nat) : setD B X k d = setD B X k 0 + d * B ^ k := by
  unfold setD
  rw [Nat.zero_mul]
  omega

theorem dgt_setD_same {B X k d : Nat} (hB : 0 < B) (hd : d < B) : dgt B (setD B X k d) k = d := by
  rw [setD_add, dgt_add_same hB (by rw [setD_zero_dgt hB]; omega), setD_zero_dgt hB, Nat.zero_add]

theorem dgt_setD_other {B X k d j : Nat} (hB : 0 < B) (hd : d < B) (hj : j ≠ k) : dgt B (setD B X k d) j = dgt B X j := by
  have h1 : dgt B (setD B X k d) j = dgt B (setD B X k 0) j := by
    rw [setD_add B X k d]; exact dgt_add_other hB (by rw [setD_zero_dgt hB]; omega) hj
  have h2 : dgt B (setD B X k (dgt B X k)) j = dgt B (setD B X k 0) j := by
    rw [setD_add B X k (dgt B X k)]; exact dgt_add_other hB (by rw [setD_zero_dgt hB]; have := dgt_lt (B := B) (v := X) (i := k) hB; omega) hj
  rw [setD_own] at h2
  rw [h1, h2]

theorem setD_lt {B X k d n : Nat} (hB : 0 < B) (hd : d < B) (hk : k < n) (hX : X < B ^ n) : setD B X k d < B ^ n := by
  obtain ⟨m, rfl⟩ : ∃ m, n = k + 1 + m := ⟨n - k - 1, by omega⟩
  have hP : 0 < B ^ k := Nat.pow_pos hB
  have hlo : X % B ^ k < B ^ k := Nat.mod_lt _ hP
  have h1 : X / B ^ (k + 1) < B ^ m := by
    rw [Nat.div_lt_iff_lt_mul (Nat.pow_pos hB), Nat.mul_comm, ← Nat.pow_add]; exact hX
  have h2 : (X / B ^ (k + 1) + 1) * B ^ (k + 1) ≤ B ^ m * B ^ (k + 1) := Nat.mul_le_mul_right _ h1
  have h3 : (d + 1) * B ^ k ≤ B * B ^ k := Nat.mul_le_mul_right _ hd
  unfold setD
  rw [show B ^ (k + 1 + m) = B ^ m * B ^ (k + 1) by rw [Nat.pow_add, Nat.mul_comm]]
  rw [Nat.add_mul, Nat.one_mul] at h2 h3
  rw [show B * B ^ k = B ^ (k + 1) by rw [Nat.pow_succ, Nat.mul_comm]] at h3
  omega

/-- One step of a row of a product. -/
theorem mul_step (B O a u X cy i k t : Nat) (ht : t = dgt B X (i + k) + a * dgt B u k + cy) (h : X + cy * B ^ (i + k) = O + a * (u % B ^ k) * B ^ i) :
    setD B X (i + k) (t % B) + t / B * B ^ (i + (k + 1)) = O + a * (u % B ^ (k + 1)) * B ^ i := by
  have h1 := setD_eq B X (i + k) (t % B)
  have h2 : u % B ^ (k + 1) = u % B ^ k + B ^ k * dgt B u k := Nat.mod_pow_succ
  have h3 : t % B + B * (t / B) = t := Nat.mod_add_div _ _
  have h4 : a * (u % B ^ (k + 1)) * B ^ i = a * (u % B ^ k) * B ^ i + a * dgt B u k * B ^ (i + k) := by
    rw [h2, Nat.mul_add, Nat.add_mul, Nat.pow_add]
    congr 1
    simp only [Nat.mul_assoc, Nat.mul_comm, Nat.mul_left_comm]
  have h5 : t % B * B ^ (i + k) + t / B * B ^ (i + (k + 1)) = dgt B X (i + k) * B ^ (i + k) + a * dgt B u k * B ^ (i + k) + cy * B ^ (i + k) := by
    rw [← Nat.add_mul, ← Nat.add_mul, ← ht, ← Nat.add_assoc, Nat.pow_succ]
    conv => rhs; rw [← h3]
    rw [Nat.add_mul]
    congr 1
    simp only [Nat.mul_assoc, Nat.mul_comm, Nat.mul_left_comm]
  rw [h4]
  omega

theorem mul_carry {x a d cy t : Nat} (hx : x < 65536) (ha : a < 65536) (hd : d < 65536) (hc : cy < 65536) (ht : t = x + a * d + cy) : t / 65536 < 65536 ∧ t % 65536 < 65536 ∧ t ≤ 4294967295 := by
  have : a * d ≤ 65535 * 65535 := Nat.mul_le_mul (by omega) (by omega)
  omega

/-- The row's end: no carry lies beyond one digit more. -/
theorem mul_end {B v u X cy i k m : Nat} (hB : 0 < B) (hu : u < B ^ m) (hk : m ≤ k) (h : X + cy * B ^ (i + k) = v % B ^ i * u + dgt B v i * (u % B ^ k) * B ^ i) :
    X + cy * B ^ (i + k) = v % B ^ (i + 1) * u := by
  have h2 : v % B ^ (i + 1) = v % B ^ i + B ^ i * dgt B v i := Nat.mod_pow_succ
  rw [h, h2, Nat.mod_eq_of_lt (Nat.lt_of_lt_of_le hu (Nat.pow_le_pow_right hB hk)), Nat.add_mul]
  congr 1
  simp only [Nat.mul_comm, Nat.mul_left_comm]

theorem mul_over {B v u X cy i k m : Nat} (hB : 0 < B) (hu : u < B ^ m) (hk : m + 1 ≤ k) (h : X + cy * B ^ (i + k) = v % B ^ i * u + dgt B v i * (u % B ^ k) * B ^ i) : cy = 0 := by
  have h1 := mul_end hB hu (by omega) h
  by_cases hc : cy = 0
  · exact hc
  · exfalso
    have hm : v % B ^ (i + 1) < B ^ (i + 1) := Nat.mod_lt _ (Nat.pow_pos hB)
    have h3 : v % B ^ (i + 1) * u < B ^ (i + 1) * B ^ m := Nat.mul_lt_mul'' hm hu
    have h4 : B ^ (i + 1) * B ^ m ≤ B ^ (i + k) := by rw [← Nat.pow_add]; exact Nat.pow_le_pow_right hB (by omega)
    have h5 : 1 * B ^ (i + k) ≤ cy * B ^ (i + k) := Nat.mul_le_mul_right _ (by omega)
    omega
end Go.Proofs.Ytlmfiggmjpjpiaa

namespace Go.Proofs.Ytlmfiggmjpjpiaa

theorem half_acc {u d Y y1 y0 q r : Nat} (hY : Y = y1 * 4294967296 + y0) (ha : q * y1 + r = u) : q * Y + (r * 4294967296 + d) = (u * 4294967296 + d) + q * y0 := by
  rw [hY, ← ha, Nat.mul_add, Nat.add_mul, ← Nat.mul_assoc]
  omega

theorem half_keep {u d Y y1 y0 q r : Nat} (hY : Y = y1 * 4294967296 + y0) (hY0 : 0 < Y) (hQ : (u * 4294967296 + d) / Y < 4294967296) (ha : q * y1 + r = u) (hq : (u * 4294967296 + d) / Y ≤ q)
    (h : 4294967296 ≤ q ∨ 4294967296 * r + d < q * y0) : (u * 4294967296 + d) / Y ≤ q - 1 ∧ 1 ≤ q ∧ (q - 1) * y1 + (r + y1) = u := by
  have h1 : (u * 4294967296 + d) / Y < q := by
    rcases h with h | h
    · omega
    · rw [Nat.div_lt_iff_lt_mul hY0]
      have := half_acc (d := d) hY ha
      omega
  generalize (u * 4294967296 + d) / Y = g at *
  refine ⟨by omega, by omega, ?_⟩
  obtain ⟨p, rfl⟩ : ∃ p, q = p + 1 := ⟨q - 1, by omega⟩
  rw [Nat.add_sub_cancel]
  rw [Nat.add_mul, Nat.one_mul] at ha
  omega

theorem half_done {u d Y y1 y0 q r : Nat} (hY : Y = y1 * 4294967296 + y0) (hY0 : 0 < Y) (ha : q * y1 + r = u) (hq : (u * 4294967296 + d) / Y ≤ q) (h : q * y0 ≤ 4294967296 * r + d) : q = (u * 4294967296 + d) / Y := by
  have h1 : q ≤ (u * 4294967296 + d) / Y := by
    rw [Nat.le_div_iff_mul_le hY0]
    have := half_acc (d := d) hY ha
    omega
  omega

theorem half_break {u d Y y1 y0 q r : Nat} (hY : Y = y1 * 4294967296 + y0) (hy0 : y0 < 4294967296) (hu : u < Y) (ha : q * y1 + r = u) (hq : (u * 4294967296 + d) / Y ≤ q) (h : 4294967296 ≤ r) : q = (u * 4294967296 + d) / Y := by
  have hqT : q < 4294967296 := by
    rcases Nat.lt_or_ge q 4294967296 with h1 | h1
    · exact h1
    · have h2 : 4294967296 * y1 ≤ q * y1 := Nat.mul_le_mul_right _ h1
      omega
  refine half_done hY (by omega) ha hq ?_
  have : q * y0 ≤ 4294967295 * 4294967295 := Nat.mul_le_mul (by omega) (by omega)
  omega

theorem half_start {u d Y y1 y0 : Nat} (hY : Y = y1 * 4294967296 + y0) (h1 : 0 < y1) (hd : d < 4294967296) (hu : u < Y) (hn : y0 < y1 * 2) :
    (u * 4294967296 + d) / Y < 4294967296 ∧ (u * 4294967296 + d) / Y ≤ u / y1 ∧ u / y1 ≤ 4294967297 ∧ u / y1 * y1 + u % y1 = u ∧ u % y1 < y1 ∧ u / y1 * y1 ≤ u := by
  have hY0 : 0 < Y := by omega
  have h2 : u / y1 * y1 + u % y1 = u := by rw [Nat.mul_comm]; exact Nat.div_add_mod u y1
  refine ⟨?_, ?_, ?_, h2, Nat.mod_lt _ h1, by omega⟩
  · rw [Nat.div_lt_iff_lt_mul hY0]; omega
  · rw [Nat.le_div_iff_mul_le h1]
    have h3 := Nat.div_mul_le_self (u * 4294967296 + d) Y
    generalize (u * 4294967296 + d) / Y = g at *
    have h4 : g * Y = g * y1 * 4294967296 + g * y0 := by rw [hY, Nat.mul_add, ← Nat.mul_assoc]
    omega
  · have h3 : u / y1 < 4294967298 := by
      rw [Nat.div_lt_iff_lt_mul h1]
      omega
    omega

theorem half_rest {u d Y Q m : Nat} (hY0 : 0 < Y) (hY : Y < 18446744073709551616) (hQ : Q = (u * 4294967296 + d) / Y) (hm : m = Q * Y) : u * 4294967296 + d - m = (u * 4294967296 + d) % Y ∧ m ≤ u * 4294967296 + d ∧ (u * 4294967296 + d) % Y < Y ∧ u * 4294967296 + d - m < 18446744073709551616 := by
  have h1 := Nat.div_add_mod (u * 4294967296 + d) Y
  have h2 := Nat.mod_lt (u * 4294967296 + d) hY0
  rw [← hQ, Nat.mul_comm, ← hm] at h1
  omega

theorem wrap_rest {u d m : Int} (h0 : 0 ≤ u * 4294967296 + d - m) (h1 : u * 4294967296 + d - m < 18446744073709551616) : (u * 4294967296 % 18446744073709551616 + d - m) % 18446744073709551616 = u * 4294967296 + d - m := by omega

/-- The two halves together. -/
theorem halves {T N y P Y u l1 l0 q1 q0 r1 r0 : Nat} (hP : 0 < P) (hy : 0 < y) (hY : Y = y * P) (hN : N * P = (u * T + l1) * T + l0) (h1 : u * T + l1 = q1 * Y + r1) (h2 : r1 * T + l0 = q0 * Y + r0) (h3 : r0 < Y) :
    q1 * T + q0 = N / y ∧ r0 / P = N % y := by
  have e : N * P = (q1 * T + q0) * y * P + r0 := by
    have e1 : q1 * (y * P) * T = q1 * T * y * P := by simp only [Nat.mul_comm, Nat.mul_left_comm]
    have e2 : q0 * (y * P) = q0 * y * P := by rw [Nat.mul_assoc]
    rw [hN, h1, Nat.add_mul, Nat.add_assoc, h2, hY, Nat.add_mul, Nat.add_mul, e1, e2]
    omega
  generalize q1 * T + q0 = Q at *
  have hNQ : N = Q * y + r0 / P := by
    have h4 : N * P / P = (Q * y * P + r0) / P := by rw [e]
    rw [Nat.mul_div_cancel _ hP, Nat.add_comm, Nat.add_mul_div_right _ _ hP] at h4
    omega
  have hlt : r0 / P < y := by rw [Nat.div_lt_iff_lt_mul hP, ← hY]; exact h3
  rw [hNQ, Nat.mul_comm Q y, Nat.mul_add_div hy, Nat.div_eq_of_lt hlt, Nat.mul_add_mod, Nat.mod_eq_of_lt hlt]
  exact ⟨by omega, rfl⟩
end Go.Proofs.Ytlmfiggmjpjpiaa

namespace Go.Proofs.Ytlmfiggmjpjpiaa

/-- The carry into digit k of a product by q. -/
def mulC (B v q k : Nat) : Nat := v % B ^ k * q / B ^ k
theorem mulC_zero (B v q : Nat) : mulC B v q 0 = 0 := by unfold mulC; simp [Nat.mod_one]
theorem mulC_le {B v q k : Nat} (hB : 0 < B) : mulC B v q k ≤ q := by
  unfold mulC
  refine Nat.div_le_of_le_mul ?_
  exact Nat.mul_le_mul_right _ (Nat.le_of_lt (Nat.mod_lt _ (Nat.pow_pos hB)))
theorem mulC_step {B : Nat} (hB : 0 < B) (v q k : Nat) : dgt B v k * q + mulC B v q k = dgt B (v * q) k + B * mulC B v q (k + 1) := by
  have hP : 0 < B ^ k := Nat.pow_pos hB
  unfold mulC dgt
  rw [Nat.pow_succ]
  generalize B ^ k = P at *
  have h1 : v % (P * B) = v % P + P * (v / P % B) := Nat.mod_mul
  have h2 : v = v % (P * B) + P * B * (v / (P * B)) := (Nat.mod_add_div _ _).symm
  have h3 : v * q / P = v % (P * B) * q / P + B * (v / (P * B) * q) := by
    conv => lhs; rw [h2]
    rw [Nat.add_mul, show P * B * (v / (P * B)) * q = P * (B * (v / (P * B) * q)) by simp only [Nat.mul_assoc], Nat.add_mul_div_left _ _ hP]
  have h4 : v % (P * B) * q / P = v % P * q / P + v / P % B * q := by
    rw [h1, Nat.add_mul, Nat.mul_assoc, Nat.add_mul_div_left _ _ hP]
  have h5 : v % (P * B) * q / (P * B) = (v % P * q / P + v / P % B * q) / B := by rw [← Nat.div_div_eq_div_mul, h4]
  rw [h3, h4, h5]
  generalize v % P * q / P = X
  generalize v / P % B * q = Y
  generalize v / (P * B) * q = Z
  rw [Nat.add_mul_mod_self_left]
  have := Nat.mod_add_div (X + Y) B
  omega

theorem dgt_mod {B X i j : Nat} (hB : 0 < B) (h : j < i) : dgt B (X % B ^ i) j = dgt B X j := by
  have h1 : X = X % B ^ i + B ^ i * (X / B ^ i) := (Nat.mod_add_div _ _).symm
  conv => rhs; rw [h1]
  exact (dgt_add_top hB h _).symm
theorem dgt_high {B X i : Nat} (k : Nat) : dgt B X (i + k) = dgt B (X / B ^ i) k := by
  unfold dgt; rw [Nat.pow_add, Nat.div_div_eq_div_mul]
theorem dgt_none {B X i j : Nat} (hB : 0 < B) (h : X < B ^ i) (hj : i ≤ j) : dgt B X j = 0 := by
  unfold dgt; rw [Nat.div_eq_of_lt (Nat.lt_of_lt_of_le h (Nat.pow_le_pow_right hB hj)), Nat.zero_mod]

/-- X with the digits of Z in the window of m digits from i on. -/
def winSet (B X i m Z : Nat) : Nat := Z % B ^ m * B ^ i + X % B ^ i
theorem winSet_lt {B X i m Z : Nat} (hB : 0 < B) : winSet B X i m Z < B ^ (i + m) := by
  unfold winSet
  have h1 : Z % B ^ m < B ^ m := Nat.mod_lt _ (Nat.pow_pos hB)
  have h2 : X % B ^ i < B ^ i := Nat.mod_lt _ (Nat.pow_pos hB)
  have h3 : (Z % B ^ m + 1) * B ^ i ≤ B ^ m * B ^ i := Nat.mul_le_mul_right _ h1
  rw [Nat.pow_add, Nat.mul_comm (B ^ i)]
  rw [Nat.add_mul, Nat.one_mul] at h3
  omega
theorem dgt_win {B X Z i m : Nat} (hB : 0 < B) (hX : X < B ^ (i + m)) (j : Nat) : dgt B (winSet B X i m Z) j = if i ≤ j ∧ j < i + m then dgt B Z (j - i) else dgt B X j := by
  have hP : 0 < B ^ i := Nat.pow_pos hB
  by_cases h1 : i ≤ j
  · obtain ⟨t, rfl⟩ : ∃ t, j = i + t := ⟨j - i, by omega⟩
    by_cases h2 : t < m
    · rw [if_pos ⟨h1, by omega⟩, dgt_high, winSet, Nat.add_comm, Nat.add_mul_div_right _ _ hP, Nat.div_eq_of_lt (Nat.mod_lt _ hP), Nat.zero_add, dgt_mod hB h2, Nat.add_sub_cancel_left]
    · rw [if_neg (by omega), dgt_none hB (winSet_lt hB) (by omega), dgt_none hB hX (by omega)]
  · rw [if_neg (by omega), winSet, Nat.add_comm, Nat.mul_comm, dgt_add_top hB (by omega), dgt_mod hB (by omega)]

/-- The estimate of a digit. -/
def estN (B u0 u1 u2 v1 v2 : Nat) : Nat := if v1 ≤ u0 then B - 1 else (u0 * B * B + u1 * B + u2) / (v1 * B + v2)

theorem top_two {B X k : Nat} (hB : 0 < B) (h : X < B ^ (k + 2)) : dgt B X (k + 1) * B + dgt B X k = X / B ^ k ∧ dgt B X (k + 1) = X / B ^ (k + 1) := by
  have h1 : dgt B X (k + 1) = X / B ^ (k + 1) := by
    unfold dgt
    refine Nat.mod_eq_of_lt ?_
    rw [Nat.div_lt_iff_lt_mul (Nat.pow_pos hB), show B * B ^ (k + 1) = B ^ (k + 2) by rw [Nat.pow_succ B (k + 1), Nat.mul_comm]]
    exact h
  refine ⟨?_, h1⟩
  rw [h1]
  unfold dgt
  rw [Nat.pow_succ, ← Nat.div_div_eq_div_mul, Nat.mul_comm]
  exact Nat.div_add_mod _ _

theorem est_bounds {B W V k : Nat} (hB : 2 ≤ B) (hV : V < B ^ (k + 2)) (hV1 : B ≤ 2 * dgt B V (k + 1)) (hW : W < V * B) :
    W / V ≤ estN B (dgt B W (k + 2)) (dgt B W (k + 1)) (dgt B W k) (dgt B V (k + 1)) (dgt B V k) ∧ estN B (dgt B W (k + 2)) (dgt B W (k + 1)) (dgt B W k) (dgt B V (k + 1)) (dgt B V k) ≤ W / V + 1 ∧
    estN B (dgt B W (k + 2)) (dgt B W (k + 1)) (dgt B W k) (dgt B V (k + 1)) (dgt B V k) ≤ B - 1 := by
  have hB0 : 0 < B := by omega
  have hW3 : W < B ^ (k + 3) := by
    rw [Nat.pow_succ]
    exact Nat.lt_of_lt_of_le hW (Nat.mul_le_mul_right _ (Nat.le_of_lt hV))
  obtain ⟨a1, a2⟩ := top_two hB0 (k := k) hV
  obtain ⟨b1, b2⟩ := top_two hB0 (k := k + 1) hW3
  have c1 : (dgt B W (k + 2) * B + dgt B W (k + 1)) * B + dgt B W k = W / B ^ k := by
    rw [b1]
    unfold dgt
    rw [Nat.pow_succ, ← Nat.div_div_eq_div_mul, Nat.mul_comm]
    exact Nat.div_add_mod _ _
  have hu1 : dgt B W (k + 1) < B := dgt_lt hB0
  have hu2 : dgt B W k < B := dgt_lt hB0
  have hP : 0 < B ^ k := Nat.pow_pos hB0
  have hWd : W / B ^ k * B ^ k ≤ W := Nat.div_mul_le_self _ _
  have hVd : V < (V / B ^ k + 1) * B ^ k := by rw [Nat.add_mul, Nat.one_mul]; have h := Nat.mod_lt V hP; have h2 := Nat.div_add_mod V (B ^ k); rw [Nat.mul_comm] at h2; omega
  have hVl : V / B ^ k * B ^ k ≤ V := Nat.div_mul_le_self _ _
  have hV2 : V < (V / B ^ (k + 1) + 1) * B ^ (k + 1) := by rw [Nat.add_mul, Nat.one_mul]; have h := Nat.mod_lt V (Nat.pow_pos (n := k + 1) hB0); have h2 := Nat.div_add_mod V (B ^ (k + 1)); rw [Nat.mul_comm] at h2; omega
  rw [← a2] at hV2
  rw [← c1] at hWd
  rw [← a1] at hVd hVl
  have hWV0 : W / V * V ≤ W := Nat.div_mul_le_self _ _
  have hpow : B ^ (k + 1) = B ^ k * B := Nat.pow_succ ..
  rw [hpow] at hV2
  have c2 : W / B ^ k = (dgt B W (k + 2) * B + dgt B W (k + 1)) * B + dgt B W k := c1.symm
  unfold estN
  generalize dgt B W (k + 2) = u0 at *
  generalize dgt B W (k + 1) = u1 at *
  generalize dgt B W k = u2 at *
  generalize dgt B V (k + 1) = v1 at *
  generalize dgt B V k = v2 at *
  have hv1 : 1 ≤ v1 := by omega
  have hv0 : B ≤ v1 * B + v2 := by
    have : 1 * B ≤ v1 * B := Nat.mul_le_mul_right _ hv1
    omega
  have hVpos : 0 < V := Nat.lt_of_lt_of_le (Nat.mul_pos (by omega) hP) hVl
  have hWVB : W / V < B := by rw [Nat.div_lt_iff_lt_mul hVpos, Nat.mul_comm]; exact hW
  have e3 : u0 * B * B + u1 * B + u2 = (u0 * B + u1) * B + u2 := by rw [Nat.add_mul]
  by_cases hc : v1 ≤ u0
  · rw [if_pos hc]
    refine ⟨by omega, ?_, Nat.le_refl _⟩
    have h1 : (B - 2) * V ≤ W := by
      have h2 : (B - 2) * V ≤ (B - 2) * ((v1 + 1) * (B ^ k * B)) := Nat.mul_le_mul_left _ (Nat.le_of_lt hV2)
      have h3 : (B - 2) * (v1 + 1) ≤ v1 * B := by
        obtain ⟨b, rfl⟩ : ∃ b, B = b + 2 := ⟨B - 2, by omega⟩
        rw [Nat.add_sub_cancel, Nat.mul_add, Nat.mul_add, Nat.mul_one, Nat.mul_comm b v1]
        omega
      have h4 : (B - 2) * ((v1 + 1) * (B ^ k * B)) ≤ v1 * B * (B ^ k * B) := by rw [← Nat.mul_assoc]; exact Nat.mul_le_mul_right _ h3
      have h5 : v1 * B * (B ^ k * B) ≤ u0 * B * (B ^ k * B) := Nat.mul_le_mul_right _ (Nat.mul_le_mul_right _ hc)
      have h6 : u0 * B * (B ^ k * B) = u0 * B * B * B ^ k := by simp only [Nat.mul_assoc, Nat.mul_comm, Nat.mul_left_comm]
      have h7 : u0 * B * B * B ^ k ≤ ((u0 * B + u1) * B + u2) * B ^ k := by
        refine Nat.mul_le_mul_right _ ?_
        rw [Nat.add_mul]
        omega
      omega
    have h8 : B - 2 ≤ W / V := by rw [Nat.le_div_iff_mul_le hVpos]; exact h1
    omega
  · rw [if_neg hc, e3]
    generalize hu3 : (u0 * B + u1) * B + u2 = u3 at *
    generalize hv : v1 * B + v2 = v at *
    have hv' : 0 < v := by omega
    have hlo : W / V ≤ u3 / v := by
      rw [Nat.le_div_iff_mul_le hv', ← c2, Nat.le_div_iff_mul_le hP, Nat.mul_assoc]
      exact Nat.le_trans (Nat.mul_le_mul_left _ hVl) hWV0
    have hq : u3 / v * v ≤ u3 := Nat.div_mul_le_self _ _
    have hqB : u3 / v < B := by
      rw [Nat.div_lt_iff_lt_mul hv', ← hu3, ← hv]
      have h1 : (u0 + 1) * B ≤ v1 * B := Nat.mul_le_mul_right _ (by omega)
      have h2 : (u0 * B + u1 + 1) * B ≤ v1 * B * B := Nat.mul_le_mul_right _ (by rw [Nat.add_mul, Nat.one_mul] at h1; omega)
      rw [Nat.add_mul, Nat.one_mul] at h2
      rw [Nat.mul_add, Nat.mul_comm B (v1 * B)]
      omega
    generalize hqq : u3 / v = q at *
    refine ⟨hlo, ?_, by omega⟩
    cases q with
    | zero => exact Nat.zero_le _
    | succ p =>
      have h1 : p * V ≤ W := by
        have h2 : p * V ≤ p * ((v + 1) * B ^ k) := Nat.mul_le_mul_left _ (Nat.le_of_lt hVd)
        have h3 : p * (v + 1) ≤ u3 := by
          rw [Nat.add_mul, Nat.one_mul] at hq
          rw [Nat.mul_add, Nat.mul_one]
          omega
        have h4 : p * ((v + 1) * B ^ k) ≤ u3 * B ^ k := by rw [← Nat.mul_assoc]; exact Nat.mul_le_mul_right _ h3
        omega
      have h5 : p ≤ W / V := by rw [Nat.le_div_iff_mul_le hVpos]; exact h1
      exact Nat.succ_le_succ h5
end Go.Proofs.Ytlmfiggmjpjpiaa

namespace Go.Proofs.Ytlmfiggmjpjpiaa

theorem mulC_lt {B v q k : Nat} (hB : 0 < B) (hq : 0 < q) : mulC B v q k < q := by
  unfold mulC
  rw [Nat.div_lt_iff_lt_mul (Nat.pow_pos hB), Nat.mul_comm q]
  exact Nat.mul_lt_mul_of_pos_right (Nat.mod_lt _ (Nat.pow_pos hB)) hq

theorem low_set {B X i : Nat} (hB : 0 < B) : setD B (X % B ^ i) i (dgt B X i) = X % B ^ (i + 1) := by
  have h1 := setD_eq B (X % B ^ i) i (dgt B X i)
  have h2 : dgt B (X % B ^ i) i = 0 := dgt_none hB (Nat.mod_lt _ (Nat.pow_pos hB)) (Nat.le_refl _)
  have h3 : X % B ^ (i + 1) = X % B ^ i + B ^ i * dgt B X i := Nat.mod_pow_succ
  rw [h2, Nat.zero_mul, Nat.add_zero] at h1
  rw [h1, h3, Nat.mul_comm]

/-- A digit moved up, with what came from below. -/
theorem up_or {x lost s : Nat} (hs : s ≤ 64) (hl : lost < 2 ^ s) : x * 2 ^ s % 2 ^ 64 ||| lost = (x * 2 ^ s + lost) % 2 ^ 64 := by
  have e : (2 : Nat) ^ 64 = 2 ^ s * 2 ^ (64 - s) := by rw [← Nat.pow_add]; congr 1; omega
  have h1 : x * 2 ^ s % 2 ^ 64 = 2 ^ s * (x % 2 ^ (64 - s)) := by rw [e, Nat.mul_comm x, Nat.mul_mod_mul_left]
  have h2 : (x * 2 ^ s + lost) % 2 ^ 64 = 2 ^ s * (x % 2 ^ (64 - s)) + lost := by
    rw [e, Nat.mod_mul, Nat.mul_comm x, Nat.mul_add_mod, Nat.mod_eq_of_lt hl, Nat.mul_add_div (Nat.two_pow_pos s), Nat.div_eq_of_lt hl, Nat.add_zero, Nat.add_comm]
  rw [h1, h2]
  exact (Nat.two_pow_add_eq_or_of_lt hl _).symm
theorem up_lost {x lost s : Nat} (hs : s ≤ 64) (hl : lost < 2 ^ s) : (x * 2 ^ s + lost) / 2 ^ 64 = x / 2 ^ (64 - s) := by
  have e : (2 : Nat) ^ 64 = 2 ^ s * 2 ^ (64 - s) := by rw [← Nat.pow_add]; congr 1; omega
  rw [e, ← Nat.div_div_eq_div_mul, Nat.mul_comm x, Nat.mul_add_div (Nat.two_pow_pos s), Nat.div_eq_of_lt hl, Nat.add_zero]
/-- A digit of a number moved down. -/
theorem down_or {X s i : Nat} (hs : s < 64) : dgt (2 ^ 64) X i / 2 ^ s ||| dgt (2 ^ 64) X (i + 1) * 2 ^ (64 - s) % 2 ^ 64 = dgt (2 ^ 64) (X / 2 ^ s) i := by
  have hx : dgt (2 ^ 64) X i < 2 ^ 64 := dgt_lt (by omega)
  have e : (2 : Nat) ^ 64 = 2 ^ (64 - s) * 2 ^ s := by rw [← Nat.pow_add]; congr 1; omega
  have hq : dgt (2 ^ 64) X i / 2 ^ s < 2 ^ (64 - s) := by rw [Nat.div_lt_iff_lt_mul (Nat.two_pow_pos s), ← e]; exact hx
  have h1 : dgt (2 ^ 64) X (i + 1) * 2 ^ (64 - s) % 2 ^ 64 = 2 ^ (64 - s) * (dgt (2 ^ 64) X (i + 1) % 2 ^ s) := by
    rw [Nat.mul_comm, e, Nat.mul_mod_mul_left]
  rw [h1, Nat.or_comm, ← Nat.two_pow_add_eq_or_of_lt hq]
  have h2 : dgt (2 ^ 64) (X / 2 ^ s) i = X / (2 ^ 64) ^ i / 2 ^ s % 2 ^ 64 := by
    unfold dgt; rw [Nat.div_div_eq_div_mul, Nat.div_div_eq_div_mul, Nat.mul_comm]
  rw [h2]
  have h3 : dgt (2 ^ 64) X (i + 1) = X / (2 ^ 64) ^ i / 2 ^ 64 % 2 ^ 64 := by unfold dgt; rw [Nat.pow_succ, Nat.div_div_eq_div_mul]
  have h4 : dgt (2 ^ 64) X i = X / (2 ^ 64) ^ i % 2 ^ 64 := rfl
  rw [h3, h4]
  generalize X / (2 ^ 64) ^ i = Z
  have h5 : Z / 2 ^ 64 % 2 ^ 64 % 2 ^ s = Z / 2 ^ 64 % 2 ^ s := Nat.mod_mod_of_dvd _ (Nat.pow_dvd_pow 2 (by omega))
  rw [h5]
  have h6 : Z / 2 ^ s % 2 ^ 64 = Z / 2 ^ s % 2 ^ (64 - s) + 2 ^ (64 - s) * (Z / 2 ^ s / 2 ^ (64 - s) % 2 ^ s) := by
    conv => lhs; rw [e]
    exact Nat.mod_mul
  have h7 : Z / 2 ^ s / 2 ^ (64 - s) = Z / 2 ^ 64 := by rw [Nat.div_div_eq_div_mul, Nat.mul_comm, ← e]
  have h8 : Z % 2 ^ 64 / 2 ^ s = Z / 2 ^ s % 2 ^ (64 - s) := by
    rw [e, Nat.mul_comm, Nat.mod_mul_right_div_self]
  rw [h6, h7, h8, Nat.add_comm]
end Go.Proofs.Ytlmfiggmjpjpiaa

namespace Go.Proofs.Ytlmfiggmjpjpiaa

theorem win_div {B X i m Z : Nat} (hB : 0 < B) : winSet B X i m Z / B ^ i = Z % B ^ m ∧ winSet B X i m Z % B ^ i = X % B ^ i := by
  have hP : 0 < B ^ i := Nat.pow_pos hB
  unfold winSet
  rw [Nat.add_comm, Nat.add_mul_div_right _ _ hP, Nat.div_eq_of_lt (Nat.mod_lt _ hP), Nat.zero_add, Nat.add_mul_mod_self_right, Nat.mod_eq_of_lt (Nat.mod_lt _ hP)]
  exact ⟨rfl, rfl⟩

/-- What is left of U, divided by V, when the digits below j are still to come. -/
def left (B U V j : Nat) : Nat := U / B ^ j % V * B ^ j + U % B ^ j
theorem left_zero (B U V : Nat) : left B U V 0 = U % V := by unfold left; simp [Nat.mod_one]
theorem left_all {B U V j : Nat} (hB : 0 < B) (h : U < V * B ^ j) : left B U V j = U := by
  have h1 : U / B ^ j < V := by rw [Nat.div_lt_iff_lt_mul (Nat.pow_pos hB)]; exact h
  unfold left
  rw [Nat.mod_eq_of_lt h1, Nat.mul_comm]
  exact Nat.div_add_mod _ _

theorem left_win {B U V k : Nat} (hB : 0 < B) (hV : 0 < V) : left B U V (k + 1) / B ^ k = U / B ^ (k + 1) % V * B + dgt B U k ∧ left B U V (k + 1) % B ^ k = U % B ^ k ∧ left B U V (k + 1) / B ^ k < V * B := by
  have hP : 0 < B ^ k := Nat.pow_pos hB
  have h1 : left B U V (k + 1) = (U / B ^ (k + 1) % V * B + dgt B U k) * B ^ k + U % B ^ k := by
    unfold left
    rw [show U % B ^ (k + 1) = U % B ^ k + B ^ k * dgt B U k from Nat.mod_pow_succ, Nat.add_mul, Nat.pow_succ, Nat.mul_comm (B ^ k) B, ← Nat.mul_assoc, Nat.mul_comm (B ^ k) (dgt B U k)]
    omega
  have hd : dgt B U k < B := dgt_lt hB
  have hr : U / B ^ (k + 1) % V + 1 ≤ V := Nat.mod_lt _ hV
  have hr2 : (U / B ^ (k + 1) % V + 1) * B ≤ V * B := Nat.mul_le_mul_right _ hr
  rw [Nat.add_mul, Nat.one_mul] at hr2
  have h2 : left B U V (k + 1) / B ^ k = U / B ^ (k + 1) % V * B + dgt B U k := by
    rw [h1, Nat.add_comm, Nat.add_mul_div_right _ _ hP, Nat.div_eq_of_lt (Nat.mod_lt _ hP), Nat.zero_add]
  refine ⟨h2, ?_, by rw [h2]; omega⟩
  rw [h1, Nat.add_comm, Nat.add_mul_mod_self_right, Nat.mod_eq_of_lt (Nat.mod_lt _ hP)]

/-- One round: the window W, the digit, what is left. -/
theorem left_step {B U V k : Nat} (hB : 0 < B) (hV : 0 < V) : left B U V (k + 1) / B ^ k / V = dgt B (U / V) k ∧ left B U V k = left B U V (k + 1) / B ^ k % V * B ^ k + left B U V (k + 1) % B ^ k := by
  obtain ⟨h1, h2, _⟩ := left_win (U := U) (k := k) hB hV
  have h3 := short_step hB U V k hV
  rw [h1, h2]
  refine ⟨h3.1, ?_⟩
  unfold left
  rw [h3.2]

theorem round_fits {B X V q i n W : Nat} (hB : 0 < B) (hV : V < B ^ n) (hV0 : 0 < V) (hq : q = W / V) : winSet B X i (n + 1) (subW B (n + 1) W (V * q)) = W % V * B ^ i + X % B ^ i ∧ ¬ W < V * q := by
  have h1 := Nat.div_add_mod W V
  rw [← hq] at h1
  have h2 : ¬ W < V * q := by omega
  refine ⟨?_, h2⟩
  have h3 : subW B (n + 1) W (V * q) = W % V := by unfold subW; rw [if_neg h2]; omega
  have h4 : W % V < B ^ (n + 1) := Nat.lt_trans (Nat.mod_lt _ hV0) (Nat.lt_of_lt_of_le hV (Nat.pow_le_pow_right hB (by omega)))
  unfold winSet
  rw [h3, Nat.mod_eq_of_lt h4]

theorem round_over {B X V q i n W : Nat} (hB : 0 < B) (hV : V < B ^ n) (hV0 : 0 < V) (hq : q = W / V + 1) (hWl : W < V * B) :
    winSet B (winSet B X i (n + 1) (subW B (n + 1) W (V * q))) i (n + 1) (winSet B X i (n + 1) (subW B (n + 1) W (V * q)) / B ^ i + V) = W % V * B ^ i + X % B ^ i ∧ W < V * q := by
  have h1 := Nat.div_add_mod W V
  have hm := Nat.mod_lt W hV0
  have h2 : W < V * q := by rw [hq, Nat.mul_add, Nat.mul_one]; omega
  refine ⟨?_, h2⟩
  have hBn : V * B < B ^ (n + 1) := by rw [Nat.pow_succ]; exact Nat.mul_lt_mul_of_pos_right hV hB
  have h3 : subW B (n + 1) W (V * q) = W + B ^ (n + 1) - V * q := by unfold subW; rw [if_pos h2]
  have hvq : V * q = V * (W / V) + V := by rw [hq, Nat.mul_add, Nat.mul_one]
  have h5 : subW B (n + 1) W (V * q) < B ^ (n + 1) := by
    rw [h3]
    generalize B ^ (n + 1) = T at *
    generalize V * q = T2 at *
    generalize V * (W / V) = T3 at *
    omega
  obtain ⟨d1, d2⟩ := win_div (X := X) (i := i) (m := n + 1) (Z := subW B (n + 1) W (V * q)) hB
  rw [d1, Nat.mod_eq_of_lt h5]
  have hp : B ^ n ≤ B ^ (n + 1) := Nat.pow_le_pow_right hB (by omega)
  have h6 : subW B (n + 1) W (V * q) + V = B ^ (n + 1) + W % V := by rw [h3]; omega
  have h7 : W % V < B ^ (n + 1) := by omega
  rw [h6]
  conv => lhs; unfold winSet
  rw [Nat.add_mod_left, Nat.mod_eq_of_lt h7]
  have h8 : (subW B (n + 1) W (V * q) % B ^ (n + 1) * B ^ i + X % B ^ i) % B ^ i = X % B ^ i := d2
  rw [h8]

/-- What the estimate's bounds leave. -/
theorem two_cases {q g : Nat} (h1 : g ≤ q) (h2 : q ≤ g + 1) : q = g ∨ q = g + 1 := by omega

theorem norm_facts {B u n s d : Nat} (hB : B = 2 ^ 64) (hu : u < B ^ n) (hn : 0 < n) (hd : dgt B u (n - 1) = d) (h1 : 2 ^ 63 ≤ d * 2 ^ s) (h2 : (d + 1) * 2 ^ s ≤ 2 ^ 64) : u * 2 ^ s < B ^ n ∧ B ≤ 2 * dgt B (u * 2 ^ s) (n - 1) := by
  have hB0 : 0 < B := by rw [hB]; exact Nat.two_pow_pos 64
  obtain ⟨k, rfl⟩ : ∃ k, n = k + 1 := ⟨n - 1, by omega⟩
  rw [Nat.add_sub_cancel] at *
  have hP : 0 < B ^ k := Nat.pow_pos hB0
  have hdu : d = u / B ^ k := by
    rw [← hd]
    unfold dgt
    exact Nat.mod_eq_of_lt (by rw [Nat.div_lt_iff_lt_mul hP]; rw [Nat.pow_succ, Nat.mul_comm] at hu; exact hu)
  have hlo : d * B ^ k ≤ u := by rw [hdu]; exact Nat.div_mul_le_self _ _
  have hhi : u < (d + 1) * B ^ k := by
    rw [hdu, Nat.add_mul, Nat.one_mul]
    have := Nat.mod_lt u hP
    have h3 := Nat.div_add_mod u (B ^ k)
    rw [Nat.mul_comm] at h3
    omega
  have hS : 0 < 2 ^ s := Nat.two_pow_pos s
  have e1 : u * 2 ^ s < B ^ (k + 1) := by
    have h3 : u * 2 ^ s < (d + 1) * B ^ k * 2 ^ s := Nat.mul_lt_mul_of_pos_right hhi hS
    have h4 : (d + 1) * B ^ k * 2 ^ s = (d + 1) * 2 ^ s * B ^ k := by rw [Nat.mul_assoc, Nat.mul_comm (B ^ k), ← Nat.mul_assoc]
    have h5 : (d + 1) * 2 ^ s * B ^ k ≤ 2 ^ 64 * B ^ k := Nat.mul_le_mul_right _ h2
    have h6 : B * B ^ k = B ^ (k + 1) := by rw [Nat.pow_succ, Nat.mul_comm]
    have h7 : 2 ^ 64 * B ^ k = B ^ (k + 1) := by rw [← h6]; exact congrArg (· * B ^ k) hB.symm
    rw [h7, ← h4] at h5
    exact Nat.lt_of_lt_of_le h3 h5
  refine ⟨e1, ?_⟩
  have e2 : dgt B (u * 2 ^ s) k = u * 2 ^ s / B ^ k := by
    unfold dgt
    exact Nat.mod_eq_of_lt (by rw [Nat.div_lt_iff_lt_mul hP]; rw [Nat.pow_succ, Nat.mul_comm (B ^ k) B] at e1; exact e1)
  have e3 : d * 2 ^ s ≤ u * 2 ^ s / B ^ k := by
    rw [Nat.le_div_iff_mul_le hP]
    have h4 : d * 2 ^ s * B ^ k = d * B ^ k * 2 ^ s := by rw [Nat.mul_assoc, Nat.mul_comm (2 ^ s), ← Nat.mul_assoc]
    rw [h4]
    exact Nat.mul_le_mul_right _ hlo
  rw [e2]
  have e4 : B = 2 * 2 ^ 63 := by rw [hB]
  have e5 := Nat.le_trans h1 e3
  generalize u * 2 ^ s / B ^ k = Z at *
  omega
end Go.Proofs.Ytlmfiggmjpjpiaa

namespace Go.Proofs.Ytlmfiggmjpjpiaa

/-- What a row of a product has made of P behind k digits of u, and its carry. -/
def mrow (B a u P i : Nat) : Nat → Nat × Nat
  | 0 => (P, 0)
  | k + 1 => (setD B (mrow B a u P i k).1 (i + k) ((dgt B (mrow B a u P i k).1 (i + k) + a * dgt B u k + (mrow B a u P i k).2) % B), (dgt B (mrow B a u P i k).1 (i + k) + a * dgt B u k + (mrow B a u P i k).2) / B)

theorem mrow_acc (B a u P i k : Nat) : (mrow B a u P i k).1 + (mrow B a u P i k).2 * B ^ (i + k) = P + a * (u % B ^ k) * B ^ i := by
  induction k with
  | zero => simp [mrow, Nat.mod_one]
  | succ k ih => exact mul_step B P a u _ _ i k _ rfl ih

theorem mrow_dgt {B a u P i : Nat} (hB : 0 < B) (k j : Nat) (hj : i + k ≤ j) : dgt B (mrow B a u P i k).1 j = dgt B P j := by
  induction k with
  | zero => rfl
  | succ k ih =>
    rw [← ih (by omega)]
    exact dgt_setD_other hB (Nat.mod_lt _ hB) (by omega)

theorem carry_lt {B x a d cy : Nat} (hB : 0 < B) (hx : x < B) (ha : a < B) (hd : d < B) (hc : cy < B) : (x + a * d + cy) / B < B := by
  obtain ⟨q, rfl⟩ : ∃ q, B = q + 1 := ⟨B - 1, by omega⟩
  have h1 : a * d ≤ q * q := Nat.mul_le_mul (by omega) (by omega)
  have h2 : (q + 1) * (q + 1) = q * q + q + q + 1 := by rw [Nat.add_mul, Nat.mul_add, Nat.one_mul, Nat.mul_one]; omega
  rw [Nat.div_lt_iff_lt_mul hB]
  omega

theorem mrow_carry {B a u P i : Nat} (hB : 0 < B) (ha : a < B) (k : Nat) : (mrow B a u P i k).2 < B := by
  induction k with
  | zero => exact hB
  | succ k ih => exact carry_lt hB (dgt_lt hB) ha (dgt_lt hB) ih

theorem mrow_lt {B a u P i N : Nat} (hB : 0 < B) (hP : P < B ^ N) (k : Nat) (hk : i + k ≤ N) : (mrow B a u P i k).1 < B ^ N := by
  induction k with
  | zero => exact hP
  | succ k ih => exact setD_lt hB (Nat.mod_lt _ hB) (by omega) (ih (by omega))

/-- The carry, stored behind the row, makes it the next product. -/
theorem mrow_end {B v u i m : Nat} (hB : 0 < B) (hu : u < B ^ m) :
    setD B (mrow B (dgt B v i) u (v % B ^ i * u) i m).1 (i + m) (mrow B (dgt B v i) u (v % B ^ i * u) i m).2 = v % B ^ (i + 1) * u := by
  have h1 := mrow_acc B (dgt B v i) u (v % B ^ i * u) i m
  have h2 := mul_end (v := v) hB hu (Nat.le_refl m) h1
  have h3 := mrow_dgt (a := dgt B v i) (u := u) (P := v % B ^ i * u) (i := i) hB m (i + m) (Nat.le_refl _)
  have h4 : v % B ^ i * u < B ^ (i + m) := by rw [Nat.pow_add]; exact Nat.mul_lt_mul'' (Nat.mod_lt _ (Nat.pow_pos hB)) hu
  have h5 : dgt B (v % B ^ i * u) (i + m) = 0 := by unfold dgt; rw [Nat.div_eq_of_lt h4, Nat.zero_mod]
  have h6 := setD_eq B (mrow B (dgt B v i) u (v % B ^ i * u) i m).1 (i + m) (mrow B (dgt B v i) u (v % B ^ i * u) i m).2
  rw [h3, h5, Nat.zero_mul, Nat.add_zero] at h6
  omega
end Go.Proofs.Ytlmfiggmjpjpiaa

namespace Go.Proofs.Ytlmfiggmjpjpiaa

/-- The digit at a place that may lie below 0. -/
def digI (v : Nat) (i : Int) : Nat := if i < 0 then 0 else dgt 65536 v i.toNat
theorem digI_nat (v k : Nat) : digI v (k : Nat) = dgt 65536 v k := by unfold digI; rw [if_neg (by omega)]; congr 1
theorem digI_at {v k : Nat} {i : Int} (h : i = (k : Nat)) : digI v i = dgt 65536 v k := by rw [h, digI_nat]
theorem digI_neg {v : Nat} {i : Int} (h : i < 0) : digI v i = 0 := by unfold digI; rw [if_pos h]
theorem digI_lt (v : Nat) (i : Int) : digI v i < 65536 := by
  unfold digI
  split
  · omega
  · exact dgt_lt (by omega)

/-- The first two and the first three digits. -/
def top2 (u n : Nat) : Nat := digI u ((n : Int) - 1) * 65536 + digI u ((n : Int) - 2)
def top3 (r n : Nat) : Nat := (digI r (n : Nat) * 65536 + digI r ((n : Int) - 1)) * 65536 + digI r ((n : Int) - 2)

theorem two_digits (X : Nat) (k : Nat) (h : X < 65536 ^ (k + 2)) : dgt 65536 X (k + 1) * 65536 + dgt 65536 X k = X / 65536 ^ k := by
  have h1 : dgt 65536 X (k + 1) = X / 65536 ^ (k + 1) := by
    unfold dgt
    refine Nat.mod_eq_of_lt ?_
    rw [Nat.div_lt_iff_lt_mul (Nat.pow_pos (by omega)), show 65536 * 65536 ^ (k + 1) = 65536 ^ (k + 2) by rw [Nat.pow_succ 65536 (k + 1), Nat.mul_comm]]
    exact h
  rw [h1]
  unfold dgt
  rw [Nat.pow_succ, ← Nat.div_div_eq_div_mul]
  omega
theorem three_digits (X : Nat) (k : Nat) (h : X < 65536 ^ (k + 3)) : (dgt 65536 X (k + 2) * 65536 + dgt 65536 X (k + 1)) * 65536 + dgt 65536 X k = X / 65536 ^ k := by
  rw [two_digits X (k + 1) h]
  unfold dgt
  rw [Nat.pow_succ, ← Nat.div_div_eq_div_mul]
  omega

theorem est_ge {u r n : Nat} (hn : 0 < n) (hu1 : 65536 ^ (n - 1) ≤ u) (hu2 : u < 65536 ^ n) (hr : r < u * 65536) :
    0 < top2 u n ∧ r / u ≤ top3 r n / top2 u n ∧ r / u ≤ 65535 := by
  have hu0 : 0 < u := Nat.lt_of_lt_of_le (Nat.pow_pos (by omega)) hu1
  have hg : r / u * u ≤ r := Nat.div_mul_le_self _ _
  have hlt : r / u < 65536 := by rw [Nat.div_lt_iff_lt_mul hu0, Nat.mul_comm]; exact hr
  refine ⟨?_, ?_, by omega⟩
  all_goals
    rcases (show n = 1 ∨ ∃ k, n = k + 2 from (by rcases Nat.lt_or_ge 1 n with h | h; exact .inr ⟨n - 2, by omega⟩; exact .inl (by omega))) with rfl | ⟨k, rfl⟩
  · have e : dgt 65536 u 0 = u := by unfold dgt; simp at hu2 ⊢; omega
    unfold top2
    rw [digI_at (k := 0) (by omega), e]
    omega
  · unfold top2
    rw [digI_at (k := k + 1) (by omega), digI_at (k := k) (by omega), two_digits u k hu2]
    exact Nat.div_pos (Nat.le_trans (Nat.pow_le_pow_right (by omega) (by omega)) hu1) (Nat.pow_pos (by omega))
  · have e : dgt 65536 u 0 = u := by unfold dgt; simp at hu2 ⊢; omega
    have e1 : top2 u 1 = u * 65536 := by
      unfold top2
      rw [digI_at (k := 0) (by omega), digI_neg (i := ((1 : Nat) : Int) - 2) (by omega), e, Nat.add_zero]
    have hr2 : r < 65536 ^ (0 + 2) := by simp at hu2 ⊢; omega
    have e2 : top3 r 1 = r * 65536 := by
      unfold top3
      rw [digI_at (k := 1) (by omega), digI_at (k := 0) (by omega), digI_neg (i := ((1 : Nat) : Int) - 2) (by omega), two_digits r 0 hr2]
      simp
    rw [e1, e2, Nat.mul_div_mul_right _ _ (by omega)]
    exact Nat.le_refl _
  · have hr2 : r < 65536 ^ (k + 3) := by
      have h2 : u * 65536 ≤ 65536 ^ (k + 2) * 65536 := Nat.mul_le_mul_right _ (by omega)
      rw [← Nat.pow_succ] at h2
      exact Nat.lt_of_lt_of_le hr h2
    have e1 : top2 u (k + 2) = u / 65536 ^ k := by
      unfold top2
      rw [digI_at (k := k + 1) (by omega), digI_at (k := k) (by omega), two_digits u k hu2]
    have e2 : top3 r (k + 2) = r / 65536 ^ k := by
      unfold top3
      rw [digI_nat, digI_at (k := k + 1) (by omega), digI_at (k := k) (by omega), three_digits r k hr2]
    have hP : 0 < 65536 ^ k := Nat.pow_pos (by omega)
    have hd : 0 < u / 65536 ^ k := Nat.div_pos (Nat.le_trans (Nat.pow_le_pow_right (by omega) (by omega)) hu1) hP
    rw [e1, e2, Nat.le_div_iff_mul_le hd, Nat.le_div_iff_mul_le hP, Nat.mul_assoc]
    exact Nat.le_trans (Nat.mul_le_mul_left _ (Nat.div_mul_le_self _ _)) hg

theorem top2_lt (u n : Nat) : top2 u n < 4294967296 := by
  unfold top2
  have := digI_lt u ((n : Int) - 1)
  have := digI_lt u ((n : Int) - 2)
  omega
theorem top3_lt (r n : Nat) : top3 r n < 281474976710656 := by
  unfold top3
  have := digI_lt r (n : Nat)
  have := digI_lt r ((n : Int) - 1)
  have := digI_lt r ((n : Int) - 2)
  omega

/-- One digit of the quotient. -/
theorem div_digit {v u k : Nat} (hu : 0 < u) : (v / 65536 ^ (k + 1) % u * 65536 + dgt 65536 v k) / u = dgt 65536 (v / u) k ∧ (v / 65536 ^ (k + 1) % u * 65536 + dgt 65536 v k) % u = v / 65536 ^ k % u ∧
    v / 65536 ^ (k + 1) % u * 65536 + dgt 65536 v k < u * 65536 := by
  have h := short_step (B := 65536) (by omega) v u k hu
  refine ⟨h.1, h.2, ?_⟩
  have h1 : v / 65536 ^ (k + 1) % u + 1 ≤ u := Nat.mod_lt _ hu
  have h2 : dgt 65536 v k < 65536 := dgt_lt (by omega)
  omega
theorem hiDg_set {B q i : Nat} (hB : 0 < B) : setD B (hiDg B q (i + 1)) i (dgt B q i) = hiDg B q i := by
  have h := setD_eq B (hiDg B q (i + 1)) i (dgt B q i)
  rw [dgt_hiDg hB, Nat.zero_mul, Nat.add_zero] at h
  rw [h, ← hiDg_step]
end Go.Proofs.Ytlmfiggmjpjpiaa
