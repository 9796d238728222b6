/- Plain facts on digits of natural numbers to any base: no program. -/
namespace Go.Proofs.Ytkegdjndmeialaa

/-- The digit i of v to the base B. -/
def dgt (B v i : Nat) : Nat := v / B ^ i % B

theorem dgt_lt {B v i : Nat} (hB : 0 < B) : dgt B v i < B := Nat.mod_lt _ hB

theorem dgt_zero {B i : Nat} : dgt B 0 i = 0 := by simp [dgt]

theorem dgt_add_same {B v y k : Nat} (hB : 0 < B) (h : dgt B v k + y < B) : dgt B (v + y * B ^ k) k = dgt B v k + y := by
  unfold dgt at *
  rw [Nat.add_mul_div_right _ _ (Nat.pow_pos hB), Nat.add_mod, Nat.mod_eq_of_lt (a := y) (by omega)]
  exact Nat.mod_eq_of_lt h

theorem dgt_add_other {B v y k j : Nat} (hB : 0 < B) (h : dgt B v k + y < B) (hj : j ≠ k) : dgt B (v + y * B ^ k) j = dgt B v j := by
  unfold dgt at *
  rcases Nat.lt_or_gt_of_ne hj with hlt | hgt
  · obtain ⟨d, rfl⟩ : ∃ d, k = j + (d + 1) := ⟨k - j - 1, by omega⟩
    have e : y * B ^ (j + (d + 1)) = (y * B ^ d * B) * B ^ j := by rw [Nat.pow_add, Nat.pow_succ]; simp only [Nat.mul_comm, Nat.mul_left_comm]
    rw [e, Nat.add_mul_div_right _ _ (Nat.pow_pos hB), Nat.add_mul_mod_self_right]
  · obtain ⟨d, rfl⟩ : ∃ d, j = (k + 1) + d := ⟨j - k - 1, by omega⟩
    have hm : v % B ^ (k + 1) = v % B ^ k + B ^ k * (v / B ^ k % B) := Nat.mod_pow_succ
    have hl : v % B ^ k < B ^ k := Nat.mod_lt _ (Nat.pow_pos hB)
    have hlt : v % B ^ (k + 1) + y * B ^ k < B ^ (k + 1) := by
      have h1 : v / B ^ k % B + y + 1 ≤ B := h
      have h2 : B ^ k * (v / B ^ k % B + y + 1) ≤ B ^ k * B := Nat.mul_le_mul_left _ h1
      rw [Nat.mul_add, Nat.mul_add, Nat.mul_one, Nat.mul_comm (B ^ k) y] at h2
      rw [hm, Nat.pow_succ]
      omega
    have hd : (v + y * B ^ k) / B ^ (k + 1) = v / B ^ (k + 1) := by
      have hv : v = v % B ^ (k + 1) + B ^ (k + 1) * (v / B ^ (k + 1)) := (Nat.mod_add_div _ _).symm
      have e : v + y * B ^ k = (v % B ^ (k + 1) + y * B ^ k) + B ^ (k + 1) * (v / B ^ (k + 1)) := by omega
      rw [e, Nat.add_mul_div_left _ _ (Nat.pow_pos hB), Nat.div_eq_of_lt hlt, Nat.zero_add]
    rw [Nat.pow_add, ← Nat.div_div_eq_div_mul, ← Nat.div_div_eq_div_mul, hd]

theorem dgt_ext {B : Nat} (_hB : 0 < B) (n : Nat) : ∀ {v u : Nat}, v < B ^ n → u < B ^ n → (∀ i, i < n → dgt B v i = dgt B u i) → v = u := by
  induction n with
  | zero => intro v u hv hu _; simp at hv hu; omega
  | succ n ih =>
    intro v u hv hu h
    have h0 : v % B = u % B := by have := h 0 (by omega); simpa [dgt] using this
    have h1 : v / B = u / B := by
      refine ih (Nat.div_lt_of_lt_mul (by rw [Nat.pow_succ, Nat.mul_comm] at hv; exact hv)) (Nat.div_lt_of_lt_mul (by rw [Nat.pow_succ, Nat.mul_comm] at hu; exact hu)) ?_
      intro i hi
      have := h (i + 1) (by omega)
      unfold dgt at *
      rw [Nat.pow_succ, Nat.mul_comm, ← Nat.div_div_eq_div_mul, ← Nat.div_div_eq_div_mul] at this
      exact this
    rw [← Nat.mod_add_div v B, ← Nat.mod_add_div u B, h0, h1]

/-- The value of bytes (or digits to any base), the most significant one first. -/
def valBE (B : Nat) : List Nat → Nat := List.foldl (fun a x => a * B + x) 0

theorem valBE_snoc (B : Nat) (l : List Nat) (x : Nat) : valBE B (l ++ [x]) = valBE B l * B + x := by simp [valBE]

theorem foldl_lin (B : Nat) : ∀ (l : List Nat) (a : Nat), l.foldl (fun a x => a * B + x) a = a * B ^ l.length + valBE B l := by
  intro l
  induction l with
  | nil => intro a; simp [valBE]
  | cons x l ih =>
    intro a
    simp only [List.foldl_cons, valBE, List.length_cons, Nat.zero_mul, Nat.zero_add]
    rw [ih, ih x, Nat.pow_succ, Nat.add_mul, Nat.mul_assoc, Nat.mul_comm B, Nat.add_assoc]

theorem valBE_cons (B x : Nat) (l : List Nat) : valBE B (x :: l) = x * B ^ l.length + valBE B l := by
  conv => lhs; simp only [valBE, List.foldl_cons, Nat.zero_mul, Nat.zero_add]
  exact foldl_lin B l x

theorem valBE_lt (B : Nat) (_hB : 0 < B) : ∀ (l : List Nat), (∀ x ∈ l, x < B) → valBE B l < B ^ l.length := by
  intro l
  induction l with
  | nil => intro _; simp [valBE]
  | cons x l ih =>
    intro h
    rw [valBE_cons, List.length_cons, Nat.pow_succ]
    have h1 := ih (fun y hy => h y (by simp [hy]))
    have h2 : x + 1 ≤ B := h x (by simp)
    have h3 : (x + 1) * B ^ l.length ≤ B * B ^ l.length := Nat.mul_le_mul_right _ h2
    rw [Nat.add_mul, Nat.one_mul] at h3
    rw [Nat.mul_comm _ B]
    omega


/-- How many digits a number has to the base B. -/
def dlenF (B : Nat) : Nat → Nat → Nat
  | 0, _ => 0
  | f + 1, v => if v = 0 then 0 else dlenF B f (v / B) + 1
def dlen (B v : Nat) : Nat := dlenF B v v

theorem dlenF_eq {B : Nat} (hB : 2 ≤ B) : ∀ (f n v : Nat), v ≤ f → v < B ^ n → (n = 0 ∨ B ^ (n - 1) ≤ v) → dlenF B f v = n := by
  intro f
  induction f with
  | zero =>
    intro n v hf h1 h2
    obtain rfl : v = 0 := by omega
    rcases h2 with rfl | h2
    · rfl
    · have : 0 < B ^ (n - 1) := Nat.pow_pos (by omega)
      omega
  | succ f ih =>
    intro n v hf h1 h2
    unfold dlenF
    by_cases hv : v = 0
    · subst hv
      rw [if_pos rfl]
      rcases h2 with rfl | h2
      · rfl
      · have : 0 < B ^ (n - 1) := Nat.pow_pos (by omega)
        omega
    · rw [if_neg hv]
      cases n with
      | zero => simp at h1; omega
      | succ n =>
        have hd : v / B < v := Nat.div_lt_self (by omega) (by omega)
        rw [ih n (v / B) (by omega) (Nat.div_lt_of_lt_mul (by rw [Nat.pow_succ, Nat.mul_comm] at h1; exact h1)) ?_]
        rcases h2 with h2 | h2
        · omega
        · rw [Nat.add_sub_cancel] at h2
          cases n with
          | zero => exact .inl rfl
          | succ n =>
            refine .inr ?_
            rw [Nat.add_sub_cancel, Nat.le_div_iff_mul_le (by omega), ← Nat.pow_succ]
            exact h2

theorem dlen_eq {B : Nat} (hB : 2 ≤ B) {n v : Nat} (h1 : v < B ^ n) (h2 : n = 0 ∨ B ^ (n - 1) ≤ v) : dlen B v = n := dlenF_eq hB v n v (Nat.le_refl _) h1 h2

theorem dlen_exists {B : Nat} (hB : 2 ≤ B) (v : Nat) : ∃ n, v < B ^ n ∧ (n = 0 ∨ B ^ (n - 1) ≤ v) := by
  have hex : ∃ n, v < B ^ n := ⟨v, Nat.lt_pow_self (by omega)⟩
  have : ∀ k, v < B ^ k → ∃ n, v < B ^ n ∧ (n = 0 ∨ B ^ (n - 1) ≤ v) := by
    intro k
    induction k with
    | zero => intro h; exact ⟨0, h, .inl rfl⟩
    | succ k ih =>
      intro h
      by_cases hk : v < B ^ k
      · exact ih hk
      · exact ⟨k + 1, h, .inr (by rw [Nat.add_sub_cancel]; omega)⟩
  obtain ⟨n, hn⟩ := hex
  exact this n hn

theorem lt_dlen {B : Nat} (hB : 2 ≤ B) (v : Nat) : v < B ^ dlen B v := by
  obtain ⟨n, h1, h2⟩ := dlen_exists hB v
  rw [dlen_eq hB h1 h2]; exact h1

theorem dlen_le_of {B : Nat} (hB : 2 ≤ B) {v : Nat} (hv : v ≠ 0) : 0 < dlen B v ∧ B ^ (dlen B v - 1) ≤ v := by
  obtain ⟨n, h1, h2⟩ := dlen_exists hB v
  rw [dlen_eq hB h1 h2]
  rcases h2 with rfl | h2
  · simp at h1; omega
  · refine ⟨?_, h2⟩
    cases n with
    | zero => simp at h1; omega
    | succ n => omega

theorem dlen_zero {B : Nat} : dlen B 0 = 0 := rfl

theorem dlen_le {B : Nat} (hB : 2 ≤ B) {n v : Nat} (h : v < B ^ n) : dlen B v ≤ n := by
  by_cases hv : v = 0
  · subst hv; rw [dlen_zero]; exact Nat.zero_le _
  · obtain ⟨h0, h1⟩ := dlen_le_of hB hv
    have h2 : B ^ (dlen B v - 1) < B ^ n := Nat.lt_of_le_of_lt h1 h
    have := (Nat.pow_lt_pow_iff_right (by omega)).1 h2
    omega

theorem lt_pow_of_dgt {B v n m : Nat} (hB : 0 < B) (hnm : n ≤ m) (hv : v < B ^ m) (hz : ∀ j, n ≤ j → j < m → dgt B v j = 0) : v < B ^ n := by
  obtain ⟨d, rfl⟩ : ∃ d, m = n + d := ⟨m - n, by omega⟩
  clear hnm
  induction d with
  | zero => exact hv
  | succ d ih =>
    refine ih ?_ (fun j h1 h2 => hz j h1 (by omega))
    have h0 := hz (n + d) (by omega) (by omega)
    unfold dgt at h0
    have hlt : v / B ^ (n + d) < B := Nat.div_lt_of_lt_mul (by rw [← Nat.pow_succ]; exact hv)
    rw [Nat.mod_eq_of_lt hlt] at h0
    rcases Nat.div_eq_zero_iff.1 h0 with h | h
    · exact absurd h (Nat.ne_of_gt (Nat.pow_pos hB))
    · exact h

theorem dlen_of_dgt {B v n m : Nat} (hB : 2 ≤ B) (hnm : n ≤ m) (hv : v < B ^ m) (hz : ∀ j, n ≤ j → j < m → dgt B v j = 0) (hn : 0 < n → dgt B v (n - 1) ≠ 0) : dlen B v = n := by
  refine dlen_eq hB (lt_pow_of_dgt (by omega) hnm hv hz) ?_
  by_cases h : n = 0
  · exact .inl h
  · refine .inr ?_
    have h1 := hn (by omega)
    by_cases h2 : B ^ (n - 1) ≤ v
    · exact h2
    · exact absurd (by unfold dgt; rw [Nat.div_eq_of_lt (by omega), Nat.zero_mod]) h1

/-- The digit i of the base 2^64, shifted and cut. -/
theorem mod_div_mod (x a r s : Nat) (h : r + s ≤ a) : x % 2 ^ a / 2 ^ r % 2 ^ s = x / 2 ^ r % 2 ^ s := by
  obtain ⟨d, rfl⟩ : ∃ d, a = r + (s + d) := ⟨a - r - s, by omega⟩
  rw [Nat.pow_add, Nat.mod_mul_right_div_self, Nat.pow_add, Nat.mod_mul_right_mod]

theorem dgt_bits (v i s : Nat) (h : i % 64 + s ≤ 64) : dgt (2 ^ 64) v (i / 64) / 2 ^ (i % 64) % 2 ^ s = v / 2 ^ i % 2 ^ s := by
  unfold dgt
  rw [mod_div_mod _ 64 _ s h, ← Nat.pow_mul, Nat.div_div_eq_div_mul, ← Nat.pow_add]
  have e : 64 * (i / 64) + i % 64 = i := by omega
  rw [e]

/-- The number of bits, by the first digit. -/
theorem dlen2_of_top {v n b d : Nat} (hn : 0 < n) (hd : v / (2 ^ 64) ^ (n - 1) = d) (h1 : 2 ^ b ≤ d) (h2 : d < 2 ^ (b + 1)) : dlen 2 v = 64 * (n - 1) + b + 1 := by
  have e : ((2 : Nat) ^ 64) ^ (n - 1) = 2 ^ (64 * (n - 1)) := by rw [← Nat.pow_mul]
  rw [e] at hd
  have hp : 0 < 2 ^ (64 * (n - 1)) := Nat.pow_pos (by omega)
  refine dlen_eq (by omega) ?_ (.inr ?_)
  · have := (Nat.div_lt_iff_lt_mul hp).1 (by rw [hd]; exact h2 : v / 2 ^ (64 * (n - 1)) < 2 ^ (b + 1))
    rw [← Nat.pow_add] at this
    rw [show 64 * (n - 1) + b + 1 = b + 1 + 64 * (n - 1) by omega]
    exact this
  · have := (Nat.le_div_iff_mul_le hp).1 (by rw [hd]; exact h1 : 2 ^ b ≤ v / 2 ^ (64 * (n - 1)))
    rw [← Nat.pow_add] at this
    rw [show 64 * (n - 1) + b + 1 - 1 = b + 64 * (n - 1) by omega]
    exact this


/-- A digit of a number whose last n + s bits are 0, with s bits laid at n. -/
theorem dgt_place {v n s x : Nat} (hs : n % 64 + s ≤ 64) (hx : x < 2 ^ s) (hv : 2 ^ (n + s) ∣ v) :
    dgt (2 ^ 64) v (n / 64) ||| x * 2 ^ (n % 64) = dgt (2 ^ 64) v (n / 64) + x * 2 ^ (n % 64) ∧ dgt (2 ^ 64) v (n / 64) + x * 2 ^ (n % 64) < 2 ^ 64 := by
  obtain ⟨c, rfl⟩ := hv
  obtain ⟨d, hd⟩ : ∃ d, 64 = (n % 64 + s) + d := ⟨64 - (n % 64 + s), by omega⟩
  have hn : n + s = 64 * (n / 64) + (n % 64 + s) := by omega
  have e : dgt (2 ^ 64) (2 ^ (n + s) * c) (n / 64) = 2 ^ (n % 64 + s) * (c % 2 ^ d) := by
    unfold dgt
    rw [← Nat.pow_mul, hn, Nat.pow_add, Nat.mul_assoc, Nat.mul_div_cancel_left _ (Nat.pow_pos (by omega))]
    have h64 : (2 : Nat) ^ 64 = 2 ^ (n % 64 + s) * 2 ^ d := by rw [← Nat.pow_add, ← hd]
    rw [h64, Nat.mul_mod_mul_left]
  have hx2 : x * 2 ^ (n % 64) < 2 ^ (n % 64 + s) := by
    rw [Nat.pow_add, Nat.mul_comm (2 ^ (n % 64))]
    exact Nat.mul_lt_mul_of_pos_right hx (Nat.pow_pos (by omega))
  rw [e]
  refine ⟨(Nat.two_pow_add_eq_or_of_lt hx2 _).symm, ?_⟩
  have h1 : c % 2 ^ d + 1 ≤ 2 ^ d := Nat.mod_lt _ (Nat.pow_pos (by omega))
  have h2 : 2 ^ (n % 64 + s) * (c % 2 ^ d + 1) ≤ 2 ^ (n % 64 + s) * 2 ^ d := Nat.mul_le_mul_left _ h1
  rw [← Nat.pow_add, ← hd, Nat.mul_add, Nat.mul_one] at h2
  omega


/-- One more digit of s bits, laid at its place. -/
theorem valBE_step (s : Nat) (L : List Nat) (m i : Nat) (hm : L.length = m) (hi : i < m) :
    valBE (2 ^ s) (L.take i) * (2 ^ s) ^ (m - i) + L.getD i 0 * 2 ^ ((m - 1 - i) * s) = valBE (2 ^ s) (L.take (i + 1)) * (2 ^ s) ^ (m - (i + 1)) := by
  have h1 : L.take (i + 1) = L.take i ++ [L.getD i 0] := by
    rw [List.take_succ_eq_append_getElem (by omega)]
    simp [List.getD, List.getElem?_eq_getElem (by omega : i < L.length)]
  have h2 : m - i = (m - (i + 1)) + 1 := by omega
  have h3 : m - 1 - i = m - (i + 1) := by omega
  rw [h1, valBE_snoc, h2, h3, Nat.pow_succ, Nat.add_mul, Nat.mul_comm (m - (i + 1)) s, Nat.pow_mul]
  congr 1
  rw [Nat.mul_assoc, Nat.mul_comm (2 ^ s)]

theorem valBE_dvd (s : Nat) (L : List Nat) (m i : Nat) (hi : i < m) : 2 ^ ((m - 1 - i) * s + s) ∣ valBE (2 ^ s) (L.take i) * (2 ^ s) ^ (m - i) := by
  have e : (m - 1 - i) * s + s = s * (m - i) := by
    rw [show m - i = (m - 1 - i) + 1 by omega, Nat.mul_add, Nat.mul_comm, Nat.mul_one]
  rw [e, Nat.pow_mul]
  exact Nat.dvd_mul_left _ _

theorem valBE_drop (B : Nat) (zs : List Nat) : ∀ k, k ≤ zs.length → (∀ j, j < k → zs.getD j 0 = 0) → valBE B zs = valBE B (zs.drop k) := by
  induction zs with
  | nil => intro k hk _; simp at hk; subst hk; rfl
  | cons z zs ih =>
    intro k hk h
    cases k with
    | zero => rfl
    | succ k =>
      have h0 : z = 0 := by have := h 0 (by omega); simpa using this
      rw [List.drop_succ_cons, ← ih k (by simp at hk; omega) (fun j hj => by have := h (j + 1) (by omega); simpa using this), valBE_cons, h0, Nat.zero_mul, Nat.zero_add]

theorem valBE_ge (B : Nat) (zs : List Nat) (k : Nat) (hk : k < zs.length) (h : zs.getD k 0 ≠ 0) : B ^ (zs.length - k - 1) ≤ valBE B (zs.drop k) := by
  have e : zs.drop k = zs.getD k 0 :: zs.drop (k + 1) := by
    rw [List.drop_eq_getElem_cons hk]
    simp [List.getD, List.getElem?_eq_getElem hk]
  rw [e, valBE_cons, List.length_drop, show zs.length - (k + 1) = zs.length - k - 1 by omega]
  have : 1 * B ^ (zs.length - k - 1) ≤ zs.getD k 0 * B ^ (zs.length - k - 1) := Nat.mul_le_mul_right _ (by omega)
  omega


theorem div_eq_of_dgt {B n k v u : Nat} (hB : 0 < B) (hv : v < B ^ n) (hu : u < B ^ n) (hk : k < n) (h : ∀ j, k < j → j < n → dgt B v j = dgt B u j) : v / B ^ (k + 1) = u / B ^ (k + 1) := by
  obtain ⟨d, rfl⟩ : ∃ d, n = (k + 1) + d := ⟨n - (k + 1), by omega⟩
  rw [Nat.pow_add] at hv hu
  refine dgt_ext hB d (Nat.div_lt_of_lt_mul hv) (Nat.div_lt_of_lt_mul hu) fun i hi => ?_
  have := h (k + 1 + i) (by omega) (by omega)
  unfold dgt at *
  rw [Nat.pow_add, ← Nat.div_div_eq_div_mul, ← Nat.div_div_eq_div_mul] at this
  exact this

theorem lt_of_dgt {B n k v u : Nat} (hB : 0 < B) (hv : v < B ^ n) (hu : u < B ^ n) (hk : k < n) (h : ∀ j, k < j → j < n → dgt B v j = dgt B u j) (hlt : dgt B v k < dgt B u k) : v < u := by
  have hq := div_eq_of_dgt hB hv hu hk h
  have e1 : v = v % B ^ (k + 1) + B ^ (k + 1) * (v / B ^ (k + 1)) := (Nat.mod_add_div _ _).symm
  have e2 : u = u % B ^ (k + 1) + B ^ (k + 1) * (u / B ^ (k + 1)) := (Nat.mod_add_div _ _).symm
  have m1 : v % B ^ (k + 1) = v % B ^ k + B ^ k * dgt B v k := Nat.mod_pow_succ
  have m2 : u % B ^ (k + 1) = u % B ^ k + B ^ k * dgt B u k := Nat.mod_pow_succ
  have l1 : v % B ^ k < B ^ k := Nat.mod_lt _ (Nat.pow_pos hB)
  have l2 : B ^ k * (dgt B v k + 1) ≤ B ^ k * dgt B u k := Nat.mul_le_mul_left _ hlt
  rw [Nat.mul_add, Nat.mul_one] at l2
  have e3 : B ^ (k + 1) * (v / B ^ (k + 1)) = B ^ (k + 1) * (u / B ^ (k + 1)) := by rw [hq]
  generalize B ^ (k + 1) * (v / B ^ (k + 1)) = a at *
  generalize B ^ (k + 1) * (u / B ^ (k + 1)) = b at *
  generalize v % B ^ (k + 1) = c at *
  generalize u % B ^ (k + 1) = d at *
  generalize B ^ k * dgt B v k = x at *
  generalize B ^ k * dgt B u k = y at *
  generalize v % B ^ k = s at *
  generalize u % B ^ k = r at *
  generalize B ^ k = p at *
  omega

/-- The order of two numbers, as Go's Compare tells it. -/
def cmpN (v u : Nat) : Int := if v < u then -1 else if u < v then 1 else 0


/-- The carry into digit k of a sum. -/
def addC (B v u k : Nat) : Nat := (v % B ^ k + u % B ^ k) / B ^ k

theorem addC_zero (B v u : Nat) : addC B v u 0 = 0 := by simp [addC, Nat.mod_one]

theorem addC_le {B : Nat} (hB : 0 < B) (v u k : Nat) : addC B v u k ≤ 1 := by
  have hp : 0 < B ^ k := Nat.pow_pos hB
  have h1 : v % B ^ k < B ^ k := Nat.mod_lt _ hp
  have h2 : u % B ^ k < B ^ k := Nat.mod_lt _ hp
  unfold addC
  have : (v % B ^ k + u % B ^ k) / B ^ k < 2 := by rw [Nat.div_lt_iff_lt_mul hp]; omega
  omega

theorem addC_step {B : Nat} (hB : 0 < B) (v u k : Nat) : dgt B v k + dgt B u k + addC B v u k = dgt B (v + u) k + B * addC B v u (k + 1) := by
  have hp : 0 < B ^ k := Nat.pow_pos hB
  have m1 : v % B ^ (k + 1) = v % B ^ k + B ^ k * dgt B v k := Nat.mod_pow_succ
  have m2 : u % B ^ (k + 1) = u % B ^ k + B ^ k * dgt B u k := Nat.mod_pow_succ
  have e1 : addC B v u (k + 1) = (dgt B v k + dgt B u k + addC B v u k) / B := by
    unfold addC
    rw [m1, m2, Nat.pow_succ, ← Nat.div_div_eq_div_mul]
    have : v % B ^ k + B ^ k * dgt B v k + (u % B ^ k + B ^ k * dgt B u k) = v % B ^ k + u % B ^ k + B ^ k * (dgt B v k + dgt B u k) := by rw [Nat.mul_add]; omega
    rw [this, Nat.add_mul_div_left _ _ hp, Nat.add_comm]
  have e2 : dgt B (v + u) k = (dgt B v k + dgt B u k + addC B v u k) % B := by
    have hv : v + u = v % B ^ k + u % B ^ k + B ^ k * (v / B ^ k + u / B ^ k) := by
      have a1 := Nat.mod_add_div v (B ^ k)
      have a2 := Nat.mod_add_div u (B ^ k)
      rw [Nat.mul_add]
      omega
    have : (v + u) / B ^ k = addC B v u k + (v / B ^ k + u / B ^ k) := by
      unfold addC
      conv => lhs; rw [hv]
      exact Nat.add_mul_div_left _ _ hp
    show (v + u) / B ^ k % B = _
    rw [this]
    unfold dgt
    rw [Nat.add_comm (v / B ^ k % B + u / B ^ k % B)]
    simp [Nat.add_mod]
  rw [e1, e2]
  exact (Nat.mod_add_div _ _).symm

theorem addC_top {B v u n : Nat} (hv : v < B ^ n) (hu : u < B ^ n) : addC B v u n = (v + u) / B ^ n := by
  unfold addC
  rw [Nat.mod_eq_of_lt hv, Nat.mod_eq_of_lt hu]

theorem dgt_add_top {B v n k : Nat} (hB : 0 < B) (hk : k < n) (b : Nat) : dgt B (v + B ^ n * b) k = dgt B v k := by
  obtain ⟨d, rfl⟩ : ∃ d, n = k + (d + 1) := ⟨n - k - 1, by omega⟩
  unfold dgt
  rw [Nat.pow_add, Nat.mul_assoc, Nat.add_mul_div_left _ _ (Nat.pow_pos hB), Nat.pow_succ, Nat.mul_comm (B ^ d) B, Nat.mul_assoc, Nat.add_mul_mod_self_left]

/-- The difference, modulo B^n; whether one was borrowed. -/
def subW (B n v u : Nat) : Nat := if v < u then v + B ^ n - u else v - u
theorem subW_eq {B n v u : Nat} (hu : u < B ^ n) : subW B n v u + u = v + B ^ n * (if v < u then 1 else 0) := by
  unfold subW
  split <;> omega
theorem subW_lt {B n v u : Nat} (hv : v < B ^ n) : subW B n v u < B ^ n := by
  unfold subW
  split <;> omega

theorem sub_digit {B n v u k : Nat} (hB : 0 < B) (hu : u < B ^ n) (hk : k < n) :
    (dgt B v k + B - dgt B u k - addC B (subW B n v u) u k) % B = dgt B (subW B n v u) k ∧
    (if dgt B v k < dgt B u k + addC B (subW B n v u) u k then 1 else 0) = addC B (subW B n v u) u (k + 1) := by
  have h := addC_step hB (subW B n v u) u k
  rw [subW_eq hu, dgt_add_top hB hk] at h
  have l1 : dgt B (subW B n v u) k < B := dgt_lt hB
  have l2 : dgt B u k < B := dgt_lt hB
  have l3 : dgt B v k < B := dgt_lt hB
  have c1 := addC_le hB (subW B n v u) u k
  have c2 := addC_le hB (subW B n v u) u (k + 1)
  generalize dgt B (subW B n v u) k = x at *
  generalize dgt B u k = y at *
  generalize dgt B v k = z at *
  generalize addC B (subW B n v u) u k = c at *
  generalize addC B (subW B n v u) u (k + 1) = d at *
  rcases (by omega : d = 0 ∨ d = 1) with rfl | rfl
  · have e : z + B - y - c = x + B := by omega
    rw [e, Nat.add_mod_right, Nat.mod_eq_of_lt l1, if_neg (by omega)]
    exact ⟨rfl, rfl⟩
  · rw [Nat.mul_one] at h
    have e : z + B - y - c = x := by omega
    rw [e, Nat.mod_eq_of_lt l1, if_pos (by omega)]
    exact ⟨rfl, rfl⟩

end Go.Proofs.Ytkegdjndmeialaa
