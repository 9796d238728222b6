/- The numbers of the reference: slices of digits of 16 bits, the least significant one first. -/
import Derived.Test.YtkegdjndmeialaaF0
namespace Go.Proofs.Ytkegdjndmeialaa
open Go.RowKit

/-- A slice reads the digits of v: n of them; all above are 0. -/
def DigN (v n : Nat) (s : Value) (W : World) : Prop :=
  v < 65536 ^ n ∧ ∃ (a : Option Addr) (c : Nat), s = .slice a n c ∧ n ≤ c ∧ c ≤ maxLen ∧
    (n = 0 ∨ ∃ b off, a = some ⟨b, off, none⟩ ∧ b < W.heap.size ∧ ∀ j, j < n → W.cell? ⟨b, off + j, none⟩ = some (.int .i64 (dgt 65536 v j : Nat)))
/-- A number of the reference without superfluous digits. -/
def RefN (v : Nat) (s : Value) (W : World) : Prop := DigN v (dlen 65536 v) s W

theorem DigN.kept {v n : Nat} {s : Value} {W W' : World} (h : DigN v n s W) (hb : Below W.heap.size W W') : DigN v n s W' := by
  obtain ⟨h1, a, c, rfl, h2, h3, h4⟩ := h
  refine ⟨h1, a, c, rfl, h2, h3, ?_⟩
  rcases h4 with h4 | ⟨b, off, rfl, h5, h6⟩
  · exact .inl h4
  · exact .inr ⟨b, off, rfl, Nat.lt_of_lt_of_le h5 hb.size, fun j hj => by rw [(bcell hb).1 _ _ h5]; exact h6 j hj⟩

theorem dgt_ge {B v n i : Nat} (hB : 0 < B) (h : v < B ^ n) (hi : n ≤ i) : dgt B v i = 0 := by
  unfold dgt
  rw [Nat.div_eq_of_lt (Nat.lt_of_lt_of_le h (Nat.pow_le_pow_right hB hi)), Nat.zero_mod]

theorem d16_lt (v i : Nat) : dgt 65536 v i < 65536 := dgt_lt (by omega)

set_option maxRecDepth 100000 in
theorem digit_neg (s : Value) (i : Int) (hi : i < 0) (w : World) : Calls Try.prog 50 #[s, .int .i64 i] w fun e w' => e = .returned (.int .i64 0) ∧ w' = w := by
  go_enter Try.func50, Try.ntmps50
  go_wp2
  go_ret
  exact ⟨rfl, rfl⟩

theorem maxLen_le : maxLen ≤ 9223372036854775807 := by decide

set_option maxRecDepth 100000 in
theorem digit_any (v n i : Nat) (s : Value) (w : World) (h : DigN v n s w) (hi : i ≤ 9223372036854775807) : Calls Try.prog 50 #[s, .int .i64 (i : Nat)] w fun e w' => e = .returned (.int .i64 (dgt 65536 v i : Nat)) ∧ w' = w := by
  obtain ⟨h1, a, c, rfl, h2, h3, h4⟩ := h
  have hm := maxLen_le
  have hd := d16_lt v i
  by_cases hn : i < n
  · rcases h4 with h4 | ⟨b, off, rfl, h5, h6⟩
    · omega
    have h7 := h6 i hn
    clear h6 h1
    generalize dgt 65536 v i = d at *
    go_enter Try.func50, Try.ntmps50
    go_wp2
    go_ret
    exact ⟨rfl, rfl⟩
  · have h0 := dgt_ge (by omega) h1 (show n ≤ i by omega)
    rw [h0]
    clear h1 h4 h0 hd
    go_enter Try.func50, Try.ntmps50
    go_wp2
    go_ret
    exact ⟨rfl, rfl⟩

theorem digit_at (v n k : Nat) (i : Int) (s : Value) (w : World) (h : DigN v n s w) (hk : i = (k : Nat)) (hi : k ≤ 9223372036854775807) : Calls Try.prog 50 #[s, .int .i64 i] w fun e w' => e = .returned (.int .i64 (dgt 65536 v k : Nat)) ∧ w' = w := by
  subst hk
  exact digit_any v n k s w h hi

theorem bit_dgt (v i : Nat) : dgt 65536 v (i / 16) / 2 ^ (i % 16) % 2 = v / 2 ^ i % 2 := by
  have h := mod_div_mod (v / 2 ^ (16 * (i / 16))) 16 (i % 16) 1 (by omega)
  unfold dgt
  rw [show (65536 : Nat) = 2 ^ 16 by decide, ← Nat.pow_mul]
  have e : 2 ^ 16 = (65536 : Nat) := by decide
  rw [Nat.pow_one] at h
  rw [h, Nat.div_div_eq_div_mul, ← Nat.pow_add]
  congr 3
  omega

set_option maxRecDepth 100000 in
theorem rbit_any (v n i : Nat) (s : Value) (w : World) (h : DigN v n s w) (hi : i ≤ 9223372036854775807) : Calls Try.prog 29 #[s, .int .i64 (i : Nat)] w fun e w' => e = .returned (.int .i64 (v / 2 ^ i % 2 : Nat)) ∧ w' = w := by
  have hb := bit_dgt v i
  have hd := d16_lt v (i / 16)
  have HD := Lib.hid (digit_at v n (i / 16) ((i : Int) / 16) s w h (by omega) (by omega))
  generalize dgt 65536 v (i / 16) = d at *
  generalize v / 2 ^ i % 2 = r at *
  have HB := Lib.hid hb
  clear hb h
  go_enter Try.func29, Try.ntmps29
  go_wp2_with fail
  refine HD.out.mono ?_
  rintro e w1 ⟨rfl, rfl⟩
  go_wp2_with fail
  go_ret
  refine ⟨ret_eq (congrArg (Value.int .i64) ?_), rfl⟩
  show ((d : Int) / 2 ^ (i % 16)).tmod 2 = ((r : Nat) : Int)
  have h2 : ((d : Int) / 2 ^ (i % 16)) = ((d / 2 ^ (i % 16) : Nat) : Int) := by
    rw [Int.natCast_ediv, Int.natCast_pow]; rfl
  rw [h2, ← HB.out]
  generalize d / 2 ^ (i % 16) = q
  rw [Int.tmod_eq_emod_of_nonneg (by omega)]
  omega

/-- What BitLen's loop holds: nothing but 0 from i on. -/
theorem bits_above {v i : Nat} (h : v < 2 ^ (i + 1)) (h0 : v / 2 ^ i % 2 = 0) : v < 2 ^ i := by
  by_cases e : v < 2 ^ i
  · exact e
  · have h1 : v / 2 ^ i < 2 := by
      rw [Nat.div_lt_iff_lt_mul (Nat.two_pow_pos i), Nat.mul_comm, ← Nat.pow_succ]; exact h
    have h2 : 0 < v / 2 ^ i := Nat.div_pos (by omega) (Nat.two_pow_pos i)
    omega
theorem bit_set {v i : Nat} (h0 : ¬ v / 2 ^ i % 2 = 0) : 2 ^ i ≤ v := by
  by_cases e : v < 2 ^ i
  · exact absurd (by rw [Nat.div_eq_of_lt e]) h0
  · omega

set_option maxRecDepth 100000 in
theorem rbitLen_any (v n : Nat) (s : Value) (w : World) (h : DigN v n s w) (hn : n ≤ 100000000) : Calls Try.prog 27 #[s] w fun e w' => e = .returned (.int .i64 (dlen 2 v : Nat)) ∧ w' = w := by
  have HD := Lib.hid (fun (i : Nat) (j : Int) (hj : j = (i : Nat)) (hi : i ≤ 9223372036854775807) => (by subst hj; exact rbit_any v n i s w h hi : Calls Try.prog 29 #[s, .int .i64 j] w fun e w' => e = .returned (.int .i64 (v / 2 ^ i % 2 : Nat)) ∧ w' = w))
  have HV := Lib.hid (show v < 2 ^ (16 * n) by rw [Nat.pow_mul]; exact h.1)
  obtain ⟨h1, a, c, rfl, h2, h3, h4⟩ := h
  clear h1 h4
  go_enter Try.func27, Try.ntmps27
  go_wp2_with fail
  go_loop [3] (fun x => ∃ i : Nat, i ≤ 16 * n ∧ x = .int .i64 i ∧ v < 2 ^ i) (fun x => (intOf x).toNat)
  case atStart => exact ⟨16 * n, Nat.le_refl _, by simp, HV.out⟩
  case round =>
    obtain ⟨i, hi, rfl, hlt⟩ := hrel
    have HLT := Lib.hid hlt
    clear hlt
    by_cases h0 : 0 < i
    · obtain ⟨b, Hb⟩ : ∃ b, v / 2 ^ (i - 1) % 2 = b := ⟨_, rfl⟩
      have hb2 : b < 2 := by omega
      have hb := Lib.hid Hb
      clear Hb
      have HC := Lib.hid (HD.out (i - 1) ((i : Int) - 1) (by omega) (by omega))
      rw [hb.out] at HC
      go_wp2_with fail
      refine HC.out.mono ?_
      rintro e w1 ⟨rfl, rfl⟩
      go_wp2_with fail
      · have hz : ((b : Int) == 0) = true := by assumption
        have hz2 : b = 0 := by simpa using hz
        refine ⟨⟨i - 1, by omega, by rw [Int.ofNat_sub (by omega)]; rfl, ?_⟩, by simp [intOf]; omega⟩
        refine bits_above ?_ (hb.out.trans hz2)
        rw [Nat.sub_add_cancel h0]; exact HLT.out
      · have hz : ((b : Int) == 0) = false := by assumption
        have hz2 : b ≠ 0 := by simpa using hz
        go_ret
        refine ⟨ret_eq (congrArg (Value.int .i64) ?_), rfl⟩
        rw [dlen_eq (by omega) HLT.out (.inr (bit_set (by rw [hb.out]; exact hz2)))]
    · obtain rfl : i = 0 := by omega
      go_wp2_with fail
      go_ret
      refine ⟨ret_eq (congrArg (Value.int .i64) ?_), rfl⟩
      rw [dlen_eq (by omega) HLT.out (.inl rfl)]
      rfl

theorem dlen_1024 {v : Nat} : decide (v < P64 ^ 16) = decide (dlen 2 v ≤ 1024) := by
  obtain ⟨n, hn⟩ : ∃ n, n = 64 * 16 := ⟨_, rfl⟩
  rw [decide_eq_decide]
  constructor
  · exact fun h => dlen2_le h
  · intro h
    rw [P64_two n hn]
    exact Nat.lt_of_lt_of_le (lt_dlen (by omega) v) (Nat.pow_le_pow_right (by omega) (by omega))

set_option maxRecDepth 100000 in
theorem fits_any (v n : Nat) (s : Value) (w : World) (h : DigN v n s w) (hn : n ≤ 100000000) : Calls Try.prog 14 #[s] w fun e w' => e = .returned (.bool (decide (v < P64 ^ 16))) ∧ w' = w := by
  have HD := Lib.hid (rbitLen_any v n s w h hn)
  have HE := Lib.hid (dlen_1024 (v := v))
  clear h
  go_enter Try.func14, Try.ntmps14
  go_wp2_with fail
  refine HD.out.mono ?_
  rintro e w1 ⟨rfl, rfl⟩
  go_wp2_with fail
  go_ret
  refine ⟨ret_eq (congrArg Value.bool ?_), rfl⟩
  rw [HE.out, decide_eq_decide]
  omega

theorem refN_take {v n c i : Nat} {a : Option Addr} {w : World} (h : DigN v n (.slice a n c) w) (hi : i ≤ n) (ht : (i = 0 ∧ v < 65536 ^ i) ∨ (dgt 65536 v (i - 1) ≠ 0 ∧ v < 65536 ^ i)) : RefN v (.slice a i c) w := by
  obtain ⟨h1, a', c', he, h2, h3, h4⟩ := h
  cases he
  have hlt : v < 65536 ^ i := by rcases ht with ht | ht <;> exact ht.2
  have e : dlen 65536 v = i := by
    refine dlen_of_dgt (m := n) (by omega) hi h1 (fun j hj _ => dgt_ge (by omega) hlt hj) (fun h0 => ?_)
    rcases ht with ht | ht
    · omega
    · exact ht.1
  unfold RefN
  rw [e]
  refine ⟨hlt, a, c, rfl, by omega, h3, ?_⟩
  rcases h4 with h4 | ⟨b, off, rfl, h5, h6⟩
  · exact .inl (by omega)
  · exact .inr ⟨b, off, rfl, h5, fun j hj => h6 j (by omega)⟩

set_option maxRecDepth 100000 in
theorem trim_any (v n : Nat) (s : Value) (w : World) (h : DigN v n s w) : Calls Try.prog 47 #[s] w fun e w' => ∃ s', e = .returned s' ∧ RefN v s' w ∧ w' = w := by
  have HD := Lib.hid h
  obtain ⟨h1, a, c, rfl, h2, h3, h4⟩ := h
  have hm := maxLen_le
  clear h1
  go_enter Try.func47, Try.ntmps47
  go_wp2_with fail
  go_loop [3] (fun x => ∃ i : Nat, i ≤ n ∧ x = .int .i64 i ∧ v < 65536 ^ i) (fun x => (intOf x).toNat)
  case atStart => exact ⟨n, Nat.le_refl _, rfl, HD.out.1⟩
  case round =>
    obtain ⟨i, hi, rfl, hlt⟩ := hrel
    have HLT := Lib.hid hlt
    clear hlt
    by_cases h0 : 0 < i
    · rcases h4 with h4 | ⟨b, off, rfl, h5, h6⟩
      · omega
      have hcell := h6 (i - 1) (by omega)
      have hd := d16_lt v (i - 1)
      obtain ⟨d, Hd⟩ : ∃ d, dgt 65536 v (i - 1) = d := ⟨_, rfl⟩
      have hdd := Lib.hid Hd
      rw [hdd.out] at hcell hd
      clear Hd h6
      go_wp2_with fail
      · have hz : ((d : Int) == 0) = true := by assumption
        have hz2 : d = 0 := by simpa using hz
        refine ⟨⟨i - 1, by omega, by rw [Int.ofNat_sub (by omega)]; rfl, ?_⟩, by simp [intOf]; omega⟩
        refine lt_pow_of_dgt (by omega) (by omega) HLT.out fun j hj hj2 => ?_
        obtain rfl : j = i - 1 := by omega
        exact hdd.out.trans hz2
      · have hz : ((d : Int) == 0) = false := by assumption
        have hz2 : d ≠ 0 := by simpa using hz
        go_ret
        exact ⟨_, rfl, refN_take HD.out hi (.inr ⟨by rw [hdd.out]; exact hz2, HLT.out⟩), rfl⟩
    · obtain rfl : i = 0 := by omega
      clear h4
      go_wp2_with fail
      go_ret
      exact ⟨_, rfl, refN_take HD.out hi (.inl ⟨rfl, HLT.out⟩), rfl⟩
end Go.Proofs.Ytkegdjndmeialaa
