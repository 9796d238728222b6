/- Div64, whole. -/
import Derived.Test.YtlmfiggmjpjpiaaQ2
import Derived.Test.YtlmfiggmjpjpiaaD1
import Derived.Test.YtlmfiggmjpjpiaaZMath
namespace Go.Proofs.Ytlmfiggmjpjpiaa
open Go.RowKit

theorem bits_or_u64 (a b : Nat) (ha : a < 2 ^ 64) (hb : b < 2 ^ 64) : bits .or .u64 (a : Int) (b : Int) = ((a ||| b : Nat) : Int) := by
  have hx : a ||| b < 2 ^ 64 := Nat.or_lt_two_pow ha hb
  have h1 : (BitVec.ofInt 64 (a : Int)).toNat = a := by
    rw [BitVec.ofInt_natCast, BitVec.toNat_ofNat]; exact Nat.mod_eq_of_lt ha
  have h2 : (BitVec.ofInt 64 (b : Int)).toNat = b := by
    rw [BitVec.ofInt_natCast, BitVec.toNat_ofNat]; exact Nat.mod_eq_of_lt hb
  show IntKind.u64.wrap ((BitVec.ofInt 64 (a : Int) ||| BitVec.ofInt 64 (b : Int)).toNat : Int) = _
  rw [BitVec.toNat_or, h1, h2, IntKind.wrap_u64]
  omega
theorem bits_and_u64 (a b : Nat) (ha : a < 2 ^ 64) (hb : b < 2 ^ 64) : bits .and .u64 (a : Int) (b : Int) = ((a &&& b : Nat) : Int) := by
  have hx : a &&& b < 2 ^ 64 := Nat.and_lt_two_pow _ hb
  have h1 : (BitVec.ofInt 64 (a : Int)).toNat = a := by
    rw [BitVec.ofInt_natCast, BitVec.toNat_ofNat]; exact Nat.mod_eq_of_lt ha
  have h2 : (BitVec.ofInt 64 (b : Int)).toNat = b := by
    rw [BitVec.ofInt_natCast, BitVec.toNat_ofNat]; exact Nat.mod_eq_of_lt hb
  show IntKind.u64.wrap ((BitVec.ofInt 64 (a : Int) &&& BitVec.ofInt 64 (b : Int)).toNat : Int) = _
  rw [BitVec.toNat_and, h1, h2, IntKind.wrap_u64]
  omega
theorem low_half (Y : Nat) (hY : Y < 18446744073709551616) : bits .and .u64 (Y : Int) 4294967295 = ((Y % 4294967296 : Nat) : Int) := by
  have h := bits_and_u64 Y 4294967295 hY (by decide)
  rw [show (4294967295 : Nat) = 2 ^ 32 - 1 by decide, Nat.and_two_pow_sub_one_eq_mod] at h
  exact h
theorem wrap_nat {x : Nat} (h : x < 18446744073709551616) : IntKind.u64.wrap ((x : Nat) : Int) = ((x : Nat) : Int) := by
  rw [IntKind.wrap_u64]; omega

/-- What the walk has to know of the shifted divisor and dividend. -/
theorem div_norm {hi lo y s : Nat} (h0 : 0 < hi) (hy : hi < y) (hlo : lo < 18446744073709551616) (hs : Lib.bitLen y + s = 64) (hy1 : y < 18446744073709551616) :
    ∃ P Y u L : Nat, 0 < P ∧ Y = y * P ∧ 9223372036854775808 ≤ Y ∧ Y < 18446744073709551616 ∧ u < Y ∧ L < 18446744073709551616 ∧ (hi * 18446744073709551616 + lo) * P = u * 18446744073709551616 + L ∧
      IntKind.u64.wrap ((y : Int) * 2 ^ s) = ((Y : Nat) : Int) ∧ bits BinOp.or IntKind.u64 (IntKind.u64.wrap ((hi : Int) * 2 ^ s)) ((lo : Int) / 2 ^ (64 - s)) = ((u : Nat) : Int) ∧ IntKind.u64.wrap ((lo : Int) * 2 ^ s) = ((L : Nat) : Int) ∧
      ∀ r : Nat, ((r : Int) / 2 ^ s) = ((r / P : Nat) : Int) := by
  obtain ⟨b1, b2, b3⟩ := Lib.bitLenAux_bounds 64 y hy1 (by omega)
  have hb' : Lib.bitLenAux 64 y = Lib.bitLen y := rfl
  rw [hb'] at b1 b2 b3
  generalize Lib.bitLen y = b at *
  have e64 : (2 : Nat) ^ b * 2 ^ s = 18446744073709551616 := by rw [← Nat.pow_add, hs]
  have e63 : (2 : Nat) ^ (b - 1) * 2 ^ s = 9223372036854775808 := by rw [← Nat.pow_add, show b - 1 + s = 63 by omega]
  have hP : 0 < 2 ^ s := Nat.two_pow_pos s
  have hq : 64 - s = b := by omega
  rw [hq]
  have hcast : ∀ x : Nat, ((x : Int) * 2 ^ s) = ((x * 2 ^ s : Nat) : Int) := fun x => by rw [Int.natCast_mul, Int.natCast_pow]; rfl
  have hdiv : ((lo : Int) / 2 ^ b) = ((lo / 2 ^ b : Nat) : Int) := by rw [Int.natCast_ediv, Int.natCast_pow]; rfl
  have hdivs : ∀ r : Nat, ((r : Int) / 2 ^ s) = ((r / 2 ^ s : Nat) : Int) := fun r => by rw [Int.natCast_ediv, Int.natCast_pow]; rfl
  rw [hcast, hcast, hcast, hdiv]
  have hYl : y * 2 ^ s < 18446744073709551616 := by rw [← e64]; exact Nat.mul_lt_mul_of_pos_right b3 hP
  have hYg : 9223372036854775808 ≤ y * 2 ^ s := by rw [← e63]; exact Nat.mul_le_mul_right _ b2
  have hhi : (hi + 1) * 2 ^ s ≤ y * 2 ^ s := Nat.mul_le_mul_right _ hy
  rw [Nat.add_mul, Nat.one_mul] at hhi
  have hlq : lo / 2 ^ b < 2 ^ s := by
    rw [Nat.div_lt_iff_lt_mul (Nat.two_pow_pos b), Nat.mul_comm, e64]; exact hlo
  have hor : hi * 2 ^ s ||| lo / 2 ^ b = hi * 2 ^ s + lo / 2 ^ b := by
    rw [Nat.mul_comm]; exact (Nat.two_pow_add_eq_or_of_lt hlq hi).symm
  have hL : lo * 2 ^ s = lo / 2 ^ b * 18446744073709551616 + lo * 2 ^ s % 18446744073709551616 := by
    have e1 : lo * 2 ^ s / 18446744073709551616 = lo / 2 ^ b := by rw [← e64, Nat.mul_div_mul_right _ _ hP]
    have := Nat.div_add_mod (lo * 2 ^ s) 18446744073709551616
    rw [e1] at this
    omega
  refine ⟨2 ^ s, y * 2 ^ s, hi * 2 ^ s + lo / 2 ^ b, lo * 2 ^ s % 18446744073709551616, hP, rfl, hYg, hYl, by omega, Nat.mod_lt _ (by omega), ?_, wrap_nat hYl, ?_, ?_, hdivs⟩
  · rw [Nat.add_mul, Nat.mul_right_comm]
    generalize hi * 2 ^ s = H at *
    generalize lo * 2 ^ s = M at *
    generalize lo / 2 ^ b = G at *
    omega
  · rw [wrap_nat (by omega), bits_or_u64 _ _ (by omega) (by omega), hor]
  · rw [IntKind.wrap_u64]
    generalize lo * 2 ^ s = M at *
    omega

theorem ret_two {a a2 b b2 : Int} (h : a = a2) (k : b = b2) : Ending.returned (.tuple #[.int .u64 a, .int .u64 b]) = .returned (.tuple #[.int .u64 a2, .int .u64 b2]) := by rw [h, k]

set_option maxRecDepth 100000 in
set_option maxHeartbeats 2000000 in
theorem div64_high (hi lo y s : Nat) (h0 : 0 < hi) (hy : hi < y) (hy1 : y < P64) (hlo : lo < P64) (hs : Lib.bitLen y + s = 64) (w : World) :
    Calls Try.prog 85 #[.int .u64 hi, .int .u64 lo, .int .u64 y] w fun e w' => e = .returned (.tuple #[.int .u64 ((hi * P64 + lo) / y : Nat), .int .u64 ((hi * P64 + lo) % y : Nat)]) ∧ w' = w := by
  have hs1 : s ≤ 63 := by
    have := (Lib.bitLenAux_bounds 64 y (by rw [← P64_pow]; exact hy1) (by omega)).1
    have hb' : Lib.bitLenAux 64 y = Lib.bitLen y := rfl
    omega
  have HL := Lib.hid (Try.bits_LeadingZeros64 (y : Nat) · (by omega) (by rw [P64_eq] at hy1; omega))
  rw [Int.toNat_natCast, show (64 : Int) - (Lib.bitLen y : Int) = ((s : Nat) : Int) by omega] at HL
  have hy0 : (((y : Nat) : Int) == 0) = false := by simp; omega
  have hyle : ¬ (y : Int) ≤ (hi : Int) := by omega
  have hh0 : (((hi : Nat) : Int) == 0) = false := by simp; omega
  rw [P64_eq] at hy1 hlo ⊢
  obtain ⟨P, Y, u, L, hP, hYP, hY1, hY2, huY, hL, hN, eY, eU, eL, hdivs⟩ := div_norm h0 hy hlo hs hy1
  obtain ⟨y1, hy1e⟩ : ∃ y1, Y / 4294967296 = y1 := ⟨_, rfl⟩
  obtain ⟨y0, hy0e⟩ : ∃ y0, Y % 4294967296 = y0 := ⟨_, rfl⟩
  obtain ⟨l1, hl1e⟩ : ∃ l1, L / 4294967296 = l1 := ⟨_, rfl⟩
  obtain ⟨l0, hl0e⟩ : ∃ l0, L % 4294967296 = l0 := ⟨_, rfl⟩
  have eA := low_half Y hY2
  have eB := low_half L hL
  rw [hy0e] at eA
  rw [hl0e] at eB
  have eY1 : (Y : Int) / 4294967296 = ((y1 : Nat) : Int) := by omega
  have eL1 : (L : Int) / 4294967296 = ((l1 : Nat) : Int) := by omega
  have bY : Y = y1 * 4294967296 + y0 := by omega
  have bL : L = l1 * 4294967296 + l0 := by omega
  have by1 : 2147483648 ≤ y1 := by omega
  have by1' : y1 < 4294967296 := by omega
  have by0 : y0 < 4294967296 := by omega
  have bl1 : l1 < 4294967296 := by omega
  have bl0 : l0 < 4294967296 := by omega
  have hu64 : u < 18446744073709551616 := by omega
  obtain ⟨hQ1, hQ2, hQ3, hQ4, hQ5, hQ6⟩ := half_start (u := u) (d := l1) bY (by omega) bl1 huY (by omega)
  obtain ⟨q0, hq0⟩ : ∃ q0, u / y1 = q0 := ⟨_, rfl⟩
  obtain ⟨r0, hr0⟩ : ∃ r0, u % y1 = r0 := ⟨_, rfl⟩
  obtain ⟨Q1, hQ1e⟩ : ∃ Q1, (u * 4294967296 + l1) / Y = Q1 := ⟨_, rfl⟩
  rw [hQ1e] at hQ1 hQ2
  rw [hq0] at hQ2 hQ3 hQ4 hQ6
  rw [hr0] at hQ4 hQ5
  have eQ : (u : Int) / (y1 : Int) = ((q0 : Nat) : Int) := by rw [← Int.natCast_ediv, hq0]
  have eQ' : (u : Int).tdiv (y1 : Int) = ((q0 : Nat) : Int) := by rw [Int.tdiv_eq_ediv_of_nonneg (by omega), eQ]
  obtain ⟨p0, hp0⟩ : ∃ p0, q0 * y1 = p0 := ⟨_, rfl⟩
  rw [hp0] at hQ4 hQ6
  have eP : IntKind.u64.wrap ((q0 : Int) * (y1 : Int)) = ((p0 : Nat) : Int) := by rw [← Int.natCast_mul, hp0]; exact wrap_nat (by omega)
  have eR : (u : Int) - (p0 : Int) = ((r0 : Nat) : Int) := by omega
  have hy1z : ((y1 : Int) == 0) = false := by simp; omega
  -- the second half
  obtain ⟨r1, hr1⟩ : ∃ r1, (u * 4294967296 + l1) % Y = r1 := ⟨_, rfl⟩
  obtain ⟨m1, hm1⟩ : ∃ m1, m1 = Q1 * Y := ⟨_, rfl⟩
  obtain ⟨j1, j2, j3, j4⟩ := half_rest (u := u) (d := l1) (by omega) hY2 hQ1e.symm hm1
  rw [hr1] at j1 j3
  have e21 : IntKind.u64.wrap (IntKind.u64.wrap (IntKind.u64.wrap ((u : Int) * 4294967296) + (l1 : Int)) - IntKind.u64.wrap ((Q1 : Int) * (Y : Int))) = ((r1 : Nat) : Int) := by
    rw [← Int.natCast_mul, ← hm1]
    simp only [IntKind.wrap_u64]
    omega
  obtain ⟨hZ1, hZ2, hZ3, hZ4, hZ5, hZ6⟩ := half_start (u := r1) (d := l0) bY (by omega) bl0 j3 (by omega)
  obtain ⟨g0, hg0⟩ : ∃ g0, r1 / y1 = g0 := ⟨_, rfl⟩
  obtain ⟨s0, hs0⟩ : ∃ s0, r1 % y1 = s0 := ⟨_, rfl⟩
  obtain ⟨Q0, hQ0e⟩ : ∃ Q0, (r1 * 4294967296 + l0) / Y = Q0 := ⟨_, rfl⟩
  rw [hQ0e] at hZ1 hZ2
  rw [hg0] at hZ2 hZ3 hZ4 hZ6
  rw [hs0] at hZ4 hZ5
  have f1 : (r1 : Int) / (y1 : Int) = ((g0 : Nat) : Int) := by rw [← Int.natCast_ediv, hg0]
  have f2 : (r1 : Int).tdiv (y1 : Int) = ((g0 : Nat) : Int) := by rw [Int.tdiv_eq_ediv_of_nonneg (by omega), f1]
  obtain ⟨b0, hb0⟩ : ∃ b0, g0 * y1 = b0 := ⟨_, rfl⟩
  rw [hb0] at hZ4 hZ6
  have hr164 : r1 < 18446744073709551616 := by omega
  have f3 : IntKind.u64.wrap ((g0 : Int) * (y1 : Int)) = ((b0 : Nat) : Int) := by rw [← Int.natCast_mul, hb0]; exact wrap_nat (by omega)
  have f4 : (r1 : Int) - (b0 : Int) = ((s0 : Nat) : Int) := by omega
  obtain ⟨r2, hr2⟩ : ∃ r2, (r1 * 4294967296 + l0) % Y = r2 := ⟨_, rfl⟩
  obtain ⟨m2, hm2⟩ : ∃ m2, m2 = Q0 * Y := ⟨_, rfl⟩
  obtain ⟨i1, i2, i3, i4⟩ := half_rest (u := r1) (d := l0) (by omega) hY2 hQ0e.symm hm2
  rw [hr2] at i1 i3
  have e22 : IntKind.u64.wrap (IntKind.u64.wrap (IntKind.u64.wrap ((r1 : Int) * 4294967296) + (l0 : Int)) - IntKind.u64.wrap ((Q0 : Int) * (Y : Int))) = ((r2 : Nat) : Int) := by
    rw [← Int.natCast_mul, ← hm2]
    simp only [IntKind.wrap_u64]
    omega
  have hNT : (hi * 18446744073709551616 + lo) * P = (u * 4294967296 + l1) * 4294967296 + l0 := by rw [hN]; omega
  obtain ⟨hF1, hF2⟩ := halves (T := 4294967296) hP (by omega) hYP hNT (q1 := Q1) (r1 := r1) (by rw [← hm1]; omega) (q0 := Q0) (r0 := r2) (by rw [← hm2]; omega) i3
  have F1 := Lib.hid (show (Q1 : Int) * 4294967296 + (Q0 : Int) = (((hi * 18446744073709551616 + lo) / y : Nat) : Int) by rw [← hF1]; simp)
  have F3 := Lib.hid (show (r2 : Int) / (P : Int) = (((hi * 18446744073709551616 + lo) % y : Nat) : Int) by rw [← hF2, Int.natCast_ediv])
  have HE21 := Lib.hid e21
  have HE22 := Lib.hid e22
  have G1 := Lib.hid f1
  have G2 := Lib.hid f2
  have G3 := Lib.hid f3
  have G4 := Lib.hid f4
  have HZ2 := Lib.hid hZ2
  have HZ4 := Lib.hid hZ4
  have HB0 := Lib.hid hb0
  have HQ0E := Lib.hid hQ0e
  have HDS2 := Lib.hid (hdivs r2)
  have huY1 := huY
  clear hr1 hm1 j1 j2 j4 e21 hg0 hs0 hQ0e f1 f2 f3 f4 hb0 hr2 hm2 i1 i2 i4 i3 e22 hNT hF1 hF2 hZ2 hZ4 hZ6
  have HQ2 := Lib.hid hQ2
  have HP0 := Lib.hid hp0
  have HQ1E := Lib.hid hQ1e
  have HBY := Lib.hid bY
  have HQ4 := Lib.hid hQ4
  have HJ3 := Lib.hid j3
  have HUY := Lib.hid huY
  clear hs hq0 hr0 hp0 hQ1e hy1e hy0e hl1e hl0e hYP hN hdivs bY bL hQ2 hQ4 huY1
  go_enter Try.func85, Try.ntmps85
  go_wp2_with fail
  refine (HL.out _).mono ?_
  rintro e w1 ⟨rfl, rfl⟩
  go_wp2_with fail
  clear eY eU eL eA eB eY1 eL1 eQ eQ' eP eR
  go_loop [15, 16] (fun a b => ∃ q r : Nat, a = .int .u64 (q : Nat) ∧ b = .int .u64 (r : Nat) ∧ q * y1 + r = u ∧ Q1 ≤ q ∧ q ≤ 4294967297 ∧ r < 4294967296) (fun a _ => (intOf a).toNat)
  case atStart => exact ⟨q0, r0, rfl, rfl, by rw [HP0.out]; exact HQ4.out, HQ2.out, hQ3, by omega⟩
  case round =>
    obtain ⟨q, r, rfl, rfl, hacc, hge, hle, hr⟩ := hrel
    have HACC := Lib.hid hacc
    clear hacc
    by_cases c1 : 4294967296 ≤ q
    · have c3 : ¬ ((q : Int) < 4294967296) := by omega
      have c5 : (4294967296 : Int) ≤ (q : Int) := by omega
      obtain ⟨k1, k2, k3⟩ := half_keep (d := l1) HBY.out (by omega) (by rw [HQ1E.out]; exact hQ1) HACC.out (by rw [HQ1E.out]; exact hge) (.inl c1)
      rw [HQ1E.out] at k1
      have HK3 := Lib.hid k3
      clear k3
      by_cases c2 : r + y1 < 4294967296
      · have c4 : ¬ (4294967296 ≤ (r : Int) + (y1 : Int)) := by omega
        go_wp2_with fail
        refine ⟨⟨q - 1, r + y1, by rw [Int.ofNat_sub (by omega)]; rfl, by simp, HK3.out, k1, by omega, c2⟩, by simp [intOf]; omega⟩
      · have c4 : (4294967296 : Int) ≤ (r : Int) + (y1 : Int) := by omega
        have hbr := half_break (d := l1) HBY.out by0 HUY.out HK3.out (by rw [HQ1E.out]; exact k1) (show 4294967296 ≤ r + y1 by omega)
        rw [HQ1E.out] at hbr
        have eX : (q : Int) - 1 = ((Q1 : Nat) : Int) := by omega
        clear hbr
        have e21 := HE21.out
        have f1 := G1.out
        have f2 := G2.out
        have f3 := G3.out
        have f4 := G4.out
        go_wp2_with fail
        clear e21 f1 f2 f3 f4
        go_loop [18, 16] (fun a b => ∃ q r : Nat, a = .int .u64 (q : Nat) ∧ b = .int .u64 (r : Nat) ∧ q * y1 + r = r1 ∧ Q0 ≤ q ∧ q ≤ 4294967297 ∧ r < 4294967296) (fun a _ => (intOf a).toNat)
        case atStart => exact ⟨g0, s0, rfl, rfl, by rw [HB0.out]; exact HZ4.out, HZ2.out, hZ3, by omega⟩
        case round =>
          obtain ⟨q, r, rfl, rfl, hacc, hge, hle, hr⟩ := hrel
          have HACC := Lib.hid hacc
          clear hacc
          by_cases c1 : 4294967296 ≤ q
          · have c3 : ¬ ((q : Int) < 4294967296) := by omega
            have c5 : (4294967296 : Int) ≤ (q : Int) := by omega
            obtain ⟨k1, k2, k3⟩ := half_keep (d := l0) HBY.out (by omega) (by rw [HQ0E.out]; exact hZ1) HACC.out (by rw [HQ0E.out]; exact hge) (.inl c1)
            rw [HQ0E.out] at k1
            have HK3 := Lib.hid k3
            clear k3
            by_cases c2 : r + y1 < 4294967296
            · have c4 : ¬ (4294967296 ≤ (r : Int) + (y1 : Int)) := by omega
              go_wp2_with fail
              refine ⟨⟨q - 1, r + y1, by rw [Int.ofNat_sub (by omega)]; rfl, by simp, HK3.out, k1, by omega, c2⟩, by simp [intOf]; omega⟩
            · have c4 : (4294967296 : Int) ≤ (r : Int) + (y1 : Int) := by omega
              have hbr := half_break (d := l0) HBY.out by0 HJ3.out HK3.out (by rw [HQ0E.out]; exact k1) (show 4294967296 ≤ r + y1 by omega)
              rw [HQ0E.out] at hbr
              have eX : (q : Int) - 1 = ((Q0 : Nat) : Int) := by omega
              clear hbr
              have e22 := HE22.out
              have eD := HDS2.out
              go_wp2_with fail
              go_ret2
              exact ⟨ret_two F1.out F3.out, rfl⟩
          · have c3 : ¬ ((4294967296 : Int) ≤ (q : Int)) := by omega
            have c4 : ((q : Int) < 4294967296) := by omega
            obtain ⟨m, hm⟩ : ∃ m, q * y0 = m := ⟨_, rfl⟩
            have hm2 : m ≤ 4294967295 * 4294967295 := by rw [← hm]; exact Nat.mul_le_mul (by omega) (by omega)
            have eM : IntKind.u64.wrap ((q : Int) * (y0 : Int)) = ((m : Nat) : Int) := by rw [← Int.natCast_mul, hm]; exact wrap_nat (by omega)
            by_cases c5 : 4294967296 * r + l0 < m
            · have c6 : 4294967296 * (r : Int) + (l0 : Int) < (m : Int) := by omega
              obtain ⟨k1, k2, k3⟩ := half_keep (d := l0) HBY.out (by omega) (by rw [HQ0E.out]; exact hZ1) HACC.out (by rw [HQ0E.out]; exact hge) (.inr (by rw [hm]; exact c5))
              rw [HQ0E.out] at k1
              have HK3 := Lib.hid k3
              clear k3 hm
              by_cases c2 : r + y1 < 4294967296
              · have c7 : ¬ (4294967296 ≤ (r : Int) + (y1 : Int)) := by omega
                go_wp2_with fail
                refine ⟨⟨q - 1, r + y1, by rw [Int.ofNat_sub (by omega)]; rfl, by simp, HK3.out, k1, by omega, c2⟩, by simp [intOf]; omega⟩
              · have c7 : (4294967296 : Int) ≤ (r : Int) + (y1 : Int) := by omega
                have hbr := half_break (d := l0) HBY.out by0 HJ3.out HK3.out (by rw [HQ0E.out]; exact k1) (show 4294967296 ≤ r + y1 by omega)
                rw [HQ0E.out] at hbr
                have eX : (q : Int) - 1 = ((Q0 : Nat) : Int) := by omega
                clear hbr
                have e22 := HE22.out
                have eD := HDS2.out
                go_wp2_with fail
                go_ret2
                exact ⟨ret_two F1.out F3.out, rfl⟩
            · have c6 : ¬ (4294967296 * (r : Int) + (l0 : Int) < (m : Int)) := by omega
              have c7 : (m : Int) ≤ 4294967296 * (r : Int) + (l0 : Int) := by omega
              have hdn := half_done (d := l0) HBY.out (by omega) HACC.out (by rw [HQ0E.out]; exact hge) (by rw [hm]; omega)
              rw [HQ0E.out] at hdn
              have hdn2 := hdn.symm
              subst hdn2
              clear hm hdn
              have e22 := HE22.out
              have eD := HDS2.out
              go_wp2_with fail
              go_ret2
              exact ⟨ret_two F1.out F3.out, rfl⟩
    · have c3 : ¬ ((4294967296 : Int) ≤ (q : Int)) := by omega
      have c4 : ((q : Int) < 4294967296) := by omega
      obtain ⟨m, hm⟩ : ∃ m, q * y0 = m := ⟨_, rfl⟩
      have hm2 : m ≤ 4294967295 * 4294967295 := by rw [← hm]; exact Nat.mul_le_mul (by omega) (by omega)
      have eM : IntKind.u64.wrap ((q : Int) * (y0 : Int)) = ((m : Nat) : Int) := by rw [← Int.natCast_mul, hm]; exact wrap_nat (by omega)
      by_cases c5 : 4294967296 * r + l1 < m
      · have c6 : 4294967296 * (r : Int) + (l1 : Int) < (m : Int) := by omega
        obtain ⟨k1, k2, k3⟩ := half_keep (d := l1) HBY.out (by omega) (by rw [HQ1E.out]; exact hQ1) HACC.out (by rw [HQ1E.out]; exact hge) (.inr (by rw [hm]; exact c5))
        rw [HQ1E.out] at k1
        have HK3 := Lib.hid k3
        clear k3 hm
        by_cases c2 : r + y1 < 4294967296
        · have c7 : ¬ (4294967296 ≤ (r : Int) + (y1 : Int)) := by omega
          go_wp2_with fail
          refine ⟨⟨q - 1, r + y1, by rw [Int.ofNat_sub (by omega)]; rfl, by simp, HK3.out, k1, by omega, c2⟩, by simp [intOf]; omega⟩
        · have c7 : (4294967296 : Int) ≤ (r : Int) + (y1 : Int) := by omega
          have hbr := half_break (d := l1) HBY.out by0 HUY.out HK3.out (by rw [HQ1E.out]; exact k1) (show 4294967296 ≤ r + y1 by omega)
          rw [HQ1E.out] at hbr
          have eX : (q : Int) - 1 = ((Q1 : Nat) : Int) := by omega
          clear hbr
          have e21 := HE21.out
          have f1 := G1.out
          have f2 := G2.out
          have f3 := G3.out
          have f4 := G4.out
          go_wp2_with fail
          clear e21 f1 f2 f3 f4
          go_loop [18, 16] (fun a b => ∃ q r : Nat, a = .int .u64 (q : Nat) ∧ b = .int .u64 (r : Nat) ∧ q * y1 + r = r1 ∧ Q0 ≤ q ∧ q ≤ 4294967297 ∧ r < 4294967296) (fun a _ => (intOf a).toNat)
          case atStart => exact ⟨g0, s0, rfl, rfl, by rw [HB0.out]; exact HZ4.out, HZ2.out, hZ3, by omega⟩
          case round =>
            obtain ⟨q, r, rfl, rfl, hacc, hge, hle, hr⟩ := hrel
            have HACC := Lib.hid hacc
            clear hacc
            by_cases c1 : 4294967296 ≤ q
            · have c3 : ¬ ((q : Int) < 4294967296) := by omega
              have c5 : (4294967296 : Int) ≤ (q : Int) := by omega
              obtain ⟨k1, k2, k3⟩ := half_keep (d := l0) HBY.out (by omega) (by rw [HQ0E.out]; exact hZ1) HACC.out (by rw [HQ0E.out]; exact hge) (.inl c1)
              rw [HQ0E.out] at k1
              have HK3 := Lib.hid k3
              clear k3
              by_cases c2 : r + y1 < 4294967296
              · have c4 : ¬ (4294967296 ≤ (r : Int) + (y1 : Int)) := by omega
                go_wp2_with fail
                refine ⟨⟨q - 1, r + y1, by rw [Int.ofNat_sub (by omega)]; rfl, by simp, HK3.out, k1, by omega, c2⟩, by simp [intOf]; omega⟩
              · have c4 : (4294967296 : Int) ≤ (r : Int) + (y1 : Int) := by omega
                have hbr := half_break (d := l0) HBY.out by0 HJ3.out HK3.out (by rw [HQ0E.out]; exact k1) (show 4294967296 ≤ r + y1 by omega)
                rw [HQ0E.out] at hbr
                have eX : (q : Int) - 1 = ((Q0 : Nat) : Int) := by omega
                clear hbr
                have e22 := HE22.out
                have eD := HDS2.out
                go_wp2_with fail
                go_ret2
                exact ⟨ret_two F1.out F3.out, rfl⟩
            · have c3 : ¬ ((4294967296 : Int) ≤ (q : Int)) := by omega
              have c4 : ((q : Int) < 4294967296) := by omega
              obtain ⟨m, hm⟩ : ∃ m, q * y0 = m := ⟨_, rfl⟩
              have hm2 : m ≤ 4294967295 * 4294967295 := by rw [← hm]; exact Nat.mul_le_mul (by omega) (by omega)
              have eM : IntKind.u64.wrap ((q : Int) * (y0 : Int)) = ((m : Nat) : Int) := by rw [← Int.natCast_mul, hm]; exact wrap_nat (by omega)
              by_cases c5 : 4294967296 * r + l0 < m
              · have c6 : 4294967296 * (r : Int) + (l0 : Int) < (m : Int) := by omega
                obtain ⟨k1, k2, k3⟩ := half_keep (d := l0) HBY.out (by omega) (by rw [HQ0E.out]; exact hZ1) HACC.out (by rw [HQ0E.out]; exact hge) (.inr (by rw [hm]; exact c5))
                rw [HQ0E.out] at k1
                have HK3 := Lib.hid k3
                clear k3 hm
                by_cases c2 : r + y1 < 4294967296
                · have c7 : ¬ (4294967296 ≤ (r : Int) + (y1 : Int)) := by omega
                  go_wp2_with fail
                  refine ⟨⟨q - 1, r + y1, by rw [Int.ofNat_sub (by omega)]; rfl, by simp, HK3.out, k1, by omega, c2⟩, by simp [intOf]; omega⟩
                · have c7 : (4294967296 : Int) ≤ (r : Int) + (y1 : Int) := by omega
                  have hbr := half_break (d := l0) HBY.out by0 HJ3.out HK3.out (by rw [HQ0E.out]; exact k1) (show 4294967296 ≤ r + y1 by omega)
                  rw [HQ0E.out] at hbr
                  have eX : (q : Int) - 1 = ((Q0 : Nat) : Int) := by omega
                  clear hbr
                  have e22 := HE22.out
                  have eD := HDS2.out
                  go_wp2_with fail
                  go_ret2
                  exact ⟨ret_two F1.out F3.out, rfl⟩
              · have c6 : ¬ (4294967296 * (r : Int) + (l0 : Int) < (m : Int)) := by omega
                have c7 : (m : Int) ≤ 4294967296 * (r : Int) + (l0 : Int) := by omega
                have hdn := half_done (d := l0) HBY.out (by omega) HACC.out (by rw [HQ0E.out]; exact hge) (by rw [hm]; omega)
                rw [HQ0E.out] at hdn
                have hdn2 := hdn.symm
                subst hdn2
                clear hm hdn
                have e22 := HE22.out
                have eD := HDS2.out
                go_wp2_with fail
                go_ret2
                exact ⟨ret_two F1.out F3.out, rfl⟩
      · have c6 : ¬ (4294967296 * (r : Int) + (l1 : Int) < (m : Int)) := by omega
        have c7 : (m : Int) ≤ 4294967296 * (r : Int) + (l1 : Int) := by omega
        have hdn := half_done (d := l1) HBY.out (by omega) HACC.out (by rw [HQ1E.out]; exact hge) (by rw [hm]; omega)
        rw [HQ1E.out] at hdn
        have hdn2 := hdn.symm
        subst hdn2
        clear hm hdn
        have e21 := HE21.out
        have f1 := G1.out
        have f2 := G2.out
        have f3 := G3.out
        have f4 := G4.out
        go_wp2_with fail
        clear e21 f1 f2 f3 f4
        go_loop [18, 16] (fun a b => ∃ q r : Nat, a = .int .u64 (q : Nat) ∧ b = .int .u64 (r : Nat) ∧ q * y1 + r = r1 ∧ Q0 ≤ q ∧ q ≤ 4294967297 ∧ r < 4294967296) (fun a _ => (intOf a).toNat)
        case atStart => exact ⟨g0, s0, rfl, rfl, by rw [HB0.out]; exact HZ4.out, HZ2.out, hZ3, by omega⟩
        case round =>
          obtain ⟨q, r, rfl, rfl, hacc, hge, hle, hr⟩ := hrel
          have HACC := Lib.hid hacc
          clear hacc
          by_cases c1 : 4294967296 ≤ q
          · have c3 : ¬ ((q : Int) < 4294967296) := by omega
            have c5 : (4294967296 : Int) ≤ (q : Int) := by omega
            obtain ⟨k1, k2, k3⟩ := half_keep (d := l0) HBY.out (by omega) (by rw [HQ0E.out]; exact hZ1) HACC.out (by rw [HQ0E.out]; exact hge) (.inl c1)
            rw [HQ0E.out] at k1
            have HK3 := Lib.hid k3
            clear k3
            by_cases c2 : r + y1 < 4294967296
            · have c4 : ¬ (4294967296 ≤ (r : Int) + (y1 : Int)) := by omega
              go_wp2_with fail
              refine ⟨⟨q - 1, r + y1, by rw [Int.ofNat_sub (by omega)]; rfl, by simp, HK3.out, k1, by omega, c2⟩, by simp [intOf]; omega⟩
            · have c4 : (4294967296 : Int) ≤ (r : Int) + (y1 : Int) := by omega
              have hbr := half_break (d := l0) HBY.out by0 HJ3.out HK3.out (by rw [HQ0E.out]; exact k1) (show 4294967296 ≤ r + y1 by omega)
              rw [HQ0E.out] at hbr
              have eX : (q : Int) - 1 = ((Q0 : Nat) : Int) := by omega
              clear hbr
              have e22 := HE22.out
              have eD := HDS2.out
              go_wp2_with fail
              go_ret2
              exact ⟨ret_two F1.out F3.out, rfl⟩
          · have c3 : ¬ ((4294967296 : Int) ≤ (q : Int)) := by omega
            have c4 : ((q : Int) < 4294967296) := by omega
            obtain ⟨m, hm⟩ : ∃ m, q * y0 = m := ⟨_, rfl⟩
            have hm2 : m ≤ 4294967295 * 4294967295 := by rw [← hm]; exact Nat.mul_le_mul (by omega) (by omega)
            have eM : IntKind.u64.wrap ((q : Int) * (y0 : Int)) = ((m : Nat) : Int) := by rw [← Int.natCast_mul, hm]; exact wrap_nat (by omega)
            by_cases c5 : 4294967296 * r + l0 < m
            · have c6 : 4294967296 * (r : Int) + (l0 : Int) < (m : Int) := by omega
              obtain ⟨k1, k2, k3⟩ := half_keep (d := l0) HBY.out (by omega) (by rw [HQ0E.out]; exact hZ1) HACC.out (by rw [HQ0E.out]; exact hge) (.inr (by rw [hm]; exact c5))
              rw [HQ0E.out] at k1
              have HK3 := Lib.hid k3
              clear k3 hm
              by_cases c2 : r + y1 < 4294967296
              · have c7 : ¬ (4294967296 ≤ (r : Int) + (y1 : Int)) := by omega
                go_wp2_with fail
                refine ⟨⟨q - 1, r + y1, by rw [Int.ofNat_sub (by omega)]; rfl, by simp, HK3.out, k1, by omega, c2⟩, by simp [intOf]; omega⟩
              · have c7 : (4294967296 : Int) ≤ (r : Int) + (y1 : Int) := by omega
                have hbr := half_break (d := l0) HBY.out by0 HJ3.out HK3.out (by rw [HQ0E.out]; exact k1) (show 4294967296 ≤ r + y1 by omega)
                rw [HQ0E.out] at hbr
                have eX : (q : Int) - 1 = ((Q0 : Nat) : Int) := by omega
                clear hbr
                have e22 := HE22.out
                have eD := HDS2.out
                go_wp2_with fail
                go_ret2
                exact ⟨ret_two F1.out F3.out, rfl⟩
            · have c6 : ¬ (4294967296 * (r : Int) + (l0 : Int) < (m : Int)) := by omega
              have c7 : (m : Int) ≤ 4294967296 * (r : Int) + (l0 : Int) := by omega
              have hdn := half_done (d := l0) HBY.out (by omega) HACC.out (by rw [HQ0E.out]; exact hge) (by rw [hm]; omega)
              rw [HQ0E.out] at hdn
              have hdn2 := hdn.symm
              subst hdn2
              clear hm hdn
              have e22 := HE22.out
              have eD := HDS2.out
              go_wp2_with fail
              go_ret2
              exact ⟨ret_two F1.out F3.out, rfl⟩

theorem div64_any (hi lo y : Nat) (hy : hi < y) (hy1 : y < P64) (hlo : lo < P64) (w : World) :
    Calls Try.prog 85 #[.int .u64 hi, .int .u64 lo, .int .u64 y] w fun e w' => e = .returned (.tuple #[.int .u64 ((hi * P64 + lo) / y : Nat), .int .u64 ((hi * P64 + lo) % y : Nat)]) ∧ ∃ n, w' = w.drewN n := by
  by_cases h0 : 0 < hi
  · have hb := Lib.bitLenAux_bounds 64 y (by rw [← P64_pow]; exact hy1) (by omega)
    have hb' : Lib.bitLenAux 64 y = Lib.bitLen y := rfl
    have hb2 : Lib.bitLen y ≤ 64 := by
      have h2 : 2 ^ (Lib.bitLen y - 1) < 2 ^ 64 := Nat.lt_of_le_of_lt (by rw [← hb']; exact hb.2.1) (by rw [← P64_pow]; exact hy1)
      have h3 := (Nat.pow_lt_pow_iff_right (show 1 < 2 by omega)).1 h2
      omega
    refine (div64_high hi lo y (64 - Lib.bitLen y) h0 hy hy1 hlo (by omega) w).mono ?_
    rintro e w' ⟨rfl, rfl⟩
    exact ⟨rfl, 0, rfl⟩
  · obtain rfl : hi = 0 := by omega
    rw [Nat.zero_mul, Nat.zero_add]
    rw [P64_eq] at hy1 hlo
    refine (div64_low (lo : Nat) (y : Nat) (by omega) (by omega) (by omega) (by omega) w).mono ?_
    rintro e w' ⟨rfl, hw⟩
    exact ⟨rfl, hw⟩
end Go.Proofs.Ytlmfiggmjpjpiaa
