/- What the leaf functions of package nat come to: FromInt, IsZero, has, length, group, BitLen, place. -/
import Derived.Test.YtkegdjndmeialaaKit
import Derived.Test.YtkegdjndmeialaaShelf
import Derived.Lib.ItoaNum
namespace Go.Proofs.Ytkegdjndmeialaa
open Go.RowKit

theorem ret_eq {v u : Value} (h : v = u) : Ending.returned v = .returned u := by rw [h]

set_option maxRecDepth 100000 in
theorem isZero_any (v : Nat) (w : World) : Calls Try.prog 15 #[.agg (natA v)] w fun e w' => e = .returned (.bool (natEq v 0)) ∧ Below w.heap.size w w' := by
  go_enter Try.func15, Try.ntmps15
  go_wp2
  go_ret
  exact ⟨rfl, (Below.refl _ _).alloc (Nat.le_refl _) _⟩

set_option maxRecDepth 100000 in
theorem fromInt_neg (v : Int) (w : World) (hv : v < 0) : Calls Try.prog 21 #[.int .i64 v] w fun e w' => e = .returned (.tuple #[.agg (natA 0), .int .i64 2]) ∧ Below w.heap.size w w' := by
  go_enter Try.func21, Try.ntmps21
  go_wp2
  exact ret_nat_tmp _ (natA 0) rfl rfl rfl (by simp [rowN_setRow, rowN_alloc]) (natA_size _) ⟨rfl, below_setRow' ((Below.refl _ _).alloc (Nat.le_refl _) _) (Nat.le_refl _) _⟩

set_option maxRecDepth 100000 in
theorem fromInt_pos (n : Int) (w : World) (h0 : 0 ≤ n) (hn : n ≤ 9223372036854775807) : Calls Try.prog 21 #[.int .i64 n] w fun e w' => e = .returned (.tuple #[.agg (natA n.toNat), .int .i64 0]) ∧ Below w.heap.size w w' := by
  have hn' : n ≤ 18446744073709551615 := by omega
  go_enter Try.func21, Try.ntmps21
  go_wp2
  exact ret_nat_tmp _ (natA n.toNat) rfl rfl rfl (by simp [rowN_setRow, rowN_alloc]) (natA_size _) ⟨rfl, below_setRow' ((Below.refl _ _).alloc (Nat.le_refl _) _) (Nat.le_refl _) _⟩

theorem bit_and_one (v i : Nat) : (bits BinOp.and IntKind.u64 ((dgt P64 v (i / 64) : Nat) / 2 ^ (i % 64) : Int) 1 == 1) = decide (v / 2 ^ i % 2 = 1) := by
  have hp := dgt_lt (v := v) (i := i / 64) P64_pos
  rw [P64_eq] at hp
  have e : ((dgt 18446744073709551616 v (i / 64) : Nat) / 2 ^ (i % 64) : Int) = ((dgt 18446744073709551616 v (i / 64) / 2 ^ (i % 64) : Nat) : Int) := by simp
  have hl : dgt 18446744073709551616 v (i / 64) / 2 ^ (i % 64) < 18446744073709551616 := Nat.lt_of_le_of_lt (Nat.div_le_self _ _) hp
  have hb := dgt_bits v i 1 (by omega)
  have e64 : (2 : Nat) ^ 64 = 18446744073709551616 := by decide
  rw [e64, Nat.pow_one] at hb
  rw [P64_eq, e]
  have h1 := bits_and_u64_nat _ 1 hl (by decide)
  rw [Int.natCast_one] at h1
  rw [h1, Nat.and_one_is_mod, hb, Bool.eq_iff_iff, beq_iff_eq, decide_eq_true_iff]
  generalize v / 2 ^ i % 2 = y
  omega

set_option maxRecDepth 100000 in
theorem has_any (v : Nat) (i : Int) (h0 : 0 ≤ i) (hi : i < 1024) (w : World) : Calls Try.prog 55 #[.agg (natA v), .int .i64 i] w fun e w' => e = .returned (.bool (decide (v / 2 ^ i.toNat % 2 = 1))) ∧ Below w.heap.size w w' := by
  obtain ⟨n, rfl⟩ := Int.eq_ofNat_of_zero_le h0
  have h1 : n / 64 < 16 := by omega
  clear h0
  go_enter Try.func55, Try.ntmps55
  go_wp2
  go_ret
  exact ⟨by rw [Int.toNat_natCast, ← bit_and_one]; rfl, (Below.refl _ _).alloc (Nat.le_refl _) _⟩

/-- How many digits a number has. -/
def natLen (v : Nat) : Nat := dlen P64 v

set_option maxRecDepth 100000 in
theorem length_any (v : Nat) (hv : v < P64 ^ 16) (w : World) : Calls Try.prog 53 #[.agg (natA v)] w fun e w' => e = .returned (.int .i64 (natLen v)) ∧ Below w.heap.size w w' := by
  have HV := Lib.hid hv; clear hv
  go_enter Try.func53, Try.ntmps53
  go_wp2
  go_loop [3] (fun n => ∃ k : Nat, k ≤ 16 ∧ n = .int .i64 k ∧ ∀ j, k ≤ j → j < 16 → dgt P64 v j = 0) (fun n => (intOf n).toNat)
  case atStart => exact ⟨16, Nat.le_refl _, rfl, fun j h1 h2 => by omega⟩
  case round =>
    obtain ⟨k, hk, rfl, hz⟩ := hrel
    have HZ := Lib.hid hz; clear hz
    have hk1 : 0 < k → k - 1 < 16 := fun _ => by omega
    go_wp2
    · have hk0 : 0 < k := by assumption
      have hd : ((dgt P64 v (k - 1) : Int) == 0) = true := by assumption
      refine ⟨⟨k - 1, by omega, by rw [Int.ofNat_sub (by omega)]; rfl, fun j h1 h2 => ?_⟩, by simp [intOf]; omega⟩
      by_cases e : j = k - 1
      · subst e
        have := eq_of_beq hd
        omega
      · exact HZ.out j (by omega) h2
    · have hk0 : 0 < k := by assumption
      have hd : ((dgt P64 v (k - 1) : Int) == 0) = false := by assumption
      go_ret
      refine ⟨ret_eq ?_, (Below.refl _ _).alloc (Nat.le_refl _) _⟩
      have := dlen_of_dgt (by rw [P64_eq]; decide) hk HV.out HZ.out (fun _ e => by rw [e] at hd; simp at hd)
      simp [natLen, this]
    · have hk0 : ¬ 0 < k := by assumption
      go_ret
      refine ⟨ret_eq ?_, (Below.refl _ _).alloc (Nat.le_refl _) _⟩
      have := dlen_of_dgt (by rw [P64_eq]; decide) hk HV.out HZ.out (fun h => absurd h hk0)
      simp [natLen, this]

theorem group_bits8 (v i : Nat) (h : i % 64 + 8 ≤ 64) :
    bits BinOp.and IntKind.u8 ((dgt P64 v (i / 64) : Nat) / 2 ^ (i % 64) % 256 : Int) 255 = ((v / 2 ^ i % 256 : Nat) : Int) := by
  have e : ((dgt P64 v (i / 64) : Nat) / 2 ^ (i % 64) % 256 : Int) = ((dgt P64 v (i / 64) / 2 ^ (i % 64) % 256 : Nat) : Int) := by simp
  have hb := dgt_bits v i 8 h
  have h1 := bits_and_u8_nat (dgt P64 v (i / 64) / 2 ^ (i % 64) % 256) 255 (Nat.mod_lt _ (by decide)) (by decide)
  rw [e]
  refine h1.trans ?_
  rw [show (255 : Nat) = 2 ^ 8 - 1 by decide, Nat.and_two_pow_sub_one_eq_mod, P64_pow, Nat.mod_mod_of_dvd _ (by decide : 2 ^ 8 ∣ 256), hb]

set_option maxRecDepth 100000 in
theorem group8 (v : Nat) (i : Int) (h0 : 0 ≤ i) (hi : i < 1024) (h8 : i % 8 = 0) (w : World) : Calls Try.prog 49 #[.agg (natA v), .int .i64 i, .int .u8 255] w fun e w' => e = .returned (.int .u8 (v / 2 ^ i.toNat % 256 : Nat)) ∧ Below w.heap.size w w' := by
  obtain ⟨n, rfl⟩ := Int.eq_ofNat_of_zero_le h0
  have h1 : n / 64 < 16 := by omega
  have hb := Lib.hid (group_bits8 v n (by omega))
  clear h0 h8
  go_enter Try.func49, Try.ntmps49
  go_wp2
  go_ret
  exact ⟨by rw [Int.toNat_natCast]; exact congrArg (fun x => Ending.returned (.int .u8 x)) hb.out, (Below.refl _ _).alloc (Nat.le_refl _) _⟩

theorem group_bits4 (v i : Nat) (h : i % 64 + 4 ≤ 64) :
    ((dgt P64 v (i / 64) : Nat) / 2 ^ (i % 64) % 256 % 16 : Int) = ((v / 2 ^ i % 16 : Nat) : Int) := by
  have e : ((dgt P64 v (i / 64) : Nat) / 2 ^ (i % 64) % 256 % 16 : Int) = ((dgt P64 v (i / 64) / 2 ^ (i % 64) % 256 % 16 : Nat) : Int) := by simp
  have hb := dgt_bits v i 4 h
  rw [e, P64_pow, Nat.mod_mod_of_dvd _ (by decide : 16 ∣ 256), show (16 : Nat) = 2 ^ 4 by decide, hb]

set_option maxRecDepth 100000 in
theorem group4 (v : Nat) (i : Int) (h0 : 0 ≤ i) (hi : i < 1024) (h8 : i % 4 = 0) (w : World) : Calls Try.prog 49 #[.agg (natA v), .int .i64 i, .int .u8 15] w fun e w' => e = .returned (.int .u8 (v / 2 ^ i.toNat % 16 : Nat)) ∧ Below w.heap.size w w' := by
  obtain ⟨n, rfl⟩ := Int.eq_ofNat_of_zero_le h0
  have h1 : n / 64 < 16 := by omega
  have hb := Lib.hid (group_bits4 v n (by omega))
  clear h0 h8
  go_enter Try.func49, Try.ntmps49
  go_wp2
  go_ret
  exact ⟨by rw [Int.toNat_natCast]; exact congrArg (fun x => Ending.returned (.int .u8 x)) hb.out, (Below.refl _ _).alloc (Nat.le_refl _) _⟩

set_option maxRecDepth 100000 in
theorem bitLen_zero (v : Nat) (hv : v < P64 ^ 16) (hz : natLen v = 0) (w : World) : Calls Try.prog 26 #[.agg (natA v)] w fun e w' => e = .returned (.int .i64 0) ∧ Below w.heap.size w w' := by
  have hz' : ((natLen v : Int) == 0) = true := by rw [hz]; rfl
  clear hz
  generalize hn : natLen v = n at *
  have HN := Lib.hid hn; clear hn
  go_enter Try.func26, Try.ntmps26
  go_wp2_with fail
  refine (length_any v hv _).mono ?_
  rintro e w1 ⟨rfl, hb1⟩
  rw [HN.out]
  go_wp2_with fail
  go_ret
  exact ⟨rfl, ((Below.refl _ _).alloc (Nat.le_refl _) _).trans (hb1.mono (by simp))⟩

set_option maxRecDepth 100000 in
theorem bitLen_pos (v : Nat) (hv : v < P64 ^ 16) (hz : 0 < natLen v) (w : World) : Calls Try.prog 26 #[.agg (natA v)] w fun e w' => e = .returned (.int .i64 (natLen v * 64 - (64 - (Lib.bitLen (dgt P64 v (natLen v - 1)) : Int)))) ∧ Below w.heap.size w w' := by
  have hn : natLen v ≤ 16 := dlen_le (by rw [P64_eq]; decide) hv
  have hn1 : natLen v - 1 < 16 := by omega
  have hd : ((dgt P64 v (natLen v - 1) : Nat) : Int) ≤ 18446744073709551615 := by
    have hd := dgt_lt (B := P64) (v := v) (i := natLen v - 1) P64_pos
    rw [P64_eq] at hd ⊢
    omega
  have hl : Lib.bitLen (dgt P64 v (natLen v - 1)) ≤ 64 := Lib.bitLen_le _ 64 (Nat.le_refl _) (by omega)
  have HD := Lib.hid hd; clear hd
  have hz' : ((natLen v : Int) == 0) = false := by simp; omega
  go_enter Try.func26, Try.ntmps26
  go_wp2_with fail
  refine (length_any v hv _).mono ?_
  rintro e w1 ⟨rfl, hb1⟩
  obtain ⟨hc, hf⟩ := bcell hb1
  go_wp2_with fail
  refine (Try.bits_LeadingZeros64 _ _ (by omega) HD.out).mono ?_
  rintro e w2 ⟨rfl, rfl⟩
  rw [Int.toNat_natCast]
  go_wp2_with fail
  go_ret
  exact ⟨rfl, ((Below.refl _ _).alloc (Nat.le_refl _) _).trans (hb1.mono (by simp))⟩

theorem bitLen_any (v : Nat) (hv : v < P64 ^ 16) (w : World) : Calls Try.prog 26 #[.agg (natA v)] w fun e w' => e = .returned (.int .i64 (dlen 2 v)) ∧ Below w.heap.size w w' := by
  have hB : 2 ≤ P64 := by rw [P64_eq]; decide
  by_cases hz : natLen v = 0
  · refine (bitLen_zero v hv hz w).mono ?_
    rintro e w' ⟨rfl, hb⟩
    have h0 : v = 0 := by have := lt_dlen hB v; rw [show dlen P64 v = 0 from hz] at this; simpa using this
    exact ⟨by rw [h0]; rfl, hb⟩
  · refine (bitLen_pos v hv (by omega) w).mono ?_
    rintro e w' ⟨rfl, hb⟩
    refine ⟨ret_eq ?_, hb⟩
    have hv0 : v ≠ 0 := by rintro rfl; exact hz rfl
    obtain ⟨h1, h2⟩ := dlen_le_of hB hv0
    have h3 := lt_dlen hB v
    have hp : 0 < P64 ^ (natLen v - 1) := Nat.pow_pos P64_pos
    have hlt : v / P64 ^ (natLen v - 1) < P64 := by
      have e1 : natLen v - 1 + 1 = natLen v := by omega
      refine Nat.div_lt_of_lt_mul ?_
      rw [← Nat.pow_succ]
      show v < P64 ^ (natLen v - 1 + 1)
      rw [e1]
      exact h3
    have hd : dgt P64 v (natLen v - 1) = v / P64 ^ (natLen v - 1) := Nat.mod_eq_of_lt hlt
    have hd0 : v / P64 ^ (natLen v - 1) ≠ 0 := by
      have : 1 ≤ v / P64 ^ (natLen v - 1) := (Nat.le_div_iff_mul_le hp).2 (by rw [Nat.one_mul]; exact h2)
      omega
    obtain ⟨b1, b2, b3⟩ := Lib.bitLenAux_bounds 64 (v / P64 ^ (natLen v - 1)) (by rw [← P64_pow]; exact hlt) hd0
    have hb' : Lib.bitLen (v / P64 ^ (natLen v - 1)) = Lib.bitLenAux 64 (v / P64 ^ (natLen v - 1)) := rfl
    rw [← hb'] at b1 b2 b3
    rw [hd]
    rw [P64_pow] at *
    have := dlen2_of_top (b := Lib.bitLen (v / (2 ^ 64) ^ (natLen v - 1)) - 1) (by omega) rfl b2 (by rw [Nat.sub_add_cancel b1]; exact b3)
    rw [this]
    congr 1
    omega

theorem place_num (v n s x : Nat) (hn : n < 1024) (hs : n % 64 + s ≤ 64) (hx : x < 2 ^ s) (hv : 2 ^ (n + s) ∣ v) :
    (natA v).setIfInBounds (n / 64) (.int .u64 (bits BinOp.or IntKind.u64 ((dgt P64 v (n / 64) : Nat) : Int) (IntKind.u64.wrap ((x : Int) * 2 ^ (n % 64))))) = natA (v + x * 2 ^ n) := by
  obtain ⟨h1, h2⟩ := dgt_place hs hx hv
  have hlt : x * 2 ^ (n % 64) < 18446744073709551616 := by omega
  have hw : IntKind.u64.wrap ((x : Int) * 2 ^ (n % 64)) = ((x * 2 ^ (n % 64) : Nat) : Int) := by
    rw [show ((x : Int) * 2 ^ (n % 64)) = ((x * 2 ^ (n % 64) : Nat) : Int) by simp, IntKind.wrap_u64]
    omega
  have hd := dgt_lt (v := v) (i := n / 64) P64_pos
  rw [P64_eq] at hd
  have e : v + x * 2 ^ n = v + (x * 2 ^ (n % 64)) * P64 ^ (n / 64) := by
    rw [P64_pow, ← Nat.pow_mul, Nat.mul_assoc, ← Nat.pow_add, show n % 64 + 64 * (n / 64) = n by omega]
  have hsum : dgt P64 v (n / 64) + x * 2 ^ (n % 64) < P64 := by rw [P64_pow]; exact h2
  rw [hw, P64_eq, bits_or_u64_nat _ _ hd hlt, e, ← P64_eq, P64_pow, h1, ← P64_pow, ← dgt_add_same P64_pos hsum]
  exact natA_set _ _ _ (by omega) (fun j _ hj => dgt_add_other P64_pos hsum hj)

set_option maxRecDepth 100000 in
theorem place_any (s g v : Nat) (i x : Int) (h0 : 0 ≤ i) (hi : i < 1024) (hs : i % 64 + s ≤ 64) (hx0 : 0 ≤ x) (hx : x < 2 ^ s) (hs8 : s ≤ 8) (hv : 2 ^ (i.toNat + s) ∣ v) (w : World) (hg : rowN w g = some (natA v)) :
    Calls Try.prog 46 #[.pointer (some ⟨g, 0, none⟩), .int .i64 i, .int .u8 x] w fun e w' => e = .returned (.tuple #[]) ∧ rowN w' g = some (natA (v + x.toNat * 2 ^ i.toNat)) ∧ w.grownBy w' (some g) := by
  obtain ⟨n, rfl⟩ := Int.eq_ofNat_of_zero_le h0
  obtain ⟨y, rfl⟩ := Int.eq_ofNat_of_zero_le hx0
  rw [Int.toNat_natCast] at hv
  rw [Int.toNat_natCast, Int.toNat_natCast]
  have hy : y < 2 ^ s := by
    have : ((2 : Int) ^ s) = ((2 ^ s : Nat) : Int) := by simp
    omega
  have hy2 : (y : Int) < 256 := by
    have : 2 ^ s ≤ 2 ^ 8 := Nat.pow_le_pow_right (by omega) hs8
    omega
  have h1 : n / 64 < 16 := by omega
  have HP := Lib.hid (place_num v n s y (by omega) (by omega) hy hv)
  obtain ⟨hc0, hf0⟩ := rowN_cell hg
  have hc : w.cell? ⟨g, n / 64, none⟩ = some (.int .u64 (dgt P64 v (n / 64) : Nat)) := by rw [hc0]; exact natA_get _ _ h1
  have hf := hf0 (n / 64)
  have HG := Lib.hid hg
  clear h0 hx0 hc0 hf0 hx hy hs hv hs8 hg
  go_enter Try.func46, Try.ntmps46
  go_wp2
  go_region
  go_end0
  refine ⟨rfl, ?_, ?_⟩
  · rw [rowN_drew, rowN_setCell, if_pos rfl, HG.out]
    simp only [Option.map_some, Option.isSome_none, Bool.false_eq_true, if_false]
    rw [HP.out]
  · exact ⟨rfl, rfl, rfl, by simp [World.setCell, World.drew], fun k hk hne => Below.heap_setCell w _ _ k (fun e => hne (by rw [e]))⟩

end Go.Proofs.Ytkegdjndmeialaa
