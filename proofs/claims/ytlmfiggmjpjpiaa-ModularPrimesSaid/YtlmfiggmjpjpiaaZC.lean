/- What the leaf functions of package nat come to: FromInt, IsZero, has, length, group, BitLen, place. What FromBytes comes to. What Bytes comes to. What Text comes to; a slice of bytes as a string. -/
import Derived.Test.YtlmfiggmjpjpiaaKit
import Derived.Test.YtlmfiggmjpjpiaaShelf
import Derived.Lib.ItoaNum
namespace Go.Proofs.Ytlmfiggmjpjpiaa
open Go.RowKit

theorem ret_eq {v u : Value} (h : v = u) : Ending.returned v = .returned u := by rw [h]

set_option maxRecDepth 100000 in
theorem isZero_any (v : Nat) (w : World) : Calls Try.prog 16 #[.agg (natA v)] w fun e w' => e = .returned (.bool (natEq v 0)) ∧ Below w.heap.size w w' := by
  go_enter Try.func16, Try.ntmps16
  go_wp2
  go_ret
  exact ⟨rfl, (Below.refl _ _).alloc (Nat.le_refl _) _⟩

set_option maxRecDepth 100000 in
theorem fromInt_neg (v : Int) (w : World) (hv : v < 0) : Calls Try.prog 55 #[.int .i64 v] w fun e w' => e = .returned (.tuple #[.agg (natA 0), .int .i64 2]) ∧ Below w.heap.size w w' := by
  go_enter Try.func55, Try.ntmps55
  go_wp2
  exact ret_nat_tmp _ (natA 0) rfl rfl rfl (by simp [rowN_setRow, rowN_alloc]) (natA_size _) ⟨rfl, below_setRow' ((Below.refl _ _).alloc (Nat.le_refl _) _) (Nat.le_refl _) _⟩

set_option maxRecDepth 100000 in
theorem fromInt_pos (n : Int) (w : World) (h0 : 0 ≤ n) (hn : n ≤ 9223372036854775807) : Calls Try.prog 55 #[.int .i64 n] w fun e w' => e = .returned (.tuple #[.agg (natA n.toNat), .int .i64 0]) ∧ Below w.heap.size w w' := by
  have hn' : n ≤ 18446744073709551615 := by omega
  go_enter Try.func55, Try.ntmps55
  go_wp2
  exact ret_nat_tmp _ (natA n.toNat) rfl rfl rfl (by simp [rowN_setRow, rowN_alloc]) (natA_size _) ⟨rfl, below_setRow' ((Below.refl _ _).alloc (Nat.le_refl _) _) (Nat.le_refl _) _⟩

theorem bit_and_one (v i : Nat) : (bits BinOp.and IntKind.u64 ((dgt P64 v (i / 64) : Nat) / 2 ^ (i % 64) : Int) 1 == 1) = decide (v / 2 ^ i % 2 = 1) := by
  have hp := dgt_lt (v := v) (i := i / 64) P64_pos
  rw [P64_eq] at hp
  have e : ((dgt 18446744073709551616 v (i / 64) : Nat) / 2 ^ (i % 64) : Int) = ((dgt 18446744073709551616 v (i / 64) / 2 ^ (i % 64) : Nat) : Int) := by simp
  have hl : dgt 18446744073709551616 v (i / 64) / 2 ^ (i % 64) < 18446744073709551616 := Nat.lt_of_le_of_lt (Nat.div_le_self _ _) hp
  have hb := dgt_bits v i 1 (by omega)
  have e64 : (2 : Nat) ^ 64 = 18446744073709551616 := by decide
  rw [e64, Nat.pow_one] at hb
  rw [P64_eq, e]
  have h1 := bits_and_u64_nat _ 1 hl (by decide)
  rw [Int.natCast_one] at h1
  rw [h1, Nat.and_one_is_mod, hb, Bool.eq_iff_iff, beq_iff_eq, decide_eq_true_iff]
  generalize v / 2 ^ i % 2 = y
  omega

/-- How many digits a number has. -/
def natLen (v : Nat) : Nat := dlen P64 v

set_option maxRecDepth 100000 in
theorem length_any (v : Nat) (hv : v < P64 ^ 16) (w : World) : Calls Try.prog 71 #[.agg (natA v)] w fun e w' => e = .returned (.int .i64 (natLen v)) ∧ Below w.heap.size w w' := by
  have HV := Lib.hid hv; clear hv
  go_enter Try.func71, Try.ntmps71
  go_wp2
  go_loop [3] (fun n => ∃ k : Nat, k ≤ 16 ∧ n = .int .i64 k ∧ ∀ j, k ≤ j → j < 16 → dgt P64 v j = 0) (fun n => (intOf n).toNat)
  case atStart => exact ⟨16, Nat.le_refl _, rfl, fun j h1 h2 => by omega⟩
  case round =>
    obtain ⟨k, hk, rfl, hz⟩ := hrel
    have HZ := Lib.hid hz; clear hz
    have hk1 : 0 < k → k - 1 < 16 := fun _ => by omega
    go_wp2
    · have hk0 : 0 < k := by assumption
      have hd : ((dgt P64 v (k - 1) : Int) == 0) = true := by assumption
      refine ⟨⟨k - 1, by omega, by rw [Int.ofNat_sub (by omega)]; rfl, fun j h1 h2 => ?_⟩, by simp [intOf]; omega⟩
      by_cases e : j = k - 1
      · subst e
        have := eq_of_beq hd
        omega
      · exact HZ.out j (by omega) h2
    · have hk0 : 0 < k := by assumption
      have hd : ((dgt P64 v (k - 1) : Int) == 0) = false := by assumption
      go_ret
      refine ⟨ret_eq ?_, (Below.refl _ _).alloc (Nat.le_refl _) _⟩
      have := dlen_of_dgt (by rw [P64_eq]; decide) hk HV.out HZ.out (fun _ e => by rw [e] at hd; simp at hd)
      simp [natLen, this]
    · have hk0 : ¬ 0 < k := by assumption
      go_ret
      refine ⟨ret_eq ?_, (Below.refl _ _).alloc (Nat.le_refl _) _⟩
      have := dlen_of_dgt (by rw [P64_eq]; decide) hk HV.out HZ.out (fun h => absurd h hk0)
      simp [natLen, this]

theorem group_bits8 (v i : Nat) (h : i % 64 + 8 ≤ 64) :
    bits BinOp.and IntKind.u8 ((dgt P64 v (i / 64) : Nat) / 2 ^ (i % 64) % 256 : Int) 255 = ((v / 2 ^ i % 256 : Nat) : Int) := by
  have e : ((dgt P64 v (i / 64) : Nat) / 2 ^ (i % 64) % 256 : Int) = ((dgt P64 v (i / 64) / 2 ^ (i % 64) % 256 : Nat) : Int) := by simp
  have hb := dgt_bits v i 8 h
  have h1 := bits_and_u8_nat (dgt P64 v (i / 64) / 2 ^ (i % 64) % 256) 255 (Nat.mod_lt _ (by decide)) (by decide)
  rw [e]
  refine h1.trans ?_
  rw [show (255 : Nat) = 2 ^ 8 - 1 by decide, Nat.and_two_pow_sub_one_eq_mod, P64_pow, Nat.mod_mod_of_dvd _ (by decide : 2 ^ 8 ∣ 256), hb]

set_option maxRecDepth 100000 in
theorem group8 (v : Nat) (i : Int) (h0 : 0 ≤ i) (hi : i < 1024) (h8 : i % 8 = 0) (w : World) : Calls Try.prog 63 #[.agg (natA v), .int .i64 i, .int .u8 255] w fun e w' => e = .returned (.int .u8 (v / 2 ^ i.toNat % 256 : Nat)) ∧ Below w.heap.size w w' := by
  obtain ⟨n, rfl⟩ := Int.eq_ofNat_of_zero_le h0
  have h1 : n / 64 < 16 := by omega
  have hb := Lib.hid (group_bits8 v n (by omega))
  clear h0 h8
  go_enter Try.func63, Try.ntmps63
  go_wp2
  go_ret
  exact ⟨by rw [Int.toNat_natCast]; exact congrArg (fun x => Ending.returned (.int .u8 x)) hb.out, (Below.refl _ _).alloc (Nat.le_refl _) _⟩

theorem group_bits4 (v i : Nat) (h : i % 64 + 4 ≤ 64) :
    ((dgt P64 v (i / 64) : Nat) / 2 ^ (i % 64) % 256 % 16 : Int) = ((v / 2 ^ i % 16 : Nat) : Int) := by
  have e : ((dgt P64 v (i / 64) : Nat) / 2 ^ (i % 64) % 256 % 16 : Int) = ((dgt P64 v (i / 64) / 2 ^ (i % 64) % 256 % 16 : Nat) : Int) := by simp
  have hb := dgt_bits v i 4 h
  rw [e, P64_pow, Nat.mod_mod_of_dvd _ (by decide : 16 ∣ 256), show (16 : Nat) = 2 ^ 4 by decide, hb]

set_option maxRecDepth 100000 in
theorem group4 (v : Nat) (i : Int) (h0 : 0 ≤ i) (hi : i < 1024) (h8 : i % 4 = 0) (w : World) : Calls Try.prog 63 #[.agg (natA v), .int .i64 i, .int .u8 15] w fun e w' => e = .returned (.int .u8 (v / 2 ^ i.toNat % 16 : Nat)) ∧ Below w.heap.size w w' := by
  obtain ⟨n, rfl⟩ := Int.eq_ofNat_of_zero_le h0
  have h1 : n / 64 < 16 := by omega
  have hb := Lib.hid (group_bits4 v n (by omega))
  clear h0 h8
  go_enter Try.func63, Try.ntmps63
  go_wp2
  go_ret
  exact ⟨by rw [Int.toNat_natCast]; exact congrArg (fun x => Ending.returned (.int .u8 x)) hb.out, (Below.refl _ _).alloc (Nat.le_refl _) _⟩

set_option maxRecDepth 100000 in
theorem bitLen_zero (v : Nat) (hv : v < P64 ^ 16) (hz : natLen v = 0) (w : World) : Calls Try.prog 62 #[.agg (natA v)] w fun e w' => e = .returned (.int .i64 0) ∧ Below w.heap.size w w' := by
  have hz' : ((natLen v : Int) == 0) = true := by rw [hz]; rfl
  clear hz
  generalize hn : natLen v = n at *
  have HN := Lib.hid hn; clear hn
  go_enter Try.func62, Try.ntmps62
  go_wp2_with fail
  refine (length_any v hv _).mono ?_
  rintro e w1 ⟨rfl, hb1⟩
  rw [HN.out]
  go_wp2_with fail
  go_ret
  exact ⟨rfl, ((Below.refl _ _).alloc (Nat.le_refl _) _).trans (hb1.mono (by simp))⟩

set_option maxRecDepth 100000 in
theorem bitLen_pos (v : Nat) (hv : v < P64 ^ 16) (hz : 0 < natLen v) (w : World) : Calls Try.prog 62 #[.agg (natA v)] w fun e w' => e = .returned (.int .i64 (natLen v * 64 - (64 - (Lib.bitLen (dgt P64 v (natLen v - 1)) : Int)))) ∧ Below w.heap.size w w' := by
  have hn : natLen v ≤ 16 := dlen_le (by rw [P64_eq]; decide) hv
  have hn1 : natLen v - 1 < 16 := by omega
  have hd : ((dgt P64 v (natLen v - 1) : Nat) : Int) ≤ 18446744073709551615 := by
    have hd := dgt_lt (B := P64) (v := v) (i := natLen v - 1) P64_pos
    rw [P64_eq] at hd ⊢
    omega
  have hl : Lib.bitLen (dgt P64 v (natLen v - 1)) ≤ 64 := Lib.bitLen_le _ 64 (Nat.le_refl _) (by omega)
  have HD := Lib.hid hd; clear hd
  have hz' : ((natLen v : Int) == 0) = false := by simp; omega
  go_enter Try.func62, Try.ntmps62
  go_wp2_with fail
  refine (length_any v hv _).mono ?_
  rintro e w1 ⟨rfl, hb1⟩
  obtain ⟨hc, hf⟩ := bcell hb1
  go_wp2_with fail
  refine (Try.bits_LeadingZeros64 _ _ (by omega) HD.out).mono ?_
  rintro e w2 ⟨rfl, rfl⟩
  rw [Int.toNat_natCast]
  go_wp2_with fail
  go_ret
  exact ⟨rfl, ((Below.refl _ _).alloc (Nat.le_refl _) _).trans (hb1.mono (by simp))⟩

theorem bitLen_any (v : Nat) (hv : v < P64 ^ 16) (w : World) : Calls Try.prog 62 #[.agg (natA v)] w fun e w' => e = .returned (.int .i64 (dlen 2 v)) ∧ Below w.heap.size w w' := by
  have hB : 2 ≤ P64 := by rw [P64_eq]; decide
  by_cases hz : natLen v = 0
  · refine (bitLen_zero v hv hz w).mono ?_
    rintro e w' ⟨rfl, hb⟩
    have h0 : v = 0 := by have := lt_dlen hB v; rw [show dlen P64 v = 0 from hz] at this; simpa using this
    exact ⟨by rw [h0]; rfl, hb⟩
  · refine (bitLen_pos v hv (by omega) w).mono ?_
    rintro e w' ⟨rfl, hb⟩
    refine ⟨ret_eq ?_, hb⟩
    have hv0 : v ≠ 0 := by rintro rfl; exact hz rfl
    obtain ⟨h1, h2⟩ := dlen_le_of hB hv0
    have h3 := lt_dlen hB v
    have hp : 0 < P64 ^ (natLen v - 1) := Nat.pow_pos P64_pos
    have hlt : v / P64 ^ (natLen v - 1) < P64 := by
      have e1 : natLen v - 1 + 1 = natLen v := by omega
      refine Nat.div_lt_of_lt_mul ?_
      rw [← Nat.pow_succ]
      show v < P64 ^ (natLen v - 1 + 1)
      rw [e1]
      exact h3
    have hd : dgt P64 v (natLen v - 1) = v / P64 ^ (natLen v - 1) := Nat.mod_eq_of_lt hlt
    have hd0 : v / P64 ^ (natLen v - 1) ≠ 0 := by
      have : 1 ≤ v / P64 ^ (natLen v - 1) := (Nat.le_div_iff_mul_le hp).2 (by rw [Nat.one_mul]; exact h2)
      omega
    obtain ⟨b1, b2, b3⟩ := Lib.bitLenAux_bounds 64 (v / P64 ^ (natLen v - 1)) (by rw [← P64_pow]; exact hlt) hd0
    have hb' : Lib.bitLen (v / P64 ^ (natLen v - 1)) = Lib.bitLenAux 64 (v / P64 ^ (natLen v - 1)) := rfl
    rw [← hb'] at b1 b2 b3
    rw [hd]
    rw [P64_pow] at *
    have := dlen2_of_top (b := Lib.bitLen (v / (2 ^ 64) ^ (natLen v - 1)) - 1) (by omega) rfl b2 (by rw [Nat.sub_add_cancel b1]; exact b3)
    rw [this]
    congr 1
    omega

theorem place_num (v n s x : Nat) (hn : n < 1024) (hs : n % 64 + s ≤ 64) (hx : x < 2 ^ s) (hv : 2 ^ (n + s) ∣ v) :
    (natA v).setIfInBounds (n / 64) (.int .u64 (bits BinOp.or IntKind.u64 ((dgt P64 v (n / 64) : Nat) : Int) (IntKind.u64.wrap ((x : Int) * 2 ^ (n % 64))))) = natA (v + x * 2 ^ n) := by
  obtain ⟨h1, h2⟩ := dgt_place hs hx hv
  have hlt : x * 2 ^ (n % 64) < 18446744073709551616 := by omega
  have hw : IntKind.u64.wrap ((x : Int) * 2 ^ (n % 64)) = ((x * 2 ^ (n % 64) : Nat) : Int) := by
    rw [show ((x : Int) * 2 ^ (n % 64)) = ((x * 2 ^ (n % 64) : Nat) : Int) by simp, IntKind.wrap_u64]
    omega
  have hd := dgt_lt (v := v) (i := n / 64) P64_pos
  rw [P64_eq] at hd
  have e : v + x * 2 ^ n = v + (x * 2 ^ (n % 64)) * P64 ^ (n / 64) := by
    rw [P64_pow, ← Nat.pow_mul, Nat.mul_assoc, ← Nat.pow_add, show n % 64 + 64 * (n / 64) = n by omega]
  have hsum : dgt P64 v (n / 64) + x * 2 ^ (n % 64) < P64 := by rw [P64_pow]; exact h2
  rw [hw, P64_eq, bits_or_u64_nat _ _ hd hlt, e, ← P64_eq, P64_pow, h1, ← P64_pow, ← dgt_add_same P64_pos hsum]
  exact natA_set _ _ _ (by omega) (fun j _ hj => dgt_add_other P64_pos hsum hj)

set_option maxRecDepth 100000 in
theorem place_any (s g v : Nat) (i x : Int) (h0 : 0 ≤ i) (hi : i < 1024) (hs : i % 64 + s ≤ 64) (hx0 : 0 ≤ x) (hx : x < 2 ^ s) (hs8 : s ≤ 8) (hv : 2 ^ (i.toNat + s) ∣ v) (w : World) (hg : rowN w g = some (natA v)) :
    Calls Try.prog 58 #[.pointer (some ⟨g, 0, none⟩), .int .i64 i, .int .u8 x] w fun e w' => e = .returned (.tuple #[]) ∧ rowN w' g = some (natA (v + x.toNat * 2 ^ i.toNat)) ∧ w.grownBy w' (some g) := by
  obtain ⟨n, rfl⟩ := Int.eq_ofNat_of_zero_le h0
  obtain ⟨y, rfl⟩ := Int.eq_ofNat_of_zero_le hx0
  rw [Int.toNat_natCast] at hv
  rw [Int.toNat_natCast, Int.toNat_natCast]
  have hy : y < 2 ^ s := by
    have : ((2 : Int) ^ s) = ((2 ^ s : Nat) : Int) := by simp
    omega
  have hy2 : (y : Int) < 256 := by
    have : 2 ^ s ≤ 2 ^ 8 := Nat.pow_le_pow_right (by omega) hs8
    omega
  have h1 : n / 64 < 16 := by omega
  have HP := Lib.hid (place_num v n s y (by omega) (by omega) hy hv)
  obtain ⟨hc0, hf0⟩ := rowN_cell hg
  have hc : w.cell? ⟨g, n / 64, none⟩ = some (.int .u64 (dgt P64 v (n / 64) : Nat)) := by rw [hc0]; exact natA_get _ _ h1
  have hf := hf0 (n / 64)
  have HG := Lib.hid hg
  clear h0 hx0 hc0 hf0 hx hy hs hv hs8 hg
  go_enter Try.func58, Try.ntmps58
  go_wp2
  go_region
  go_end0
  refine ⟨rfl, ?_, ?_⟩
  · rw [rowN_drew, rowN_setCell, if_pos rfl, HG.out]
    simp only [Option.map_some, Option.isSome_none, Bool.false_eq_true, if_false]
    rw [HP.out]
  · exact ⟨rfl, rfl, rfl, by simp [World.setCell, World.drew], fun k hk hne => Below.heap_setCell w _ _ k (fun e => hne (by rw [e]))⟩

end Go.Proofs.Ytlmfiggmjpjpiaa

namespace Go.Proofs.Ytlmfiggmjpjpiaa
open Go.RowKit

/-- The number with given bytes, 0 if it has too many bits; the error. -/
def fbV (zs : List Nat) : Nat := if valBE 256 zs < P64 ^ 16 then valBE 256 zs else 0
def fbE (zs : List Nat) : Int := if valBE 256 zs < P64 ^ 16 then 0 else 7

/-- What the first loop leaves: the bytes from k on. -/
def FbRel (zs : List Nat) (b off n : Nat) (s : Value) : Prop :=
  ∃ k off' c', k ≤ n ∧ s = .slice (some ⟨b, off', none⟩) (n - k) c' ∧ n - k ≤ c' ∧ (k < n → off' = off + k) ∧ ∀ j, j < k → zs.getD j 0 = 0

theorem pow256 (m : Nat) : (256 : Nat) ^ m = 2 ^ (8 * m) := by rw [show (256 : Nat) = 2 ^ 8 by decide, ← Nat.pow_mul]
theorem P64_16 : P64 ^ 16 = 256 ^ 128 := by
  have e : 64 * 16 = 8 * 128 := by decide
  have h : ∀ a b : Nat, a = b → (2 : Nat) ^ a = 2 ^ b := fun a b h => by rw [h]
  exact (by rw [P64_pow, ← Nat.pow_mul] : P64 ^ 16 = 2 ^ (64 * 16)).trans ((h _ _ e).trans (pow256 128).symm)

theorem fb_fits (zs : List Nat) (k m : Nat) (hz : zs.length = k + m) (h256 : ∀ j, zs.getD j 0 < 256) (h0 : ∀ j, j < k → zs.getD j 0 = 0) (hm : m ≤ 128) :
    fbV zs = valBE 256 (zs.drop k) ∧ fbE zs = 0 := by
  have h1 := valBE_drop 256 zs k (by omega) h0
  have h2 : valBE 256 (zs.drop k) < 256 ^ (zs.drop k).length := valBE_lt 256 (by omega) _ (fun x hx => by
    obtain ⟨j, hj, rfl⟩ := List.mem_iff_getElem.1 hx
    have := h256 (k + j)
    simp only [List.length_drop] at hj
    rw [List.getD, List.getElem?_eq_getElem (by omega)] at this
    simpa using this)
  have h3 : 256 ^ (zs.drop k).length ≤ 256 ^ 128 := Nat.pow_le_pow_right (by omega) (by rw [List.length_drop]; omega)
  have h4 : valBE 256 zs < P64 ^ 16 := by rw [P64_16, h1]; omega
  unfold fbV fbE
  rw [if_pos h4, if_pos h4, h1]
  exact ⟨rfl, rfl⟩

theorem fb_full (zs : List Nat) (k m : Nat) (hz : zs.length = k + m) (h0 : ∀ j, j < k → zs.getD j 0 = 0) (hk : zs.getD k 0 ≠ 0) (hm : 128 < m) : fbV zs = 0 ∧ fbE zs = 7 := by
  have h1 := valBE_drop 256 zs k (by omega) h0
  have h2 := valBE_ge 256 zs k (by omega) hk
  have h3 : 256 ^ 128 ≤ 256 ^ (zs.length - k - 1) := Nat.pow_le_pow_right (by omega) (by omega)
  have h4 : ¬ valBE 256 zs < P64 ^ 16 := by rw [P64_16, h1]; omega
  unfold fbV fbE
  rw [if_neg h4, if_neg h4]
  exact ⟨rfl, rfl⟩

/-- What the second loop holds behind i bytes: the number's block alone has turned. -/
def FbRel2 (L : List Nat) (m A : Nat) (W : World) (s : Value) (wr : World) : Prop :=
  ∃ i, i ≤ m ∧ s = .int .i64 (i : Nat) ∧ rowN wr A = some (natA (valBE 256 (L.take i) * 256 ^ (m - i))) ∧ W.grownBy wr (some A)

theorem fb2_step (L : List Nat) (m i : Nat) (hm : L.length = m) (hi : i < m) :
    valBE 256 (L.take i) * 256 ^ (m - i) + L.getD i 0 * 2 ^ (((m : Int) - 1 - i) * 8).toNat = valBE 256 (L.take (i + 1)) * 256 ^ (m - (i + 1)) := by
  have h := valBE_step 8 L m i hm hi
  have e : (((m : Int) - 1 - i) * 8).toNat = (m - 1 - i) * 8 := by omega
  rw [e]
  exact h

theorem fb2_dvd (L : List Nat) (m i : Nat) (hi : i < m) : 2 ^ ((((m : Int) - 1 - i) * 8).toNat + 8) ∣ valBE 256 (L.take i) * 256 ^ (m - i) := by
  have h := valBE_dvd 8 L m i hi
  have e : (((m : Int) - 1 - i) * 8).toNat = (m - 1 - i) * 8 := by omega
  rw [e]
  exact h

theorem grownBy_refl (w : World) (r : Option Nat) : w.grownBy w r := ⟨rfl, rfl, rfl, Nat.le_refl _, fun _ _ _ => rfl⟩
theorem grownBy_trans {a b c : World} {r : Option Nat} (h : a.grownBy b r) (k : b.grownBy c r) : a.grownBy c r :=
  ⟨k.os.trans h.os, k.tape.trans h.tape, k.output.trans h.output, Nat.le_trans h.size k.size, fun i hi hr => (k.block i (Nat.lt_of_lt_of_le hi h.size) hr).trans (h.block i hi hr)⟩

set_option maxRecDepth 100000 in
theorem fromBytes_some (b off n c : Nat) (zs : List Nat) (w : World) (hz : zs.length = n) (h256 : ∀ j, zs.getD j 0 < 256) (hn : n ≤ 9223372036854775807) (hnc : n ≤ c) (hblk : b < w.heap.size)
    (hc : ∀ j, j < n → w.cell? ⟨b, off + j, none⟩ = some (.int .u8 (zs.getD j 0 : Nat))) :
    Calls Try.prog 34 #[.slice (some ⟨b, off, none⟩) n c] w fun e w' => e = .returned (.tuple #[.agg (natA (fbV zs)), .int .i64 (fbE zs)]) ∧ Below w.heap.size w w' := by
  have HC := Lib.hid hc
  have HZ := Lib.hid hz
  have H256 := Lib.hid h256
  clear hc hz h256
  go_enter Try.func34, Try.ntmps34
  go_wp2
  go_loop [0] (fun s => FbRel zs b off n s) (fun s => match s with | .slice _ m _ => m | _ => 0)
  case atStart => exact ⟨0, off, c, Nat.zero_le _, rfl, hnc, fun _ => rfl, fun j h => by omega⟩
  case round =>
    obtain ⟨k, off', c', hk, rfl, hkc, hoff, h0⟩ := hrel
    have H0 := Lib.hid h0
    clear h0
    obtain ⟨m, rfl⟩ : ∃ m, n = k + m := ⟨n - k, by omega⟩
    simp only [Nat.add_sub_cancel_left] at hkc ⊢
    by_cases hlt : 0 < m
    · obtain rfl := hoff (by omega)
      have hcell := HC.out k (by omega)
      clear hoff
      go_wp2_with fail
      · have hz0 : (((zs[k]?.getD 0 : Nat) : Int) == 0) = true := by assumption
        refine ⟨⟨k + 1, if c' = 1 then off + k else off + k + 1, c' - 1, by omega, ?_, by omega, fun h => by rw [if_neg (by omega)]; omega, fun j hj => ?_⟩, by simp; omega⟩
        · rw [show k + m - (k + 1) = m - 1 by omega]; split <;> rfl
        · by_cases e : j = k
          · subst e; have := eq_of_beq hz0; simp only [List.getD]; omega
          · exact H0.out j (by omega)
      · have hz0 : (((zs[k]?.getD 0 : Nat) : Int) == 0) = false := by assumption
        have hm : (128 : Int) < (m : Int) := by assumption
        obtain ⟨e1, e2⟩ := fb_full zs k m HZ.out H0.out (fun e => by rw [List.getD] at e; rw [e] at hz0; simp at hz0) (by omega)
        rw [e1, e2]
        exact ret_nat_tmp _ (natA 0) rfl rfl rfl (by simp [rowN_setRow, rowN_alloc]) (natA_size _) ⟨rfl, below_setRow' ((Below.refl _ _).alloc (Nat.le_refl _) _) (Nat.le_refl _) _⟩
      · have hm : (m : Int) ≤ 128 := by assumption
        have hfits := Lib.hid (fb_fits zs k m HZ.out H256.out H0.out (by omega))
        have hL : (zs.drop k).length = m := by rw [List.length_drop, HZ.out]; omega
        have HL := Lib.hid hL
        clear hL
        go_loopw [24] (fun s wr => FbRel2 (zs.drop k) m (w.heap.size + 1) ((w.alloc (.cells (natA 0) 28)).alloc (.cells (natA 0) 28)) s wr) (fun s _ => m - (intOf s).toNat)
        case atStart => exact ⟨0, Nat.zero_le _, rfl, by simp [rowN_alloc, valBE], grownBy_refl _ _⟩
        case round =>
          obtain ⟨i, hi, rfl, hrow, hgr⟩ := hrel
          have HR := Lib.hid hrow
          have HG := Lib.hid hgr
          clear hrow hgr
          by_cases hil : i < m
          · have hci : wr.cell? ⟨b, off + k + i, none⟩ = some (.int .u8 ((zs.drop k).getD i 0 : Nat)) := by
              have h1 := HC.out (k + i) (by omega)
              have h2 : ((w.alloc (.cells (natA 0) 28)).alloc (.cells (natA 0) 28)).cell? ⟨b, off + k + i, none⟩ = some (.int .u8 (zs.getD (k + i) 0 : Nat)) := by
                rw [World.cell?_alloc_past _ _ _ (by simp; omega), World.cell?_alloc_past _ _ _ hblk, Nat.add_assoc]; exact h1
              rw [HG.out.cell h2 (by simp; omega)]
              simp [List.getD]
            have hx := H256.out (k + i)
            simp only [List.getD] at hx
            have HX := Lib.hid hx
            clear hx
            go_wp2_with fail
            refine (place_any 8 (w.heap.size + 1) (valBE 256 ((zs.drop k).take i) * 256 ^ (m - i)) _ _ (by omega) (by omega) (by omega) (by omega) (by have := HX.out; omega) (by omega) (fb2_dvd _ _ _ hil) _ HR.out).mono ?_
            rintro e w2 ⟨rfl, hr2, hg2⟩
            have HR2 := Lib.hid hr2
            have HG2 := Lib.hid hg2
            clear hr2 hg2
            go_wp2_with fail
            refine ⟨⟨i + 1, by omega, rfl, ?_, grownBy_trans HG.out HG2.out⟩, by simp [intOf]; omega⟩
            rw [HR2.out, Int.toNat_natCast, ← fb2_step _ _ _ HL.out hil]
            simp [List.getD]
          · obtain rfl : i = m := by omega
            have hRA : rowN wr (w.heap.size + 1) = some (natA (valBE 256 (zs.drop k))) := by
              have := HR.out
              rw [List.take_of_length_le (by rw [HL.out]; exact Nat.le_refl _), Nat.sub_self, Nat.pow_zero, Nat.mul_one] at this
              exact this
            have hR0 : rowN wr w.heap.size = some (natA 0) := by
              rw [grownBy_rowN HG.out (by simp; omega) (by simp)]; simp [rowN_alloc]
            go_wp2_with fail
            obtain ⟨e1, e2⟩ := hfits.out
            rw [e1, e2]
            refine ret_nat_tmp _ (natA (valBE 256 (zs.drop k))) rfl rfl rfl (by simp [rowN_setRow, hR0]) (natA_size _) ⟨rfl, below_setRow' ?_ (Nat.le_refl _) _⟩
            exact (((Below.refl _ _).alloc (Nat.le_refl _) _).alloc (by simp) _).grown HG.out (by simp; omega) (fun k e => by cases e; omega)
    · obtain rfl : m = 0 := by omega
      clear hoff
      have hfits := Lib.hid (fb_fits zs k 0 HZ.out H256.out H0.out (by omega))
      have hd : zs.drop k = [] := List.drop_eq_nil_of_le (by rw [HZ.out]; omega)
      have HD := Lib.hid hd
      clear hd
      go_wp2_with fail
      refine wp_loop_rounds 1 ?_
      rw [rounds_succ]
      go_wp2_with fail
      obtain ⟨e1, e2⟩ := hfits.out
      rw [e1, e2, HD.out]
      exact ret_nat_tmp _ (natA 0) rfl rfl rfl (by simp [rowN_setRow, rowN_alloc]) (natA_size _) ⟨rfl, below_setRow' (((Below.refl _ _).alloc (Nat.le_refl _) _).alloc (by simp) _) (Nat.le_refl _) _⟩

set_option maxRecDepth 100000 in
theorem fromBytes_nil (a : Option Addr) (c : Nat) (w : World) :
    Calls Try.prog 34 #[.slice a 0 c] w fun e w' => e = .returned (.tuple #[.agg (natA 0), .int .i64 0]) ∧ Below w.heap.size w w' := by
  go_enter Try.func34, Try.ntmps34
  go_wp2
  refine wp_loop_rounds 1 ?_
  rw [rounds_succ]
  go_wp2_with fail
  refine wp_loop_rounds 1 ?_
  rw [rounds_succ]
  go_wp2_with fail
  exact ret_nat_tmp _ (natA 0) rfl rfl rfl (by simp [rowN_setRow, rowN_alloc]) (natA_size _) ⟨rfl, below_setRow' (((Below.refl _ _).alloc (Nat.le_refl _) _).alloc (by simp) _) (Nat.le_refl _) _⟩

end Go.Proofs.Ytlmfiggmjpjpiaa

namespace Go.Proofs.Ytlmfiggmjpjpiaa
open Go.RowKit

/-- How many bytes a number has; its bytes, the most significant one first. -/
def nBytes (v : Nat) : Nat := (dlen 2 v + 7) / 8
def bytesN (v : Nat) : List Nat := (List.range (nBytes v)).map fun i => v / 2 ^ ((nBytes v - 1 - i) * 8) % 256
theorem bytesN_length (v : Nat) : (bytesN v).length = nBytes v := by simp [bytesN]

/-- The call hands back a slice of its own that holds l. -/
def Owns (e : TypeId) (k : IntKind) (l : List Nat) (w : World) (en : Ending) (w' : World) : Prop :=
  ∃ s, en = .returned s ∧ w'.ownsRow w.heap.size e 1 s l.length (l.map fun x => .int k (x : Nat)) ∧ Below w.heap.size w w'

theorem Try.info5 : (Try.prog.info? 5).map (fun i => (i.zero, i.size, i.bytes)) = some (some (.int .u8 0), 1, 1) := by kernel_rfl

theorem P64_two (n : Nat) (h : n = 64 * 16) : P64 ^ 16 = 2 ^ n := by
  subst h
  rw [P64_pow, ← Nat.pow_mul]

theorem dlen2_le {v : Nat} (hv : v < P64 ^ 16) : dlen 2 v ≤ 1024 := by
  obtain ⟨n, hn⟩ : ∃ n, n = 64 * 16 := ⟨_, rfl⟩
  rw [P64_two n hn] at hv
  have := dlen_le (by omega) hv
  omega

theorem below_none {w w' : World} (h : Below w.heap.size w w') : w.grownBy w' none := ⟨h.os, h.tape, h.output, h.size, fun k hk _ => h.block k hk⟩

/-- What the loop holds behind i bytes. -/
def BytesRel (v nb g : Nat) (w : World) (s : Value) (wr : World) : Prop :=
  ∃ (i : Nat) (xs : List Value), i ≤ nb ∧ s = .int .i64 (i : Nat) ∧ wr.ownsRow (w.heap.size + 1) 5 1 (.slice (some ⟨g, 0, none⟩) nb nb) nb xs ∧ (∀ j, j < i → xs[j]? = some (.int .u8 (v / 2 ^ ((nb - 1 - j) * 8) % 256 : Nat))) ∧
    rowN wr w.heap.size = some (natA v) ∧ Below w.heap.size w wr

set_option maxRecDepth 100000 in
theorem bytes_any (v : Nat) (hv : v < P64 ^ 16) (w : World) : Calls Try.prog 41 #[.agg (natA v)] w (Owns 5 .u8 (bytesN v) w) := by
  obtain ⟨i0, hi, hz0, hz1, hz2⟩ := info_parts Try.info5
  have hL := dlen2_le hv
  obtain ⟨L, HL⟩ : ∃ L, dlen 2 v = L := ⟨_, rfl⟩
  rw [HL] at hL
  have hnb : ((L : Int) + 8 - 1) / 8 = ((nBytes v : Nat) : Int) := by unfold nBytes; rw [HL]; omega
  have hnb8 : nBytes v ≤ 128 := by unfold nBytes; rw [HL]; omega
  obtain ⟨nb, Hnb⟩ : ∃ nb, nBytes v = nb := ⟨_, rfl⟩
  rw [Hnb] at hnb hnb8
  have HL := Lib.hid HL
  have HN := Lib.hid hnb
  have HNB := Lib.hid Hnb
  clear hnb Hnb
  rename_i HL0
  clear HL0
  go_enter Try.func41, Try.ntmps41
  go_wp2_with fail
  refine (bitLen_any v hv _).mono ?_
  rintro e w1 ⟨rfl, hb1⟩
  rw [HL.out]
  have hrow1 : rowN w1 w.heap.size = some (natA v) := by rw [brow hb1 _ (by simp)]; simp [rowN_alloc]
  have HR1 := Lib.hid hrow1
  clear hrow1
  have hlt1 : w.heap.size < w1.heap.size := by have := hb1.size; simp at this; omega
  have hbel1 : Below w.heap.size w w1 := ((Below.refl _ _).alloc (Nat.le_refl _) _).trans (hb1.mono (by simp))
  clear hb1
  go_wp2_with (at_make; rw [HN.out]; refine wpList_make_full _ rfl _ _ 22 rfl (w.heap.size + 1) 5 i0 (.int .u8 0) 1 Try.underlying22 hi hz0 hz1 .i64 .i64 _ _ nb rfl rfl rfl rfl (by rw [hz2]; omega) (by unfold maxLen; omega) (by omega) ?_)
  intro w2 hown2 hg2
  have hbel2 : Below w.heap.size w w2 := hbel1.grown hg2 (by omega) (fun k e => by cases e)
  have hrow2 : rowN w2 w.heap.size = some (natA v) := by rw [grownBy_rowN hg2 (by omega) (by simp)]; exact HR1.out
  have HO2 := Lib.hid hown2
  have HR2 := Lib.hid hrow2
  clear hown2 hg2 hrow2
  go_wp2_with fail
  go_loopw [15] (fun s wr => BytesRel v nb w1.heap.size w s wr) (fun s _ => nb - (intOf s).toNat)
  case atStart => exact ⟨0, _, Nat.zero_le _, rfl, HO2.out, fun j h => by omega, HR2.out, hbel2⟩
  case round =>
    obtain ⟨i, xs, hile, rfl, hown, hxs, hrow, hbel⟩ := hrel
    have HO := Lib.hid hown
    have HX := Lib.hid hxs
    have HB := Lib.hid hbel
    clear hown hxs hbel hbel2 hbel1
    by_cases hil : i < nb
    · have hwr : w.heap.size < wr.heap.size := rowN_lt hrow
      go_wp2_with fail
      refine (group8 v _ (by omega) (by omega) (by omega) _).mono ?_
      rintro e w3 ⟨rfl, hb3⟩
      have ho3 := HO.out.kept (below_none hb3) (.inr (by simp [Value.ownBlock]))
      have hlen : xs.length = nb := by have := HO.out.1; omega
      obtain ⟨old, hold⟩ : ∃ old, w3.cell? ⟨w1.heap.size, i, none⟩ = some old := ⟨xs[i]'(by omega), by rw [ho3.cellAt i (by omega)]; exact List.getElem?_eq_getElem _⟩
      have hfro := ho3.frozenAt i
      have hr3 : rowN w3 w.heap.size = some (natA v) := by rw [brow hb3 _ hwr]; exact hrow
      have hb03 : Below w.heap.size w w3 := HB.out.trans (hb3.mono (by omega))
      have HO3 := Lib.hid ho3
      have HB3 := Lib.hid hb03
      have HLEN := Lib.hid hlen
      have HR3 := Lib.hid hr3
      clear ho3 hb3 hb03 hrow hwr hlen hr3
      generalize hx : v / 2 ^ ((↑nb - 1 - ↑i : Int) * 8).toNat % 256 = x
      have HXX := Lib.hid hx
      clear hx
      go_wp2_with fail
      refine ⟨⟨i + 1, xs.set i (.int .u8 (x : Nat)), by omega, rfl, (HO3.out.stored i _).1, fun j hj => ?_, ?_, HB3.out.setCell (by show w.heap.size ≤ w1.heap.size; omega) _⟩, by simp [intOf]; omega⟩
      · by_cases e : j = i
        · subst e
          rw [List.getElem?_set_self (by rw [HLEN.out]; omega), ← HXX.out]
          have e2 : ((↑nb - 1 - ↑j : Int) * 8).toNat = (nb - 1 - j) * 8 := by omega
          rw [e2]
        · rw [List.getElem?_set_ne (fun h => e h.symm)]; exact HX.out j (by omega)
      · rw [rowN_setCell, if_neg (by show ¬ w.heap.size = w1.heap.size; omega)]; exact HR3.out
    · obtain rfl : i = nb := by omega
      clear hrow
      go_wp2_with fail
      go_ret
      refine ⟨_, rfl, ?_, HB.out⟩
      have hlen : xs.length = i := by have := HO.out.1; omega
      have e : (bytesN v).map (fun x => Value.int .u8 (x : Nat)) = xs := by
        refine List.ext_getElem? fun j => ?_
        by_cases hj : j < i
        · rw [HX.out j hj]
          simp [bytesN, HNB.out, hj]
        · rw [List.getElem?_eq_none (by simp [bytesN, HNB.out]; omega), List.getElem?_eq_none (by omega)]
      rw [e, bytesN_length, HNB.out]
      have h := HO.out
      obtain ⟨h1, h2⟩ := h
      refine ⟨h1, ?_⟩
      rcases h2 with ⟨h2, _⟩ | ⟨g, cap, cur, e1, e2, e3⟩
      · cases h2
      · exact .inr ⟨g, cap, cur, e1, by omega, e3⟩
end Go.Proofs.Ytlmfiggmjpjpiaa

namespace Go.Proofs.Ytlmfiggmjpjpiaa
open Go.RowKit

/-- The string of bytes. -/
def strOf (l : List Nat) : ByteArray := ⟨(l.map UInt8.ofNat).toArray⟩
theorem strOf_size (l : List Nat) : (strOf l).size = l.length := by simp [strOf, ByteArray.size]

theorem foldl_push (ns : List Nat) : ∀ s : ByteArray, (ns.map fun n => ((n : Nat) : Int)).foldl (fun r n => r.push (UInt8.ofNat n.toNat)) s = ⟨s.data ++ (ns.map UInt8.ofNat).toArray⟩ := by
  induction ns with
  | nil => intro s; simp
  | cons n ns ih =>
    intro s
    rw [List.map_cons, List.foldl_cons, ih]
    simp [ByteArray.push]

theorem run_str (W : World) (g off n cap : Nat) (l : List Nat) (hl : l.length = n) (h : ∀ j, j < n → W.cell? ⟨g, off + j, none⟩ = some (.int .u8 (l.getD j 0 : Nat))) :
    (convert 22 9 (.slice (some ⟨g, off, none⟩) n cap)).run Try.prog W = .ok (.string (strOf l)) W := by
  rw [run_convert_bytes_string (P := Try.prog) W 22 9 5 _ _ _ Try.underlying22 Try.underlying5 Try.underlying9]
  have hld := run_loadCells_list (P := Try.prog) W ⟨g, off, none⟩ (l.map fun x => Value.int .u8 (x : Nat)) (fun j v hv => by
    have hj : j < l.length := by
      by_cases hj : j < l.length
      · exact hj
      · rw [List.getElem?_eq_none (by simp; omega)] at hv; cases hv
    have hadd : (⟨g, off, none⟩ : Addr).add j = ⟨g, off + j, none⟩ := by unfold Addr.add; split <;> simp_all
    rw [hadd, h j (by omega), ← hv]
    simp [List.getD, hj])
  rw [List.length_map, hl] at hld
  have := run_bytesToString (P := Try.prog) W ⟨g, off, none⟩ n cap (l.map fun n => ((n : Nat) : Int)) (by rw [hld, List.map_map]; rfl)
  have he : ByteArray.empty.data = #[] := rfl
  rw [this, foldl_push, he, Array.empty_append]
  rfl

/-- The hexadecimal digits. -/
def hexc (d : Nat) : Nat := if d < 10 then 48 + d else 87 + d
def nHex (v : Nat) : Nat := max 1 ((dlen 2 v + 3) / 4)
def hexN (v : Nat) : List Nat := (List.range (nHex v)).map fun i => hexc (v / 2 ^ ((nHex v - 1 - i) * 4) % 16)
theorem hexN_length (v : Nat) : (hexN v).length = nHex v := by simp [hexN]

theorem run_numeral (d : Nat) (hd : d < 16) (W : World) :
    (Instr.index 9 (.string { data := #[48, 49, 50, 51, 52, 53, 54, 55, 56, 57, 97, 98, 99, 100, 101, 102] }) (.int .u8 (d : Nat))).run Try.prog W = .ok (.int .u8 (hexc d : Nat)) W := by
  rcases (by omega : d = 0 ∨ d = 1 ∨ d = 2 ∨ d = 3 ∨ d = 4 ∨ d = 5 ∨ d = 6 ∨ d = 7 ∨ d = 8 ∨ d = 9 ∨ d = 10 ∨ d = 11 ∨ d = 12 ∨ d = 13 ∨ d = 14 ∨ d = 15) with rfl | rfl | rfl | rfl | rfl | rfl | rfl | rfl | rfl | rfl | rfl | rfl | rfl | rfl | rfl | rfl
  all_goals kernel_rfl

/-- What the loop holds behind i digits. -/
def TextRel (v nb g : Nat) (w : World) (s : Value) (wr : World) : Prop :=
  ∃ (i : Nat) (xs : List Value), i ≤ nb ∧ s = .int .i64 (i : Nat) ∧ wr.ownsRow (w.heap.size + 1) 5 1 (.slice (some ⟨g, 0, none⟩) nb nb) nb xs ∧ (∀ j, j < i → xs[j]? = some (.int .u8 (hexc (v / 2 ^ ((nb - 1 - j) * 4) % 16) : Nat))) ∧
    rowN wr w.heap.size = some (natA v) ∧ Below w.heap.size w wr

end Go.Proofs.Ytlmfiggmjpjpiaa
