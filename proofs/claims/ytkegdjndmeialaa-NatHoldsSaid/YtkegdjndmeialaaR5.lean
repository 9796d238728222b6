/- Comparing, by the reference. -/
import Derived.Test.YtkegdjndmeialaaR2
import Derived.Test.YtkegdjndmeialaaC3
namespace Go.Proofs.Ytkegdjndmeialaa
open Go.RowKit

/-- What comparing digit by digit comes to. -/
theorem cmp16 (v u k : Nat) (n : Nat) (hv : v < 65536 ^ n) (hu : u < 65536 ^ n) (hk : k < n) (hz : ∀ j, k < j → j < n → dgt 65536 v j = dgt 65536 u j) :
    (dgt 65536 v k < dgt 65536 u k → cmpN v u = -1) ∧ (dgt 65536 u k < dgt 65536 v k → cmpN v u = 1) := by
  constructor
  · intro h
    have := lt_of_dgt (by omega) hv hu hk hz h
    unfold cmpN
    rw [if_pos this]
  · intro h
    have := lt_of_dgt (by omega) hu hv hk (fun j h1 h2 => (hz j h1 h2).symm) h
    unfold cmpN
    rw [if_neg (by omega), if_pos this]

set_option maxRecDepth 100000 in
set_option maxHeartbeats 400000 in
theorem rcompare_any (v u n m : Nat) (s t : Value) (w : World) (hs : DigN v n s w) (ht : DigN u m t w) (hn : n ≤ 100000000) (hm : m ≤ 100000000) :
    Calls Try.prog 25 #[s, t] w fun e w' => e = .returned (.int .i64 (cmpN v u)) ∧ w' = w := by
  have HS := Lib.hid hs
  have HT := Lib.hid ht
  have HD := Lib.hid (fun (i : Nat) (hi : i ≤ 9223372036854775807) => digit_any v n i s w hs hi)
  have HE := Lib.hid (fun (i : Nat) (hi : i ≤ 9223372036854775807) => digit_any u m i t w ht hi)
  have HV := Lib.hid (show v < 65536 ^ (max n m) from Nat.lt_of_lt_of_le hs.1 (Nat.pow_le_pow_right (by omega) (by omega)))
  have HU := Lib.hid (show u < 65536 ^ (max n m) from Nat.lt_of_lt_of_le ht.1 (Nat.pow_le_pow_right (by omega) (by omega)))
  obtain ⟨_, a, c, rfl, h2, h3, h4⟩ := hs
  obtain ⟨_, a', c', rfl, h2', h3', h4'⟩ := ht
  clear h4 h4' h2 h2' h3 h3'
  have hmax : max (n : Int) (m : Int) = ((max n m : Nat) : Int) := by omega
  obtain ⟨N, hN⟩ : ∃ N, max n m = N := ⟨_, rfl⟩
  have hN1 : N ≤ 100000000 := by omega
  rw [hN] at hmax HV HU
  clear hN
  go_enter Try.func25, Try.ntmps25
  go_wp2_with fail
  go_loop [5] (fun x => ∃ i : Nat, i ≤ N ∧ x = .int .i64 ((i : Int) - 1) ∧ ∀ j, i ≤ j → j < N → dgt 65536 v j = dgt 65536 u j) (fun x => (intOf x + 1).toNat)
  case atStart => exact ⟨N, Nat.le_refl _, by simp, fun j h1 h2 => by omega⟩
  case round =>
    obtain ⟨i, hi, rfl, hz⟩ := hrel
    have HZ := Lib.hid hz
    clear hz
    by_cases h0 : 0 < i
    · obtain ⟨k, rfl⟩ : ∃ k, i = k + 1 := ⟨i - 1, by omega⟩
      rw [show ((k + 1 : Nat) : Int) - 1 = (k : Nat) by omega]
      have hC := cmp16 v u k N HV.out HU.out (by omega) (fun j h1 h2 => HZ.out j (by omega) h2)
      have HC := Lib.hid hC
      clear hC
      have HDk := Lib.hid (HD.out k (by omega))
      have HEk := Lib.hid (HE.out k (by omega))
      have hd1 := d16_lt v k
      have hd2 := d16_lt u k
      obtain ⟨x, hx⟩ : ∃ x, dgt 65536 v k = x := ⟨_, rfl⟩
      obtain ⟨y, hy⟩ : ∃ y, dgt 65536 u k = y := ⟨_, rfl⟩
      have HX := Lib.hid hx
      have HY := Lib.hid hy
      rw [hx] at HC HDk hd1
      rw [hy] at HC HEk hd2
      clear hx hy
      go_wp2_with (first
        | (go_at_call_of 50 (Value.slice a n c); refine HDk.out.mono ?_; rintro e w2 ⟨rfl, hw⟩; subst hw)
        | (go_at_call_of 50 (Value.slice a' m c'); refine HEk.out.mono ?_; rintro e w2 ⟨rfl, hw⟩; subst hw))
      · have hlt : x < y := by assumption
        go_ret
        refine ⟨ret_eq (congrArg (Value.int .i64) ?_), rfl⟩
        exact (HC.out.1 hlt).symm
      · have hlt : y < x := by assumption
        go_ret
        refine ⟨ret_eq (congrArg (Value.int .i64) ?_), rfl⟩
        exact (HC.out.2 hlt).symm
      · have h1 : ¬ x < y := by assumption
        have h2 : ¬ y < x := by assumption
        have he : dgt 65536 v k = dgt 65536 u k := by rw [HX.out, HY.out]; omega
        refine ⟨⟨k, by omega, rfl, fun j h1 h2 => ?_⟩, by simp [intOf]⟩
        by_cases e : j = k
        · subst e; exact he
        · exact HZ.out j (by omega) h2
    · obtain rfl : i = 0 := by omega
      go_wp2_with fail
      go_ret
      refine ⟨ret_eq (congrArg (Value.int .i64) ?_), rfl⟩
      have he : v = u := dgt_ext (by omega) N HV.out HU.out (fun j hj => HZ.out j (Nat.zero_le _) hj)
      unfold cmpN
      rw [if_neg (by omega), if_neg (by omega)]
end Go.Proofs.Ytkegdjndmeialaa
