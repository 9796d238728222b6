/- What estimate comes to. -/
import Derived.Test.YtlmfiggmjpjpiaaG1
import Derived.Test.YtlmfiggmjpjpiaaC3
import Derived.Test.YtlmfiggmjpjpiaaZMath
namespace Go.Proofs.Ytlmfiggmjpjpiaa
open Go.RowKit

section
variable {B u d Y v1 v2 q r : Nat}
theorem ds_acc (hY : Y = v1 * B + v2) (ha : q * v1 + r = u) : q * Y + (r * B + d) = (u * B + d) + q * v2 := by
  rw [hY, ← ha, Nat.mul_add, Nat.add_mul, ← Nat.mul_assoc]
  omega
theorem ds_keep (hY : Y = v1 * B + v2) (hY0 : 0 < Y) (ha : q * v1 + r = u) (h : r * B + d < q * v2) : (u * B + d) / Y ≤ q - 1 ∧ 1 ≤ q ∧ (q - 1) * v1 + (r + v1) = u := by
  have h1 : (u * B + d) / Y < q := by
    rw [Nat.div_lt_iff_lt_mul hY0]
    have := ds_acc (d := d) hY ha
    omega
  generalize (u * B + d) / Y = g at *
  refine ⟨by omega, by omega, ?_⟩
  obtain ⟨p, rfl⟩ : ∃ p, q = p + 1 := ⟨q - 1, by omega⟩
  rw [Nat.add_sub_cancel]
  rw [Nat.add_mul, Nat.one_mul] at ha
  omega
theorem ds_done (hY : Y = v1 * B + v2) (hY0 : 0 < Y) (ha : q * v1 + r = u) (hq : (u * B + d) / Y ≤ q) (h : q * v2 ≤ r * B + d) : q = (u * B + d) / Y := by
  have h1 : q ≤ (u * B + d) / Y := by
    rw [Nat.le_div_iff_mul_le hY0]
    have := ds_acc (d := d) hY ha
    omega
  exact Nat.le_antisymm h1 hq
theorem ds_break (hY : Y = v1 * B + v2) (hY0 : 0 < Y) (hv2 : v2 < B) (hqB : q < B) (ha : q * v1 + r = u) (hq : (u * B + d) / Y ≤ q) (h : B ≤ r) : q = (u * B + d) / Y := by
  refine ds_done hY hY0 ha hq ?_
  have h1 : q * v2 ≤ B * B := Nat.mul_le_mul (Nat.le_of_lt hqB) (Nat.le_of_lt hv2)
  have h2 : B * B ≤ r * B := Nat.mul_le_mul_right _ h
  omega
theorem ds_start (hY : Y = v1 * B + v2) (h1 : 0 < v1) (hd : d < B) (hu : u < v1 * B) : (u * B + d) / Y ≤ u / v1 ∧ u / v1 < B ∧ u / v1 * v1 + u % v1 = u ∧ u % v1 < v1 := by
  refine ⟨?_, ?_, ?_, Nat.mod_lt _ h1⟩
  · rw [Nat.le_div_iff_mul_le h1]
    have h3 := Nat.div_mul_le_self (u * B + d) Y
    generalize (u * B + d) / Y = g at *
    have h4 : g * v1 * B ≤ u * B + d := by
      have : g * v1 * B ≤ g * Y := by rw [hY, Nat.mul_assoc]; exact Nat.mul_le_mul_left _ (Nat.le_add_right _ _)
      omega
    have h5 : g * v1 * B < (u + 1) * B := by rw [Nat.add_mul, Nat.one_mul]; omega
    exact Nat.lt_succ_iff.1 (Nat.lt_of_mul_lt_mul_right h5)
  · rw [Nat.div_lt_iff_lt_mul h1, Nat.mul_comm]; exact hu
  · rw [Nat.mul_comm]; exact Nat.div_add_mod _ _
end
theorem two_parts {B x hi lo r d : Nat} (hx : x = hi * B + lo) (hlo : lo < B) (hd : d < B) : (r * B + d < x ↔ r < hi ∨ (r = hi ∧ d < lo)) := by
  subst hx
  rcases Nat.lt_trichotomy r hi with h | h | h
  · have h1 : (r + 1) * B ≤ hi * B := Nat.mul_le_mul_right _ h
    rw [Nat.add_mul, Nat.one_mul] at h1
    constructor
    · intro _; exact .inl h
    · intro _; omega
  · subst h
    constructor
    · intro h; exact .inr ⟨rfl, by omega⟩
    · rintro (h | ⟨_, h⟩) <;> omega
  · have h1 : (hi + 1) * B ≤ r * B := Nat.mul_le_mul_right _ h
    rw [Nat.add_mul, Nat.one_mul] at h1
    constructor
    · intro h2; omega
    · rintro (h2 | ⟨h2, _⟩) <;> omega
theorem compare64_at (x y c : Int) (h : cmpI x y = c) (w : World) : Calls Try.prog 54 #[.int .u64 x, .int .u64 y] w fun e w' => e = .returned (.int .i64 c) ∧ w' = w := by
  subst h; exact compare64_same x y w

set_option maxRecDepth 100000 in
theorem estimate_top (u0 u1 u2 v1 v2 : Nat) (h : v1 ≤ u0) (w : World) :
    Calls Try.prog 87 #[.agg #[.int .u64 u0, .int .u64 u1, .int .u64 u2], .int .u64 v1, .int .u64 v2] w fun e w' => e = .returned (.int .u64 (estN P64 u0 u1 u2 v1 v2 : Nat)) ∧ Below w.heap.size w w' := by
  have he : estN P64 u0 u1 u2 v1 v2 = 18446744073709551615 := by unfold estN; rw [if_pos h, P64_eq]
  rw [he]
  have h1 : (v1 : Int) ≤ (u0 : Int) := by omega
  have h2 : ¬ (u0 : Int) < (v1 : Int) := by omega
  clear he
  go_enter Try.func87, Try.ntmps87
  go_wp2_with fail
  go_step3
  go_wp2_with fail
  rw [Exit.noGoto_ret]
  go_ret
  exact ⟨rfl, (Below.refl _ _).alloc (Nat.le_refl _) _⟩

set_option maxRecDepth 100000 in
set_option maxHeartbeats 1000000 in
theorem estimate_low (u0 u1 u2 v1 v2 : Nat) (h : u0 < v1) (hv1 : v1 < P64) (hu1 : u1 < P64) (hu2 : u2 < P64) (hv2 : v2 < P64) (w : World) :
    Calls Try.prog 87 #[.agg #[.int .u64 u0, .int .u64 u1, .int .u64 u2], .int .u64 v1, .int .u64 v2] w fun e w' => e = .returned (.int .u64 (estN P64 u0 u1 u2 v1 v2 : Nat)) ∧ Below w.heap.size w w' := by
  have he : estN P64 u0 u1 u2 v1 v2 = ((u0 * P64 + u1) * P64 + u2) / (v1 * P64 + v2) := by unfold estN; rw [if_neg (by omega), Nat.add_mul]
  rw [he]
  have HD := Lib.hid (div64_any u0 u1 v1 h hv1 hu1)
  obtain ⟨Y, hY⟩ : ∃ Y, v1 * P64 + v2 = Y := ⟨_, rfl⟩
  obtain ⟨u, hu⟩ : ∃ u, u0 * P64 + u1 = u := ⟨_, rfl⟩
  rw [hY, hu]
  rw [hu] at HD
  have hY0 : 0 < Y := by rw [← hY]; exact Nat.add_pos_left (Nat.mul_pos (by omega) P64_pos) _
  have hul : u < v1 * P64 := by
    rw [← hu]
    have : (u0 + 1) * P64 ≤ v1 * P64 := Nat.mul_le_mul_right _ h
    rw [Nat.add_mul, Nat.one_mul] at this
    omega
  obtain ⟨k1, k2, k3, k4⟩ := ds_start (d := u2) hY.symm (by omega) hu2 hul
  obtain ⟨q0, hq0⟩ : ∃ q0, u / v1 = q0 := ⟨_, rfl⟩
  obtain ⟨r0, hr0⟩ : ∃ r0, u % v1 = r0 := ⟨_, rfl⟩
  obtain ⟨Q, hQ⟩ : ∃ Q, (u * P64 + u2) / Y = Q := ⟨_, rfl⟩
  rw [hq0, hr0] at HD k3
  rw [hq0] at k1 k2
  rw [hr0] at k4
  rw [hQ] at k1 ⊢
  have HY := Lib.hid hY
  have HQ := Lib.hid hQ
  have K3 := Lib.hid k3
  have K2 := Lib.hid k2
  have HV1 := Lib.hid hv1
  have HV2 := Lib.hid hv2
  have HU2 := Lib.hid hu2
  have hh1 : ¬ (v1 : Int) ≤ (u0 : Int) := by omega
  have hh2 : (u0 : Int) < (v1 : Int) := by omega
  clear he hY hu hul hq0 hr0 hQ k3 hu1
  go_enter Try.func87, Try.ntmps87
  go_wp2_with fail
  go_step3
  go_wp2_with fail
  refine (HD.out _).mono ?_
  rintro e w1 ⟨rfl, n1, rfl⟩
  go_wp2_with fail
  go_step3
  go_wp2_with fail
  have hc2 : ((w.alloc (.cells #[.int .u64 u0, .int .u64 u1, .int .u64 u2] 107)).drewN n1).cell? ⟨w.heap.size, 2, none⟩ = some (.int .u64 (u2 : Nat)) := by
    have e : ((w.alloc (.cells #[.int .u64 u0, .int .u64 u1, .int .u64 u2] 107)).drewN n1).cell? ⟨w.heap.size, 2, none⟩ = (w.alloc (.cells #[.int .u64 u0, .int .u64 u1, .int .u64 u2] 107)).cell? ⟨w.heap.size, 2, none⟩ := rfl
    rw [e, World.cell?_alloc_at _ _ _ _ rfl]; rfl
  have hbel := below_drewN ((Below.refl w.heap.size w).alloc (Nat.le_refl _) (.cells #[.int .u64 u0, .int .u64 u1, .int .u64 u2] 107)) n1
  have HBel := Lib.hid hbel
  clear hbel
  generalize (w.alloc (.cells #[.int .u64 u0, .int .u64 u1, .int .u64 u2] 107)).drewN n1 = W1 at *
  go_loop [7, 8, 9] (fun a b c => ∃ q r o : Nat, a = .int .u64 (q : Nat) ∧ b = .int .u64 (r : Nat) ∧ c = .int .u64 (o : Nat) ∧ q < P64 ∧ ((o = 0 ∧ q * v1 + r = u ∧ Q ≤ q ∧ r < P64) ∨ (o = 1 ∧ q = Q))) (fun a _ _ => (intOf a).toNat)
  case atStart => exact ⟨q0, r0, 0, rfl, rfl, rfl, K2.out, .inl ⟨rfl, K3.out, k1, Nat.lt_trans k4 HV1.out⟩⟩
  case round =>
    obtain ⟨q, r, o, rfl, rfl, rfl, hqB, ho⟩ := hrel
    rcases ho with ⟨rfl, hacc, hge, hrB⟩ | ⟨rfl, hqQ⟩
    · have HACC := Lib.hid hacc
      have HGE := Lib.hid hge
      have HM := Lib.hid (Try.bits_Mul64 q v2 (by rw [← P64_eq]; exact hqB) (by rw [← P64_eq]; exact HV2.out))
      rw [← P64_eq] at HM
      obtain ⟨mh, hmh⟩ : ∃ mh, q * v2 / P64 = mh := ⟨_, rfl⟩
      obtain ⟨ml, hml⟩ : ∃ ml, q * v2 % P64 = ml := ⟨_, rfl⟩
      have hx : q * v2 = mh * P64 + ml := by rw [← hmh, ← hml, Nat.mul_comm _ P64]; exact (Nat.div_add_mod _ _).symm
      have hmlt : ml < P64 := by rw [← hml]; exact Nat.mod_lt _ P64_pos
      rw [hmh, hml] at HM
      have htp := two_parts (r := r) hx hmlt HU2.out
      have HTP := Lib.hid htp
      have HQB := Lib.hid hqB
      have HRB := Lib.hid hrB
      clear hacc hge hmh hml hx hmlt htp hqB hrB
      by_cases hgt : r < mh ∨ (r = mh ∧ u2 < ml)
      · obtain ⟨j1, j2, j3⟩ := ds_keep (B := P64) (d := u2) HY.out.symm hY0 HACC.out (HTP.out.2 hgt)
        rw [HQ.out] at j1
        have hA := run_add64_call0 r v1
        obtain ⟨sm, hsm⟩ : ∃ sm, (r + v1 + 0) % P64 = sm := ⟨_, rfl⟩
        obtain ⟨ov, hov⟩ : ∃ ov, (r + v1 + 0) / P64 = ov := ⟨_, rfl⟩
        rw [hsm, hov] at hA
        have hsum : r + v1 = ov * P64 + sm := by rw [← hov, ← hsm, Nat.mul_comm _ P64, Nat.add_zero]; exact (Nat.div_add_mod _ _).symm
        have hsl : sm < P64 := by rw [← hsm]; exact Nat.mod_lt _ P64_pos
        have hov1 : ov = 0 ∨ ov = 1 := by
          have h1 := HRB.out
          have h2 := HV1.out
          have h3 : ov < 2 := by rw [← hov, Nat.div_lt_iff_lt_mul P64_pos]; omega
          omega
        have hend : (q - 1 < P64) ∧ ((ov = 0 ∧ (q - 1) * v1 + sm = u ∧ Q ≤ q - 1 ∧ sm < P64) ∨ (ov = 1 ∧ q - 1 = Q)) := by
          refine ⟨by have := HQB.out; omega, ?_⟩
          rcases hov1 with e | e
          · subst e
            rw [Nat.zero_mul, Nat.zero_add] at hsum
            exact .inl ⟨rfl, by rw [← hsum]; exact j3, j1, hsl⟩
          · subst e
            rw [Nat.one_mul] at hsum
            refine .inr ⟨rfl, ?_⟩
            have h5 := ds_break (B := P64) (d := u2) HY.out.symm hY0 HV2.out (show q - 1 < P64 by have := HQB.out; omega) j3 (by rw [HQ.out]; exact j1) (by omega)
            rw [HQ.out] at h5
            exact h5
        have HEND := Lib.hid hend
        have hqb : q ≤ 18446744073709551615 := by have := HQB.out; rw [P64_eq] at this; omega
        clear hsm hov hsum hsl hov1 hend j1 j3
        by_cases hc : r < mh
        · have HC := Lib.hid (compare64_at (mh : Nat) (r : Nat) 1 (by unfold cmpI; rw [if_neg (by omega), if_pos (by omega)]) W1)
          go_wp2_with fail
          refine (HM.out _).mono ?_
          rintro e w9 ⟨rfl, hw⟩
          subst hw
          go_wp2_with fail
          refine HC.out.mono ?_
          rintro e w9 ⟨rfl, hw⟩
          subst hw
          go_wp2_with fail
          refine ⟨⟨q - 1, sm, ov, by rw [Int.ofNat_sub (by omega)]; rfl, rfl, rfl, HEND.out⟩, by simp [intOf]; omega⟩
        · have hlo : r = mh ∧ u2 < ml := by omega
          have HC := Lib.hid (compare64_at (mh : Nat) (r : Nat) 0 (by unfold cmpI; rw [if_neg (by omega), if_neg (by omega)]) W1)
          have hd1 : ¬ (ml : Int) ≤ (u2 : Int) := by omega
          have hd2 : (u2 : Int) < (ml : Int) := by omega
          clear hlo hgt
          go_wp2_with fail
          refine (HM.out _).mono ?_
          rintro e w9 ⟨rfl, hw⟩
          subst hw
          go_wp2_with fail
          refine HC.out.mono ?_
          rintro e w9 ⟨rfl, hw⟩
          subst hw
          go_wp2_with fail
          refine ⟨⟨q - 1, sm, ov, by rw [Int.ofNat_sub (by omega)]; rfl, rfl, rfl, HEND.out⟩, by simp [intOf]; omega⟩
      · have hdn := ds_done (B := P64) (d := u2) HY.out.symm hY0 HACC.out (by rw [HQ.out]; exact HGE.out) (by
          rcases Nat.lt_or_ge (r * P64 + u2) (q * v2) with h5 | h5
          · exact absurd (HTP.out.1 h5) hgt
          · exact h5)
        rw [HQ.out] at hdn
        have HDN := Lib.hid hdn
        clear hdn
        by_cases hc : mh < r
        · have HC := Lib.hid (compare64_at (mh : Nat) (r : Nat) (-1) (by unfold cmpI; rw [if_pos (by omega)]) W1)
          clear hgt
          go_wp2_with fail
          refine (HM.out _).mono ?_
          rintro e w9 ⟨rfl, hw⟩
          subst hw
          go_wp2_with fail
          refine HC.out.mono ?_
          rintro e w9 ⟨rfl, hw⟩
          subst hw
          go_wp2_with fail
          rw [Exit.noGoto_ret]
          go_ret
          exact ⟨by rw [HDN.out]; rfl, HBel.out⟩
        · have HC := Lib.hid (compare64_at (mh : Nat) (r : Nat) 0 (by unfold cmpI; rw [if_neg (by omega), if_neg (by omega)]) W1)
          have hd1 : (ml : Int) ≤ (u2 : Int) := by omega
          clear hgt
          go_wp2_with fail
          refine (HM.out _).mono ?_
          rintro e w9 ⟨rfl, hw⟩
          subst hw
          go_wp2_with fail
          refine HC.out.mono ?_
          rintro e w9 ⟨rfl, hw⟩
          subst hw
          go_wp2_with fail
          rw [Exit.noGoto_ret]
          go_ret
          exact ⟨by rw [HDN.out]; rfl, HBel.out⟩
    · have HQQ := Lib.hid hqQ
      clear hqQ
      go_wp2_with fail
      go_ret
      exact ⟨by rw [HQQ.out]; rfl, HBel.out⟩

theorem estimate_any (u0 u1 u2 v1 v2 : Nat) (hv1 : v1 < P64) (hu1 : u1 < P64) (hu2 : u2 < P64) (hv2 : v2 < P64) (w : World) :
    Calls Try.prog 87 #[.agg #[.int .u64 u0, .int .u64 u1, .int .u64 u2], .int .u64 v1, .int .u64 v2] w fun e w' => e = .returned (.int .u64 (estN P64 u0 u1 u2 v1 v2 : Nat)) ∧ Below w.heap.size w w' := by
  by_cases h : v1 ≤ u0
  · exact estimate_top u0 u1 u2 v1 v2 h w
  · exact estimate_low u0 u1 u2 v1 v2 (by omega) hv1 hu1 hu2 hv2 w
end Go.Proofs.Ytlmfiggmjpjpiaa
