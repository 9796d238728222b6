/- ModularPrimes: what is kept between two factors; the reference's Prime. -/
import Derived.Test.YtlmfiggmjpjpiaaCD
namespace Go.Proofs.Ytlmfiggmjpjpiaa
open Go.RowKit Go.Shelf

/-- The primes have come in their order. -/
def GoodF {v : Nat} (pre : List (FP v)) : Prop := (vals pre).Pairwise (fun a b => a.1 < b.1)
def lastF (l : List (Nat × Nat)) : Nat := match l.getLast? with | some x => x.1 | none => 1
def restF (v : Nat) (l : List (Nat × Nat)) : Nat := v / prodF l
theorem lastF_snoc (l : List (Nat × Nat)) (x : Nat × Nat) : lastF (l ++ [x]) = x.1 := by unfold lastF; rw [List.getLast?_append]; rfl
theorem restF_nil (v : Nat) : restF v [] = v := by unfold restF; rw [show prodF [] = 1 from rfl, Nat.div_one]
theorem goodF_nil (v : Nat) : GoodF ([] : List (FP v)) := List.Pairwise.nil
theorem goodF_max {l : List (Nat × Nat)} (h : l.Pairwise (fun a b => a.1 < b.1)) : ∀ y ∈ l, y.1 ≤ lastF l := by
  rcases List.eq_nil_or_concat l with rfl | ⟨l', z, rfl⟩
  · intro y hy; simp at hy
  · intro y hy
    rw [List.concat_eq_append] at h hy ⊢
    rw [lastF_snoc]
    rw [List.pairwise_append] at h
    rcases List.mem_append.1 hy with hy | hy
    · exact Nat.le_of_lt (h.2.2 y hy z (by simp))
    · simp at hy; rw [hy]; exact Nat.le_refl _
theorem goodF_step {v : Nat} {pre : List (FP v)} {x : FP v} (h : GoodF pre) (hx : lastF (vals pre) < x.1.1) : GoodF (pre ++ [x]) := by
  unfold GoodF at h ⊢
  rw [vals_snoc, List.pairwise_append]
  refine ⟨h, List.pairwise_singleton _ _, fun a ha b hb => ?_⟩
  simp at hb; subst hb
  exact Nat.lt_of_le_of_lt (goodF_max h a ha) hx
theorem goodF_bad {v : Nat} {pre : List (FP v)} {x : FP v} (h : SomeF v (pre ++ [x])) : lastF (vals pre) < x.1.1 := by
  obtain ⟨p, r, hf⟩ := h
  have ho := hf.ord
  rw [vals_snoc, List.pairwise_append] at ho
  rcases List.eq_nil_or_concat (vals pre) with e | ⟨l, z, e⟩
  · rw [e]; show 1 < x.1.1; have := x.2.1.1; omega
  · rw [e, List.concat_eq_append, lastF_snoc]
    exact ho.2.2 z (by rw [e]; simp) x.1 (by simp)
theorem goodF_dvd {v : Nat} : ∀ (n : Nat) (pre : List (FP v)), pre.length = n → GoodF pre → prodF (vals pre) ∣ v
  | 0, pre, hn, _ => by
    have : pre = [] := List.length_eq_zero_iff.1 hn
    subst this
    exact Nat.one_dvd _
  | n + 1, pre, hn, hg => by
    obtain ⟨pre', x, rfl⟩ : ∃ p b, pre = p ++ [b] := by
      rcases List.eq_nil_or_concat pre with h | ⟨p, b, h⟩
      · subst h; simp at hn
      · exact ⟨p, b, by simpa using h⟩
    have hg' := hg
    unfold GoodF at hg
    rw [vals_snoc, List.pairwise_append] at hg
    have ih := goodF_dvd n pre' (by simpa using hn) hg.1
    rw [vals_snoc, prodF_snoc]
    have hc : Nat.Coprime (x.1.1 ^ x.1.2) (prodF (vals pre')) := coprime_prodF x.2.1 _ fun y hy => by
      refine ⟨?_, fun e => ?_⟩
      · obtain ⟨z, _, rfl⟩ := List.mem_map.1 hy
        exact z.2.1
      · have := hg.2.2 y hy x.1 (by simp); omega
    exact Nat.Coprime.mul_dvd_of_dvd_of_dvd hc.symm ih x.2.2.2.1
theorem goodF_rest {v : Nat} (hv : 0 < v) {pre : List (FP v)} {x : FP v} (hg : GoodF pre) (hx : lastF (vals pre) < x.1.1) :
    ∃ s, restF v (vals pre) = x.1.1 ^ x.1.2 * s ∧ ¬ x.1.1 ∣ s ∧ restF v (vals (pre ++ [x])) = s ∧ 0 < s ∧ restF v (vals pre) ≤ v := by
  have hg2 := goodF_step hg hx
  obtain ⟨s, hs⟩ := goodF_dvd _ _ rfl hg2
  rw [vals_snoc, prodF_snoc] at hs
  have hs0 : 0 < s := Nat.pos_of_ne_zero fun e => by rw [e, Nat.mul_zero] at hs; omega
  have hp0 : 0 < prodF (vals pre) := Nat.pos_of_ne_zero fun e => by rw [e, Nat.zero_mul, Nat.zero_mul] at hs; omega
  have hx0 : 0 < x.1.1 := by have := x.2.1.1; omega
  have e1 : restF v (vals pre) = x.1.1 ^ x.1.2 * s := by
    exact Nat.div_eq_of_eq_mul_right hp0 (by rw [← Nat.mul_assoc]; exact hs)
  refine ⟨s, e1, fun hd => x.2.2.2.2 ?_, ?_, hs0, Nat.div_le_self _ _⟩
  · obtain ⟨t, rfl⟩ := hd
    exact ⟨prodF (vals pre) * t, hs.trans (by rw [Nat.pow_succ]; ac_rfl)⟩
  · unfold restF
    rw [vals_snoc, prodF_snoc]
    exact Nat.div_eq_of_eq_mul_right (Nat.mul_pos hp0 (Nat.pow_pos hx0)) hs
theorem goodF_all {v : Nat} (hv : 0 < v) {xs : List (FP v)} (h : AllF v xs) : restF v (vals xs) = 1 := by
  obtain ⟨p, hf⟩ := h
  have h1 := hf.prod
  rw [Nat.mul_one] at h1
  unfold restF
  rw [h1, Nat.div_self hv]
theorem fp_le {v : Nat} (hv : 0 < v) (x : FP v) : x.1.1 ≤ v ∧ 2 ≤ x.1.1 ∧ 0 < x.1.2 ∧ (v < 2 ^ 32 → x.1.2 < 32) := by
  have hd := x.2.2.2.1
  have h2 := x.2.1.1
  have h0 := x.2.2.1
  have hle := Nat.le_of_dvd hv hd
  refine ⟨?_, h2, h0, fun h => ?_⟩
  · have h3 : x.1.1 ^ 1 ≤ x.1.1 ^ x.1.2 := Nat.pow_le_pow_right (by omega) h0
    rw [Nat.pow_one] at h3; omega
  · have h3 : 2 ^ x.1.2 ≤ x.1.1 ^ x.1.2 := Nat.pow_le_pow_left h2 _
    exact (Nat.pow_lt_pow_iff_right (show 1 < 2 by omega)).1 (by omega)

theorem primeB_no {n k : Nat} (h2 : 2 ≤ k) (hk : k < n) (hd : k ∣ n) : primeB n = false := by
  cases h : primeB n with
  | false => rfl
  | true => exact absurd hd (((primeB_iff n).1 h).2 k h2 hk)
theorem primeB_sq {n k : Nat} (h : ∀ j, 2 ≤ j → j < k → ¬ j ∣ n) (hk : n < k * k) : primeB n = decide (2 ≤ n) := by
  by_cases h2 : 2 ≤ n
  · rw [decide_eq_true h2, primeB_iff]
    refine ⟨h2, fun d hd hdn hdv => ?_⟩
    obtain ⟨q, hq⟩ := hdv
    have hq2 : 2 ≤ q := by
      rcases q with _ | _ | q
      · omega
      · omega
      · omega
    have h1 : k ≤ d := Nat.le_of_not_lt fun hl => h d hd hl ⟨q, hq⟩
    have h3 : k ≤ q := Nat.le_of_not_lt fun hl => h q hq2 hl ⟨d, by rw [hq, Nat.mul_comm]⟩
    have := Nat.mul_le_mul h1 h3
    omega
  · rw [decide_eq_false h2]
    cases hp : primeB n with
    | false => rfl
    | true => exact absurd ((primeB_iff n).1 hp).1 h2

set_option maxRecDepth 100000 in
theorem rprime_any (n : Nat) (hn : n < 4294967296) (w : World) : Calls Try.prog 29 #[.int .i64 (n : Nat)] w fun e w' => e = .returned (.bool (primeB n)) ∧ w = w' := by
  go_enter Try.func29, Try.ntmps29
  go_wp2_with fail
  go_loop [3] (fun d => ∃ k : Nat, 2 ≤ k ∧ k ≤ 65536 ∧ d = .int .i64 (k : Nat) ∧ Go.RowKit.Hid (∀ j, 2 ≤ j → j < k → ¬ j ∣ n)) (fun d => 65537 - (intOf d).toNat)
  case atStart => exact ⟨2, by omega, by omega, rfl, fun j h1 h2 => by omega⟩
  case round =>
    obtain ⟨k, hk2, hk6, rfl, HN⟩ := hrel
    obtain ⟨kk, hkk⟩ : ∃ kk, k * k = kk := ⟨_, rfl⟩
    have hw : IntKind.i64.wrap ((k : Int) * (k : Int)) = ((kk : Nat) : Int) := by
      have h3 := Nat.mul_le_mul hk6 hk6
      rw [hkk] at h3
      have h4 : (k : Int) * (k : Int) = ((kk : Nat) : Int) := by rw [← hkk, Int.natCast_mul]
      rw [h4, IntKind.wrap_i64]
      omega
    have HKK := Lib.hid hkk
    clear hkk
    by_cases hle : kk ≤ n
    · have hk5 : k ≤ 65535 := by
        refine Nat.le_of_not_lt fun hl => ?_
        have h5 := Nat.mul_le_mul (show 65536 ≤ k from hl) (show 65536 ≤ k from hl)
        rw [HKK.out] at h5
        omega
      have hkn : k < n := by
        have h6 := Nat.mul_le_mul hk2 (Nat.le_refl k)
        rw [HKK.out] at h6
        omega
      by_cases hd : k ∣ n
      · have HP := Lib.hid (primeB_no hk2 hkn hd)
        go_wp2_with fail
        go_ret
        exact ⟨by rw [HP.out]; rfl, rfl⟩
      · have HD := Lib.hid hd
        go_wp2_with fail
        go_round
        case rel => exact ⟨k + 1, by omega, by omega, by go_num, fun j h1 h2 => by
          by_cases e : j = k
          · rw [e]; exact HD.out
          · exact HN.out j h1 (by omega)⟩
        case measure => simp [intOf]; omega
    · have HP := Lib.hid (primeB_sq HN.out (by rw [HKK.out]; omega))
      have hgt : ¬ (kk : Int) ≤ (n : Int) := by omega
      by_cases h2 : 2 ≤ n
      · have hz : decide ((2 : Int) ≤ ((n : Nat) : Int)) = true := decide_eq_true (by omega)
        go_wp2_with fail
        go_ret
        exact ⟨by rw [HP.out, decide_eq_true h2]; rfl, rfl⟩
      · have hz : decide ((2 : Int) ≤ ((n : Nat) : Int)) = false := decide_eq_false (by omega)
        go_wp2_with fail
        go_ret
        exact ⟨by rw [HP.out, decide_eq_false h2]; rfl, rfl⟩
end Go.Proofs.Ytlmfiggmjpjpiaa
