/- What Compare and Int come to. -/
import Derived.Test.YtlmfiggmjpjpiaaZC
import Derived.Deep.QuietTactic
import Derived.BigQuiet
namespace Go.Proofs.Ytlmfiggmjpjpiaa
open Go.RowKit

set_option maxRecDepth 100000 in
theorem isNaN_any (x : Int) (w : World) : Calls Try.prog 70 #[.int .u64 x] w fun e w' => e = .returned (.bool false) ∧ w = w' := by
  go_enter Try.func70, Try.ntmps70
  go_wp2
  go_ret
  exact ⟨by simp, rfl⟩

def cmpI (x y : Int) : Int := if x < y then -1 else if y < x then 1 else 0

set_option maxRecDepth 100000 in
theorem compare64_any (x y : Int) (w : World) : Calls Try.prog 54 #[.int .u64 x, .int .u64 y] w fun e w' => e = .returned (.int .i64 (cmpI x y)) ∧ w = w' := by
  unfold cmpI
  go_enter Try.func54, Try.ntmps54
  go_wp2_with (go_at_call 70; refine (isNaN_any _ _).mono ?_; rintro e w' ⟨rfl, rfl⟩)
  all_goals go_ret
  all_goals exact ⟨rfl, rfl⟩

theorem compare64_same (x y : Int) (w : World) : Calls Try.prog 54 #[.int .u64 x, .int .u64 y] w fun e w' => e = .returned (.int .i64 (cmpI x y)) ∧ w' = w :=
  (compare64_any x y w).mono fun _ _ ⟨h1, h2⟩ => ⟨h1, h2.symm⟩

theorem cmp_digits (v u k : Nat) (hv : v < P64 ^ 16) (hu : u < P64 ^ 16) (hk : k < 16) (h : ∀ j, k < j → j < 16 → dgt P64 v j = dgt P64 u j) (hne : dgt P64 v k ≠ dgt P64 u k) :
    cmpI (dgt P64 v k : Nat) (dgt P64 u k : Nat) = cmpN v u := by
  unfold cmpI cmpN
  by_cases hl : dgt P64 v k < dgt P64 u k
  · rw [if_pos (by omega), if_pos (lt_of_dgt P64_pos hv hu hk h hl)]
  · have hl2 : dgt P64 u k < dgt P64 v k := by omega
    have := lt_of_dgt P64_pos hu hv hk (fun j h1 h2 => (h j h1 h2).symm) hl2
    rw [if_neg (by omega), if_pos (by omega), if_neg (by omega), if_pos this]

set_option maxRecDepth 100000 in
theorem compare_eq (v u : Nat) (h : natEq v u = true) (w : World) : Calls Try.prog 30 #[.agg (natA v), .agg (natA u)] w fun e w' => e = .returned (.int .i64 0) ∧ Below w.heap.size w w' := by
  go_enter Try.func30, Try.ntmps30
  go_wp2
  go_ret
  exact ⟨rfl, ((Below.refl _ _).alloc (Nat.le_refl _) _).alloc (by simp) _⟩

set_option maxRecDepth 100000 in
theorem compare_ne (v u : Nat) (hv : v < P64 ^ 16) (hu : u < P64 ^ 16) (h : natEq v u = false) (w : World) : Calls Try.prog 30 #[.agg (natA v), .agg (natA u)] w fun e w' => e = .returned (.int .i64 (cmpN v u)) ∧ Below w.heap.size w w' := by
  have HV := Lib.hid hv
  have HU := Lib.hid hu
  clear hv hu
  go_enter Try.func30, Try.ntmps30
  go_wp2
  go_loopw [5] (fun s wr => ∃ k : Nat, k < 16 ∧ s = .int .i64 k ∧ (∀ j, k < j → j < 16 → dgt P64 v j = dgt P64 u j) ∧ ∃ n, wr = ((w.alloc (.cells (natA v) 28)).alloc (.cells (natA u) 28)).drewN n) (fun s _ => (intOf s).toNat)
  case atStart => exact ⟨15, by omega, rfl, fun j h1 h2 => by omega, 0, rfl⟩
  case round =>
    obtain ⟨k, hk, rfl, hz, n, rfl⟩ := hrel
    have HZ := Lib.hid hz
    clear hz
    have hcv : ∀ n, (((w.alloc (.cells (natA v) 28)).alloc (.cells (natA u) 28)).drewN n).cell? ⟨w.heap.size, k, none⟩ = some (.int .u64 (dgt P64 v k : Nat)) := fun n => by
      have e : (((w.alloc (.cells (natA v) 28)).alloc (.cells (natA u) 28)).drewN n).cell? ⟨w.heap.size, k, none⟩ = ((w.alloc (.cells (natA v) 28)).alloc (.cells (natA u) 28)).cell? ⟨w.heap.size, k, none⟩ := rfl
      rw [e, World.cell?_alloc_past _ _ _ (by simp), World.cell?_alloc_at _ _ _ _ rfl, natA_get _ _ hk]
    have hcu : ∀ n, (((w.alloc (.cells (natA v) 28)).alloc (.cells (natA u) 28)).drewN n).cell? ⟨w.heap.size + 1, k, none⟩ = some (.int .u64 (dgt P64 u k : Nat)) := fun n => by
      have e : (((w.alloc (.cells (natA v) 28)).alloc (.cells (natA u) 28)).drewN n).cell? ⟨w.heap.size + 1, k, none⟩ = ((w.alloc (.cells (natA v) 28)).alloc (.cells (natA u) 28)).cell? ⟨w.heap.size + 1, k, none⟩ := rfl
      rw [e, World.cell?_alloc_at _ _ _ _ (by simp), natA_get _ _ hk]
    go_wp2_with fail
    go_quiet (fail)
    go_wp2_with fail
    · have he : ((dgt P64 v k : Int) == (dgt P64 u k : Int)) = true := by assumption
      have he' : dgt P64 v k = dgt P64 u k := by have := eq_of_beq he; omega
      have hk0 : 0 < k := by
        by_cases h0 : k = 0
        · exfalso
          have : natEq v u = true := by
            unfold natEq
            rw [List.all_eq_true]
            intro j hj
            by_cases e : j = 0
            · subst e; rw [← h0, he']; simp
            · rw [HZ.out j (by omega) (by simpa using hj)]; simp
          rw [h] at this
          cases this
        · omega
      refine ⟨⟨k - 1, by omega, by rw [Int.ofNat_sub (by omega)]; rfl, fun j h1 h2 => ?_, _, rfl⟩, by simp [intOf]; omega⟩
      by_cases e : j = k
      · subst e; exact he'
      · exact HZ.out j (by omega) h2
    · have he : ((dgt P64 v k : Int) == (dgt P64 u k : Int)) = false := by assumption
      have hfin := Lib.hid (cmp_digits v u k HV.out HU.out hk HZ.out (fun e => by rw [e] at he; simp at he))
      clear he
      have hbel := below_drewN (below_drewN (((Below.refl w.heap.size w).alloc (Nat.le_refl _) (.cells (natA v) 28)).alloc (by simp) (.cells (natA u) 28)) n) nq
      have hv1 : ∀ n', (((((w.alloc (.cells (natA v) 28)).alloc (.cells (natA u) 28)).drewN n).drewN nq).drewN n').cell? ⟨w.heap.size, k, none⟩ = some (.int .u64 (dgt P64 v k : Nat)) := fun n' => hcv 0
      have hu1 : ∀ n', (((((w.alloc (.cells (natA v) 28)).alloc (.cells (natA u) 28)).drewN n).drewN nq).drewN n').cell? ⟨w.heap.size + 1, k, none⟩ = some (.int .u64 (dgt P64 u k : Nat)) := fun n' => hcu 0
      clear hcv hcu
      generalize (((w.alloc (.cells (natA v) 28)).alloc (.cells (natA u) 28)).drewN n).drewN nq = W1 at *
      go_quiet ((go_at_call 54; exact Calls.quiet_of_same (compare64_same _ _ _)))
      go_wp2_with fail
      go_ret
      refine ⟨ret_eq ?_, below_drewN hbel _⟩
      exact congrArg (Value.int .i64) hfin.out

theorem compare_any (v u : Nat) (hv : v < P64 ^ 16) (hu : u < P64 ^ 16) (w : World) : Calls Try.prog 30 #[.agg (natA v), .agg (natA u)] w fun e w' => e = .returned (.int .i64 (cmpN v u)) ∧ Below w.heap.size w w' := by
  cases h : natEq v u with
  | true =>
    have e : v = u := by rw [natEq_iff hv hu] at h; simpa using h
    refine (compare_eq v u h w).mono ?_
    rintro e' w' ⟨rfl, hb⟩
    exact ⟨ret_eq (by rw [e]; unfold cmpN; rw [if_neg (by omega), if_neg (by omega)]), hb⟩
  | false => exact compare_ne v u hv hu h w

theorem dgt0_small {v : Nat} (h : v ≤ 4611686018427387904) : dgt P64 v 0 = v := by
  rw [dgt_small (by rw [P64_eq]; omega), if_pos rfl]

theorem small_lt {n : Nat} (h : n < P64) : n < P64 ^ 16 := by
  have h1 : P64 ^ 1 ≤ P64 ^ 16 := Nat.pow_le_pow_right P64_pos (by omega)
  rw [Nat.pow_one] at h1
  omega

set_option maxRecDepth 100000 in
theorem int_big (v : Nat) (hv : v < P64 ^ 16) (h : 4611686018427387904 < v) (w : World) : Calls Try.prog 57 #[.agg (natA v)] w fun e w' => e = .returned (.tuple #[.int .i64 0, .int .i64 3]) ∧ Below w.heap.size w w' := by
  have hc : cmpN v 4611686018427387904 = 1 := by unfold cmpN; rw [if_neg (by omega), if_pos h]
  have HC := Lib.hid hc
  clear hc
  go_enter Try.func57, Try.ntmps57
  go_wp2_with fail
  refine (compare_any v _ hv (small_lt (by rw [P64_eq]; omega)) _).mono ?_
  rintro e w1 ⟨rfl, hb1⟩
  rw [HC.out]
  go_wp2_with fail
  go_ret2
  exact ⟨rfl, ((Below.refl _ _).alloc (Nat.le_refl _) _).trans (hb1.mono (by simp))⟩

set_option maxRecDepth 100000 in
theorem int_small (v : Nat) (h : v ≤ 4611686018427387904) (w : World) : Calls Try.prog 57 #[.agg (natA v)] w fun e w' => e = .returned (.tuple #[.int .i64 (v : Nat), .int .i64 0]) ∧ Below w.heap.size w w' := by
  obtain ⟨r, hc, hr⟩ : ∃ r, cmpN v 4611686018427387904 = r ∧ r ≤ 0 := ⟨_, rfl, by unfold cmpN; split <;> (try split) <;> omega⟩
  have hv : v < P64 ^ 16 := small_lt (by rw [P64_eq]; omega)
  have HC := Lib.hid hc
  have HV := Lib.hid hv
  have hd := dgt0_small h
  have HD := Lib.hid hd
  clear hc hv hd
  go_enter Try.func57, Try.ntmps57
  go_wp2_with fail
  refine (compare_any v _ HV.out (small_lt (by rw [P64_eq]; omega)) _).mono ?_
  rintro e w1 ⟨rfl, hb1⟩
  rw [HC.out]
  obtain ⟨hc, hf⟩ := bcell hb1
  go_wp2_with fail
  go_ret2
  refine ⟨?_, ((Below.refl _ _).alloc (Nat.le_refl _) _).trans (hb1.mono (by simp))⟩
  have e : wrap64 ((dgt P64 v 0 : Nat) : Int) = (v : Int) := by rw [HD.out]; exact IntWalk.wrap64_in _ ⟨by omega, by omega⟩
  show Ending.returned (.tuple #[.int .i64 (wrap64 ((dgt P64 v 0 : Nat) : Int)), .int .i64 0]) = _
  rw [e]
end Go.Proofs.Ytlmfiggmjpjpiaa
