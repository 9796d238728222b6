/- The law's own functions: made, number, same, result. The reference's modular functions, one step each; result. What 'known' calls, at its numbers. -/
import Derived.Test.YtlmfiggmjpjpiaaZF
import Derived.Test.YtlmfiggmjpjpiaaZR
import Derived.Test.YtlmfiggmjpjpiaaP2
import Derived.Test.YtlmfiggmjpjpiaaQ6
import Derived.Test.YtlmfiggmjpjpiaaQ1
namespace Go.Proofs.Ytlmfiggmjpjpiaa
open Go.RowKit

set_option maxRecDepth 100000 in
set_option maxHeartbeats 300000 in
theorem same_eq (v : Nat) (hv : v < P64 ^ 16) (s : Value) (w : World) (h : RefN v s w) : Calls Try.prog 17 #[.agg (natA v), s] w fun e w' => e = .returned (.bool true) ∧ Below w.heap.size w w' := by
  have HV := Lib.hid hv
  have hn := dlen16 hv
  have HR := Lib.hid (DigN.kept h (((Below.refl _ w).alloc (Nat.le_refl _) (.cells (natA v) 28)).drew))
  have hA : rowN (w.alloc (.cells (natA v) 28)).drew w.heap.size = some (natA v) := by
    rw [rowN_drew, rowN_alloc, if_pos rfl]
  have HA := Lib.hid hA
  have HB := Lib.hid (((Below.refl _ w).alloc (Nat.le_refl _) (.cells (natA v) 28)).drew)
  clear hv h
  generalize hL : dlen 65536 v = L at *
  clear hL
  go_enter Try.func17, Try.ntmps17
  go_wp2_with fail
  have hA' := HA.out
  go_region_with (first
    | (go_at_call 41; rw [natA_lit]; refine (bytes_any v HV.out _).mono ?_; rintro e w1 ⟨s1, rfl, ho, hb⟩; have HK1 := Lib.hid (conv_keeps ho); have hc1 := HK1.out w1 (Below.refl _ _); have HR1 := Lib.hid (HR.out.kept hb); have HB1 := Lib.hid (HB.out.trans (hb.mono HB.out.size)); clear ho hb)
    | (go_at_call 42; refine (rbytes_any v L s _ HR1.out (by omega)).mono ?_; rintro e w2 ⟨s2, rfl, ho, hb⟩; have hc2 := conv_keeps ho w2 (Below.refl _ _); have hc3 := HK1.out w2 hb; have HB2 := Lib.hid (HB1.out.trans (hb.mono HB1.out.size)); clear ho hb))
  all_goals
    go_wp2_with fail
    go_ret
    exact ⟨rfl, HB2.out⟩

theorem twoNat (w : World) : ∃ W, w.alloc (.cells (natA 0) 28) = W ∧ Below w.heap.size w W ∧ rowN W w.heap.size = some (natA 0) :=
  ⟨_, rfl, (Below.refl _ w).alloc (Nat.le_refl _) _, by rw [rowN_alloc, if_pos rfl]⟩

set_option maxRecDepth 100000 in
theorem made_of (v : Nat) (E : Int) (s : Value) (w : World) (hF : ∀ W, Below w.heap.size w W → Calls Try.prog 34 #[s] W fun e W' => e = .returned (.tuple #[.agg (natA v), .int .i64 E]) ∧ Below W.heap.size W W') :
    Calls Try.prog 11 #[s] w fun e w' => e = .returned (.agg (natA v)) ∧ Below w.heap.size w w' := by
  have HF := Lib.hid hF
  have HW := Lib.hid (twoNat w)
  clear hF
  go_enter Try.func11, Try.ntmps11
  go_wp2_with fail
  obtain ⟨W0, hW, hB0, h2⟩ := HW.out
  rw [hW]
  clear hW HW
  refine (HF.out _ hB0).mono ?_
  rintro e w1 ⟨rfl, hb⟩
  replace h2 := kept hb _ _ h2
  have HB1 := Lib.hid (hB0.trans (hb.mono hB0.size))
  have l2 := rowN_lt h2
  clear hb hB0
  go_wp2_with fail
  exact ret_nat _ (natA v) rfl rfl rfl (by rw [rowN_setRow, if_pos rfl, rowN_setRow, if_neg (by omega), rowN_alloc, if_neg (by omega), h2]; rfl) (natA_size _) ⟨rfl, below_setRow' (below_setRow' (HB1.out.alloc (by omega) _) (by omega) _) (by omega) _⟩

theorem made_any (zs : List Nat) (s : Value) (w : World) (h : BytesAt zs s w) (hn : zs.length ≤ 1000000) :
    Calls Try.prog 11 #[s] w fun e w' => e = .returned (.agg (natA (fbV zs))) ∧ Below w.heap.size w w' :=
  made_of (fbV zs) (fbE zs) s w (fun W hW => fromBytes_any zs s W (h.kept hW) hn)

set_option maxRecDepth 100000 in
theorem number_any (n : Nat) (hn : n ≤ 9223372036854775807) (w : World) : Calls Try.prog 31 #[.int .i64 (n : Nat)] w fun e w' => e = .returned (.agg (natA n)) ∧ Below w.heap.size w w' := by
  have HF := Lib.hid (fun W => fromInt_pos (n : Int) W (by omega) (by omega))
  rw [Int.toNat_natCast] at HF
  have HW := Lib.hid (twoNat w)
  go_enter Try.func31, Try.ntmps31
  go_wp2_with fail
  obtain ⟨W0, hW, hB0, h2⟩ := HW.out
  rw [hW]
  clear hW HW
  refine (HF.out _).mono ?_
  rintro e w1 ⟨rfl, hb⟩
  replace h2 := kept hb _ _ h2
  have HB1 := Lib.hid (hB0.trans (hb.mono hB0.size))
  have l2 := rowN_lt h2
  clear hb hB0
  go_wp2_with fail
  exact ret_nat _ (natA n) rfl rfl rfl (by rw [rowN_setRow, if_pos rfl, rowN_setRow, if_neg (by omega), rowN_alloc, if_neg (by omega), h2]; rfl) (natA_size _) ⟨rfl, below_setRow' (below_setRow' (HB1.out.alloc (by omega) _) (by omega) _) (by omega) _⟩
end Go.Proofs.Ytlmfiggmjpjpiaa

namespace Go.Proofs.Ytlmfiggmjpjpiaa
open Go.RowKit

set_option maxRecDepth 100000 in
theorem result_yes (n : Nat) (h : n ≤ 4611686018427387904) (w : World) : Calls Try.prog 33 #[.agg (natA n), .int .i64 0, .int .i64 (n : Nat)] w fun e w' => e = .returned (.bool true) ∧ Below w.heap.size w w' := by
  have HF := Lib.hid (fun W => int_small n h W)
  go_enter Try.func33, Try.ntmps33
  go_wp2_with fail
  refine (HF.out _).mono ?_
  rintro e w1 ⟨rfl, hb⟩
  have HB1 := Lib.hid (((Below.refl _ w).alloc (Nat.le_refl _) (.cells (natA n) 28)).trans (hb.mono (by simp)))
  clear hb
  go_wp2_with fail
  go_ret
  exact ⟨rfl, HB1.out⟩

/-- Small enough for the reference. -/
def Sm (v : Nat) : Prop := dlen 65536 v ≤ 1000
theorem sm_lt {v : Nat} (h : v < 65536 ^ 1000) : Sm v := dlen_le (by omega) h
theorem sm_mod {v m : Nat} (h0 : 0 < m) (hm : Sm m) : Sm (v % m) := by
  have h1 := lt_dlen (show 2 ≤ 65536 by omega) m
  exact Nat.le_trans (dlen_le (by omega) (Nat.lt_trans (Nat.mod_lt v h0) h1)) hm

set_option maxRecDepth 100000 in
theorem rred_any (v m : Nat) (n : Nat) (s t : Value) (w : World) (hs : DigN v n s w) (hn : n ≤ 100000) (ht : RefN m t w) (h0 : 0 < m) (hm : Sm m) :
    Calls Try.prog 18 #[s, t] w fun e w' => ∃ r, e = .returned r ∧ RefN (v % m) r w' ∧ Below w.heap.size w w' := by
  have HF := Lib.hid (rdivide_ref v m n s t w hs ht hn (Nat.le_trans hm (by omega)) h0)
  clear hs ht h0 hm
  go_enter Try.func18, Try.ntmps18
  go_wp2_with fail
  refine HF.out.mono ?_
  rintro e w1 ⟨q, r, rfl, hq, hr, hb⟩
  have HR := Lib.hid hr
  have HB := Lib.hid hb
  clear hq hr hb
  go_wp2_with fail
  go_ret
  exact ⟨r, rfl, HR.out, HB.out⟩

set_option maxRecDepth 100000 in
theorem rmadd_any (v u m : Nat) (s z t : Value) (w : World) (hs : RefN v s w) (hz : RefN u z w) (ht : RefN m t w) (hv : Sm v) (hu : Sm u) (h0 : 0 < m) (hm : Sm m) (hvu : Sm (v + u)) :
    Calls Try.prog 19 #[s, z, t] w fun e w' => ∃ r, e = .returned r ∧ RefN ((v + u) % m) r w' ∧ Below w.heap.size w w' := by
  have HF := Lib.hid (radd_any v u _ _ s z w hs hz (Nat.le_trans hv (by omega)) (Nat.le_trans hu (by omega)))
  have HT := Lib.hid ht
  have HG := Lib.hid (fun s' W hs' ht' => rred_any (v + u) m _ s' t W hs' (Nat.le_trans hvu (by omega)) ht' h0 hm)
  clear hs hz ht h0 hm hv hu hvu
  go_enter Try.func19, Try.ntmps19
  go_wp2_with fail
  refine HF.out.mono ?_
  rintro e w1 ⟨r, rfl, hr, hb⟩
  have HR := Lib.hid hr
  have HT1 := Lib.hid (DigN.kept HT.out hb)
  have HB := Lib.hid hb
  clear hr hb
  go_wp2_with fail
  refine (HG.out _ _ HR.out HT1.out).mono ?_
  rintro e w2 ⟨r2, rfl, hr, hb⟩
  have HR2 := Lib.hid hr
  have HB2 := Lib.hid (HB.out.trans (hb.mono HB.out.size))
  clear hr hb
  go_wp2_with fail
  go_ret
  exact ⟨r2, rfl, HR2.out, HB2.out⟩

set_option maxRecDepth 100000 in
theorem rmmul_any (v u m : Nat) (s z t : Value) (w : World) (hs : RefN v s w) (hz : RefN u z w) (ht : RefN m t w) (hv : Sm v) (hu : Sm u) (h0 : 0 < m) (hm : Sm m) (hvu : Sm (v * u)) :
    Calls Try.prog 22 #[s, z, t] w fun e w' => ∃ r, e = .returned r ∧ RefN (v * u % m) r w' ∧ Below w.heap.size w w' := by
  have HF := Lib.hid (rmul_any v u _ _ s z w hs hz (Nat.le_trans hv (by omega)) (Nat.le_trans hu (by omega)))
  have HT := Lib.hid ht
  have HG := Lib.hid (fun s' W hs' ht' => rred_any (v * u) m _ s' t W hs' (Nat.le_trans hvu (by omega)) ht' h0 hm)
  clear hs hz ht h0 hm hv hu hvu
  go_enter Try.func22, Try.ntmps22
  go_wp2_with fail
  refine HF.out.mono ?_
  rintro e w1 ⟨r, rfl, hr, hb⟩
  have HR := Lib.hid hr
  have HT1 := Lib.hid (DigN.kept HT.out hb)
  have HB := Lib.hid hb
  clear hr hb
  go_wp2_with fail
  refine (HG.out _ _ HR.out HT1.out).mono ?_
  rintro e w2 ⟨r2, rfl, hr, hb⟩
  have HR2 := Lib.hid hr
  have HB2 := Lib.hid (HB.out.trans (hb.mono HB.out.size))
  clear hr hb
  go_wp2_with fail
  go_ret
  exact ⟨r2, rfl, HR2.out, HB2.out⟩

set_option maxRecDepth 100000 in
theorem rmsub_any (v u m : Nat) (s z t : Value) (w : World) (hs : RefN v s w) (hz : RefN u z w) (ht : RefN m t w) (hv : Sm v) (hu : Sm u) (h0 : 0 < m) (hm : Sm m) (hmm : Sm (v % m + m)) :
    Calls Try.prog 20 #[s, z, t] w fun e w' => ∃ r, e = .returned r ∧ RefN ((v % m + m - u % m) % m) r w' ∧ Below w.heap.size w w' := by
  have hle : u % m ≤ v % m + m := by have := Nat.mod_lt u h0; omega
  have hsub : dlen 65536 (v % m + m - u % m) ≤ 1000 :=
    Nat.le_trans (dlen_le (by omega) (Nat.lt_of_le_of_lt (Nat.sub_le _ _) (lt_dlen (show 2 ≤ 65536 by omega) (v % m + m)))) hmm
  have H1 := Lib.hid (rred_any v m _ s t w hs (Nat.le_trans hv (by omega)) ht h0 hm)
  have H2 := Lib.hid (fun s' W hs' ht' => radd_any (v % m) m _ _ s' t W hs' ht' (Nat.le_trans (sm_mod (v := v) h0 hm) (by omega)) (Nat.le_trans hm (by omega)))
  have H3 := Lib.hid (fun W hz' ht' => rred_any u m _ z t W hz' (Nat.le_trans hu (by omega)) ht' h0 hm)
  have H4 := Lib.hid (fun s' z' W (hs' : RefN (v % m + m) s' W) (hz' : RefN (u % m) z' W) => rsub_any (v % m + m) (u % m) _ _ s' z' W hs' hz' (Nat.le_trans hmm (by omega)) hle)
  have H5 := Lib.hid (fun s' W hs' ht' => rred_any (v % m + m - u % m) m _ s' t W hs' (Nat.le_trans hsub (by omega)) ht' h0 hm)
  have HT := Lib.hid ht
  have HZ := Lib.hid hz
  clear hs hz ht h0 hm hv hu hmm hle hsub
  go_enter Try.func20, Try.ntmps20
  go_wp2_with fail
  refine H1.out.mono ?_
  rintro e w1 ⟨r1, rfl, hr, hb⟩
  have HR1 := Lib.hid hr
  have HT1 := Lib.hid (DigN.kept HT.out hb)
  have HZ1 := Lib.hid (DigN.kept HZ.out hb)
  have HB1 := Lib.hid hb
  clear hr hb
  go_wp2_with fail
  refine (H2.out _ _ HR1.out HT1.out).mono ?_
  rintro e w2 ⟨r2, rfl, hr, hb⟩
  have HR2 := Lib.hid hr
  have HT2 := Lib.hid (DigN.kept HT1.out hb)
  have HZ2 := Lib.hid (DigN.kept HZ1.out hb)
  have HB2 := Lib.hid (HB1.out.trans (hb.mono HB1.out.size))
  clear hr hb
  go_wp2_with fail
  refine (H3.out _ HZ2.out HT2.out).mono ?_
  rintro e w3 ⟨r3, rfl, hr, hb⟩
  have HR3 := Lib.hid hr
  have HR23 := Lib.hid (DigN.kept HR2.out hb)
  have HT3 := Lib.hid (DigN.kept HT2.out hb)
  have HB3 := Lib.hid (HB2.out.trans (hb.mono HB2.out.size))
  clear hr hb
  go_wp2_with fail
  refine (H4.out _ _ _ HR23.out HR3.out).mono ?_
  rintro e w4 ⟨r4, rfl, hr, hb⟩
  have HR4 := Lib.hid hr
  have HT4 := Lib.hid (DigN.kept HT3.out hb)
  have HB4 := Lib.hid (HB3.out.trans (hb.mono HB3.out.size))
  clear hr hb
  go_wp2_with fail
  refine (H5.out _ _ HR4.out HT4.out).mono ?_
  rintro e w5 ⟨r5, rfl, hr, hb⟩
  have HR5 := Lib.hid hr
  have HB5 := Lib.hid (HB4.out.trans (hb.mono HB4.out.size))
  clear hr hb
  go_wp2_with fail
  go_ret
  exact ⟨r5, rfl, HR5.out, HB5.out⟩
end Go.Proofs.Ytlmfiggmjpjpiaa

namespace Go.Proofs.Ytlmfiggmjpjpiaa
open Go.RowKit Go.Shelf

theorem kS {n : Nat} (h : n ≤ 18446744073709551615) : n < P64 ^ 16 := small_lt (p64_lt h)
theorem k_num (x : Int) (n : Nat) (hx : x = n) (hn : n ≤ 9223372036854775807) (w : World) : Calls Try.prog 31 #[.int .i64 x] w fun e w' => e = .returned (.agg (natA n)) ∧ Below w.heap.size w w' := by
  subst hx; exact number_any n hn w
theorem k_res (x : Int) (n : Nat) (hx : x = n) (hn : n ≤ 4611686018427387904) (w : World) : Calls Try.prog 33 #[.agg (natA n), .int .i64 0, .int .i64 x] w fun e w' => e = .returned (.bool true) ∧ Below w.heap.size w w' := by
  subst hx; exact result_yes n hn w
theorem k_add (w : World) : Calls Try.prog 13 #[.agg (natA 5), .agg (natA 6), .agg (natA 7)] w fun e w' => e = .returned (.tuple #[.agg (natA 4), .int .i64 0]) ∧ Below w.heap.size w w' := by
  have h := mod_add_pos 7 5 6 4 (kS (by omega)) (by omega) (kS (by omega)) (kS (by omega)) (by decide) w
  exact h
theorem k_sub (w : World) : Calls Try.prog 14 #[.agg (natA 5), .agg (natA 6), .agg (natA 7)] w fun e w' => e = .returned (.tuple #[.agg (natA 6), .int .i64 0]) ∧ Below w.heap.size w w' := by
  have h := mod_sub_pos 7 5 6 6 (kS (by omega)) (by omega) (kS (by omega)) (kS (by omega)) (by decide) w
  exact h
theorem k_mul (w : World) : Calls Try.prog 21 #[.agg (natA 5), .agg (natA 6), .agg (natA 7)] w fun e w' => e = .returned (.tuple #[.agg (natA 2), .int .i64 0]) ∧ Below w.heap.size w w' := by
  have h := mod_mul_pos 7 5 6 2 (kS (by omega)) (by omega) (kS (by omega)) (kS (by omega)) (by rw [tm_eq]) w
  exact h
theorem k_exp (w : World) : Calls Try.prog 23 #[.agg (natA 3), .agg (natA 4), .agg (natA 7)] w fun e w' => e = .returned (.tuple #[.agg (natA 4), .int .i64 0]) ∧ Below w.heap.size w w' := by
  have h := mod_exp_pos 7 3 4 (kS (by omega)) (by omega) (kS (by omega)) (kS (by omega)) w
  rw [pm_eq] at h
  exact h
theorem k_exp0 (w : World) : Calls Try.prog 23 #[.agg (natA 3), .agg (natA 0), .agg (natA 1)] w fun e w' => e = .returned (.tuple #[.agg (natA 0), .int .i64 0]) ∧ Below w.heap.size w w' := by
  have h := mod_exp_pos 1 3 0 (kS (by omega)) (by omega) (kS (by omega)) (kS (by omega)) w
  rw [pm_eq] at h
  exact h
theorem k_inv (w : World) : Calls Try.prog 25 #[.agg (natA 3), .agg (natA 7)] w fun e w' => e = .returned (.tuple #[.agg (natA 5), .int .i64 0]) ∧ Below w.heap.size w w' :=
  mod_inv_is 7 3 5 (kS (by omega)) (kS (by omega)) (by omega) (by omega) w
theorem k_inv4 (w : World) : Calls Try.prog 25 #[.agg (natA 2), .agg (natA 4)] w fun e w' => e = .returned (.tuple #[.agg (natA 0), .int .i64 9]) ∧ Below w.heap.size w w' :=
  mod_inv_no 4 2 (kS (by omega)) (by omega) (kS (by omega)) (by decide) w
theorem k_inv1 (w : World) : Calls Try.prog 25 #[.agg (natA 0), .agg (natA 1)] w fun e w' => e = .returned (.tuple #[.agg (natA 0), .int .i64 0]) ∧ Below w.heap.size w w' :=
  mod_inv_is 1 0 0 (kS (by omega)) (kS (by omega)) (by omega) (by omega) w
theorem k_inv0 (w : World) : Calls Try.prog 25 #[.agg (natA 5), .agg (natA 0)] w fun e w' => e = .returned (.tuple #[.agg (natA 0), .int .i64 2]) ∧ Below w.heap.size w w' :=
  mod_inv_zero 5 w
theorem primeB_2879 : primeB 2879 = true := by kernel_rfl
theorem k_p1 (w : World) : Calls Try.prog 27 #[.int .i64 1] w fun e w' => e = .returned (.tuple #[.bool false, .int .i64 0]) ∧ Below w.heap.size w w' := by
  have h := prime_any 1 (by omega) w
  rw [show primeB 1 = false by decide] at h
  exact h
theorem k_p2 (w : World) : Calls Try.prog 27 #[.int .i64 2] w fun e w' => e = .returned (.tuple #[.bool true, .int .i64 0]) ∧ Below w.heap.size w w' := by
  have h := prime_any 2 (by omega) w
  rw [show primeB 2 = true by decide] at h
  exact h
theorem k_p2879 (w : World) : Calls Try.prog 27 #[.int .i64 2879] w fun e w' => e = .returned (.tuple #[.bool true, .int .i64 0]) ∧ Below w.heap.size w w' := by
  have h := prime_any 2879 (by omega) w
  rw [primeB_2879] at h
  exact h
theorem k_pneg (w : World) : Calls Try.prog 27 #[.int .i64 (-1)] w fun e w' => e = .returned (.tuple #[.bool false, .int .i64 2]) ∧ Below w.heap.size w w' :=
  prime_neg (-1) (by omega) w

theorem fp12 (x : FP 12) : x.1 = (2, 2) ∨ x.1 = (3, 1) := by
  obtain ⟨⟨p, e⟩, hp, he, hd, hn⟩ := x
  dsimp only at hp he hd hn ⊢
  have hpd : p ∣ 12 := Nat.dvd_trans (by have := Nat.pow_dvd_pow p he; rw [Nat.pow_one] at this; exact this) hd
  have hp12 : p ≤ 12 := Nat.le_of_dvd (by omega) hpd
  have h2 := hp.1
  have he4 : e ≤ 3 := by
    have h1 : 2 ^ e ≤ p ^ e := Nat.pow_le_pow_left h2 e
    have h3 : p ^ e ≤ 12 := Nat.le_of_dvd (by omega) hd
    refine Nat.le_of_not_lt fun h => ?_
    have h4 : 2 ^ 4 ≤ 2 ^ e := Nat.pow_le_pow_right (by omega) h
    omega
  have hdec : ∀ p, p < 13 → ∀ e, e < 4 → (primeB p && decide (0 < e) && decide (p ^ e ∣ 12) && !decide (p ^ (e + 1) ∣ 12)) = true → ((p == 2 && e == 2) || (p == 3 && e == 1)) = true := by decide
  have h3 := hdec p (by omega) e (by omega) (by simp [(primeB_iff p).2 hp, he, hd, hn])
  simp only [Bool.or_eq_true, Bool.and_eq_true, beq_iff_eq] at h3
  rcases h3 with ⟨rfl, rfl⟩ | ⟨rfl, rfl⟩
  · exact .inl rfl
  · exact .inr rfl

theorem all12 (xs : List (FP 12)) (h : AllF 12 xs) : vals xs = [(2, 2), (3, 1)] := by
  obtain ⟨p, hf⟩ := h
  have h1 := hf.prod
  have h2 := hf.ord
  rcases xs with _ | ⟨x, _ | ⟨y, _ | ⟨z, xs⟩⟩⟩
  · simp [vals, prodF] at h1
  · rcases fp12 x with e | e <;> simp [vals, prodF, e] at h1
  · rcases fp12 x with e | e <;> rcases fp12 y with e' | e' <;> simp [vals, prodF, e, e'] at h1 h2 ⊢
  · rcases fp12 x with e | e <;> rcases fp12 y with e' | e' <;> rcases fp12 z with e2 | e2 <;> simp [vals, e, e', e2] at h2
end Go.Proofs.Ytlmfiggmjpjpiaa
