/- The reference's powers. -/
import Derived.Test.YtlmfiggmjpjpiaaCE
namespace Go.Proofs.Ytlmfiggmjpjpiaa
open Go.RowKit

theorem pow_step (v e m j : Nat) : v ^ (e / 2 ^ j) % m = (if e / 2 ^ j % 2 = 1 then (v ^ (e / 2 ^ (j + 1)) % m * (v ^ (e / 2 ^ (j + 1)) % m) % m) * v % m else v ^ (e / 2 ^ (j + 1)) % m * (v ^ (e / 2 ^ (j + 1)) % m) % m) := by
  have h1 : e / 2 ^ (j + 1) = e / 2 ^ j / 2 := by rw [Nat.pow_succ, Nat.div_div_eq_div_mul]
  rw [h1]
  generalize e / 2 ^ j = x
  have hx := Nat.div_add_mod x 2
  generalize x / 2 = q at *
  have hsq : v ^ q % m * (v ^ q % m) % m = v ^ (2 * q) % m := by
    rw [← Nat.mul_mod, ← Nat.pow_add]; congr 2; omega
  rw [hsq]
  split
  · rename_i hb
    have : x = 2 * q + 1 := by omega
    rw [this, Nat.pow_succ, Nat.mod_mul_mod]
  · rename_i hb
    have : x = 2 * q := by omega
    rw [this]

theorem oneD (w : World) : DigN 1 1 (.slice (some ⟨w.heap.size, 0, none⟩) 1 1) (w.alloc (.cells #[.int .i64 1] 3)) := by
  refine ⟨by omega, some ⟨w.heap.size, 0, none⟩, 1, rfl, Nat.le_refl _, by decide, .inr ⟨w.heap.size, 0, rfl, by simp, fun j hj => ?_⟩⟩
  obtain rfl : j = 0 := by omega
  have hr : rowN (w.alloc (.cells #[.int .i64 1] 3)) w.heap.size = some #[.int .i64 1] := by rw [rowN_alloc, if_pos rfl]
  have hc := (rowN_cell hr).1 0
  rw [Nat.zero_add, hc]
  rfl

def ExpRel (v e m : Nat) (w : World) (so si : Value) (wr : World) : Prop :=
  ∃ k, k ≤ dlen 2 e ∧ si = .int .i64 ((k : Int) - 1) ∧ RefN (v ^ (e / 2 ^ k) % m) so wr ∧ Below w.heap.size w wr

set_option maxRecDepth 100000 in
set_option maxHeartbeats 1000000 in
theorem rmexp_any (v e m : Nat) (s x t : Value) (w : World) (hs : RefN v s w) (hx : RefN e x w) (ht : RefN m t w) (hv : v < P64 ^ 16) (he : e < P64 ^ 16) (hm : m < P64 ^ 16) (h0 : 0 < m) :
    Calls Try.prog 24 #[s, x, t] w fun e' w' => ∃ r, e' = .returned r ∧ RefN (v ^ e % m) r w' ∧ Below w.heap.size w w' := by
  have HM := Lib.hid (fun a b s t z W (hs : RefN a s W) (ht : RefN b t W) (hz : RefN m z W) (ha : a < P64 ^ 16) (hb : b < P64 ^ 16) => rmmul_any a b m s t z W hs ht hz (sm16 ha) (sm16 hb) h0 (sm16 hm) (sm16_mul ha hb))
  have HR := Lib.hid (fun s z W (hs : DigN 1 1 s W) (hz : RefN m z W) => rred_any 1 m 1 s z W hs (by omega) hz h0 (sm16 hm))
  have HS := Lib.hid hs
  have HX := Lib.hid hx
  have HT := Lib.hid ht
  have HMM := Lib.hid (fun a => Nat.lt_trans (Nat.mod_lt a h0) hm)
  have HV := Lib.hid hv
  have hL2 := dlen2_le he
  have HBL := Lib.hid (fun W (h : RefN e x W) => rbitLen_any e _ x W h (Nat.le_trans (dlen16 he) (by omega)))
  have HBI := Lib.hid (fun (i : Nat) (hi : i ≤ 9223372036854775807) W (h : RefN e x W) => rbit_any e _ i x W h hi)
  clear hs hx ht hv he hm h0
  obtain ⟨L, hL⟩ : ∃ L, dlen 2 e = L := ⟨_, rfl⟩
  have HLL := Lib.hid hL
  rw [hL] at HBL hL2
  clear hL
  go_enter Try.func24, Try.ntmps24
  go_wp2_with fail
  have hb1 : Below w.heap.size w (w.alloc (.cells #[.int .i64 1] 3)) := (Below.refl _ w).alloc (Nat.le_refl _) _
  refine (HR.out _ _ _ (oneD w) (HT.out.kept hb1)).mono ?_
  rintro e' w1 ⟨o, rfl, ho, hb⟩
  have HO := Lib.hid ho
  have HB1 := Lib.hid (hb1.trans (hb.mono hb1.size))
  clear ho hb hb1
  go_wp2_with fail
  refine (HBL.out _ (HX.out.kept HB1.out)).mono ?_
  rintro e' w2 ⟨rfl, hw⟩
  subst hw
  go_wp2_with fail
  go_loopw [7, 8] (fun so si wr => ExpRel v e m w so si wr) (fun _ si _ => (intOf si + 1).toNat)
  case atStart =>
    refine ⟨L, Nat.le_of_eq HLL.out.symm, rfl, ?_, HB1.out⟩
    have h1 := lt_dlen (show 2 ≤ 2 by omega) e
    rw [HLL.out] at h1
    rw [Nat.div_eq_of_lt h1, Nat.pow_zero]
    exact HO.out
  case round =>
    obtain ⟨k, hk, rfl, ho, hbel⟩ := hrel
    have HO2 := Lib.hid ho
    have HB2 := Lib.hid hbel
    have hkL : k ≤ L := by have := HLL.out; omega
    clear ho hbel hk
    cases k with
    | zero =>
      go_wp2_with fail
      go_ret
      refine ⟨_, rfl, ?_, HB2.out⟩
      have := HO2.out
      rw [Nat.pow_zero, Nat.div_one] at this
      exact this
    | succ j =>
      have e1 : ((j + 1 : Nat) : Int) - 1 = (j : Int) := by omega
      rw [e1]
      clear e1
      have HST := Lib.hid (pow_step v e m j)
      have hol := HMM.out (v ^ (e / 2 ^ (j + 1)))
      generalize v ^ (e / 2 ^ (j + 1)) % m = o2 at *
      have HOL := Lib.hid hol
      have hql := HMM.out (o2 * o2)
      obtain ⟨q2, hq2⟩ : ∃ q2, o2 * o2 % m = q2 := ⟨_, rfl⟩
      rw [hq2] at hql HST
      have HQL := Lib.hid hql
      have HQ2 := Lib.hid hq2
      clear hol hql hq2
      go_wp2_with fail
      refine (HM.out o2 o2 _ _ _ _ HO2.out HO2.out (HT.out.kept HB2.out) HOL.out HOL.out).mono ?_
      rintro e' w3 ⟨o3, rfl, ho, hb⟩
      rw [HQ2.out] at ho
      have HO3 := Lib.hid ho
      have HB3 := Lib.hid (HB2.out.trans (hb.mono HB2.out.size))
      clear ho hb
      go_wp2_with fail
      refine (HBI.out j (by omega) _ (HX.out.kept HB3.out)).mono ?_
      rintro e' w4 ⟨rfl, hw⟩
      subst hw
      have hlt : e / 2 ^ j % 2 < 2 := Nat.mod_lt _ (by omega)
      obtain ⟨bt, hbt⟩ : ∃ bt, e / 2 ^ j % 2 = bt := ⟨_, rfl⟩
      rw [hbt] at HST hlt ⊢
      clear hbt
      by_cases hb1 : bt = 1
      · have HR4 := Lib.hid (show v ^ (e / 2 ^ j) % m = q2 * v % m by rw [HST.out, if_pos hb1])
        subst hb1
        go_wp2_with fail
        refine (HM.out q2 v _ _ _ _ HO3.out (HS.out.kept HB3.out) (HT.out.kept HB3.out) HQL.out HV.out).mono ?_
        rintro e' w5 ⟨o5, rfl, ho, hb⟩
        rw [← HR4.out] at ho
        have HO5 := Lib.hid ho
        have HB5 := Lib.hid (HB3.out.trans (hb.mono HB3.out.size))
        clear ho hb
        go_wp2_with fail
        exact ⟨⟨j, by rw [HLL.out]; omega, rfl, HO5.out, HB5.out⟩, by simp only [intOf]; omega⟩
      · have hb0 : bt = 0 := by omega
        have HR4 := Lib.hid (show v ^ (e / 2 ^ j) % m = q2 by rw [HST.out, if_neg hb1])
        subst hb0
        clear hb1
        go_wp2_with fail
        exact ⟨⟨j, by rw [HLL.out]; omega, rfl, by rw [HR4.out]; exact HO3.out, HB3.out⟩, by simp only [intOf]; omega⟩
end Go.Proofs.Ytlmfiggmjpjpiaa
