/- What divideShort, Divide by one digit, and GCD come to. -/
import Derived.Test.YtlmfiggmjpjpiaaC8
import Derived.Test.YtlmfiggmjpjpiaaZMath
import Derived.Deep.QuietTactic
import Derived.BigQuiet
namespace Go.Proofs.Ytlmfiggmjpjpiaa
open Go.RowKit

/-- Nothing that was there has turned. -/
abbrev Same (W W' : World) : Prop := Ch (fun _ => False) W W'

set_option maxRecDepth 100000 in
theorem div64_low (lo y : Int) (h0 : 0 ≤ lo) (h1 : lo ≤ 18446744073709551615) (hy : 0 < y) (hy1 : y ≤ 18446744073709551615) (w : World) :
    Calls Try.prog 85 #[.int .u64 0, .int .u64 lo, .int .u64 y] w fun e w' => e = .returned (.tuple #[.int .u64 (lo / y), .int .u64 (lo % y)]) ∧ ∃ n, w' = w.drewN n := by
  have hy0 : (y == 0) = false := by simp; omega
  have hyle : ¬ y ≤ 0 := by omega
  go_enter Try.func85, Try.ntmps85
  go_wp2_with fail
  go_quiet (fail)
  go_wp2_with fail
  go_ret2
  exact ⟨rfl, _, rfl⟩

theorem Ch.drewN (S : Nat → Prop) (W : World) (n : Nat) : Ch S W (W.drewN n) := ⟨rfl, rfl, rfl, Nat.le_refl _, fun _ _ _ => rfl⟩

/-- What the loop holds when m digits are still to come. -/
def ShRel (v b Q : Nat) (w : World) (s r : Value) (wr : World) : Prop :=
  ∃ m : Nat, m ≤ natLen v ∧ s = .int .i64 ((m : Int) - 1) ∧ r = .int .u64 (v / P64 ^ m % b : Nat) ∧ rowN wr w.heap.size = some (natA v) ∧ rowN wr (w.heap.size + 1) = some (natA (hiDg P64 Q m)) ∧ rowN wr (w.heap.size + 1 + 1) = some (natA 0) ∧
    Below w.heap.size w wr ∧ w.heap.size + 1 + 1 < wr.heap.size

set_option maxRecDepth 100000 in
theorem divideShort_any (v b : Nat) (hv : v < P64 ^ 16) (hb : 0 < b) (hb1 : b < P64)
    (hD : ∀ i, i < natLen v → ∀ W, Calls Try.prog 85 #[.int .u64 (v / P64 ^ (i + 1) % b : Nat), .int .u64 (dgt P64 v i : Nat), .int .u64 (b : Nat)] W fun e W' =>
      e = .returned (.tuple #[.int .u64 (((v / P64 ^ (i + 1) % b) * P64 + dgt P64 v i) / b : Nat), .int .u64 (((v / P64 ^ (i + 1) % b) * P64 + dgt P64 v i) % b : Nat)]) ∧ Same W W')
    (w : World) : Calls Try.prog 72 #[.agg (natA v), .int .u64 (b : Nat)] w fun e w' =>
      e = .returned (.tuple #[.agg (natA (v / b)), .agg (natA (v % b))]) ∧ Below w.heap.size w w' := by
  have hlen : natLen v ≤ 16 := dlen_le (by rw [P64_eq]; decide) hv
  have hlt := lt_dlen (show 2 ≤ P64 by rw [P64_eq]; decide) v
  have HD := Lib.hid hD
  have HV := Lib.hid hv
  have HB := Lib.hid hb1
  have HLT := Lib.hid (show v < P64 ^ natLen v from hlt)
  clear hD hv hlt hb1
  go_enter Try.func72, Try.ntmps72
  go_wp2_with fail
  refine (length_any v HV.out _).mono ?_
  rintro e w1 ⟨rfl, hb1⟩
  have hrow := brow hb1
  have hA : rowN w1 w.heap.size = some (natA v) := by
    rw [hrow _ (by simp; omega)]; simp only [rowN_alloc, World.size_alloc, if_true] <;> (repeat rw [if_neg (by omega)])
  have hQ : rowN w1 (w.heap.size + 1) = some (natA 0) := by
    rw [hrow _ (by simp)]; simp only [rowN_alloc, World.size_alloc, if_true] <;> (repeat rw [if_neg (by omega)])
  have hR : rowN w1 (w.heap.size + 1 + 1) = some (natA 0) := by
    rw [hrow _ (by simp)]; simp only [rowN_alloc, World.size_alloc, if_true] <;> (repeat rw [if_neg (by omega)])
  have hbel : Below w.heap.size w w1 := ((((Below.refl _ _).alloc (Nat.le_refl _) _).alloc (by simp) _).alloc (by simp; omega) _).trans (hb1.mono (by simp; omega))
  have hsz : w.heap.size + 1 + 1 < w1.heap.size := by have := hb1.size; simp at this; omega
  have HA := Lib.hid hA
  have HQ := Lib.hid hQ
  have HR := Lib.hid hR
  have HBel := Lib.hid hbel
  have HS := Lib.hid hsz
  clear hA hQ hR hbel hrow hb1 hsz
  go_wp2_with fail
  go_loopw [7, 6] (fun s r wr => ShRel v b (v / b) w s r wr) (fun s _ _ => (intOf s + 1).toNat)
  case atStart =>
    refine ⟨natLen v, Nat.le_refl _, rfl, ?_, HA.out, ?_, HR.out, HBel.out, HS.out⟩
    · rw [Nat.div_eq_of_lt HLT.out, Nat.zero_mod]; rfl
    · rw [hiDg_top (Nat.lt_of_le_of_lt (Nat.div_le_self _ _) HLT.out)]; exact HQ.out
  case round =>
    obtain ⟨m, hm, rfl, rfl, hA, hQ, hR, hbel, hsz⟩ := hrel
    have HA := Lib.hid hA
    have HQ := Lib.hid hQ
    have HR := Lib.hid hR
    have HBel := Lib.hid hbel
    have HS := Lib.hid hsz
    clear hA hQ hR hbel hsz
    cases m with
    | zero =>
      have hr0 : v / P64 ^ 0 % b = v % b := by rw [Nat.pow_zero, Nat.div_one]
      have hrb : v % b < b := Nat.mod_lt _ hb
      have hrl : ((v % b : Nat) : Int) ≤ 18446744073709551615 := by have := HB.out; rw [P64_eq] at this; omega
      rw [hr0]
      clear hr0 hrb
      generalize hr : v % b = r at *
      have HRR := Lib.hid hr
      clear hr
      have hQ := HQ.out
      rw [hiDg_zero] at hQ
      have hR := HR.out
      go_wp2_with fail
      refine ret_nat_nat _ _ (natA (v / b)) (natA r) rfl rfl rfl rfl ?_ (natA_size _) ?_ (natA_size _) ?_
      · simp [rowN_setRow, hQ]
      · simp [rowN_setRow, hR]
      · rw [HRR.out]
        exact ⟨rfl, below_setRow' (below_setRow' HBel.out (by omega) _) (by omega) _⟩
    | succ i =>
      have hi16 : i < 16 := by omega
      have e1 : ((i + 1 : Nat) : Int) - 1 = (i : Int) := by omega
      rw [e1]
      clear e1
      have hst := short_step P64_pos v b i hb
      have hD1 := HD.out i (by omega) wr
      rw [hst.1, hst.2] at hD1
      clear hst
      generalize v / P64 ^ (i + 1) % b = r1 at *
      generalize hr2 : v / P64 ^ i % b = r2 at *
      generalize hq : dgt P64 (v / b) i = q at *
      have HR2 := Lib.hid hr2
      have HQQ := Lib.hid hq
      have HD1 := Lib.hid hD1
      clear hr2 hq hD1
      have hcell := ((rowN_cell HA.out).1 i).trans (natA_get v i hi16)
      go_wp2_with fail
      refine HD1.out.mono ?_
      rintro e w2 ⟨rfl, hsame⟩
      have hA2 := (hsame.row (rowN_lt HA.out) (fun h => h)).trans HA.out
      have hQ2 := (hsame.row (rowN_lt HQ.out) (fun h => h)).trans HQ.out
      have hR2 := (hsame.row (rowN_lt HR.out) (fun h => h)).trans HR.out
      have hbel2 := HBel.out.trans (hsame.below w.heap.size HBel.out.size (fun _ h => h.elim))
      have hsz2 : w.heap.size + 1 + 1 < w2.heap.size := Nat.lt_of_lt_of_le HS.out hsame.size
      have hold := ((rowN_cell hQ2).1 i).trans (natA_get _ i hi16)
      have hfro := (rowN_cell hQ2).2 i
      have HA2 := Lib.hid hA2
      have HQ2 := Lib.hid hQ2
      have HRR2 := Lib.hid hR2
      have HB2 := Lib.hid hbel2
      have HS2 := Lib.hid hsz2
      clear hA2 hQ2 hR2 hbel2 hsz2 hsame
      go_wp2_with fail
      refine ⟨⟨i, by omega, rfl, by rw [HR2.out], ?_, ?_, ?_, HB2.out.setCell (by show w.heap.size ≤ w.heap.size + 1; omega) _, by simpa [World.setCell] using HS2.out⟩, by simp [intOf]⟩
      · rw [rowN_setCell, if_neg (by show ¬ w.heap.size = w.heap.size + 1; omega)]; exact HA2.out
      · rw [rowN_setCell, if_pos rfl, HQ2.out]
        simp only [Option.map_some, Option.isSome_none, Bool.false_eq_true, if_false]
        have hz : dgt P64 (hiDg P64 (v / b) (i + 1)) i = 0 := dgt_hiDg P64_pos
        have hd : dgt P64 (v / b) i < P64 := dgt_lt P64_pos
        have hsum : dgt P64 (hiDg P64 (v / b) (i + 1)) i + dgt P64 (v / b) i < P64 := by omega
        have hs := natA_set (hiDg P64 (v / b) (i + 1)) (hiDg P64 (v / b) i) i hi16 (fun j _ hj => by rw [hiDg_step (i := i)]; exact dgt_add_other P64_pos hsum hj)
        have hdi : dgt P64 (hiDg P64 (v / b) i) i = q := by rw [hiDg_step (i := i), dgt_add_same P64_pos hsum, hz, Nat.zero_add, HQQ.out]
        rw [hdi] at hs
        rw [hs]
      · rw [rowN_setCell, if_neg (by show ¬ w.heap.size + 1 + 1 = w.heap.size + 1; omega)]; exact HRR2.out

theorem divideShort_small (v b : Nat) (hv : v < P64) (hb : 0 < b) (hb1 : b < P64) (w : World) : Calls Try.prog 72 #[.agg (natA v), .int .u64 (b : Nat)] w fun e w' =>
      e = .returned (.tuple #[.agg (natA (v / b)), .agg (natA (v % b))]) ∧ Below w.heap.size w w' := by
  have hl : natLen v ≤ 1 := dlen_le (by rw [P64_eq]; decide) (by rw [Nat.pow_one]; exact hv)
  have hv16 : v < P64 ^ 16 := by
    have h1 : P64 ^ 1 ≤ P64 ^ 16 := Nat.pow_le_pow_right P64_pos (by omega)
    rw [Nat.pow_one] at h1
    omega
  refine divideShort_any v b hv16 hb hb1 (fun i hi W => ?_) w
  obtain rfl : i = 0 := by omega
  have e0 : v / P64 ^ (0 + 1) % b = 0 := by rw [Nat.zero_add, Nat.pow_one, Nat.div_eq_of_lt hv, Nat.zero_mod]
  have hd : dgt P64 v 0 < P64 := dgt_lt P64_pos
  rw [P64_eq] at hd hb1
  rw [e0]
  refine (div64_low (dgt P64 v 0 : Nat) (b : Nat) (by omega) (by rw [P64_eq]; omega) (by omega) (by omega) W).mono ?_
  rintro e W' ⟨rfl, n, rfl⟩
  refine ⟨?_, Ch.drewN _ _ _⟩
  rw [Nat.zero_mul, Nat.zero_add]
  simp
end Go.Proofs.Ytlmfiggmjpjpiaa
