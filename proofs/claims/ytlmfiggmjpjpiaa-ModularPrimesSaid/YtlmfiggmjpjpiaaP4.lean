/- Divide, GCD, the reference's GCD; NatDivides, walked. -/
import Derived.Test.YtlmfiggmjpjpiaaG5
import Derived.Test.YtlmfiggmjpjpiaaG1
import Derived.Test.YtlmfiggmjpjpiaaD2
import Derived.Test.YtlmfiggmjpjpiaaP2
import Derived.Deep.LoopGhost
namespace Go.Proofs.Ytlmfiggmjpjpiaa
open Go.RowKit

theorem divideShort_full (v b : Nat) (hv : v < P64 ^ 16) (hb : 0 < b) (hb1 : b < P64) (w : World) : Calls Try.prog 72 #[.agg (natA v), .int .u64 (b : Nat)] w fun e w' =>
      e = .returned (.tuple #[.agg (natA (v / b)), .agg (natA (v % b))]) ∧ Below w.heap.size w w' :=
  divideShort_any v b hv hb hb1 (fun i _ W => (div64_any _ _ b (Nat.mod_lt _ hb) hb1 (dgt_lt P64_pos) W).mono (by
    rintro e W' ⟨rfl, n, rfl⟩
    exact ⟨rfl, Ch.drewN _ _ _⟩)) w

set_option maxRecDepth 100000 in
theorem divide_long (v u : Nat) (hu : u < P64 ^ 16) (hn : 2 ≤ natLen u)
    (hS : ∀ W, Calls Try.prog 73 #[.agg (natA v), .agg (natA u)] W fun e W' => e = .returned (.tuple #[.agg (natA (v / u)), .agg (natA (v % u))]) ∧ Below W.heap.size W W')
    (w : World) : Calls Try.prog 56 #[.agg (natA v), .agg (natA u)] w fun e w' =>
    e = .returned (.tuple #[.agg (natA (v / u)), .agg (natA (v % u)), .int .i64 0]) ∧ Below w.heap.size w w' := by
  have HU := Lib.hid (length_any u hu)
  generalize natLen u = n at *
  have HS := Lib.hid hS
  clear hS hu
  generalize v / u = q at *
  generalize v % u = r at *
  have n0 : ((n : Int) == 0) = false := by simp; omega
  have n1 : ((n : Int) == 1) = false := by simp; omega
  go_enter Try.func56, Try.ntmps56
  go_wp2_with fail
  refine (HU.out _).mono ?_
  rintro e w1 ⟨rfl, hb1⟩
  have hrow := brow hb1
  have hA : rowN w1 w.heap.size = some (natA v) := by
    rw [hrow _ (by simp <;> omega)]; simp only [rowN_alloc, World.size_alloc, if_true] <;> (repeat rw [if_neg (by omega)])
  have hB : rowN w1 (w.heap.size + 1) = some (natA u) := by
    rw [hrow _ (by simp <;> omega)]; simp only [rowN_alloc, World.size_alloc, if_true] <;> (repeat rw [if_neg (by omega)])
  have hQ : rowN w1 (w.heap.size + 1 + 1) = some (natA 0) := by
    rw [hrow _ (by simp)]; simp only [rowN_alloc, World.size_alloc, if_true] <;> (repeat rw [if_neg (by omega)])
  have hR : rowN w1 (w.heap.size + 1 + 1 + 1) = some (natA 0) := by
    rw [hrow _ (by simp)]; simp only [rowN_alloc, World.size_alloc, if_true] <;> (repeat rw [if_neg (by omega)])
  have hbel : Below w.heap.size w w1 := (((((Below.refl _ _).alloc (Nat.le_refl _) _).alloc (by simp) _).alloc (by simp; omega) _).alloc (by simp; omega) _).trans (hb1.mono (by simp; omega))
  have hsz : w.heap.size + 1 + 1 + 1 < w1.heap.size := by have := hb1.size; simp at this; omega
  have HBel := Lib.hid hbel
  have HQ := Lib.hid hQ
  have HR := Lib.hid hR
  clear hbel hrow hb1 hQ hR
  go_wp2_with fail
  refine (HS.out _).mono ?_
  rintro e w2 ⟨rfl, hb2⟩
  have hQ2 : rowN w2 (w.heap.size + 1 + 1) = some (natA 0) := by rw [brow hb2 _ (by omega)]; exact HQ.out
  have hR2 : rowN w2 (w.heap.size + 1 + 1 + 1) = some (natA 0) := by rw [brow hb2 _ (by omega)]; exact HR.out
  have HB2 := Lib.hid (HBel.out.trans (hb2.mono (by omega)))
  clear hb2 hA hB hsz
  go_wp2_with fail
  go_region
  go_wp2_with fail
  exact ret_nat_nat_tmp _ _ (natA q) (natA r) rfl rfl rfl rfl (by simp [rowN_setRow, rowN_drew, hQ2]) (natA_size _) (by simp [rowN_setRow, rowN_drew, hR2]) (natA_size _)
    ⟨rfl, below_setRow' (below_setRow' (Below.drew (below_setRow' (below_setRow' HB2.out (by omega) _) (by omega) _)) (by omega) _) (by omega) _⟩

theorem divide_full (v u : Nat) (hv : v < P64 ^ 16) (hu : u < P64 ^ 16) (h0 : 0 < u) (w : World) : Calls Try.prog 56 #[.agg (natA v), .agg (natA u)] w fun e w' =>
    e = .returned (.tuple #[.agg (natA (v / u)), .agg (natA (v % u)), .int .i64 0]) ∧ Below w.heap.size w w' := by
  by_cases h1 : u < P64
  · exact divide_short v u h0 h1 (fun W => divideShort_full v u hv h0 h1 W) w
  · have hn : 2 ≤ natLen u := by
      have hp := natLen_pow (v := u)
      rcases Nat.lt_or_ge (natLen u) 2 with h | h
      · exfalso
        have h2 : P64 ^ natLen u ≤ P64 ^ 1 := Nat.pow_le_pow_right P64_pos (by omega)
        rw [Nat.pow_one] at h2
        omega
      · exact h
    have hd0 : 0 < dgt P64 u (natLen u - 1) := by
      have h2 := natLen_pos (v := u) (by omega)
      have h3 := natLen_pow (v := u)
      unfold dgt
      rw [Nat.mod_eq_of_lt (by
        rw [Nat.div_lt_iff_lt_mul (Nat.pow_pos P64_pos), Nat.mul_comm, ← Nat.pow_succ, show (natLen u - 1).succ = natLen u by omega]; exact h3)]
      exact Nat.div_pos h2 (Nat.pow_pos P64_pos)
    have hd1 : dgt P64 u (natLen u - 1) < P64 := dgt_lt P64_pos
    obtain ⟨b1, b2, b3⟩ := Lib.bitLenAux_bounds 64 _ (by rw [← P64_pow]; exact hd1) (by omega)
    have hb' : Lib.bitLenAux 64 (dgt P64 u (natLen u - 1)) = Lib.bitLen (dgt P64 u (natLen u - 1)) := rfl
    rw [hb'] at b1 b2 b3
    have hb2 : Lib.bitLen (dgt P64 u (natLen u - 1)) ≤ 64 := by
      have h2 : 2 ^ (Lib.bitLen (dgt P64 u (natLen u - 1)) - 1) < 2 ^ 64 := Nat.lt_of_le_of_lt b2 (by rw [← P64_pow]; exact hd1)
      have h3 := (Nat.pow_lt_pow_iff_right (show 1 < 2 by omega)).1 h2
      omega
    exact divide_long v u hu hn (fun W => divideLong_any v u (64 - Lib.bitLen (dgt P64 u (natLen u - 1))) hv hu hn (by omega) (by omega) W) w

theorem gcd_full (v u : Nat) (hv : v < P64 ^ 16) (hu : u < P64 ^ 16) (w : World) : Calls Try.prog 32 #[.agg (natA v), .agg (natA u)] w fun e w' => e = .returned (.agg (natA (Nat.gcd v u))) ∧ Below w.heap.size w w' :=
  gcd_any (P64 ^ 16) (Nat.le_refl _) (fun x y W hx hy hyM => divide_full x y hx hyM hy W) v u hv hu w
end Go.Proofs.Ytlmfiggmjpjpiaa

namespace Go.Proofs.Ytlmfiggmjpjpiaa
open Go.RowKit

def RGcdRel (g : Nat) (w : World) (k : Nat) (sa sb : Value) (wr : World) : Prop :=
  ∃ x, x < 65536 ^ 64 ∧ k < 65536 ^ 64 ∧ Nat.gcd x k = g ∧ RefN x sa wr ∧ RefN k sb wr ∧ Below w.heap.size w wr

end Go.Proofs.Ytlmfiggmjpjpiaa

namespace Go.Proofs.Ytlmfiggmjpjpiaa
open Go.RowKit

theorem two_st0 (W : World) (x y : Nat) : rowN ((((W.alloc (.cells (natA 0) 28)).alloc (.cells (natA 0) 28)).setRow W.heap.size (natA x)).setRow (W.heap.size + 1) (natA y)) W.heap.size = some (natA x) ∧
    rowN ((((W.alloc (.cells (natA 0) 28)).alloc (.cells (natA 0) 28)).setRow W.heap.size (natA x)).setRow (W.heap.size + 1) (natA y)) (W.heap.size + 1) = some (natA y) ∧
    Below W.heap.size W ((((W.alloc (.cells (natA 0) 28)).alloc (.cells (natA 0) 28)).setRow W.heap.size (natA x)).setRow (W.heap.size + 1) (natA y)) := by
  refine ⟨?_, ?_, below_setRow' (below_setRow' (((Below.refl _ _).alloc (Nat.le_refl _) _).alloc (by simp) _) (Nat.le_refl _) _) (by omega) _⟩
  · rw [rowN_setRow, if_neg (by omega), rowN_setRow, if_pos rfl, rowN_alloc, if_neg (by simp), rowN_alloc, if_pos rfl]; rfl
  · rw [rowN_setRow, if_pos rfl, rowN_setRow, if_neg (by omega), rowN_alloc, if_pos (by simp)]; rfl

theorem gcd_le16 {v u : Nat} (hv : v < P64 ^ 16) (hu : u < P64 ^ 16) : Nat.gcd v u < P64 ^ 16 := by
  rcases Nat.eq_zero_or_pos u with rfl | h
  · rw [Nat.gcd_zero_right]; exact hv
  · exact Nat.lt_of_le_of_lt (Nat.gcd_le_right _ h) hu

end Go.Proofs.Ytlmfiggmjpjpiaa

