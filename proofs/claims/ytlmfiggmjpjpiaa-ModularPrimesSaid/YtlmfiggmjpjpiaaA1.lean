/- The modulus: made, residues, sums and differences of residues. -/
import Derived.Test.YtlmfiggmjpjpiaaMK
import Derived.Test.YtlmfiggmjpjpiaaF0
import Derived.Test.YtlmfiggmjpjpiaaC3
import Derived.Test.YtlmfiggmjpjpiaaC9
import Derived.Test.YtlmfiggmjpjpiaaP4
namespace Go.Proofs.Ytlmfiggmjpjpiaa
open Go.RowKit

theorem zero_lt16 {x : Nat} (h : x = 0) : x < P64 ^ 16 := by rw [h]; exact p64_16_pos

set_option maxRecDepth 100000 in
theorem newMod_zero (w : World) : Calls Try.prog 35 #[.agg (natA 0)] w fun e w' => e = .returned (.tuple #[.agg (natA 0), .int .i64 2]) ∧ Below w.heap.size w w' := by
  have HZ := Lib.hid natEq_zero
  go_enter Try.func35, Try.ntmps35
  go_wp2_with fail
  refine (isZero_any 0 _).mono ?_
  rintro e w1 ⟨rfl, hb⟩
  rw [HZ.out]
  have hb0 : Below w.heap.size w ((w.alloc (.cells (natA 0) 28)).alloc (.cells (natA 0) 58)) := ((Below.refl _ w).alloc (Nat.le_refl _) _).alloc (by simp) _
  have hR := kept hb (w.heap.size + 1) (natA 0) (by rw [rowN_alloc, if_pos (by simp)])
  have HB := Lib.hid (hb0.trans (hb.mono hb0.size))
  clear hb hb0
  go_wp2_with fail
  exact ret_mod_tmp _ (natA 0) rfl rfl rfl (by rw [rowN_setRow, if_pos rfl, hR]; rfl) (natA_size _) ⟨rfl, below_setRow' HB.out (by omega) _⟩

set_option maxRecDepth 100000 in
theorem newMod_pos (m : Nat) (hm : m < P64 ^ 16) (h0 : m ≠ 0) (w : World) : Calls Try.prog 35 #[.agg (natA m)] w fun e w' => e = .returned (.tuple #[.agg (natA m), .int .i64 0]) ∧ Below w.heap.size w w' := by
  have HZ := Lib.hid (natEq_pos hm h0)
  clear hm h0
  go_enter Try.func35, Try.ntmps35
  go_wp2_with fail
  refine (isZero_any m _).mono ?_
  rintro e w1 ⟨rfl, hb⟩
  rw [HZ.out]
  have hb0 : Below w.heap.size w ((w.alloc (.cells (natA m) 28)).alloc (.cells (natA 0) 58)) := ((Below.refl _ w).alloc (Nat.le_refl _) _).alloc (by simp) _
  have hA := kept hb w.heap.size (natA m) (by rw [rowN_alloc, if_neg (by simp), rowN_alloc, if_pos rfl])
  have hR := kept hb (w.heap.size + 1) (natA 0) (by rw [rowN_alloc, if_pos (by simp)])
  have HB := Lib.hid (hb0.trans (hb.mono hb0.size))
  clear hb hb0
  go_wp2_with fail
  exact ret_mod_tmp _ (natA m) rfl rfl rfl (by rw [rowN_setRow, if_pos rfl, hR]; rfl) (natA_size _) ⟨rfl, below_setRow' HB.out (by omega) _⟩

/-- Three numbers in new blocks, and a fourth. -/
theorem residue_any (m v : Nat) (hm : m < P64 ^ 16) (h0 : 0 < m) (hv : v < P64 ^ 16) (w : World) : Calls Try.prog 36 #[.agg (natA m), .agg (natA v)] w fun e w' => e = .returned (.agg (natA (v % m))) ∧ Below w.heap.size w w' := by
  have HD := Lib.hid (fun W => divide_full v m hv hm h0 W)
  clear hm h0 hv
  generalize v % m = r at *
  generalize v / m = q at *
  have hb0 : Below w.heap.size w (((w.alloc (.cells (natA m) 58)).alloc (.cells (natA v) 28)).alloc (.cells (natA 0) 28)) := (((Below.refl _ w).alloc (Nat.le_refl _) _).alloc (by simp) _).alloc (by simp <;> omega) _
  have hR0 : rowN (((w.alloc (.cells (natA m) 58)).alloc (.cells (natA v) 28)).alloc (.cells (natA 0) 28)) (w.heap.size + 1 + 1) = some (natA 0) := by rw [rowN_alloc, if_pos (by simp)]
  have HB0 := Lib.hid hb0
  have HR0 := Lib.hid hR0
  clear hb0 hR0
  go_enter Try.func36, Try.ntmps36
  go_wp2_with fail
  refine (HD.out _).mono ?_
  rintro e w1 ⟨rfl, hb⟩
  have hR := kept hb _ _ HR0.out
  have lR := rowN_lt hR
  have HB := Lib.hid (HB0.out.trans (hb.mono HB0.out.size))
  clear hb
  go_wp2_with fail
  have hb2 : Below w1.heap.size w1 ((((w1.alloc (.cells (natA 0) 28)).alloc (.cells (natA 0) 28)).setRow w1.heap.size (natA q)).setRow (w1.heap.size + 1) (natA r)) :=
    below_setRow' (below_setRow' (((Below.refl _ w1).alloc (Nat.le_refl _) _).alloc (by simp) _) (Nat.le_refl _) _) (by omega) _
  exact ret_nat _ (natA r) rfl rfl rfl (by rw [rowN_setRow, if_pos rfl, brow hb2 _ lR, hR]; rfl) (natA_size _) ⟨rfl, below_setRow' (HB.out.trans (hb2.mono HB.out.size)) (by omega) _⟩
end Go.Proofs.Ytlmfiggmjpjpiaa
