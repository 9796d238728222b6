/- widened and narrowed. -/
import Derived.Test.YtlmfiggmjpjpiaaWideKit
import Derived.IntWalk
import Derived.Deep.RegionHeld3
namespace Go.Proofs.Ytlmfiggmjpjpiaa
open Go.RowKit

set_option maxRecDepth 100000 in
theorem widened_any (v s : Nat) (hv : v < P64 ^ 16) (hs : s < 64) (w : World) : Calls Try.prog 86 #[.agg (natA v), .int .i64 (s : Nat)] w fun e w' =>
    e = .returned (.agg (wdA 17 (v * 2 ^ s))) ∧ Below w.heap.size w w' := by
  have HV := Lib.hid hv
  have hG : rowN ((w.alloc (.cells (natA v) 26)).alloc (.cells (wdA 17 0) 104)) (w.heap.size + 1) = some (wdA 17 0) := by
    simp only [rowN_alloc, World.size_alloc, if_true] <;> (repeat rw [if_neg (by omega)])
  have hV0 : rowN ((w.alloc (.cells (natA v) 26)).alloc (.cells (wdA 17 0) 104)) w.heap.size = some (natA v) := by
    simp only [rowN_alloc, World.size_alloc, if_true] <;> (repeat rw [if_neg (by omega)])
  have hB0 : Below w.heap.size w ((w.alloc (.cells (natA v) 26)).alloc (.cells (wdA 17 0) 104)) := ((Below.refl _ _).alloc (Nat.le_refl _) _).alloc (by simp) _
  have HG := Lib.hid hG
  have HB := Lib.hid hB0
  clear hv hG hB0
  go_enter Try.func86, Try.ntmps86
  go_wp2_with fail
  clear hV0
  go_loopw [5, 9] (fun l i wr => ∃ k : Nat, k ≤ 16 ∧ i = .int .i64 (k : Nat) ∧ l = .int .u64 (mulC P64 v (2 ^ s) k : Nat) ∧ rowN wr (w.heap.size + 1) = some (wdA 17 (v * 2 ^ s % P64 ^ k)) ∧ Below w.heap.size w wr)
    (fun _ i _ => 16 - (intOf i).toNat)
  case atStart => exact ⟨0, by omega, rfl, by rw [mulC_zero]; rfl, by rw [Nat.pow_zero, Nat.mod_one]; exact HG.out, HB.out⟩
  case round =>
    obtain ⟨k, hk, rfl, rfl, hr, hb⟩ := hrel
    have HR := Lib.hid hr
    have HBB := Lib.hid hb
    by_cases hlt : k < 16
    · obtain ⟨e1, e2⟩ := up_step (v := v) (i := k) hs
      have hidx := fun W => run_index26 v k hlt W
      have hcell := (rowN_cell hr).1 k
      rw [wdA_get _ _ _ (by omega)] at hcell
      have hfro := (rowN_cell hr).2 k
      obtain ⟨x, hx⟩ : ∃ x, dgt P64 v k = x := ⟨_, rfl⟩
      have hxl : x ≤ 18446744073709551615 := by have : x < P64 := by rw [← hx]; exact dgt_lt P64_pos
                                                rw [P64_eq] at this; omega
      obtain ⟨l2, hl2⟩ : ∃ l2, mulC P64 v (2 ^ s) (k + 1) = l2 := ⟨_, rfl⟩
      obtain ⟨l, hl⟩ : ∃ l, mulC P64 v (2 ^ s) k = l := ⟨_, rfl⟩
      obtain ⟨d, hd⟩ : ∃ d, dgt P64 (v * 2 ^ s) k = d := ⟨_, rfl⟩
      rw [hx] at hidx e1 e2
      rw [hl, hd] at e1
      rw [hl2] at e2
      rw [hl]
      have HL2 := Lib.hid hl2
      have HD := Lib.hid hd
      have hi2 : (k : Int) < 17 := by omega
      clear hr hb hx hl2 hl hd
      go_wp2_with fail
      refine ⟨⟨k + 1, by omega, rfl, by rw [HL2.out], ?_, HBB.out.setCell (by show w.heap.size ≤ w.heap.size + 1; omega) _⟩, by simp [intOf]; omega⟩
      rw [rowN_setCell, if_pos rfl, HR.out, ← low_set P64_pos, HD.out, ← wdA_setD 17 _ k d (by rw [← HD.out]; exact dgt_lt P64_pos)]
      rfl
    · obtain rfl : k = 16 := by omega
      have hcell := (rowN_cell hr).1 16
      rw [wdA_get _ _ _ (by omega)] at hcell
      have hfro := (rowN_cell hr).2 16
      obtain ⟨l, hl⟩ : ∃ l, mulC P64 v (2 ^ s) 16 = l := ⟨_, rfl⟩
      rw [hl]
      have h17 : v * 2 ^ s < P64 ^ 17 := by
        rw [Nat.pow_succ]
        exact Nat.mul_lt_mul_of_lt_of_le HV.out (by rw [P64_pow]; exact Nat.pow_le_pow_right (by omega) (by omega)) P64_pos
      have hld : l = dgt P64 (v * 2 ^ s) 16 := by
        rw [← hl]
        unfold mulC dgt
        rw [Nat.mod_eq_of_lt HV.out, Nat.mod_eq_of_lt (by rw [Nat.div_lt_iff_lt_mul (Nat.pow_pos P64_pos), show P64 * P64 ^ 16 = P64 ^ 17 by rw [Nat.mul_comm, ← Nat.pow_succ]]; exact h17)]
      have hfin : setD P64 (v * 2 ^ s % P64 ^ 16) 16 l = v * 2 ^ s := by
        rw [hld, low_set P64_pos, Nat.mod_eq_of_lt h17]
      have hll : l < P64 := by rw [hld]; exact dgt_lt P64_pos
      have hr5 : rowN (wr.setCell ⟨w.heap.size + 1, 16, none⟩ (.int .u64 (l : Nat))) (w.heap.size + 1) = some (wdA 17 (v * 2 ^ s)) := by
        rw [rowN_setCell, if_pos rfl, HR.out]
        exact congrArg some ((wdA_setD 17 _ 16 l hll).trans (by rw [hfin]))
      have HR5 := Lib.hid hr5
      have HB5 := Lib.hid (HBB.out.setCell (p := ⟨w.heap.size + 1, 16, none⟩) (by show w.heap.size ≤ w.heap.size + 1; omega) (.int .u64 (l : Nat)))
      clear hr hb hl h17 hld hfin hll hk hlt
      have hr6 := HR5.out
      go_wp2_with fail
      refine ret_wide _ (wdA 17 (v * 2 ^ s)) rfl rfl rfl (by rw [rowN_setRow, if_pos rfl, HR5.out]; rfl) (wdA_size _ _) ⟨rfl, below_setRow' HB5.out (by omega) _⟩

/-- One round of narrowed, in the walk's words. -/
theorem down_step {X s i : Nat} (hs : s < 64) :
    bits .or .u64 (((dgt P64 X i : Nat) : Int) / 2 ^ s) (IntKind.u64.wrap (((dgt P64 X (i + 1) : Nat) : Int) * 2 ^ (64 - s))) = ((dgt P64 (X / 2 ^ s) i : Nat) : Int) := by
  have h := down_or (X := X) (i := i) hs
  rw [← P64_pow] at h
  have hx : dgt P64 X i < P64 := dgt_lt P64_pos
  generalize dgt P64 X i = x at *
  generalize dgt P64 X (i + 1) = y at *
  generalize dgt P64 (X / 2 ^ s) i = d at *
  rw [P64_eq] at h hx
  have c1 : ((y : Int) * 2 ^ (64 - s)) = ((y * 2 ^ (64 - s) : Nat) : Int) := by rw [Int.natCast_mul, Int.natCast_pow]; rfl
  have c2 : ((x : Int) / 2 ^ s) = ((x / 2 ^ s : Nat) : Int) := by rw [Int.natCast_ediv, Int.natCast_pow]; rfl
  have c3 : IntKind.u64.wrap ((y * 2 ^ (64 - s) : Nat) : Int) = ((y * 2 ^ (64 - s) % 18446744073709551616 : Nat) : Int) := by rw [IntKind.wrap_u64]; omega
  have c4 : x / 2 ^ s ≤ x := Nat.div_le_self _ _
  rw [c1, c2, c3, or_u64 (by omega) (Nat.mod_lt _ (by omega)), h]

theorem natA_setD (X k d : Nat) (hd : d < P64) : (natA X).setIfInBounds k (.int .u64 (d : Nat)) = natA (setD P64 X k d) := by
  rw [← wdA_nat, wdA_setD _ _ _ _ hd, wdA_nat]

set_option maxRecDepth 100000 in
theorem narrowed_any (X s : Nat) (hX : X / 2 ^ s < P64 ^ 16) (hs : s < 64) (w : World) : Calls Try.prog 90 #[.agg (wdA 17 X), .int .i64 (s : Nat)] w fun e w' =>
    e = .returned (.agg (natA (X / 2 ^ s))) ∧ Below w.heap.size w w' := by
  have HX := Lib.hid hX
  have hG : rowN ((w.alloc (.cells (wdA 17 X) 104)).alloc (.cells (natA 0) 28)) (w.heap.size + 1) = some (natA 0) := by
    simp only [rowN_alloc, World.size_alloc, if_true] <;> (repeat rw [if_neg (by omega)])
  have hV0 : rowN ((w.alloc (.cells (wdA 17 X) 104)).alloc (.cells (natA 0) 28)) w.heap.size = some (wdA 17 X) := by
    simp only [rowN_alloc, World.size_alloc, if_true] <;> (repeat rw [if_neg (by omega)])
  have hB0 : Below w.heap.size w ((w.alloc (.cells (wdA 17 X) 104)).alloc (.cells (natA 0) 28)) := ((Below.refl _ _).alloc (Nat.le_refl _) _).alloc (by simp) _
  have HG := Lib.hid hG
  have HV := Lib.hid hV0
  have HB := Lib.hid hB0
  clear hX hG hB0 hV0
  go_enter Try.func90, Try.ntmps90
  go_wp2_with fail
  go_loopw [6] (fun i wr => ∃ k : Nat, k ≤ 16 ∧ i = .int .i64 (k : Nat) ∧ rowN wr (w.heap.size + 1) = some (natA (X / 2 ^ s % P64 ^ k)) ∧ rowN wr w.heap.size = some (wdA 17 X) ∧ Below w.heap.size w wr)
    (fun i _ => 16 - (intOf i).toNat)
  case atStart => exact ⟨0, by omega, rfl, by rw [Nat.pow_zero, Nat.mod_one]; exact HG.out, HV.out, HB.out⟩
  case round =>
    obtain ⟨k, hk, rfl, hr, hv, hb⟩ := hrel
    have HR := Lib.hid hr
    have HVV := Lib.hid hv
    have HBB := Lib.hid hb
    by_cases hlt : k < 16
    · have e1 := down_step (X := X) (i := k) hs
      have hcR : wr.drew.cell? ⟨w.heap.size + 1, k, none⟩ = some (.int .u64 (dgt P64 (X / 2 ^ s % P64 ^ k) k : Nat)) := ((rowN_cell hr).1 k).trans (natA_get _ _ hlt)
      have hfR : wr.drew.frozen? ⟨w.heap.size + 1, k, none⟩ = false := (rowN_cell hr).2 k
      have hX1 : ∀ W, rowN W w.heap.size = some (wdA 17 X) → W.cell? ⟨w.heap.size, k, none⟩ = some (.int .u64 (dgt P64 X k : Nat)) := fun W h => by
        rw [(rowN_cell h).1]; exact wdA_get _ _ _ (by omega)
      have hX2 : ∀ W, rowN W w.heap.size = some (wdA 17 X) → W.cell? ⟨w.heap.size, k + 1, none⟩ = some (.int .u64 (dgt P64 X (k + 1) : Nat)) := fun W h => by
        rw [(rowN_cell h).1]; exact wdA_get _ _ _ (by omega)
      obtain ⟨x, hx⟩ : ∃ x, dgt P64 X k = x := ⟨_, rfl⟩
      obtain ⟨y, hy⟩ : ∃ y, dgt P64 X (k + 1) = y := ⟨_, rfl⟩
      obtain ⟨d, hd⟩ : ∃ d, dgt P64 (X / 2 ^ s) k = d := ⟨_, rfl⟩
      rw [hx] at hX1 e1
      rw [hy] at hX2 e1
      rw [hd] at e1
      have HD := Lib.hid hd
      have HX1 := Lib.hid hX1
      have HX2 := Lib.hid hX2
      have hst := Lib.hid (show rowN wr.drew w.heap.size = some (wdA 17 X) from hv)
      have b1 : (k : Int) < 17 := by omega
      have b2 : (k : Int) + 1 < 17 := by omega
      have b3 : (k : Int) < 16 := by omega
      have b4 : IntKind.i64.wrap ((k : Int) + 1) = (k : Int) + 1 := IntWalk.i64_in _ (by omega)
      have b5 : IntKind.i64.wrap (64 - (s : Int)) = 64 - (s : Int) := IntWalk.i64_in _ (by omega)
      have b6 : (0 : Int) ≤ 64 - (s : Int) := by omega
      have b7 : (64 - (s : Int)).toNat = 64 - s := by omega
      have b8 : ((k : Int) + 1).toNat = k + 1 := by omega
      have b9 : (0 : Int) ≤ (k : Int) + 1 := by omega
      clear hr hv hb hx hy hd hX1 hX2
      go_wp2_with fail
      refine wp_region_noPanic ?_
      refine wp_region_held_drew (S := fun W => rowN W w.heap.size = some (wdA 17 X)) (by kernel_rfl) hst.out (fun hHeld0 => ?_)
      refine wpAnyH_take (i := 0) (oi := { dst := some 9, op := Op.move (Operand.tmp 5), type := 3, pos := "divide.go:111", after := #[], guard := none }) (v := ?_) rfl (by kernel_rfl) (by kernel_rfl) (by kernel_rfl) (fun _ _ _ h => h) (Or.inl ⟨by rfl, ?_⟩) hHeld0 ?_
      rotate_left
      · (intro W hW; clear hW; first | (go_simp; done) | (go_simp; with_reducible rfl))
      try simp only [Act.put, List.setIfInBounds_toArray, List.set_cons_zero, List.set_cons_succ]
      refine wpAnyH_take (i := 1) (oi := { dst := some 10, op := Op.move (Operand.tmp 5), type := 3, pos := "divide.go:111", after := #[], guard := none }) (v := ?_) rfl (by kernel_rfl) (by kernel_rfl) (by kernel_rfl) (fun _ _ _ h => h) (Or.inl ⟨by rfl, ?_⟩) hHeld0 ?_
      rotate_left
      · (intro W hW; clear hW; first | (go_simp; done) | (go_simp; with_reducible rfl))
      try simp only [Act.put, List.setIfInBounds_toArray, List.set_cons_zero, List.set_cons_succ]
      refine wpAnyH_take (i := 2) (oi := { dst := some 11, op := Op.indexAddr 104 (Operand.tmp 2) (Operand.tmp 10), type := 0, pos := "divide.go:111", after := #[{ on := 1, ground := Ground.data }], guard := none }) (v := ?_) rfl (by kernel_rfl) (by kernel_rfl) (by kernel_rfl) (fun _ _ _ h => h) (Or.inl ⟨by rfl, ?_⟩) hHeld0 ?_
      rotate_left
      · (intro W hW; clear hW; first | (go_simp; done) | (go_simp; with_reducible rfl))
      try simp only [Act.put, List.setIfInBounds_toArray, List.set_cons_zero, List.set_cons_succ]
      refine wpAnyH_take (i := 3) (oi := { dst := some 12, op := Op.load 24 (Operand.tmp 11), type := 24, pos := "divide.go:111", after := #[{ on := 2, ground := Ground.data }], guard := none }) (v := .int .u64 (x : Nat)) rfl (by kernel_rfl) (by kernel_rfl) (by kernel_rfl) (fun _ _ _ h => h) (Or.inl ⟨by rfl, fun W hW => ?_⟩) hHeld0 ?_
      · (have hc := HX1.out W hW; go_simp)
      try simp only [Act.put, List.setIfInBounds_toArray, List.set_cons_zero, List.set_cons_succ]
      refine wpAnyH_take (i := 4) (oi := { dst := some 13, op := Op.move (Operand.tmp 1), type := 3, pos := "divide.go:111", after := #[], guard := none }) (v := ?_) rfl (by kernel_rfl) (by kernel_rfl) (by kernel_rfl) (fun _ _ _ h => h) (Or.inl ⟨by rfl, ?_⟩) hHeld0 ?_
      rotate_left
      · (intro W hW; clear hW; first | (go_simp; done) | (go_simp; with_reducible rfl))
      try simp only [Act.put, List.setIfInBounds_toArray, List.set_cons_zero, List.set_cons_succ]
      refine wpAnyH_take (i := 5) (oi := { dst := some 14, op := Op.binOp BinOp.shr 24 (Operand.tmp 12) (Operand.tmp 13) 3, type := 24, pos := "divide.go:111", after := #[{ on := 3, ground := Ground.data }, { on := 4, ground := Ground.data }], guard := none }) (v := ?_) rfl (by kernel_rfl) (by kernel_rfl) (by kernel_rfl) (fun _ _ _ h => h) (Or.inl ⟨by rfl, ?_⟩) hHeld0 ?_
      rotate_left
      · (intro W hW; clear hW; first | (go_simp; done) | (go_simp; with_reducible rfl))
      try simp only [Act.put, List.setIfInBounds_toArray, List.set_cons_zero, List.set_cons_succ]
      refine wpAnyH_take (i := 6) (oi := { dst := some 15, op := Op.move (Operand.tmp 5), type := 3, pos := "divide.go:111", after := #[], guard := none }) (v := ?_) rfl (by kernel_rfl) (by kernel_rfl) (by kernel_rfl) (fun _ _ _ h => h) (Or.inl ⟨by rfl, ?_⟩) hHeld0 ?_
      rotate_left
      · (intro W hW; clear hW; first | (go_simp; done) | (go_simp; with_reducible rfl))
      try simp only [Act.put, List.setIfInBounds_toArray, List.set_cons_zero, List.set_cons_succ]
      refine wpAnyH_take (i := 7) (oi := { dst := some 16, op := Op.binOp BinOp.add 3 (Operand.tmp 15) (Operand.const (Value.int IntKind.i64 1)) 3, type := 3, pos := "divide.go:111", after := #[{ on := 6, ground := Ground.data }], guard := none }) (v := ?_) rfl (by kernel_rfl) (by kernel_rfl) (by kernel_rfl) (fun _ _ _ h => h) (Or.inl ⟨by rfl, ?_⟩) hHeld0 ?_
      rotate_left
      · (intro W hW; clear hW; first | (go_simp; done) | (go_simp; with_reducible rfl))
      try simp only [Act.put, List.setIfInBounds_toArray, List.set_cons_zero, List.set_cons_succ]
      refine wpAnyH_take (i := 8) (oi := { dst := some 17, op := Op.indexAddr 104 (Operand.tmp 2) (Operand.tmp 16), type := 0, pos := "divide.go:111", after := #[{ on := 7, ground := Ground.data }], guard := none }) (v := ?_) rfl (by kernel_rfl) (by kernel_rfl) (by kernel_rfl) (fun _ _ _ h => h) (Or.inl ⟨by rfl, ?_⟩) hHeld0 ?_
      rotate_left
      · (intro W hW; clear hW; first | (go_simp; done) | (go_simp; with_reducible rfl))
      try simp only [Act.put, List.setIfInBounds_toArray, List.set_cons_zero, List.set_cons_succ]
      refine wpAnyH_take (i := 9) (oi := { dst := some 18, op := Op.load 24 (Operand.tmp 17), type := 24, pos := "divide.go:111", after := #[{ on := 8, ground := Ground.data }], guard := none }) (v := .int .u64 (y : Nat)) rfl (by kernel_rfl) (by kernel_rfl) (by kernel_rfl) (fun _ _ _ h => h) (Or.inl ⟨by rfl, fun W hW => ?_⟩) hHeld0 ?_
      · (have hc := HX2.out W hW; go_simp)
      try simp only [Act.put, List.setIfInBounds_toArray, List.set_cons_zero, List.set_cons_succ]
      refine wpAnyH_take (i := 10) (oi := { dst := some 19, op := Op.move (Operand.tmp 1), type := 3, pos := "divide.go:111", after := #[], guard := none }) (v := ?_) rfl (by kernel_rfl) (by kernel_rfl) (by kernel_rfl) (fun _ _ _ h => h) (Or.inl ⟨by rfl, ?_⟩) hHeld0 ?_
      rotate_left
      · (intro W hW; clear hW; first | (go_simp; done) | (go_simp; with_reducible rfl))
      try simp only [Act.put, List.setIfInBounds_toArray, List.set_cons_zero, List.set_cons_succ]
      refine wpAnyH_take (i := 11) (oi := { dst := some 20, op := Op.binOp BinOp.sub 3 (Operand.const (Value.int IntKind.i64 64)) (Operand.tmp 19) 3, type := 3, pos := "divide.go:111", after := #[{ on := 10, ground := Ground.data }], guard := none }) (v := ?_) rfl (by kernel_rfl) (by kernel_rfl) (by kernel_rfl) (fun _ _ _ h => h) (Or.inl ⟨by rfl, ?_⟩) hHeld0 ?_
      rotate_left
      · (intro W hW; clear hW; first | (go_simp; done) | (go_simp; with_reducible rfl))
      try simp only [Act.put, List.setIfInBounds_toArray, List.set_cons_zero, List.set_cons_succ]
      refine wpAnyH_take (i := 12) (oi := { dst := some 21, op := Op.binOp BinOp.shl 24 (Operand.tmp 18) (Operand.tmp 20) 3, type := 24, pos := "divide.go:111", after := #[{ on := 9, ground := Ground.data }, { on := 11, ground := Ground.data }], guard := none }) (v := ?_) rfl (by kernel_rfl) (by kernel_rfl) (by kernel_rfl) (fun _ _ _ h => h) (Or.inl ⟨by rfl, ?_⟩) hHeld0 ?_
      rotate_left
      · (intro W hW; clear hW; first | (go_simp; done) | (go_simp; with_reducible rfl))
      try simp only [Act.put, List.setIfInBounds_toArray, List.set_cons_zero, List.set_cons_succ]
      refine wpAnyH_take (i := 13) (oi := { dst := some 22, op := Op.binOp BinOp.or 24 (Operand.tmp 14) (Operand.tmp 21) 24, type := 24, pos := "divide.go:111", after := #[{ on := 5, ground := Ground.data }, { on := 12, ground := Ground.data }], guard := none }) (v := ?_) rfl (by kernel_rfl) (by kernel_rfl) (by kernel_rfl) (fun _ _ _ h => h) (Or.inl ⟨by rfl, ?_⟩) hHeld0 ?_
      rotate_left
      · (intro W hW; clear hW; first | (go_simp; done) | (go_simp; with_reducible rfl))
      try simp only [Act.put, List.setIfInBounds_toArray, List.set_cons_zero, List.set_cons_succ]
      refine wpAnyH_take (i := 14) (oi := { dst := some 23, op := Op.fieldAddr 28 (Operand.tmp 4) 0, type := 0, pos := "divide.go:111", after := #[], guard := none }) (v := ?_) rfl (by kernel_rfl) (by kernel_rfl) (by kernel_rfl) (fun _ _ _ h => h) (Or.inl ⟨by rfl, ?_⟩) hHeld0 ?_
      rotate_left
      · (intro W hW; clear hW; first | (go_simp; done) | (go_simp; with_reducible rfl))
      try simp only [Act.put, List.setIfInBounds_toArray, List.set_cons_zero, List.set_cons_succ]
      refine wpAnyH_take (i := 15) (oi := { dst := some 24, op := Op.indexAddr 26 (Operand.tmp 23) (Operand.tmp 9), type := 0, pos := "divide.go:111", after := #[{ on := 14, ground := Ground.data }, { on := 0, ground := Ground.data }, { on := 0, ground := Ground.phase }, { on := 1, ground := Ground.phase }, { on := 2, ground := Ground.phase }, { on := 3, ground := Ground.phase }, { on := 4, ground := Ground.phase }, { on := 5, ground := Ground.phase }, { on := 6, ground := Ground.phase }, { on := 7, ground := Ground.phase }, { on := 8, ground := Ground.phase }, { on := 9, ground := Ground.phase }, { on := 10, ground := Ground.phase }, { on := 11, ground := Ground.phase }, { on := 12, ground := Ground.phase }, { on := 13, ground := Ground.phase }], guard := none }) (v := ?_) rfl (by kernel_rfl) (by kernel_rfl) (by kernel_rfl) (fun _ _ _ h => h) (Or.inl ⟨by rfl, ?_⟩) hHeld0 ?_
      rotate_left
      · (intro W hW; clear hW; first | (go_simp; done) | (go_simp; with_reducible rfl))
      try simp only [Act.put, List.setIfInBounds_toArray, List.set_cons_zero, List.set_cons_succ]
      refine wpAnyH_ready (rs := [16]) (by kernel_rfl) (by simp) ?_
      refine AllReadyH.cons (o := { dst := none, op := Op.store 24 (Operand.tmp 24) (Operand.tmp 22), type := 0, pos := "divide.go:111", after := #[{ on := 15, ground := Ground.data }, { on := 13, ground := Ground.data }, { on := 0, ground := Ground.phase }, { on := 1, ground := Ground.phase }, { on := 2, ground := Ground.phase }, { on := 3, ground := Ground.phase }, { on := 4, ground := Ground.phase }, { on := 5, ground := Ground.phase }, { on := 6, ground := Ground.phase }, { on := 7, ground := Ground.phase }, { on := 8, ground := Ground.phase }, { on := 9, ground := Ground.phase }, { on := 10, ground := Ground.phase }, { on := 11, ground := Ground.phase }, { on := 12, ground := Ground.phase }, { on := 13, ground := Ground.phase }], guard := none }) rfl (fun K hK => ?_) AllReadyH.nil
      go_simp
      refine hK.out _ _ (by show rowN (World.setCell _ _ _) _ = _; rw [rowN_setCell, if_neg (by show ¬ w.heap.size = w.heap.size + 1; omega)]; exact hst.out) (fun hHeld1 => ?_)
      clear hK K
      try simp only [Act.put, List.setIfInBounds_toArray, List.set_cons_zero, List.set_cons_succ]
      refine wpAnyH_done (by kernel_rfl) ?_ _
      refine NoPanic.normal ?_
      clear b1 b2 b3 b4 b5 b6 b7 b8 b9 e1 hcR hfR
      go_wp2_with fail
      refine ⟨⟨k + 1, by omega, rfl, ?_, ?_, (HBB.out.setCell (p := ⟨w.heap.size + 1, k, none⟩) (by show w.heap.size ≤ w.heap.size + 1; omega) _).drew⟩, by simp [intOf]; omega⟩
      · rw [rowN_drew, rowN_setCell, if_pos rfl, HR.out]
        exact congrArg some ((natA_setD _ k d (by rw [← HD.out]; exact dgt_lt P64_pos)).trans (by rw [← HD.out, low_set P64_pos]))
      · rw [rowN_drew, rowN_setCell, if_neg (by show ¬ w.heap.size = w.heap.size + 1; omega)]; exact HVV.out
    · obtain rfl : k = 16 := by omega
      rw [Nat.mod_eq_of_lt HX.out] at hr
      clear hv hb hk hlt
      go_wp2_with fail
      exact ret_nat _ (natA (X / 2 ^ s)) rfl rfl rfl (by rw [rowN_setRow, if_pos rfl, hr]; rfl) (natA_size _) ⟨rfl, below_setRow' HBB.out (by omega) _⟩
end Go.Proofs.Ytlmfiggmjpjpiaa
