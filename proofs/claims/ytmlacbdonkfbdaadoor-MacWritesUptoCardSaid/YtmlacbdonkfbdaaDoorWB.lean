/- blocksOf's closure. -/
import Derived.Laws.IdiomCopy
import Derived.StillTailTactics
import Derived.Test.YtmlacbdonkfbdaaDoorWA
namespace Go.Proofs.YtmlacbdonkfbdaaDoor
open Go.RowKit Go.Shelf

attribute [local go_sem] Oper.semAt_some
theorem arr47 : Tryd.prog.arrayLen 47 = 64 ∧ Tryd.prog.elem 47 = 5 ∧ Tryd.prog.underlying 47 = some (.array (Tryd.prog.arrayLen 47) (Tryd.prog.elem 47)) := ⟨by kernel_rfl, by kernel_rfl, by kernel_rfl⟩
theorem run_slice47 (g o : Nat) (W : World) : (Instr.sliceAt 47 (.pointer (some ⟨g, o, none⟩)) none none none).run Tryd.prog W = .ok (.slice (some ⟨g, o, none⟩) 64 64) W := by
  obtain ⟨h1, h2, h3⟩ := arr47
  rw [run_sliceAt_array_all W 47 _ h3, h2, h1, Tryd.sizeOf5]
  simp [slicedAt, Addr.add]
theorem copy47 {W : World} {g : Nat} {ks : List Nat} {s : Value} (hr : rowN W g = some (arr .u8 z64)) (hB : BytesAt ks s W) (hl : ks.length ≤ 64) :
    (Builtin.copy_ #[22, 22] 3 #[.slice (some ⟨g, 0, none⟩) 64 64, s]).run Tryd.prog W = .ok (.int .i64 (ks.length : Nat)) (W.setRow g (arr .u8 (kbL ks))) := by
  obtain ⟨h256, a, c2, rfl, hcc, h2⟩ := hB
  have hi : (Tryd.prog.info? 5).map (·.size) = some 1 := by kernel_rfl
  by_cases h0 : ks.length = 0
  · have hn : Nat.min ks.length 64 = 0 := by rw [h0]; rfl
    have hk : ks = [] := List.eq_nil_of_length_eq_zero h0
    rw [run_copy_none (P := Tryd.prog) W 22 22 3 5 _ a 64 64 ks.length c2 Tryd.underlying22 hi hn, h0]
    have : kbL ks = z64 := by rw [hk]; unfold kbL splice; simp
    rw [this, setRow_row hr]; rfl
  · rcases h2 with h2 | ⟨b, off, rfl, _, hj⟩
    · omega
    · obtain ⟨t, hg⟩ := rowN_some hr
      have := run_copy_row Tryd.prog W 22 22 3 5 g 0 64 64 ⟨b, off, none⟩ ks.length c2 (arr .u8 z64) t (ks.map fun x => Value.int .u8 (x : Nat)) Tryd.underlying22 hi hg
        (by rw [List.length_map]; exact (Nat.min_eq_left hl).symm) (fun j v hv => by
          have hjl := (List.getElem?_eq_some_iff.1 hv).1
          rw [List.length_map] at hjl
          rw [List.getElem?_map] at hv
          have e : (⟨b, off, none⟩ : Addr).add j = ⟨b, off + j, none⟩ := by simp [Addr.add]
          rw [e, hj j (by omega), ← hv, List.getD]
          rw [List.getElem?_eq_getElem (show j < ks.length by omega)]; first | done | rfl)
        (by rw [List.length_map, arr_size, z64_len]; omega) (fun v hv => by obtain ⟨x, _, rfl⟩ := List.mem_map.1 hv; rfl)
      rw [this, List.length_map]
      refine congrArg (fun x => Result.ok _ (W.setRow g x)) ?_
      apply Array.ext'
      rw [arr_toList, arr_toList]
      unfold kbL splice
      simp only [List.map_append, List.map_drop, List.take_zero, List.nil_append, Nat.zero_add]

def CmRel (B : List Nat) (m gB : Nat) (w : World) (i : Value) (wr : World) : Prop :=
  ∃ k : Nat, k ≤ 64 ∧ i = .int .i64 (k : Nat) ∧ rowN wr gB = some (arr .u8 (cmbK m B k)) ∧ rowN wr w.heap.size = some (arr .u8 z64) ∧ Below w.heap.size w wr
set_option maxRecDepth 100000 in
theorem comb_any (ks : List Nat) (m gk : Nat) (s : Value) (hl : ks.length ≤ 64) (hm : m < 256) (w : World) (hr : rowN w gk = some #[s]) (hB : BytesAt ks s w) :
    Calls Tryd.prog 33 #[.int .u8 (m : Nat), .pointer (some ⟨gk, 0, none⟩)] w fun e w' => e = .returned (.agg (arr .u8 (cmb m (kbL ks)))) ∧ Below w.heap.size w w' := by
  obtain ⟨W1, hW1⟩ : ∃ X, (w.alloc (.cells (arr .u8 z64) 47)).alloc (.cells (arr .u8 z64) 47) = X := ⟨_, rfl⟩
  have hb1 : Below w.heap.size w W1 := by rw [← hW1]; exact ((Below.refl _ w).alloc (Nat.le_refl _) _).alloc (by simp) _
  have hr0 : rowN W1 w.heap.size = some (arr .u8 z64) := by rw [← hW1]; simp only [rowN_alloc, World.size_alloc, if_true]; rw [if_neg (by omega)]
  have hr1 : rowN W1 (w.heap.size + 1) = some (arr .u8 z64) := by rw [← hW1]; simp only [rowN_alloc, World.size_alloc, if_true]
  have hc0 : W1.cell? ⟨gk, 0, none⟩ = some s := (rowN_cell (keptW hb1 hr)).1 0
  have hcp := copy47 (W := W1.drew) (g := w.heap.size + 1) hr1 (hB.kept (Below.drew hb1)) hl
  have H256 := Lib.hid (kbL_256 hB.1)
  have HL := Lib.hid (kbL_len hl)
  have HB1 := Lib.hid (show Below w.heap.size w W1.drew from hb1.drew)
  have HR0 := Lib.hid (show rowN W1.drew w.heap.size = some (arr .u8 z64) from hr0)
  have HR1 := Lib.hid (show rowN W1.drew (w.heap.size + 1) = some (arr .u8 z64) from hr1)
  have hs47 := fun W => run_slice47 (w.heap.size + 1) 0 W
  obtain ⟨B, hBB⟩ : ∃ B, kbL ks = B := ⟨_, rfl⟩
  rw [hBB] at hcp H256 HL ⊢
  obtain ⟨L, hlL⟩ : ∃ L, ks.length = L := ⟨_, rfl⟩
  rw [hlL] at hcp
  clear hBB hlL hB hr hb1 hr0 hr1 hl
  go_enter Tryd.func33, Tryd.ntmps33
  go_upto_region 2 with fail
  try rw [hW1]
  refine wp_region_still_tail 2 (by kernel_rfl) (by kernel_rfl) ?_
  simp only [List.take_succ_cons, List.take_zero, List.drop_succ_cons, List.drop_zero]
  have hc0d : W1.drew.cell? ⟨gk, 0, none⟩ = some s := hc0
  repeat still_step
  refine wpStill_nil ?_
  change wpList _ _ _ _ _ W1.drew
  clear hc0 hc0d hW1
  generalize W1.drew = V at *
  obtain ⟨U, hU⟩ : ∃ U, V.setRow (w.heap.size + 1) (arr .u8 B) = U := ⟨_, rfl⟩
  have HI0 := Lib.hid (show CmRel B m (w.heap.size + 1) w (.int .i64 0) U from ⟨0, by omega, rfl, by rw [← hU, cmbK_zero]; exact row_new HR1.out, by rw [← hU]; exact row_other HR0.out (by omega), by rw [← hU]; exact below_setRow' HB1.out (by omega) _⟩)
  rw [hU] at hcp
  clear hU HR0 HR1 HB1
  go_wp2_with fail
  go_loopw [9] (fun i wr => CmRel B m (w.heap.size + 1) w i wr) (fun i _ => 64 - (intOf i).toNat)
  case atStart => exact HI0.out
  case round =>
    clear HI0
    obtain ⟨k, hk, rfl, hrow, hr2, hB⟩ := hrel
    have HB := Lib.hid hB
    have HR2 := Lib.hid hr2
    by_cases hlt : k < 64
    · have hkB : k < B.length := by rw [HL.out]; exact hlt
      have hc := cell_arr hrow (show k < (cmbK m B k).length by rw [cmbK_len]; exact hkB)
      rw [cmbK_get hkB] at hc
      have hf := (rowN_cell hrow).2 k
      have HSET := Lib.hid (cmbK_set (m := m) hkB)
      have HR := Lib.hid hrow
      have hx256 : B.getD k 0 < 256 := by
        rw [List.getD, List.getElem?_eq_getElem hkB]
        exact H256.out _ (List.getElem_mem hkB)
      have hX := bits_xor8 _ _ hx256 hm
      obtain ⟨x, hx⟩ : ∃ x, B.getD k 0 = x := ⟨_, rfl⟩
      rw [hx] at hc HSET hX
      clear hx hB hr2 hrow hkB hx256
      go_wp2_with fail
      refine ⟨⟨k + 1, by omega, by go_num, ?_, row_cell0 HR2.out (by omega), HB.out.setCell (p := ⟨w.heap.size + 1, k, none⟩) (by show w.heap.size ≤ w.heap.size + 1; omega) _⟩, by simp [intOf]; omega⟩
      have h := row_arr (i := k) (x := x ^^^ m) HR.out
      rw [HSET.out] at h
      exact h
    · obtain rfl : k = 64 := by omega
      rw [cmbK_all (by rw [HL.out]; omega)] at hrow
      have hl8 : (cmb m B).length = 64 := by rw [cmb_len]; exact HL.out
      have sz2 : (arr .u8 (cmb m B)).size = 64 := by rw [arr_size, hl8]
      have sz3 : (arr .u8 z64).size = 64 := by rw [arr_size, z64_len]
      have hld := fun (W : World) (g : Nat) => run_arLoad47 W g
      have hst := fun (W : World) (g : Nat) => run_arStore47 W g (cmb m B) hl8
      clear hB
      go_wp2_with fail
      exact ret_arr _ _ run_loadVar47 rfl rfl rfl (row_new hr2) sz2 ⟨rfl, below_setRow' HB.out (Nat.le_refl _) _⟩
end Go.Proofs.YtmlacbdonkfbdaaDoor
