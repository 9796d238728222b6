/- AES: the reference's add. -/
import Derived.Test.YtjcdbjapadgdfaaDoorBB
namespace Go.Proofs.YtjcdbjapadgdfaaDoor
open Go.RowKit

attribute [local go_sem] Oper.semAt_some
theorem run_mk16 (W : World) : (Instr.makeSlice 22 (.int .i64 16) (.int .i64 16)).run Tryd.prog W = .ok (.slice (some ⟨W.heap.size, 0, none⟩) 16 16) (W.alloc (.cells (arr .u8 (zr 16)) 5)) := by
  obtain ⟨i0, hi, hz0, hz1, hz2⟩ := info_parts Tryd.info5
  rw [run_makeSlice W 22 5 i0 (.int .u8 0) Tryd.underlying22 hi hz0 .i64 .i64 16 16 (by omega) (by omega) (by rw [hz1]; omega) (by rw [hz2]; decide) (by omega), hz1, arr_lit, zr_eq, List.map_replicate]
  kernel_rfl
theorem row_bytes {l : List Nat} {g : Nat} {W : World} (h256 : ∀ x ∈ l, x < 256) (h : rowN W g = some (arr .u8 l)) (hl : l.length = 16) : BytesAt l (.slice (some ⟨g, 0, none⟩) 16 16) W ∧ Nil0 (.slice (some ⟨g, 0, none⟩) 16 16) :=
  ⟨bytes_row h256 h 16 hl, fun _ _ e => by cases e⟩
/-- A slice that is new since w. -/
def FN (w : World) (s : Value) : Prop := Nil0 s ∧ ∀ j, InS s j → w.heap.size ≤ j
theorem FN.mono {w v : World} {s : Value} (h : FN v s) (hs : w.heap.size ≤ v.heap.size) : FN w s := ⟨h.1, fun j hj => Nat.le_trans hs (h.2 j hj)⟩
theorem fn_new (w : World) (g L c : Nat) (h : w.heap.size ≤ g) : FN w (.slice (some ⟨g, 0, none⟩) L c) := ⟨fun _ _ e => (by cases e), fun j hj => by obtain ⟨_, _, _, _, e⟩ := hj; cases e; exact h⟩
def OutR (A : List Nat) (w : World) (g : Nat) (i : Value) (wr : World) : Prop :=
  ∃ k : Nat, k ≤ 16 ∧ i = .int .i64 (k : Nat) ∧ rowN wr g = some (arr .u8 (gK A (zr 16) k)) ∧ Below w.heap.size w wr
theorem xorL_256 {a b : List Nat} (ha : ∀ x ∈ a, x < 256) (hb : ∀ x ∈ b, x < 256) : ∀ x ∈ xorL a b, x < 256 := by
  intro x hx
  unfold xorL at hx
  rw [List.mem_iff_getElem] at hx
  obtain ⟨i, hi, rfl⟩ := hx
  rw [List.getElem_zipWith]
  exact xor8 (ha _ (List.getElem_mem _)) (hb _ (List.getElem_mem _))
def rkB (ws : List Nat) (r : Nat) : List Nat := (ws.drop (16 * r)).take 16
theorem rkB_len {ws : List Nat} {r : Nat} (h : 16 * r + 16 ≤ ws.length) : (rkB ws r).length = 16 := by unfold rkB; rw [List.length_take, List.length_drop]; omega
theorem rkB_get {ws : List Nat} {r k : Nat} (hk : k < 16) : (rkB ws r).getD k 0 = ws.getD (16 * r + k) 0 := by
  unfold rkB
  rw [List.getD, List.getElem?_take, if_pos hk, List.getElem?_drop]; rfl
theorem rkB_256 {ws : List Nat} (h : ∀ x ∈ ws, x < 256) (r : Nat) : ∀ x ∈ rkB ws r, x < 256 := fun x hx => h x (List.mem_of_mem_drop (List.mem_of_mem_take hx))
set_option maxRecDepth 100000 in
set_option maxHeartbeats 1000000 in
theorem radd_any (xs ws : List Nat) (s t : Value) (r : Nat) (hx : xs.length = 16) (hw : 16 * r + 16 ≤ ws.length) (hr : r ≤ 10) (w : World) (hX : BytesAt xs s w) (hW : BytesAt ws t w) :
    Calls Tryd.prog 32 #[s, t, .int .i64 (r : Nat)] w fun e w' => ∃ s', e = .returned s' ∧ BytesAt (xorL xs (rkB ws r)) s' w' ∧ FN w s' ∧ Below w.heap.size w w' := by
  have hx256 := hX.1
  have hw256 := hW.1
  have HL := Lib.hid (show (xorL xs (rkB ws r)).length = 16 by unfold xorL; rw [List.length_zipWith, hx, rkB_len hw]; rfl)
  have H256 := Lib.hid (xorL_256 hx256 (rkB_256 hw256 r))
  have HE := Lib.hid (fun (k : Nat) (hk : k < 16) => show (xorL xs (rkB ws r)).getD k 0 = xs.getD k 0 ^^^ ws.getD (16 * r + k) 0 by rw [xorL_get (by omega) (by rw [rkB_len hw]; exact hk), rkB_get hk])
  obtain ⟨b, off, c, rfl, hb, hc⟩ := hX.cells (by omega)
  obtain ⟨b', off', c', rfl, hb', hc'⟩ := hW.cells (by omega)
  have HC := Lib.hid hc
  have HC' := Lib.hid hc'
  have HX := Lib.hid hx256
  have HW := Lib.hid hw256
  have HWL := Lib.hid hw
  rw [hx] at HC ⊢
  have hmk := run_mk16
  have hp : IntKind.i64.wrap ((16 : Int) * ((r : Nat) : Int)) = ((16 * r : Nat) : Int) := by
    rw [show ((16 : Int) * ((r : Nat) : Int)) = ((16 * r : Nat) : Int) by omega]; exact IntWalk.i64_in _ (by omega)
  obtain ⟨p, hpp⟩ : ∃ p, 16 * r = p := ⟨_, rfl⟩
  have hp160 : p ≤ 160 := by omega
  obtain ⟨n, hn⟩ : ∃ n, ws.length = n := ⟨_, rfl⟩
  rw [hpp] at HE HWL hp
  rw [hn] at HWL HC' ⊢
  obtain ⟨A, hA⟩ : ∃ A, xorL xs (rkB ws r) = A := ⟨_, rfl⟩
  rw [hA] at HL H256 HE ⊢
  have HI0 := Lib.hid (show OutR A w w.heap.size (.int .i64 0) (w.alloc (.cells (arr .u8 (zr 16)) 5)) from ⟨0, by omega, rfl, by rw [gK_zero, rowN_alloc, if_pos rfl], (Below.refl _ w).alloc (Nat.le_refl _) _⟩)
  clear hc hc' hx256 hw256 hw hX hW hpp hn hA
  go_enter Tryd.func32, Tryd.ntmps32
  go_wp2_with fail
  go_loopw [8] (fun i wr => OutR A w w.heap.size i wr) (fun i _ => 16 - (intOf i).toNat)
  case atStart => exact HI0.out
  case round =>
    obtain ⟨k, hk, rfl, hro, hbl⟩ := hrel
    have HR := Lib.hid hro
    have HB := Lib.hid hbl
    by_cases hlt : k < 16
    · have hk4 : ((k : Nat) : Int) < 16 := by omega
      have hc1 : wr.cell? ⟨b, off + k, none⟩ = some (.int .u8 (xs.getD k 0 : Nat)) := (hbl.cell (p := ⟨b, off + k, none⟩) hb).trans (HC.out k hlt)
      have hc2 : wr.cell? ⟨b', off' + (p + k), none⟩ = some (.int .u8 (ws.getD (p + k) 0 : Nat)) := (hbl.cell (p := ⟨b', off' + (p + k), none⟩) hb').trans (HC'.out (p + k) (by have := HWL.out; omega))
      have h1 : xs.getD k 0 < 256 := byte_lt HX.out k
      have h2 : ws.getD (p + k) 0 < 256 := byte_lt HW.out (p + k)
      have hpk : IntKind.i64.wrap (((p : Nat) : Int) + ((k : Nat) : Int)) = ((p + k : Nat) : Int) := by rw [← Int.natCast_add]; exact IntWalk.i64_in _ (by omega)
      have hpl : ((p + k : Nat) : Int) < ((n : Nat) : Int) := by have := HWL.out; omega
      have HEK := Lib.hid (HE.out k hlt)
      obtain ⟨q, hq⟩ : ∃ q, p + k = q := ⟨_, rfl⟩
      rw [hq] at hc2 h2 hpk hpl HEK
      obtain ⟨x, hx1⟩ : ∃ x, xs.getD k 0 = x := ⟨_, rfl⟩
      obtain ⟨y, hy1⟩ : ∃ y, ws.getD q 0 = y := ⟨_, rfl⟩
      rw [hx1] at hc1 h1 HEK
      rw [hy1] at hc2 h2 HEK
      have hxy := bits_xor8 x y h1 h2
      have HSET := Lib.hid (gK_set (A := A) (B := zr 16) (k := k) (by rw [HL.out, zr_len]) (by rw [zr_len]; exact hlt))
      rw [HEK.out] at HSET
      have hgl : (gK A (zr 16) k).length = 16 := by rw [gK_len (by rw [HL.out, zr_len]), zr_len]
      have hco := cell_arr hro (show k < (gK A (zr 16) k).length by omega)
      have hf := (rowN_cell hro).2 k
      obtain ⟨z, hz⟩ : ∃ z, x ^^^ y = z := ⟨_, rfl⟩
      rw [hz] at hxy HSET
      have hc1d : wr.drew.cell? ⟨b, off + k, none⟩ = some (.int .u8 (x : Nat)) := hc1
      have hc2d : wr.drew.cell? ⟨b', off' + q, none⟩ = some (.int .u8 (y : Nat)) := hc2
      have HRD := Lib.hid (show rowN wr.drew w.heap.size = some (arr .u8 (gK A (zr 16) k)) from hro)
      have hwz := hbl.size
      clear hro hbl hq hx1 hy1 hz h1 h2 HEK hc1 hc2
      go_upto_region 5 with fail
      refine wp_region_still_tail 15 (by kernel_rfl) (by kernel_rfl) ?_
      simp only [List.take_succ_cons, List.take_zero, List.drop_succ_cons, List.drop_zero]
      repeat still_step
      refine wpStill_nil ?_
      go_wp2_with fail
      refine ⟨⟨k + 1, by omega, rfl, ?_, HB.out.drew.setCell (p := ⟨w.heap.size, k, none⟩) (Nat.le_refl _) _⟩, by simp [intOf]; omega⟩
      rw [← HSET.out]
      exact row_arr HRD.out
    · obtain rfl : k = 16 := by omega
      rw [gK_all (by rw [HL.out]; exact Nat.le_refl _) (by rw [zr_len]; exact Nat.le_refl _)] at hro
      have HRR := Lib.hid (row_bytes H256.out hro HL.out)
      clear hro hbl
      go_wp2_with fail
      go_ret
      exact ⟨_, rfl, HRR.out.1, fn_new w _ _ _ (Nat.le_refl _), HB.out⟩
end Go.Proofs.YtjcdbjapadgdfaaDoor
