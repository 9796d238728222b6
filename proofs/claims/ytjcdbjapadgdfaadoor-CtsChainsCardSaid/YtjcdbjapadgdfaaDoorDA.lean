/- The reference of layer 7: xor; the ciphers of layer 6 on strings of 16 bytes. -/
import Derived.Test.YtjcdbjapadgdfaaDoorBI
namespace Go.Proofs.YtjcdbjapadgdfaaDoor
open Go.RowKit Go.Shelf

attribute [local go_sem] Oper.semAt_some
set_option maxRecDepth 100000 in
set_option maxHeartbeats 1000000 in
theorem rxor_any (xs ws : List Nat) (s t : Value) (hx : xs.length = 16) (hw : ws.length = 16) (w : World) (hX : BytesAt xs s w) (hW : BytesAt ws t w) :
    Calls Tryd.prog 17 #[s, t] w fun e w' => ∃ s', e = .returned s' ∧ BytesAt (xorL xs ws) s' w' ∧ FN w s' ∧ Below w.heap.size w w' := by
  have hx256 := hX.1
  have hw256 := hW.1
  have HL := Lib.hid (show (xorL xs ws).length = 16 by unfold xorL; rw [List.length_zipWith, hx, hw]; rfl)
  have H256 := Lib.hid (xorL_256 hx256 hw256)
  have HE := Lib.hid (fun (k : Nat) (hk : k < 16) => show (xorL xs ws).getD k 0 = xs.getD k 0 ^^^ ws.getD k 0 by rw [xorL_get (by omega) (by omega)])
  obtain ⟨b, off, c, rfl, hb, hc⟩ := hX.cells (by omega)
  obtain ⟨b', off', c', rfl, hb', hc'⟩ := hW.cells (by omega)
  have HC := Lib.hid hc
  have HC' := Lib.hid hc'
  have HX := Lib.hid hx256
  have HW := Lib.hid hw256
  rw [hx] at HC ⊢
  have hmk := run_mk16
  rw [hw] at HC' ⊢
  obtain ⟨A, hA⟩ : ∃ A, xorL xs ws = A := ⟨_, rfl⟩
  rw [hA] at HL H256 HE ⊢
  have HI0 := Lib.hid (show OutR A w w.heap.size (.int .i64 0) (w.alloc (.cells (arr .u8 (zr 16)) 5)) from ⟨0, by omega, rfl, by rw [gK_zero, rowN_alloc, if_pos rfl], (Below.refl _ w).alloc (Nat.le_refl _) _⟩)
  clear hc hc' hx256 hw256 hw hX hW hA
  go_enter Tryd.func17, Tryd.ntmps17
  go_wp2_with fail
  go_loopw [6] (fun i wr => OutR A w w.heap.size i wr) (fun i _ => 16 - (intOf i).toNat)
  case atStart => exact HI0.out
  case round =>
    obtain ⟨k, hk, rfl, hro, hbl⟩ := hrel
    have HR := Lib.hid hro
    have HB := Lib.hid hbl
    by_cases hlt : k < 16
    · have hk4 : ((k : Nat) : Int) < 16 := by omega
      have hc1 : wr.cell? ⟨b, off + k, none⟩ = some (.int .u8 (xs.getD k 0 : Nat)) := (hbl.cell (p := ⟨b, off + k, none⟩) hb).trans (HC.out k hlt)
      have hc2 : wr.cell? ⟨b', off' + k, none⟩ = some (.int .u8 (ws.getD k 0 : Nat)) := (hbl.cell (p := ⟨b', off' + k, none⟩) hb').trans (HC'.out k hlt)
      have h1 : xs.getD k 0 < 256 := byte_lt HX.out k
      have h2 : ws.getD k 0 < 256 := byte_lt HW.out k
      have HEK := Lib.hid (HE.out k hlt)
      obtain ⟨x, hx1⟩ : ∃ x, xs.getD k 0 = x := ⟨_, rfl⟩
      obtain ⟨y, hy1⟩ : ∃ y, ws.getD k 0 = y := ⟨_, rfl⟩
      rw [hx1] at hc1 h1 HEK
      rw [hy1] at hc2 h2 HEK
      have hxy := bits_xor8 x y h1 h2
      have HSET := Lib.hid (gK_set (A := A) (B := zr 16) (k := k) (by rw [HL.out, zr_len]) (by rw [zr_len]; exact hlt))
      rw [HEK.out] at HSET
      have hgl : (gK A (zr 16) k).length = 16 := by rw [gK_len (by rw [HL.out, zr_len]), zr_len]
      have hco := cell_arr hro (show k < (gK A (zr 16) k).length by omega)
      have hf := (rowN_cell hro).2 k
      obtain ⟨z, hz⟩ : ∃ z, x ^^^ y = z := ⟨_, rfl⟩
      rw [hz] at hxy HSET
      have hc1d : wr.drew.cell? ⟨b, off + k, none⟩ = some (.int .u8 (x : Nat)) := hc1
      have hc2d : wr.drew.cell? ⟨b', off' + k, none⟩ = some (.int .u8 (y : Nat)) := hc2
      have HRD := Lib.hid (show rowN wr.drew w.heap.size = some (arr .u8 (gK A (zr 16) k)) from hro)
      have hwz := hbl.size
      clear hro hbl hx1 hy1 hz h1 h2 HEK hc1 hc2
      go_upto_region 5 with fail
      refine wp_region_still_tail 12 (by kernel_rfl) (by kernel_rfl) ?_
      simp only [List.take_succ_cons, List.take_zero, List.drop_succ_cons, List.drop_zero]
      repeat still_step
      refine wpStill_nil ?_
      go_wp2_with fail
      refine ⟨⟨k + 1, by omega, rfl, ?_, HB.out.drew.setCell (p := ⟨w.heap.size, k, none⟩) (Nat.le_refl _) _⟩, by simp [intOf]; omega⟩
      rw [← HSET.out]
      exact row_arr HRD.out
    · obtain rfl : k = 16 := by omega
      rw [gK_all (by rw [HL.out]; exact Nat.le_refl _) (by rw [zr_len]; exact Nat.le_refl _)] at hro
      have HRR := Lib.hid (row_bytes H256.out hro HL.out)
      clear hro hbl
      go_wp2_with fail
      go_ret
      exact ⟨_, rfl, HRR.out.1, fn_new w _ _ _ (Nat.le_refl _), HB.out⟩
theorem renc16 (key zs : List Nat) (sw s : Value) (hk : ∀ x ∈ key, x < 256) (hz : zs.length = 16) (w : World) (hG : SG w) (hW : BytesAt (FL (wordsL key)) sw w) (hB : BytesAt zs s w) :
    Calls Tryd.prog 19 #[sw, s] w fun e w' => ∃ s', e = .returned s' ∧ BytesAt (aE key zs) s' w' ∧ FN w s' ∧ Below w.heap.size w w' := by
  have h := renc_any (wordsL key) (wordsL zs) sw s (wordsL_len key) (wordsL_w32 hk) (wordsL_len zs) (wordsL_w32 hB.1) w hG hW (by rw [bytes_words hz hB.1]; exact hB)
  exact h
theorem rdec16 (key zs : List Nat) (sw s : Value) (hk : ∀ x ∈ key, x < 256) (hz : zs.length = 16) (w : World) (hG : SG w) (hW : BytesAt (FL (wordsL key)) sw w) (hB : BytesAt zs s w) :
    Calls Tryd.prog 18 #[sw, s] w fun e w' => ∃ s', e = .returned s' ∧ BytesAt (aD key zs) s' w' ∧ FN w s' ∧ Below w.heap.size w w' := by
  have h := rdec_any (wordsL key) (wordsL zs) sw s (wordsL_len key) (wordsL_w32 hk) (wordsL_len zs) (wordsL_w32 hB.1) w hG hW (by rw [bytes_words hz hB.1]; exact hB)
  exact h
end Go.Proofs.YtjcdbjapadgdfaaDoor
