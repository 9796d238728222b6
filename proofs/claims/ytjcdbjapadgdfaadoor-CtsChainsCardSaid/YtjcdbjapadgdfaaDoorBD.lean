/- AES: the reference's mix. -/
import Derived.Test.YtjcdbjapadgdfaaDoorBC
namespace Go.Proofs.YtjcdbjapadgdfaaDoor
open Go.RowKit

attribute [local go_sem] Oper.semAt_some
/-- The mixed block after n steps. -/
def mxN (F xs : List Nat) : Nat → List Nat
  | 0 => zr 16
  | n + 1 => (mxN F xs n).set (n / 4) ((mxN F xs n).getD (n / 4) 0 ^^^ gm 8 (F.getD ((n % 4 + 4 - n / 4 % 4) % 4) 0) (xs.getD (4 * (n / 16) + n % 4) 0))
theorem mxN_len (F xs : List Nat) : ∀ n, (mxN F xs n).length = 16
  | 0 => zr_len 16
  | n + 1 => by unfold mxN; rw [List.length_set, mxN_len F xs n]
theorem mxN_step (F xs : List Nat) {c r k : Nat} (hr : r < 4) (hk : k < 4) : (mxN F xs (16 * c + 4 * r + k)).set (4 * c + r) ((mxN F xs (16 * c + 4 * r + k)).getD (4 * c + r) 0 ^^^ gm 8 (F.getD ((k + 4 - r) % 4) 0) (xs.getD (4 * c + k) 0)) = mxN F xs (16 * c + 4 * r + (k + 1)) := by
  have e1 : (16 * c + 4 * r + k) / 4 = 4 * c + r := by omega
  have e2 : (16 * c + 4 * r + k) % 4 = k := by omega
  have e3 : (16 * c + 4 * r + k) / 4 % 4 = r := by omega
  have e4 : (16 * c + 4 * r + k) / 16 = c := by omega
  rw [show 16 * c + 4 * r + (k + 1) = (16 * c + 4 * r + k) + 1 by omega]
  conv => rhs; unfold mxN
  rw [e1, e2, show (4 * c + r) % 4 = r by omega, e4]
theorem mxN_256 {F xs : List Nat} (hx : ∀ x ∈ xs, x < 256) : ∀ n, ∀ x ∈ mxN F xs n, x < 256
  | 0 => fun x h => by
    unfold mxN at h
    rw [zr_eq] at h
    rw [List.eq_of_mem_replicate h]; omega
  | n + 1 => fun x h => by
    unfold mxN at h
    rcases List.mem_or_eq_of_mem_set h with h | h
    · exact mxN_256 hx n x h
    · rw [h]
      exact xor8 (byte_lt (mxN_256 hx n) _) (gm_lt _ _ _ (byte_lt hx _))
def MxR (F xs : List Nat) (w : World) (gf g : Nat) (n : Nat) (wr : World) : Prop :=
  rowN wr gf = some (arr .u8 F) ∧ rowN wr g = some (arr .u8 (mxN F xs n)) ∧ Below w.heap.size w wr
set_option maxRecDepth 100000 in
set_option maxHeartbeats 2000000 in
theorem rmix_any (F xs : List Nat) (s : Value) (hF : F.length = 4) (hF256 : ∀ x ∈ F, x < 256) (hx : xs.length = 16) (w : World) (hX : BytesAt xs s w) :
    Calls Tryd.prog 33 #[s, .agg (arr .u8 F)] w fun e w' => ∃ s', e = .returned s' ∧ BytesAt (mxN F xs 64) s' w' ∧ Nil0 s' ∧ Below w.heap.size w w' := by
  have hx256 := hX.1
  have HF := Lib.hid hF
  have HF2 := Lib.hid hF256
  obtain ⟨b, off, c, rfl, hb, hc⟩ := hX.cells (by omega)
  have HC := Lib.hid hc
  have HX := Lib.hid hx256
  rw [hx] at HC ⊢
  have hmk := run_mk16
  have szF : (arr .u8 F).size = 4 := by rw [arr_size, hF]
  obtain ⟨V, hV⟩ : ∃ V, (w.alloc (.cells (arr .u8 F) 59)).alloc (.cells (arr .u8 (zr 16)) 5) = V := ⟨_, rfl⟩
  have HI0 := Lib.hid (show MxR F xs w w.heap.size (w.heap.size + 1) 0 V from ⟨by rw [← hV, rowN_alloc, if_neg (by simp), rowN_alloc, if_pos rfl], by rw [← hV, rowN_alloc, if_pos (by simp)]; rfl, by rw [← hV]; exact ((Below.refl _ w).alloc (Nat.le_refl _) _).alloc (by simp) _⟩)
  clear hc hx256 hX hF hF256
  go_enter Tryd.func33, Tryd.ntmps33
  go_wp2_with fail
  try rw [hV]
  clear hV
  obtain ⟨gf, hgf⟩ : ∃ z, w.heap.size = z := ⟨_, rfl⟩
  obtain ⟨g, hg⟩ : ∃ z, gf + 1 = z := ⟨_, rfl⟩
  rw [hgf] at HI0 ⊢
  rw [hg] at HI0 ⊢
  have HGF := Lib.hid hgf
  have hgg : gf < g := by omega
  clear hgf hg
  go_loopw [6] (fun i wr => ∃ c : Nat, c ≤ 4 ∧ i = .int .i64 (c : Nat) ∧ MxR F xs w gf g (16 * c) wr) (fun i _ => 4 - (intOf i).toNat)
  case atStart => exact ⟨0, by omega, rfl, HI0.out⟩
  case round =>
    clear HI0
    obtain ⟨ci, hci, rfl, hrel⟩ := hrel
    have HREL := Lib.hid hrel
    clear hrel
    by_cases hlt : ci < 4
    · have q1 : ((ci : Nat) : Int) < 4 := by omega
      go_wp2_with fail
      obtain ⟨wo, rfl⟩ : ∃ wo : World, wo = wr := ⟨_, rfl⟩
      go_loopw [7] (fun j wq => ∃ r : Nat, r ≤ 4 ∧ j = .int .i64 (r : Nat) ∧ MxR F xs w gf g (16 * ci + 4 * r) wq) (fun j _ => 4 - (intOf j).toNat)
      case atStart => exact ⟨0, by omega, rfl, HREL.out⟩
      case round =>
        clear HREL
        obtain ⟨ri, hri, rfl, hrel⟩ := hrel
        have HREL := Lib.hid hrel
        clear hrel
        by_cases hlt2 : ri < 4
        · have q2 : ((ri : Nat) : Int) < 4 := by omega
          go_wp2_with fail
          obtain ⟨wo2, rfl⟩ : ∃ wo : World, wo = wr := ⟨_, rfl⟩
          go_loopw [8] (fun j wq => ∃ k : Nat, k ≤ 4 ∧ j = .int .i64 (k : Nat) ∧ MxR F xs w gf g (16 * ci + 4 * ri + k) wq) (fun j _ => 4 - (intOf j).toNat)
          case atStart => exact ⟨0, by omega, rfl, HREL.out⟩
          case round => as_aux_lemma =>
            clear HREL
            obtain ⟨k, hk, rfl, hrel⟩ := hrel
            have HREL := Lib.hid hrel
            by_cases hlt3 : k < 4
            · have hstep := mxN_step F xs (c := ci) hlt2 hlt3
              have hl16 := mxN_len F xs (16 * ci + 4 * ri + k)
              have hl256 := mxN_256 (F := F) HX.out (16 * ci + 4 * ri + k)
              obtain ⟨L, hL⟩ : ∃ z, mxN F xs (16 * ci + 4 * ri + k) = z := ⟨_, rfl⟩
              have hr1 := hrel.2.1
              rw [hL] at hstep hl16 hl256 hr1
              have hcz : wr.drew.cell? ⟨b, off + (4 * ci + k), none⟩ = some (.int .u8 (xs.getD (4 * ci + k) 0 : Nat)) := (hrel.2.2.cell (p := ⟨b, off + (4 * ci + k), none⟩) hb).trans (HC.out (4 * ci + k) (by omega))
              have hco : wr.drew.cell? ⟨g, 4 * ci + ri, none⟩ = some (.int .u8 (L.getD (4 * ci + ri) 0 : Nat)) := cell_arr hr1 (show 4 * ci + ri < L.length by omega)
              have hf4 : (k + 4 - ri) % 4 < 4 := Nat.mod_lt _ (by omega)
              obtain ⟨f, hf⟩ : ∃ z, (k + 4 - ri) % 4 = z := ⟨_, rfl⟩
              rw [hf] at hstep hf4
              have hcf : wr.drew.cell? ⟨gf, f, none⟩ = some (.int .u8 (F.getD f 0 : Nat)) := cell_arr hrel.1 (show f < F.length by rw [HF.out]; exact hf4)
              have y1 := byte_lt hl256 (4 * ci + ri)
              have y2 := byte_lt HX.out (4 * ci + k)
              have y3 := byte_lt HF2.out f
              obtain ⟨x, hx1⟩ : ∃ z, L.getD (4 * ci + ri) 0 = z := ⟨_, rfl⟩
              obtain ⟨y, hy1⟩ : ∃ z, xs.getD (4 * ci + k) 0 = z := ⟨_, rfl⟩
              obtain ⟨a, ha1⟩ : ∃ z, F.getD f 0 = z := ⟨_, rfl⟩
              rw [hx1] at hstep hco y1
              rw [hy1] at hstep hcz y2
              rw [ha1] at hstep hcf y3
              have HT := Lib.hid (times_any a y y3 y2 wr.drew)
              have ht := gm_lt 8 a y y2
              obtain ⟨t, htt⟩ : ∃ z, gm 8 a y = z := ⟨_, rfl⟩
              rw [htt] at hstep HT ht
              have hxt := bits_xor8 x t y1 ht
              obtain ⟨z, hz⟩ : ∃ z, x ^^^ t = z := ⟨_, rfl⟩
              rw [hz] at hstep hxt
              have HSTEP := Lib.hid hstep
              have HR1 := Lib.hid hr1
              have hff := (rowN_cell hr1).2 (4 * ci + ri)
              have k0 : ((k : Nat) : Int) < 4 := by omega
              have i1 : IntKind.i64.wrap (4 * ((ci : Nat) : Int)) = 4 * ((ci : Nat) : Int) := IntWalk.i64_in _ (by omega)
              have i2 : IntKind.i64.wrap (4 * ((ci : Nat) : Int) + ((ri : Nat) : Int)) = 4 * ((ci : Nat) : Int) + ((ri : Nat) : Int) := IntWalk.i64_in _ (by omega)
              have i3 : (0 : Int) ≤ 4 * ((ci : Nat) : Int) + ((ri : Nat) : Int) := by omega
              have i4 : 4 * ((ci : Nat) : Int) + ((ri : Nat) : Int) < 16 := by omega
              have i5 : (4 * ((ci : Nat) : Int) + ((ri : Nat) : Int)).toNat = 4 * ci + ri := by omega
              have j2 : IntKind.i64.wrap (4 * ((ci : Nat) : Int) + ((k : Nat) : Int)) = 4 * ((ci : Nat) : Int) + ((k : Nat) : Int) := IntWalk.i64_in _ (by omega)
              have j3 : (0 : Int) ≤ 4 * ((ci : Nat) : Int) + ((k : Nat) : Int) := by omega
              have j4 : 4 * ((ci : Nat) : Int) + ((k : Nat) : Int) < 16 := by omega
              have j5 : (4 * ((ci : Nat) : Int) + ((k : Nat) : Int)).toNat = 4 * ci + k := by omega
              have m1 : IntKind.i64.wrap (((k : Nat) : Int) - ((ri : Nat) : Int)) = ((k : Nat) : Int) - ((ri : Nat) : Int) := IntWalk.i64_in _ (by omega)
              have m2 : IntKind.i64.wrap (((k : Nat) : Int) - ((ri : Nat) : Int) + 4) = ((k : Nat) : Int) - ((ri : Nat) : Int) + 4 := IntWalk.i64_in _ (by omega)
              have m3 : (((k : Nat) : Int) - ((ri : Nat) : Int) + 4) % 4 = ((f : Nat) : Int) := by omega
              have m4 : (((k : Nat) : Int) - ((ri : Nat) : Int) + 4).tmod 4 = ((f : Nat) : Int) := by rw [Int.tmod_eq_emod_of_nonneg (by omega)]; exact m3
              have m5 : ((f : Nat) : Int) < 4 := by omega
              have HB := Lib.hid hrel.2.2
              have HRF := Lib.hid hrel.1
              clear hx1 hy1 ha1 hstep hr1 hrel hl256 hL htt hz hf ht y1 y2 y3 hf4
              go_upto_region 11 with fail
              refine wp_region_still_tail 29 (by kernel_rfl) (by kernel_rfl) ?_
              simp only [List.take_succ_cons, List.take_zero, List.drop_succ_cons, List.drop_zero]
              repeat still_step
              still_call (HT.out.mono (fun _ _ h => ⟨h.1, h.2.symm⟩))
              repeat still_step
              refine wpStill_nil ?_
              go_wp2_with fail
              refine ⟨⟨k + 1, by omega, by go_num, row_cell0 (show rowN wr.drew gf = _ from HRF.out) (by omega), ?_, HB.out.drew.setCell (p := ⟨g, 4 * ci + ri, none⟩) (by show w.heap.size ≤ g; have := HGF.out; omega) _⟩, by simp [intOf]; omega⟩
              rw [← HSTEP.out]
              exact row_arr (show rowN wr.drew g = _ from HR1.out)
            · obtain rfl : k = 4 := by omega
              clear hrel
              go_wp2_with fail
              exact ⟨⟨ri + 1, by omega, by go_num, by have h := HREL.out; rw [show 16 * ci + 4 * (ri + 1) = 16 * ci + 4 * ri + 4 by omega]; exact h⟩, by simp [intOf]; omega⟩
        · obtain rfl : ri = 4 := by omega
          go_wp2_with fail
          exact ⟨⟨ci + 1, by omega, by go_num, by have h := HREL.out; rw [show 16 * (ci + 1) = 16 * ci + 4 * 4 by omega]; exact h⟩, by simp [intOf]; omega⟩
    · obtain rfl : ci = 4 := by omega
      have HRR := Lib.hid (row_bytes (mxN_256 HX.out 64) HREL.out.2.1 (mxN_len F xs 64))
      have HB := Lib.hid HREL.out.2.2
      clear HREL
      go_wp2_with fail
      go_ret
      exact ⟨_, rfl, HRR.out.1, HRR.out.2, by have h := HB.out; rw [HGF.out] at h ⊢; exact h⟩
end Go.Proofs.YtjcdbjapadgdfaaDoor
