/- AES: the reference encrypts. -/
import Derived.Test.YtjcdbjapadgdfaaDoorBF
import Derived.Test.YtjcdbjapadgdfaaDoorBG
namespace Go.Proofs.YtjcdbjapadgdfaaDoor
open Go.RowKit Go.Shelf

attribute [local go_sem] Oper.semAt_some
theorem fe_lit : arr .u8 FE = #[.int .u8 2, .int .u8 3, .int .u8 1, .int .u8 1] := by rw [arr_lit]; rfl
theorem fd_lit : arr .u8 FD = #[.int .u8 14, .int .u8 11, .int .u8 13, .int .u8 9] := by rw [arr_lit]; rfl
/-- The reference's add, in words. -/
theorem radd_w (X kw : List Nat) (s t : Value) (r : Nat) (hX : X.length = 4) (hk : kw.length = 4) (hr : r ≤ 10) (w : World) (hB : BytesAt (bytesL X) s w) (hW : BytesAt (FL kw) t w) :
    Calls Tryd.prog 32 #[s, t, .int .i64 (r : Nat)] w fun e w' => ∃ s', e = .returned s' ∧ BytesAt (bytesL (xorL X (rk kw r))) s' w' ∧ FN w s' ∧ Below w.heap.size w w' := by
  have h := radd_any (bytesL X) (FL kw) s t r (bytesL_16 hX) (by rw [FL_len hk]; omega) hr w hB hW
  rw [rkB_FL hk (by omega), xorL_bytes hX (rk_len hk r)] at h
  exact h
theorem ssL_len (X : List Nat) : (ssL X).length = 16 := by unfold ssL; rw [bytesL_len]; rfl
theorem ssL_256 {X : List Nat} (h : W32 X) : ∀ x ∈ ssL X, x < 256 := bytesL_256 (shL_w32 (map_w32 (fun _ _ => subW_lt sb_256 _) h) 1)
def EnR (kw X : List Nat) (w : World) (v i : Value) (wr : World) : Prop :=
  ∃ k : Nat, 1 ≤ k ∧ k ≤ 11 ∧ i = .int .i64 (k : Nat) ∧ BytesAt (bytesL (encS kw X k)) v wr ∧ FN w v ∧ Below w.heap.size w wr
def NxR (A : List Nat) (g : Nat) (n : Nat) (w wr : World) : Prop := rowN wr g = some (arr .u8 (gK A (zr 16) n)) ∧ Below w.heap.size w wr
set_option maxRecDepth 100000 in
set_option maxHeartbeats 4000000 in
theorem renc_any (kw X : List Nat) (sw s : Value) (hk : kw.length = 4) (hkw : W32 kw) (hX : X.length = 4) (hXw : W32 X) (w : World) (hG : SG w) (hW : BytesAt (FL kw) sw w) (hB : BytesAt (bytesL X) s w) :
    Calls Tryd.prog 19 #[sw, s] w fun e w' => ∃ s', e = .returned s' ∧ BytesAt (bytesL (encS kw X 11)) s' w' ∧ FN w s' ∧ Below w.heap.size w w' := by
  have HADD := Lib.hid (fun (Y : List Nat) (v : Value) (r : Nat) (hY : Y.length = 4) (hr : r ≤ 10) (V : World) (hV : Below w.heap.size w V) (hb : BytesAt (bytesL Y) v V) => (radd_w Y kw v sw r hY hk hr V hb (hW.kept hV)).mono (fun e w' h => show ∃ s', e = .returned s' ∧ BytesAt (bytesL (xorL Y (rk kw r))) s' w' ∧ FN w s' ∧ Below V.heap.size V w' from by
    obtain ⟨s', e1, h1, h2, h3⟩ := h
    exact ⟨s', e1, h1, h2.mono hV.size, h3⟩))
  have H0 := Lib.hid (HADD.out X s 0 hX (by omega) w (Below.refl _ _) hB)
  have HG := Lib.hid hG
  have HLW := Lib.hid (fun n => encS_lw hk hkw hX hXw n)
  have HE := Lib.hid (fun k => show encS kw X (k + 1) = if k = 0 then xorL (encS kw X k) (rk kw k) else if k = 10 then xorL (shL 1 ((encS kw X k).map (subW sb))) (rk kw k) else xorL ((shL 1 ((encS kw X k).map (subW sb))).map mixW) (rk kw k) from rfl)
  have hmk := run_mk16
  clear hk hkw hX hXw hG hW hB
  go_enter Tryd.func19, Tryd.ntmps19
  go_wp2_with fail
  refine H0.out.mono ?_
  rintro e w1 ⟨s1, rfl, hb1, hn1, hbl1⟩
  have HI0 := Lib.hid (show EnR kw X w s1 (.int .i64 1) w1 from ⟨1, by omega, by omega, rfl, hb1, hn1, hbl1⟩)
  clear hb1 hn1 hbl1 H0
  go_wp2_with fail
  go_loopw [5, 6] (fun v i wr => EnR kw X w v i wr) (fun _ i _ => 11 - (intOf i).toNat)
  case atStart => exact HI0.out
  case round => as_aux_lemma =>
    clear HI0
    obtain ⟨k, hk1, hk, rfl, hb, hn, hbl⟩ := hrel
    by_cases hlt : k < 11
    · have hlw := HLW.out k
      have HEK := Lib.hid (HE.out k)
      obtain ⟨E, hE⟩ : ∃ q, encS kw X k = q := ⟨_, rfl⟩
      rw [hE] at hb hlw HEK
      have HSL := Lib.hid (ssL_len E)
      have HS2 := Lib.hid (ssL_256 hlw.2)
      have HSB := Lib.hid (fun (c r : Nat) (hc : c < 4) (hr : r < 4) => ss_byte hlw.1 hc hr)
      have HY := Lib.hid (shift_lw (ws := E.map (subW sb)) (by rw [List.length_map]; exact hlw.1) (map_w32 (fun _ _ => subW_lt sb_256 _) hlw.2))
      have HSE := Lib.hid (show ssL E = bytesL (shL 1 (E.map (subW sb))) from rfl)
      obtain ⟨A, hA⟩ : ∃ q, ssL E = q := ⟨_, rfl⟩
      obtain ⟨Y, hY⟩ : ∃ q, shL 1 (E.map (subW sb)) = q := ⟨_, rfl⟩
      rw [hA] at HSL HS2 HSB HSE
      rw [hY] at HSE HEK HY
      obtain ⟨b, off, cp, rfl, hbb, hc⟩ := hb.cells (by rw [bytesL_16 hlw.1]; omega)
      rw [bytesL_16 hlw.1] at hc
      have HC := Lib.hid hc
      have H256 := Lib.hid hb.1
      have hlk : ((k : Nat) : Int) ≤ 10 := by omega
      have HB := Lib.hid hbl
      have HGV := Lib.hid (HG.out.kept hbl)
      rw [bytesL_16 hlw.1]
      obtain ⟨V, hV⟩ : ∃ q, wr.alloc (.cells (arr .u8 (zr 16)) 5) = q := ⟨_, rfl⟩
      have hbV : Below wr.heap.size wr V := by rw [← hV]; exact (Below.refl _ _).alloc (Nat.le_refl _) _
      have HI := Lib.hid (show NxR A wr.heap.size 0 wr V from ⟨by rw [gK_zero, ← hV, rowN_alloc, if_pos rfl], hbV⟩)
      clear hb hn hbl hc hlw hE hA hY hbV
      go_wp2_with fail
      try rw [hV]
      clear hV
      obtain ⟨g, hg⟩ : ∃ q, wr.heap.size = q := ⟨_, rfl⟩
      rw [hg] at HI ⊢
      rw [hg] at hbb
      have HGE := Lib.hid hg
      clear hg
      obtain ⟨wo, rfl⟩ : ∃ wo : World, wo = wr := ⟨_, rfl⟩
      go_loopw [8] (fun i wq => ∃ c : Nat, c ≤ 4 ∧ i = .int .i64 (c : Nat) ∧ NxR A g (4 * c) wo wq) (fun i _ => 4 - (intOf i).toNat)
      case atStart => exact ⟨0, by omega, rfl, HI.out⟩
      case round =>
        clear HI
        obtain ⟨ci, hci, rfl, hrel⟩ := hrel
        have HREL := Lib.hid hrel
        clear hrel
        by_cases hlt2 : ci < 4
        · have q2 : ((ci : Nat) : Int) < 4 := by omega
          go_wp2_with fail
          obtain ⟨wo2, rfl⟩ : ∃ wo : World, wo = wr := ⟨_, rfl⟩
          go_loopw [9] (fun j wq => ∃ r : Nat, r ≤ 4 ∧ j = .int .i64 (r : Nat) ∧ NxR A g (4 * ci + r) wo wq) (fun j _ => 4 - (intOf j).toNat)
          case atStart => exact ⟨0, by omega, rfl, HREL.out⟩
          case round => as_aux_lemma =>
            clear HREL
            obtain ⟨ri, hri, rfl, hrel⟩ := hrel
            have HREL := Lib.hid hrel
            by_cases hlt3 : ri < 4
            · have hm4 : (ci + ri) % 4 < 4 := Nat.mod_lt _ (by omega)
              have HSET := Lib.hid (gK_set (A := A) (B := zr 16) (k := 4 * ci + ri) (by rw [HSL.out, zr_len]) (by rw [zr_len]; omega))
              have hsb := HSB.out ci ri hlt2 hlt3
              obtain ⟨m, hm⟩ : ∃ q, (ci + ri) % 4 = q := ⟨_, rfl⟩
              rw [hm] at hm4 hsb
              have hcz : wr.cell? ⟨b, off + (4 * m + ri), none⟩ = some (.int .u8 ((bytesL E).getD (4 * m + ri) 0 : Nat)) := (hrel.2.cell (p := ⟨b, off + (4 * m + ri), none⟩) (by rw [HGE.out]; exact hbb)).trans (HC.out (4 * m + ri) (by omega))
              have y1 := byte_lt H256.out (4 * m + ri)
              obtain ⟨x, hx⟩ : ∃ q, (bytesL E).getD (4 * m + ri) 0 = q := ⟨_, rfl⟩
              rw [hx] at hcz y1 hsb
              have hct : wr.cell? ⟨0, x, none⟩ = some (.int .u8 (tb sb x : Nat)) := (HGV.out.kept hrel.2).2 x y1
              rw [hsb] at HSET
              obtain ⟨y, hy⟩ : ∃ q, tb sb x = q := ⟨_, rfl⟩
              rw [hy] at hct HSET
              have hl16 : (gK A (zr 16) (4 * ci + ri)).length = 16 := by rw [gK_len (by rw [HSL.out, zr_len]), zr_len]
              have hco := cell_arr hrel.1 (show 4 * ci + ri < (gK A (zr 16) (4 * ci + ri)).length by omega)
              have hff := (rowN_cell hrel.1).2 (4 * ci + ri)
              have k0 : ((ri : Nat) : Int) < 4 := by omega
              have k1 : ((x : Nat) : Int) < 256 := by omega
              have i1 : IntKind.i64.wrap (4 * ((ci : Nat) : Int)) = 4 * ((ci : Nat) : Int) := IntWalk.i64_in _ (by omega)
              have i2 : IntKind.i64.wrap (4 * ((ci : Nat) : Int) + ((ri : Nat) : Int)) = 4 * ((ci : Nat) : Int) + ((ri : Nat) : Int) := IntWalk.i64_in _ (by omega)
              have i3 : (0 : Int) ≤ 4 * ((ci : Nat) : Int) + ((ri : Nat) : Int) := by omega
              have i4 : 4 * ((ci : Nat) : Int) + ((ri : Nat) : Int) < 16 := by omega
              have i5 : (4 * ((ci : Nat) : Int) + ((ri : Nat) : Int)).toNat = 4 * ci + ri := by omega
              have j1 : IntKind.i64.wrap (((ci : Nat) : Int) + ((ri : Nat) : Int)) = ((ci : Nat) : Int) + ((ri : Nat) : Int) := IntWalk.i64_in _ (by omega)
              have j2 : (((ci : Nat) : Int) + ((ri : Nat) : Int)) % 4 = ((m : Nat) : Int) := by omega
              have j3 : (((ci : Nat) : Int) + ((ri : Nat) : Int)).tmod 4 = ((m : Nat) : Int) := by rw [Int.tmod_eq_emod_of_nonneg (by omega)]; exact j2
              have j4 : IntKind.i64.wrap (4 * ((m : Nat) : Int)) = 4 * ((m : Nat) : Int) := IntWalk.i64_in _ (by omega)
              have j5 : IntKind.i64.wrap (4 * ((m : Nat) : Int) + ((ri : Nat) : Int)) = 4 * ((m : Nat) : Int) + ((ri : Nat) : Int) := IntWalk.i64_in _ (by omega)
              have j6 : (0 : Int) ≤ 4 * ((m : Nat) : Int) + ((ri : Nat) : Int) := by omega
              have j7 : 4 * ((m : Nat) : Int) + ((ri : Nat) : Int) < 16 := by omega
              have j8 : (4 * ((m : Nat) : Int) + ((ri : Nat) : Int)).toNat = 4 * m + ri := by omega
              clear hm hx hy hsb hrel hl16 hm4 y1
              go_wp2_with fail
              refine ⟨⟨ri + 1, by omega, by go_num, ?_, HREL.out.2.setCell (p := ⟨g, 4 * ci + ri, none⟩) (by show wo.heap.size ≤ g; rw [HGE.out]; exact Nat.le_refl _) _⟩, by simp [intOf]; omega⟩
              rw [show 4 * ci + (ri + 1) = 4 * ci + ri + 1 by omega, ← HSET.out]
              exact row_arr HREL.out.1
            · obtain rfl : ri = 4 := by omega
              clear hrel
              go_wp2_with fail
              exact ⟨⟨ci + 1, by omega, by go_num, by have h := HREL.out; rw [show 4 * (ci + 1) = 4 * ci + 4 by omega]; exact h⟩, by simp [intOf]; omega⟩
        · obtain rfl : ci = 4 := by omega
          have hrow := HREL.out.1
          rw [gK_all (by rw [HSL.out]; omega) (by rw [zr_len]; omega)] at hrow
          have HRB := Lib.hid (row_bytes HS2.out hrow HSL.out)
          rw [HSE.out] at HRB
          have HBX := Lib.hid (HB.out.trans (HREL.out.2.mono HB.out.size))
          clear hrow HREL
          by_cases h10 : k < 10
          · have q3 : ((k : Nat) : Int) < 10 := by omega
            have HM := Lib.hid (fun (V : World) (h : BytesAt (bytesL Y) (.slice (some ⟨g, 0, none⟩) 16 16) V) => rmix_any FE (bytesL Y) (.slice (some ⟨g, 0, none⟩) 16 16) rfl (by decide) (bytesL_16 HY.out.1) V h)
            rw [fe_lit, mix_bytes HY.out.1 HY.out.2] at HM
            have HMW := Lib.hid (mix_lw HY.out.1 HY.out.2)
            rw [if_neg (by omega), if_neg (by omega)] at HEK
            go_wp2_with fail
            refine (HM.out _ HRB.out.1).mono ?_
            rintro e w2 ⟨s2, rfl, hb2, hn2, hbl2⟩
            have HB2 := Lib.hid hb2
            have HBX2 := Lib.hid (HBX.out.trans (hbl2.mono HBX.out.size))
            clear hb2 hn2 hbl2
            go_wp2_with fail
            refine (HADD.out _ _ k HMW.out.1 (by omega) _ HBX2.out HB2.out).mono ?_
            rintro e w3 ⟨s3, rfl, hb3, hn3, hbl3⟩
            rw [← HEK.out] at hb3
            have HB3 := Lib.hid hb3
            have HN3 := Lib.hid hn3
            have HBX3 := Lib.hid (HBX2.out.trans (hbl3.mono HBX2.out.size))
            clear hb3 hn3 hbl3
            go_wp2_with fail
            exact ⟨⟨k + 1, by omega, by omega, by go_num, HB3.out, HN3.out, HBX3.out⟩, by simp [intOf]; omega⟩
          · obtain rfl : k = 10 := by omega
            rw [if_neg (by omega), if_pos rfl] at HEK
            go_wp2_with fail
            refine (HADD.out _ _ 10 HY.out.1 (by omega) _ HBX.out HRB.out.1).mono ?_
            rintro e w3 ⟨s3, rfl, hb3, hn3, hbl3⟩
            rw [← HEK.out] at hb3
            have HB3 := Lib.hid hb3
            have HN3 := Lib.hid hn3
            have HBX3 := Lib.hid (HBX.out.trans (hbl3.mono HBX.out.size))
            clear hb3 hn3 hbl3
            go_wp2_with fail
            exact ⟨⟨11, by omega, by omega, by go_num, HB3.out, HN3.out, HBX3.out⟩, by simp [intOf]⟩
    · obtain rfl : k = 11 := by omega
      have HB3 := Lib.hid hb
      have HN3 := Lib.hid hn
      have HBX3 := Lib.hid hbl
      clear hb hn hbl
      go_wp2_with fail
      go_ret
      exact ⟨_, rfl, HB3.out, HN3.out, HBX3.out⟩
end Go.Proofs.YtjcdbjapadgdfaaDoor
