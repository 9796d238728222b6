/- AES: the reference decrypts. -/
import Derived.Test.YtjcdbjapadgdfaaDoorBH
namespace Go.Proofs.YtjcdbjapadgdfaaDoor
open Go.RowKit Go.Shelf

attribute [local go_sem] Oper.semAt_some
theorem run_zero39 (W : World) : (zeroValue 55).run Tryd.prog W = .ok (.agg (List.replicate 256 (Value.int .u8 ((0 : Nat) : Int))).toArray) W := by kernel_rfl
@[go_sem ↓] theorem run_zeroValue39 (W : World) : (zeroValue 55).run Tryd.prog W = .ok (.agg (arr .u8 (zr 256))) W := by
  rw [run_zero39, arr_lit, zr_eq, List.map_replicate]
/-- The table of the inverses after n steps. -/
def ivN : Nat → List Nat
  | 0 => List.replicate 256 0
  | n + 1 => (ivN n).set (tb sb n) n
theorem ivN_len : ∀ n, (ivN n).length = 256
  | 0 => List.length_replicate
  | n + 1 => by unfold ivN; rw [List.length_set, ivN_len n]
theorem ivN_all : ivN 256 = ib := by decide +kernel
def IvR (gi : Nat) (w : World) (i : Value) (wr : World) : Prop := ∃ n : Nat, n ≤ 256 ∧ i = .int .i64 (n : Nat) ∧ rowN wr gi = some (arr .u8 (ivN n)) ∧ Below w.heap.size w wr
def UxR (A : List Nat) (g : Nat) (n : Nat) (w wr : World) : Prop := rowN wr g = some (arr .u8 (usN A n)) ∧ Below w.heap.size w wr
def DeR (kw X : List Nat) (gi : Nat) (w : World) (v i : Value) (wr : World) : Prop :=
  ∃ k : Nat, k ≤ 10 ∧ i = .int .i64 (10 - (k : Nat) : Int) ∧ BytesAt (bytesL (decS kw X k)) v wr ∧ Below w.heap.size w wr ∧ rowN wr gi = some (arr .u8 ib)
set_option maxRecDepth 100000 in
set_option maxHeartbeats 4000000 in
theorem rdec_any (kw X : List Nat) (sw s : Value) (hk : kw.length = 4) (hkw : W32 kw) (hX : X.length = 4) (hXw : W32 X) (w : World) (hG : SG w) (hW : BytesAt (FL kw) sw w) (hB : BytesAt (bytesL X) s w) :
    Calls Tryd.prog 18 #[sw, s] w fun e w' => ∃ s', e = .returned s' ∧ BytesAt (bytesL (decS kw X 11)) s' w' ∧ FN w s' ∧ Below w.heap.size w w' := by
  have HADD := Lib.hid (fun (Y : List Nat) (v : Value) (r : Nat) (hY : Y.length = 4) (hr : r ≤ 10) (V : World) (hV : Below w.heap.size w V) (hb : BytesAt (bytesL Y) v V) => (radd_w Y kw v sw r hY hk hr V hb (hW.kept hV)).mono (fun e w' h => show ∃ s', e = .returned s' ∧ BytesAt (bytesL (xorL Y (rk kw r))) s' w' ∧ FN w s' ∧ Below V.heap.size V w' from by
    obtain ⟨s', e1, h1, h2, h3⟩ := h
    exact ⟨s', e1, h1, h2.mono hV.size, h3⟩))
  have HG := Lib.hid hG
  have HB0 := Lib.hid hB
  have HLW := Lib.hid (fun n => decS_lw hk hkw hX hXw n)
  have HRW := Lib.hid (fun n => And.intro (rk_len hk n) (rk_w32 hkw n))
  have HE := Lib.hid (fun k => show decS kw X (k + 1) = if k = 0 then (shL 3 (xorL (decS kw X k) (rk kw (10 - k)))).map (subW ib) else if k = 10 then xorL (decS kw X k) (rk kw (10 - k)) else (shL 3 (umL (xorL (decS kw X k) (rk kw (10 - k))))).map (subW ib) from rfl)
  have hmk := run_mk16
  clear hk hkw hX hXw hG hW hB
  have HT0 := Lib.hid (show IvR w.heap.size w (.int .i64 0) (w.alloc (.cells (arr .u8 (zr 256)) 55)) from ⟨0, by omega, rfl, by rw [rowN_alloc, if_pos rfl, zr_eq]; rfl, (Below.refl _ w).alloc (Nat.le_refl _) _⟩)
  have sz256 : (arr .u8 (zr 256)).size = 256 := by rw [arr_size, zr_len]
  go_enter Tryd.func18, Tryd.ntmps18
  go_wp2_with fail
  obtain ⟨gi, hgi⟩ : ∃ q, w.heap.size = q := ⟨_, rfl⟩
  rw [hgi] at HT0 ⊢
  have HGI := Lib.hid hgi
  clear hgi
  go_loopw [6] (fun i wr => IvR gi w i wr) (fun i _ => 256 - (intOf i).toNat)
  case atStart => exact HT0.out
  case round => as_aux_lemma =>
    clear HT0
    obtain ⟨n, hn, rfl, hro, hbl⟩ := hrel
    have HRO := Lib.hid hro
    have HBL := Lib.hid hbl
    by_cases hlt : n < 256
    · have q1 : ((n : Nat) : Int) < 256 := by omega
      have hct := (HG.out.kept hbl).2 n hlt
      have y1 := sb_lt n
      have HST := Lib.hid (show (ivN n).set (tb sb n) n = ivN (n + 1) from rfl)
      obtain ⟨x, hx⟩ : ∃ q, tb sb n = q := ⟨_, rfl⟩
      rw [hx] at hct y1 HST
      have q2 : ((x : Nat) : Int) < 256 := by omega
      have hco := cell_arr hro (show x < (ivN n).length by rw [ivN_len]; exact y1)
      have hff := (rowN_cell hro).2 x
      have e1 : IntKind.u8.wrap ((n : Nat) : Int) = ((n : Nat) : Int) := by rw [IntKind.wrap_u8]; omega
      clear hx hro hbl y1
      go_wp2_with fail
      refine ⟨⟨n + 1, by omega, by go_num, ?_, HBL.out.setCell (p := ⟨gi, x, none⟩) (by show w.heap.size ≤ gi; rw [HGI.out]; exact Nat.le_refl _) _⟩, by simp [intOf]; omega⟩
      rw [← HST.out]
      exact row_arr HRO.out
    · obtain rfl : n = 256 := by omega
      rw [ivN_all] at hro
      have HI0 := Lib.hid (show DeR kw X gi w s (.int .i64 10) wr from ⟨0, by omega, rfl, HB0.out.kept hbl, hbl, hro⟩)
      clear hro hbl HRO HBL
      go_wp2_with fail
      try rw [show ((256 : Nat) : Int) = 256 from rfl]
      go_loopw [7, 8] (fun v i wr => DeR kw X gi w v i wr) (fun _ i _ => (intOf i).toNat)
      case atStart => exact HI0.out
      case round => as_aux_lemma =>
        clear HI0
        obtain ⟨k, hk, rfl, hb, hbl, hit⟩ := hrel
        have hlw := HLW.out k
        have HEK := Lib.hid (HE.out k)
        have HB := Lib.hid hbl
        have HIT0 := Lib.hid hit
        have hrw := HRW.out (10 - k)
        by_cases hlt : k < 10
        · have q1 : (1 : Int) ≤ 10 - ((k : Nat) : Int) := by omega
          have HA := Lib.hid (HADD.out _ _ (10 - k) hlw.1 (by omega) wr hbl hb)
          rw [show ((10 - k : Nat) : Int) = 10 - ((k : Nat) : Int) by omega] at HA
          have HZ0 := Lib.hid (And.intro (xorL_len hlw.1 hrw.1) (xorL_w32 hlw.2 hrw.2))
          have hdec : IntKind.i64.wrap (10 - ((k : Nat) : Int) - 1) = 10 - ((k : Nat) : Int) - 1 := IntWalk.i64_in _ (by omega)
          obtain ⟨D, hD⟩ : ∃ q, xorL (decS kw X k) (rk kw (10 - k)) = q := ⟨_, rfl⟩
          rw [hD] at HA HZ0 HEK
          clear hb hbl hit hlw hD hrw
          by_cases h0 : k = 0
          · subst h0
            rw [if_pos rfl] at HEK
            go_wp2_with fail
            refine HA.out.mono ?_
            rintro e wx ⟨sx, rfl, hb1, _, hbl1⟩
            have HZB := Lib.hid hb1
            have HBX := Lib.hid (HB.out.trans (hbl1.mono HB.out.size))
            have HIT := Lib.hid (keptW hbl1 HIT0.out)
            have HZW := HZ0
            clear hb1 hbl1 HB HIT0 HA HZ0
            obtain ⟨Z, hZ⟩ : ∃ q, D = q := ⟨_, rfl⟩
            rw [hZ] at HZB HZW HEK
            clear hZ
            obtain ⟨b, off, cp, rfl, hbb, hc⟩ := HZB.out.cells (by rw [bytesL_16 HZW.out.1]; omega)
            rw [bytesL_16 HZW.out.1] at hc
            have HC := Lib.hid hc
            have H256 := Lib.hid HZB.out.1
            have HUB := Lib.hid (fun (c r : Nat) (hc : c < 4) (hr : r < 4) => us_byte (X := Z) hc hr)
            have HUL := Lib.hid (show (usL Z).length = 16 by unfold usL; rw [bytesL_len, List.length_map]; rfl)
            have HUE := Lib.hid (show usL Z = bytesL ((shL 3 Z).map (subW ib)) from rfl)
            have HU2 := Lib.hid (show ∀ x ∈ usL Z, x < 256 from bytesL_256 (map_w32 (fun _ _ => subW_lt ib_256 _) (shL_w32 HZW.out.2 3)))
            obtain ⟨A, hA⟩ : ∃ q, usL Z = q := ⟨_, rfl⟩
            rw [hA] at HUB HUL HUE HU2
            rw [bytesL_16 HZW.out.1]
            clear hA hc
            obtain ⟨V, hV⟩ : ∃ q, wx.alloc (.cells (arr .u8 (zr 16)) 5) = q := ⟨_, rfl⟩
            have hbV : Below wx.heap.size wx V := by rw [← hV]; exact (Below.refl _ _).alloc (Nat.le_refl _) _
            have HI := Lib.hid (show UxR A wx.heap.size 0 wx V from ⟨by unfold usN; rw [← hV, rowN_alloc, if_pos rfl], hbV⟩)
            clear hbV
            go_wp2_with fail
            try rw [hV]
            clear hV
            obtain ⟨g, hg⟩ : ∃ q, wx.heap.size = q := ⟨_, rfl⟩
            rw [hg] at HI ⊢
            rw [hg] at hbb
            have HGE := Lib.hid hg
            clear hg
            obtain ⟨wo, hwo⟩ : ∃ wo : World, wo = wx := ⟨_, rfl⟩
            rw [← hwo] at HI HGE HIT HBX HC HZB
            clear hwo
            go_loopw [10] (fun i wq => ∃ c : Nat, c ≤ 4 ∧ i = .int .i64 (c : Nat) ∧ UxR A g (4 * c) wo wq) (fun i _ => 4 - (intOf i).toNat)
            case atStart => exact ⟨0, by omega, rfl, HI.out⟩
            case round =>
              clear HI
              obtain ⟨ci, hci, rfl, hrel⟩ := hrel
              have HREL := Lib.hid hrel
              clear hrel
              by_cases hlt2 : ci < 4
              · have q2 : ((ci : Nat) : Int) < 4 := by omega
                go_wp2_with fail
                obtain ⟨wo2, rfl⟩ : ∃ wo : World, wo = wr := ⟨_, rfl⟩
                go_loopw [11] (fun j wq => ∃ r : Nat, r ≤ 4 ∧ j = .int .i64 (r : Nat) ∧ UxR A g (4 * ci + r) wo wq) (fun j _ => 4 - (intOf j).toNat)
                case atStart => exact ⟨0, by omega, rfl, HREL.out⟩
                case round => as_aux_lemma =>
                  clear HREL
                  obtain ⟨ri, hri, rfl, hrel⟩ := hrel
                  have HREL := Lib.hid hrel
                  by_cases hlt3 : ri < 4
                  · have hm4 : (ci + ri) % 4 < 4 := Nat.mod_lt _ (by omega)
                    have hstep := usN_step A (c := ci) hlt3
                    have hl16 := usN_len A (4 * ci + ri)
                    have hub := HUB.out ci ri hlt2 hlt3
                    obtain ⟨m, hm⟩ : ∃ q, (ci + ri) % 4 = q := ⟨_, rfl⟩
                    rw [hm] at hm4 hstep hub
                    have hcz : wr.cell? ⟨b, off + (4 * ci + ri), none⟩ = some (.int .u8 ((bytesL Z).getD (4 * ci + ri) 0 : Nat)) := (hrel.2.cell (p := ⟨b, off + (4 * ci + ri), none⟩) (by rw [HGE.out]; exact hbb)).trans (HC.out (4 * ci + ri) (by omega))
                    have y1 := byte_lt H256.out (4 * ci + ri)
                    obtain ⟨x, hx⟩ : ∃ q, (bytesL Z).getD (4 * ci + ri) 0 = q := ⟨_, rfl⟩
                    rw [hx] at hcz y1 hub
                    have hct : wr.cell? ⟨gi, x, none⟩ = some (.int .u8 (tb ib x : Nat)) := cell_arr (keptW hrel.2 HIT.out) (show x < ib.length by rw [ib_len]; exact y1)
                    rw [hub] at hstep
                    obtain ⟨y, hy⟩ : ∃ q, tb ib x = q := ⟨_, rfl⟩
                    rw [hy] at hct hstep
                    have HSTEP := Lib.hid hstep
                    have hco := cell_arr hrel.1 (show 4 * m + ri < (usN A (4 * ci + ri)).length by omega)
                    have hff := (rowN_cell hrel.1).2 (4 * m + ri)
                    have k0 : ((ri : Nat) : Int) < 4 := by omega
                    have k1 : ((x : Nat) : Int) < 256 := by omega
                    have i1 : IntKind.i64.wrap (4 * ((ci : Nat) : Int)) = 4 * ((ci : Nat) : Int) := IntWalk.i64_in _ (by omega)
                    have i2 : IntKind.i64.wrap (4 * ((ci : Nat) : Int) + ((ri : Nat) : Int)) = 4 * ((ci : Nat) : Int) + ((ri : Nat) : Int) := IntWalk.i64_in _ (by omega)
                    have i3 : (0 : Int) ≤ 4 * ((ci : Nat) : Int) + ((ri : Nat) : Int) := by omega
                    have i4 : 4 * ((ci : Nat) : Int) + ((ri : Nat) : Int) < 16 := by omega
                    have i5 : (4 * ((ci : Nat) : Int) + ((ri : Nat) : Int)).toNat = 4 * ci + ri := by omega
                    have j1 : IntKind.i64.wrap (((ci : Nat) : Int) + ((ri : Nat) : Int)) = ((ci : Nat) : Int) + ((ri : Nat) : Int) := IntWalk.i64_in _ (by omega)
                    have j2 : (((ci : Nat) : Int) + ((ri : Nat) : Int)) % 4 = ((m : Nat) : Int) := by omega
                    have j3 : (((ci : Nat) : Int) + ((ri : Nat) : Int)).tmod 4 = ((m : Nat) : Int) := by rw [Int.tmod_eq_emod_of_nonneg (by omega)]; exact j2
                    have j4 : IntKind.i64.wrap (4 * ((m : Nat) : Int)) = 4 * ((m : Nat) : Int) := IntWalk.i64_in _ (by omega)
                    have j5 : IntKind.i64.wrap (4 * ((m : Nat) : Int) + ((ri : Nat) : Int)) = 4 * ((m : Nat) : Int) + ((ri : Nat) : Int) := IntWalk.i64_in _ (by omega)
                    have j6 : (0 : Int) ≤ 4 * ((m : Nat) : Int) + ((ri : Nat) : Int) := by omega
                    have j7 : 4 * ((m : Nat) : Int) + ((ri : Nat) : Int) < 16 := by omega
                    have j8 : (4 * ((m : Nat) : Int) + ((ri : Nat) : Int)).toNat = 4 * m + ri := by omega
                    clear hm hx hy hub hrel hl16 hm4 y1 hstep
                    go_wp2_with fail
                    refine ⟨⟨ri + 1, by omega, by go_num, ?_, HREL.out.2.setCell (p := ⟨g, 4 * m + ri, none⟩) (by show wo.heap.size ≤ g; rw [HGE.out]; exact Nat.le_refl _) _⟩, by simp [intOf]; omega⟩
                    rw [← HSTEP.out]
                    exact row_arr HREL.out.1
                  · obtain rfl : ri = 4 := by omega
                    clear hrel
                    go_wp2_with fail
                    exact ⟨⟨ci + 1, by omega, by go_num, by have h := HREL.out; rw [show 4 * (ci + 1) = 4 * ci + 4 by omega]; exact h⟩, by simp [intOf]; omega⟩
              · obtain rfl : ci = 4 := by omega
                have hrow := HREL.out.1
                rw [usN_all HUL.out] at hrow
                have HRB := Lib.hid (row_bytes HU2.out hrow HUL.out)
                rw [HUE.out, ← HEK.out] at HRB
                have HBE := Lib.hid (HBX.out.trans (HREL.out.2.mono HBX.out.size))
                have HIE := Lib.hid (keptW HREL.out.2 HIT.out)
                clear hrow HREL
                go_wp2_with fail
                exact ⟨⟨1, by omega, by go_num, HRB.out.1, HBE.out, HIE.out⟩, by simp [intOf]⟩
          · have q2 : 10 - ((k : Nat) : Int) < 10 := by omega
            rw [if_neg h0, if_neg (by omega)] at HEK
            have HM := Lib.hid (fun (v : Value) (V : World) (h : BytesAt (bytesL D) v V) => rmix_any FD (bytesL D) v rfl (by decide) (bytesL_16 HZ0.out.1) V h)
            rw [fd_lit, umix_bytes HZ0.out.1 HZ0.out.2] at HM
            have HZW := Lib.hid (unmix_lw HZ0.out.1 HZ0.out.2)
            obtain ⟨Z, hZ⟩ : ∃ q, umL D = q := ⟨_, rfl⟩
            rw [hZ] at HM HZW HEK
            clear hZ
            go_wp2_with fail
            refine HA.out.mono ?_
            rintro e w1 ⟨s1, rfl, hb1, _, hbl1⟩
            have HB1 := Lib.hid hb1
            have HBX1 := Lib.hid (HB.out.trans (hbl1.mono HB.out.size))
            have HIT1 := Lib.hid (keptW hbl1 HIT0.out)
            clear hb1 hbl1 HB HIT0 HA
            go_wp2_with fail
            refine (HM.out _ _ HB1.out).mono ?_
            rintro e wx ⟨sx, rfl, hb1, _, hbl1⟩
            have HZB := Lib.hid hb1
            have HBX := Lib.hid (HBX1.out.trans (hbl1.mono HBX1.out.size))
            have HIT := Lib.hid (keptW hbl1 HIT1.out)
            clear hb1 hbl1 HBX1 HIT1 HM
            obtain ⟨b, off, cp, rfl, hbb, hc⟩ := HZB.out.cells (by rw [bytesL_16 HZW.out.1]; omega)
            rw [bytesL_16 HZW.out.1] at hc
            have HC := Lib.hid hc
            have H256 := Lib.hid HZB.out.1
            have HUB := Lib.hid (fun (c r : Nat) (hc : c < 4) (hr : r < 4) => us_byte (X := Z) hc hr)
            have HUL := Lib.hid (show (usL Z).length = 16 by unfold usL; rw [bytesL_len, List.length_map]; rfl)
            have HUE := Lib.hid (show usL Z = bytesL ((shL 3 Z).map (subW ib)) from rfl)
            have HU2 := Lib.hid (show ∀ x ∈ usL Z, x < 256 from bytesL_256 (map_w32 (fun _ _ => subW_lt ib_256 _) (shL_w32 HZW.out.2 3)))
            obtain ⟨A, hA⟩ : ∃ q, usL Z = q := ⟨_, rfl⟩
            rw [hA] at HUB HUL HUE HU2
            rw [bytesL_16 HZW.out.1]
            clear hA hc
            obtain ⟨V, hV⟩ : ∃ q, wx.alloc (.cells (arr .u8 (zr 16)) 5) = q := ⟨_, rfl⟩
            have hbV : Below wx.heap.size wx V := by rw [← hV]; exact (Below.refl _ _).alloc (Nat.le_refl _) _
            have HI := Lib.hid (show UxR A wx.heap.size 0 wx V from ⟨by unfold usN; rw [← hV, rowN_alloc, if_pos rfl], hbV⟩)
            clear hbV
            go_wp2_with fail
            try rw [hV]
            clear hV
            obtain ⟨g, hg⟩ : ∃ q, wx.heap.size = q := ⟨_, rfl⟩
            rw [hg] at HI ⊢
            rw [hg] at hbb
            have HGE := Lib.hid hg
            clear hg
            obtain ⟨wo, hwo⟩ : ∃ wo : World, wo = wx := ⟨_, rfl⟩
            rw [← hwo] at HI HGE HIT HBX HC HZB
            clear hwo
            go_loopw [10] (fun i wq => ∃ c : Nat, c ≤ 4 ∧ i = .int .i64 (c : Nat) ∧ UxR A g (4 * c) wo wq) (fun i _ => 4 - (intOf i).toNat)
            case atStart => exact ⟨0, by omega, rfl, HI.out⟩
            case round =>
              clear HI
              obtain ⟨ci, hci, rfl, hrel⟩ := hrel
              have HREL := Lib.hid hrel
              clear hrel
              by_cases hlt2 : ci < 4
              · have q2 : ((ci : Nat) : Int) < 4 := by omega
                go_wp2_with fail
                obtain ⟨wo2, rfl⟩ : ∃ wo : World, wo = wr := ⟨_, rfl⟩
                go_loopw [11] (fun j wq => ∃ r : Nat, r ≤ 4 ∧ j = .int .i64 (r : Nat) ∧ UxR A g (4 * ci + r) wo wq) (fun j _ => 4 - (intOf j).toNat)
                case atStart => exact ⟨0, by omega, rfl, HREL.out⟩
                case round => as_aux_lemma =>
                  clear HREL
                  obtain ⟨ri, hri, rfl, hrel⟩ := hrel
                  have HREL := Lib.hid hrel
                  by_cases hlt3 : ri < 4
                  · have hm4 : (ci + ri) % 4 < 4 := Nat.mod_lt _ (by omega)
                    have hstep := usN_step A (c := ci) hlt3
                    have hl16 := usN_len A (4 * ci + ri)
                    have hub := HUB.out ci ri hlt2 hlt3
                    obtain ⟨m, hm⟩ : ∃ q, (ci + ri) % 4 = q := ⟨_, rfl⟩
                    rw [hm] at hm4 hstep hub
                    have hcz : wr.cell? ⟨b, off + (4 * ci + ri), none⟩ = some (.int .u8 ((bytesL Z).getD (4 * ci + ri) 0 : Nat)) := (hrel.2.cell (p := ⟨b, off + (4 * ci + ri), none⟩) (by rw [HGE.out]; exact hbb)).trans (HC.out (4 * ci + ri) (by omega))
                    have y1 := byte_lt H256.out (4 * ci + ri)
                    obtain ⟨x, hx⟩ : ∃ q, (bytesL Z).getD (4 * ci + ri) 0 = q := ⟨_, rfl⟩
                    rw [hx] at hcz y1 hub
                    have hct : wr.cell? ⟨gi, x, none⟩ = some (.int .u8 (tb ib x : Nat)) := cell_arr (keptW hrel.2 HIT.out) (show x < ib.length by rw [ib_len]; exact y1)
                    rw [hub] at hstep
                    obtain ⟨y, hy⟩ : ∃ q, tb ib x = q := ⟨_, rfl⟩
                    rw [hy] at hct hstep
                    have HSTEP := Lib.hid hstep
                    have hco := cell_arr hrel.1 (show 4 * m + ri < (usN A (4 * ci + ri)).length by omega)
                    have hff := (rowN_cell hrel.1).2 (4 * m + ri)
                    have k0 : ((ri : Nat) : Int) < 4 := by omega
                    have k1 : ((x : Nat) : Int) < 256 := by omega
                    have i1 : IntKind.i64.wrap (4 * ((ci : Nat) : Int)) = 4 * ((ci : Nat) : Int) := IntWalk.i64_in _ (by omega)
                    have i2 : IntKind.i64.wrap (4 * ((ci : Nat) : Int) + ((ri : Nat) : Int)) = 4 * ((ci : Nat) : Int) + ((ri : Nat) : Int) := IntWalk.i64_in _ (by omega)
                    have i3 : (0 : Int) ≤ 4 * ((ci : Nat) : Int) + ((ri : Nat) : Int) := by omega
                    have i4 : 4 * ((ci : Nat) : Int) + ((ri : Nat) : Int) < 16 := by omega
                    have i5 : (4 * ((ci : Nat) : Int) + ((ri : Nat) : Int)).toNat = 4 * ci + ri := by omega
                    have j1 : IntKind.i64.wrap (((ci : Nat) : Int) + ((ri : Nat) : Int)) = ((ci : Nat) : Int) + ((ri : Nat) : Int) := IntWalk.i64_in _ (by omega)
                    have j2 : (((ci : Nat) : Int) + ((ri : Nat) : Int)) % 4 = ((m : Nat) : Int) := by omega
                    have j3 : (((ci : Nat) : Int) + ((ri : Nat) : Int)).tmod 4 = ((m : Nat) : Int) := by rw [Int.tmod_eq_emod_of_nonneg (by omega)]; exact j2
                    have j4 : IntKind.i64.wrap (4 * ((m : Nat) : Int)) = 4 * ((m : Nat) : Int) := IntWalk.i64_in _ (by omega)
                    have j5 : IntKind.i64.wrap (4 * ((m : Nat) : Int) + ((ri : Nat) : Int)) = 4 * ((m : Nat) : Int) + ((ri : Nat) : Int) := IntWalk.i64_in _ (by omega)
                    have j6 : (0 : Int) ≤ 4 * ((m : Nat) : Int) + ((ri : Nat) : Int) := by omega
                    have j7 : 4 * ((m : Nat) : Int) + ((ri : Nat) : Int) < 16 := by omega
                    have j8 : (4 * ((m : Nat) : Int) + ((ri : Nat) : Int)).toNat = 4 * m + ri := by omega
                    clear hm hx hy hub hrel hl16 hm4 y1 hstep
                    go_wp2_with fail
                    refine ⟨⟨ri + 1, by omega, by go_num, ?_, HREL.out.2.setCell (p := ⟨g, 4 * m + ri, none⟩) (by show wo.heap.size ≤ g; rw [HGE.out]; exact Nat.le_refl _) _⟩, by simp [intOf]; omega⟩
                    rw [← HSTEP.out]
                    exact row_arr HREL.out.1
                  · obtain rfl : ri = 4 := by omega
                    clear hrel
                    go_wp2_with fail
                    exact ⟨⟨ci + 1, by omega, by go_num, by have h := HREL.out; rw [show 4 * (ci + 1) = 4 * ci + 4 by omega]; exact h⟩, by simp [intOf]; omega⟩
              · obtain rfl : ci = 4 := by omega
                have hrow := HREL.out.1
                rw [usN_all HUL.out] at hrow
                have HRB := Lib.hid (row_bytes HU2.out hrow HUL.out)
                rw [HUE.out, ← HEK.out] at HRB
                have HBE := Lib.hid (HBX.out.trans (HREL.out.2.mono HBX.out.size))
                have HIE := Lib.hid (keptW HREL.out.2 HIT.out)
                clear hrow HREL
                go_wp2_with fail
                exact ⟨⟨k + 1, by omega, by go_num, HRB.out.1, HBE.out, HIE.out⟩, by simp [intOf]; omega⟩
        · obtain rfl : k = 10 := by omega
          rw [if_neg (by omega), if_pos rfl] at HEK
          have HA := Lib.hid (HADD.out _ _ 0 hlw.1 (by omega) wr hbl hb)
          rw [show rk kw 0 = rk kw (10 - 10) from rfl, ← HEK.out] at HA
          clear hb hbl hit hlw
          go_wp2_with fail
          refine HA.out.mono ?_
          rintro e w1 ⟨s1, rfl, hb1, hn1, hbl1⟩
          have HB1 := Lib.hid hb1
          have HN1 := Lib.hid hn1
          have HBX1 := Lib.hid (HB.out.trans (hbl1.mono HB.out.size))
          clear hb1 hn1 hbl1
          go_wp2_with fail
          go_ret
          exact ⟨_, rfl, HB1.out, HN1.out, HBX1.out⟩
end Go.Proofs.YtjcdbjapadgdfaaDoor
