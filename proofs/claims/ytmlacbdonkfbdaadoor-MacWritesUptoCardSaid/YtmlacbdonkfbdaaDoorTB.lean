/- The reference's Sum. -/
import Derived.Deep.RegionHeld3
import Derived.Test.YtmlacbdonkfbdaaDoorTA
import Derived.Test.YtmlacbdonkfbdaaDoorSO
namespace Go.Proofs.YtmlacbdonkfbdaaDoor
open Go.RowKit

theorem run_build50iv (W : World) : (Instr.build 68 #[(0, .int .i64 1779033703), (1, .int .i64 3144134277), (2, .int .i64 1013904242), (3, .int .i64 2773480762), (4, .int .i64 1359893119), (5, .int .i64 2600822924), (6, .int .i64 528734635), (7, .int .i64 1541459225)]).run Tryd.prog W = .ok (.agg (arr .i64 iv)) W := by
  rw [arr_lit]; kernel_rfl
@[go_sem] theorem run_arBuild50iv (W : World) : (arBuild50 (.int .i64 1779033703) (.int .i64 3144134277) (.int .i64 1013904242) (.int .i64 2773480762) (.int .i64 1359893119) (.int .i64 2600822924) (.int .i64 528734635) (.int .i64 1541459225)).run Tryd.prog W = .ok (.value (.agg (arr .i64 iv))) W := by
  simp only [arBuild50, Sem.run_bind, run_build50iv, Result.andThen_ok, Sem.run_pure]

theorem run_slice22_lh (b off L c l h : Nat) (hl : l ≤ h) (hh : h ≤ c) (hlt : l < c) (W : World) :
    (Instr.sliceAt 22 (.slice (some ⟨b, off, none⟩) L c) (some (.int .i64 (l : Nat))) (some (.int .i64 (h : Nat))) none).run Tryd.prog W = .ok (.slice (some ⟨b, off + l, none⟩) (h - l) (c - l)) W := by
  have e1 : ((h : Nat) : Int).toNat = h := Int.toNat_natCast h
  have e2 : ((l : Nat) : Int).toNat = l := Int.toNat_natCast l
  have e4 : max ((h : Nat) : Int) 0 = h := by omega
  have e5 : ¬ c = l := by omega
  have e6 : ((h : Nat) : Int) ≤ (c : Int) := by omega
  have e7 : (0 : Int) ≤ (h : Int) := by omega
  have e8 : (0 : Int) ≤ (l : Int) := by omega
  have e9 : ((l : Nat) : Int) ≤ (h : Int) := by omega
  go_simp
theorem keeps_setRow (X : World) (g : Nat) (cs : Array Value) : Keeps (fun j => j = g) X (X.setRow g cs) := ⟨by simp [World.setRow], fun j _ hm => setRow_other X g j cs hm⟩
def R1Rel (P : List Nat) (w : World) (s : Value) (i : Value) (wr : World) : Prop :=
  ∃ k : Nat, k ≤ P.length / 64 ∧ i = .int .i64 (64 * k : Nat) ∧ rowN wr (w.heap.size + 1) = some (arr .i64 (plusL (absB zero8 k P) iv)) ∧ rowN wr w.heap.size = some (arr .u8 z32) ∧ BytesAt P s wr ∧ RG wr ∧ Below w.heap.size w wr
def RoRel (H : List Nat) (w : World) (g8 : Nat) (i : Value) (wr : World) : Prop :=
  ∃ k : Nat, k ≤ 32 ∧ i = .int .i64 (k : Nat) ∧ rowN wr g8 = some (arr .u8 (pf (ob H) k)) ∧ rowN wr w.heap.size = some (arr .u8 z32) ∧ rowN wr (w.heap.size + 1) = some (arr .i64 H) ∧ Below w.heap.size w wr
set_option maxRecDepth 100000 in
set_option maxHeartbeats 1000000 in
theorem rsum_any (zs : List Nat) (s : Value) (hL : zs.length ≤ 100000) (w : World) (hGw : RG w) (hB : BytesAt zs s w) (hnil : Nil0 s) :
    Calls Tryd.prog 20 #[s] w fun e w' => e = .returned (.agg (arr .u8 (shaL zs))) ∧ Below w.heap.size w w' := by
  have HPD := Lib.hid (fun W (h : BytesAt zs s W) => rpad_any zs s hL W h hnil)
  have HB := Lib.hid hB
  have hz32 := z32_lit
  have sz8 : (arr .i64 zero8).size = 8 := by rw [arr_size]; rfl
  have sziv : (arr .i64 iv).size = 8 := by rw [arr_size]; rfl
  have hivl : iv.length = 8 := rfl
  have hA : Below w.heap.size w (((w.alloc (.cells (arr .u8 z32) 27)).alloc (.cells (arr .i64 zero8) 68)).setRow (w.heap.size + 1) (arr .i64 iv)) := below_setRow' (((Below.refl _ w).alloc (Nat.le_refl _) _).alloc (by simp) _) (by omega) _
  have hr1 : rowN (((w.alloc (.cells (arr .u8 z32) 27)).alloc (.cells (arr .i64 zero8) 68)).setRow (w.heap.size + 1) (arr .i64 iv)) (w.heap.size + 1) = some (arr .i64 iv) := row_new (by rw [rowN_alloc, if_pos (by simp)])
  have hr0 : rowN (((w.alloc (.cells (arr .u8 z32) 27)).alloc (.cells (arr .i64 zero8) 68)).setRow (w.heap.size + 1) (arr .i64 iv)) w.heap.size = some (arr .u8 z32) := row_other (by rw [rowN_alloc, if_neg (by simp), rowN_alloc, if_pos rfl]) (by omega)
  have HA := Lib.hid hA
  have HGW := Lib.hid hGw
  have HGA := Lib.hid (hGw.kept hA)
  have HR1 := Lib.hid hr1
  have HR0 := Lib.hid hr0
  clear hA hr1 hr0 hB hnil
  go_enter Tryd.func20, Tryd.ntmps20
  go_wp2_with fail
  refine (HPD.out _ (HB.out.kept HA.out)).mono ?_
  rintro e w2 ⟨s2, rfl, ⟨hb2, hf2⟩, hB2⟩
  have hP64 : (padL zs).length % 64 = 0 := by rw [padL_len]; unfold nz; omega
  have hP0 : 0 < (padL zs).length := by rw [padL_len]; omega
  have hPle : (padL zs).length ≤ 200000 := by rw [padL_len]; unfold nz; omega
  have HSHA := Lib.hid (show shaL zs = outB (absB zero8 ((padL zs).length / 64) (padL zs)) from rfl)
  obtain ⟨P, hP⟩ : ∃ P, padL zs = P := ⟨_, rfl⟩
  rw [hP] at hb2 hP64 hP0 hPle HSHA
  obtain ⟨b, off, c, rfl, hcc⟩ : ∃ b off c, s2 = .slice (some ⟨b, off, none⟩) P.length c ∧ P.length ≤ c := by
    obtain ⟨_, a, c, e, hc, h2⟩ := hb2
    rcases h2 with h2 | ⟨b, off, rfl, _⟩
    · omega
    · exact ⟨b, off, c, e, hc⟩
  obtain ⟨PL, hPL⟩ : ∃ PL, P.length = PL := ⟨_, rfl⟩
  have HPL := Lib.hid hPL
  have HRI := Lib.hid (show R1Rel P w (.slice (some ⟨b, off, none⟩) PL c) (.int .i64 (0 : Nat)) w2 from ⟨0, by omega, rfl, by
      show _ = some (arr .i64 (plusL zero8 iv))
      rw [zero_iv]; exact keptW hB2 HR1.out, keptW hB2 HR0.out, by rw [← hPL]; exact hb2, HGA.out.kept hB2, HA.out.trans (hB2.mono (by simp [World.setRow]; omega))⟩)
  rw [hPL] at hcc hP64 hP0 hPle ⊢
  have HFB := Lib.hid (fun j (h : InS (.slice (some ⟨b, off, none⟩) PL c) j) => show w.heap.size + 2 ≤ j from by have := hf2 j (by rw [hPL]; exact h); simp [World.setRow] at this; omega)
  clear hb2 hf2 hB2 hP hPL
  go_wp2_with fail
  go_loopw [5] (fun i wr => R1Rel P w (.slice (some ⟨b, off, none⟩) PL c) i wr) (fun i _ => PL - (intOf i).toNat)
  case atStart => exact HRI.out
  case round =>
    clear HRI
    obtain ⟨k, hk, rfl, hr1, hr0, hpb, hgw, hbw⟩ := hrel
    rw [HPL.out] at hk
    by_cases hlt : k < PL / 64
    · have hH8 : (plusL (absB zero8 k P) iv).length = 8 := plusL_len (absB_len rfl P k) iv_len
      have HBS := Lib.hid (show ((P.drop (64 * k)).take 64).length = 64 from pad_blk P (by rw [HPL.out]; exact hlt))
      have HNEXT := Lib.hid (show refL (plusL (absB zero8 k P) iv) ((P.drop (64 * k)).take 64) = plusL (absB zero8 (k + 1) P) iv by rw [refL_abs (absB_len rfl P k), absB_snoc])
      have HW32 := Lib.hid (plusL_w32 (absB zero8 k P) iv)
      have hbl : BytesAt ((P.drop (64 * k)).take 64) (.slice (some ⟨b, off + 64 * k, none⟩) 64 (c - 64 * k)) wr := by
        have h := BytesAt.blk (zs := P) (b := b) (off := off) (c := c) (by rw [HPL.out]; exact hpb) (k := k) (by rw [HPL.out]; omega)
        obtain ⟨h1, a, c0, e, hc0, h2⟩ := h
        rw [HBS.out] at e hc0 h2
        cases e
        exact ⟨h1, _, c - 64 * k, by rw [HBS.out], by rw [HBS.out]; omega, by rw [HBS.out]; exact h2⟩
      obtain ⟨H, hH⟩ : ∃ H, plusL (absB zero8 k P) iv = H := ⟨_, rfl⟩
      obtain ⟨bs, hbs⟩ : ∃ bs, (P.drop (64 * k)).take 64 = bs := ⟨_, rfl⟩
      rw [hH] at hH8 HNEXT HW32 hr1
      rw [hbs] at HBS HNEXT hbl
      have HSZ := Lib.hid (show (arr .i64 H).size = 8 by rw [arr_size, hH8])
      have HCALL := Lib.hid (fun W (h1 : RG W) (h2 : BytesAt bs (.slice (some ⟨b, off + 64 * k, none⟩) 64 (c - 64 * k)) W) => show Calls Tryd.prog 31 #[.agg (arr .i64 H), .slice (some ⟨b, off + 64 * k, none⟩) 64 (c - 64 * k)] W (fun e w' => e = .returned (.agg (arr .i64 (refL H bs))) ∧ Below W.heap.size W w') by
        obtain ⟨b', o', c', e, hb, hc⟩ := blk_slice h2 HBS.out
        cases e
        exact rblock_any H bs _ _ _ hH8 HW32.out HBS.out h2.1 W h1 hb hc)
      have szH := HSZ.out
      have HPLE := Lib.hid hPle
      have HKL := Lib.hid (show 64 * k + 64 ≤ PL by omega)
      have HPC := Lib.hid hcc
      have hlt2 : ((64 * k : Nat) : Int) < (PL : Int) := by omega
      have hrl : (refL H bs).length = 8 := plusL_len hH8 (list_len _)
      have Hh_0 := Lib.hid (show rowN wr.drew (w.heap.size + 1) = some (arr .i64 H) from hr1)
      have Hr_0 := Lib.hid (show rowN wr.drew w.heap.size = some (arr .u8 z32) from hr0)
      have HL_0 := Lib.hid (show Below w.heap.size w wr.drew from hbw.drew)
      have HPP_0 := Lib.hid (show BytesAt P (.slice (some ⟨b, off, none⟩) PL c) wr.drew from hpb)
      have HPB_0 := Lib.hid (show BytesAt bs (.slice (some ⟨b, off + 64 * k, none⟩) 64 (c - 64 * k)) wr.drew from hbl)
      have HG_0 := Lib.hid (show RG wr.drew from hgw)
      have hk1 := HKL.out
      have hk2 := HPC.out
      have e1 : IntKind.i64.wrap (64 * ((k : Nat) : Int) + 64) = 64 * ((k : Nat) : Int) + 64 := IntWalk.i64_in _ (by omega)
      have hsl : ∀ W, (Instr.sliceAt 22 (.slice (some ⟨b, off, none⟩) PL c) (some (.int .i64 (64 * ((k : Nat) : Int)))) (some (.int .i64 (64 * ((k : Nat) : Int) + 64))) none).run Tryd.prog W = .ok (.slice (some ⟨b, off + 64 * k, none⟩) 64 (c - 64 * k)) W := fun W => by
        have h := run_slice22_lh b off PL c (64 * k) (64 * k + 64) (by omega) (by omega) (by omega) W
        rw [show ((64 * k : Nat) : Int) = 64 * ((k : Nat) : Int) by omega, show ((64 * k + 64 : Nat) : Int) = 64 * ((k : Nat) : Int) + 64 by omega, show 64 * k + 64 - 64 * k = 64 by omega] at h
        exact h
      go_upto_region 6 with fail
      refine wp_region_still_tail 6 (by kernel_rfl) (by kernel_rfl) ?_
      simp only [List.take_succ_cons, List.take_zero, List.drop_succ_cons, List.drop_zero]
      repeat still_step
      refine wpStill_nil ?_
      change wpList _ _ _ _ _ wr.drew
      clear hpb hgw hbw hbl hr0 hr1 hsl
      generalize wr.drew = V at *
      go_wp2_with fail
      refine (HCALL.out _ HG_0.out HPB_0.out).mono ?_
      rintro e x1 ⟨rfl, hb⟩
      have hh1 := keptW hb Hh_0.out
      have Hh_1 := Lib.hid hh1
      have Hr_1 := Lib.hid (keptW hb Hr_0.out)
      have HL_1 := Lib.hid (HL_0.out.trans (hb.mono HL_0.out.size))
      have HPP_1 := Lib.hid (HPP_0.out.kept hb)
      clear hb Hh_0 Hr_0 HL_0 HPP_0 HPB_0 HG_0
      go_wp2_with fail
      have hb2 := below_setRow' HL_1.out (show w.heap.size ≤ w.heap.size + 1 by omega) (arr .i64 (refL H bs))
      refine ⟨⟨k + 1, by rw [HPL.out]; omega, by go_num, ?_, row_other Hr_1.out (by omega), HPP_1.out.keeps (keeps_setRow _ _ _) (fun j _ hj e => by subst e; have := HFB.out _ hj; omega), HGW.out.kept hb2, hb2⟩, by simp [intOf]; omega⟩
      rw [← HNEXT.out]
      exact row_new Hh_1.out
    · obtain rfl : k = PL / 64 := by omega
      have hH8 : (plusL (absB zero8 (PL / 64) P) iv).length = 8 := plusL_len (absB_len rfl P _) iv_len
      have HW32 := Lib.hid (plusL_w32 (absB zero8 (PL / 64) P) iv)
      have HEND := Lib.hid (show shaL zs = ob (plusL (absB zero8 (PL / 64) P) iv) by rw [HSHA.out, HPL.out]; rfl)
      obtain ⟨H, hH⟩ : ∃ H, plusL (absB zero8 (PL / 64) P) iv = H := ⟨_, rfl⟩
      rw [hH] at hr1 hH8 HW32 HEND
      have hge : ¬ ((64 * (PL / 64) : Nat) : Int) < (PL : Int) := by omega
      have Hh_0 := Lib.hid hr1
      have Hr_0 := Lib.hid hr0
      have HL_0 := Lib.hid hbw
      clear hH hpb hgw hr1 hr0 hbw
      have HO32 := Lib.hid (show (ob H).length = 32 by rw [ob_len, hH8])
      have HH8 := Lib.hid hH8
      obtain ⟨i0, hi0⟩ : ∃ x : Int, ((64 * (PL / 64) : Nat) : Int) = x := ⟨_, rfl⟩
      rw [hi0] at hge ⊢
      clear hi0 hH8 hk hlt
      go_wp2_with fail
      have hbA : Below wr.heap.size wr (wr.alloc (.cells (arr .u8 z32) 27)) := (Below.refl _ _).alloc (Nat.le_refl _) _
      have HF := Lib.hid (show RoRel H w wr.heap.size (.int .i64 0) (wr.alloc (.cells (arr .u8 z32) 27)) from
        ⟨0, by omega, rfl, by rw [show pf (ob H) 0 = z32 from rfl, rowN_alloc, if_pos rfl], keptW hbA Hr_0.out, keptW hbA Hh_0.out, HL_0.out.trans (hbA.mono HL_0.out.size)⟩)
      have HGE := Lib.hid (show w.heap.size + 1 < wr.heap.size from rowN_lt Hh_0.out)
      obtain ⟨g8, hg8⟩ : ∃ g, wr.heap.size = g := ⟨_, rfl⟩
      rw [hg8] at HF HGE ⊢
      clear hbA hg8 Hh_0 Hr_0 HL_0
      go_loopw [7] (fun i wr => RoRel H w g8 i wr) (fun i _ => 32 - (intOf i).toNat)
      case atStart => exact HF.out
      case round =>
        clear HF
        obtain ⟨i, hi, rfl, hr8, hr1, hrh, hB⟩ := hrel
        have HB := Lib.hid hB
        have HR1 := Lib.hid hr1
        have HRH := Lib.hid hrh
        have HR8 := Lib.hid hr8
        by_cases hlt : i < 32
        · have hc := cell_arr hrh (show i / 4 < H.length by rw [HH8.out]; omega)
          have hx32 := HW32.out.get (i / 4)
          have hg := ob_get H (i / 4) (by rw [HH8.out]; omega)
          obtain ⟨x, hx⟩ : ∃ x, H.getD (i / 4) 0 = x := ⟨_, rfl⟩
          rw [hx] at hc hx32 hg
          have hf := (rowN_cell hr8).2 i
          have hc8 := cell_arr hr8 (show i < (pf (ob H) i).length by rw [pf_len HO32.out (by omega)]; exact hlt)
          have q0 : ((i : Nat) : Int) < 32 := by omega
          have q1 : ((i : Nat) : Int) / 4 < 8 := by omega
          have HGT := Lib.hid hg
          clear hx hr8 hr1 hrh hB hg
          have hr : i % 4 = 0 ∨ i % 4 = 1 ∨ i % 4 = 2 ∨ i % 4 = 3 := by omega
          rcases hr with hr | hr | hr | hr
          · have q2 : ((i : Nat) : Int) % 4 = 0 := by omega
            go_wp2_with fail
            refine ⟨⟨i + 1, by omega, by go_num, ?_, row_cell0 HR1.out (by have := HGE.out; omega), row_cell0 HRH.out (by have := HGE.out; omega), HB.out.setCell (p := ⟨g8, i, none⟩) (by show w.heap.size ≤ g8; have := HGE.out; omega) _⟩, by simp [intOf]; omega⟩
            have h := row_arr (i := i) (x := x / 16777216 % 256) HR8.out
            rw [pf_set HO32.out hlt (by rw [show i = 4 * (i / 4) by omega]; exact HGT.out.1)] at h
            exact h
          · have q2 : ((i : Nat) : Int) % 4 = 1 := by omega
            go_wp2_with fail
            refine ⟨⟨i + 1, by omega, by go_num, ?_, row_cell0 HR1.out (by have := HGE.out; omega), row_cell0 HRH.out (by have := HGE.out; omega), HB.out.setCell (p := ⟨g8, i, none⟩) (by show w.heap.size ≤ g8; have := HGE.out; omega) _⟩, by simp [intOf]; omega⟩
            have h := row_arr (i := i) (x := x / 65536 % 256) HR8.out
            rw [pf_set HO32.out hlt (by rw [show i = 4 * (i / 4) + 1 by omega]; exact HGT.out.2.1)] at h
            exact h
          · have q2 : ((i : Nat) : Int) % 4 = 2 := by omega
            go_wp2_with fail
            refine ⟨⟨i + 1, by omega, by go_num, ?_, row_cell0 HR1.out (by have := HGE.out; omega), row_cell0 HRH.out (by have := HGE.out; omega), HB.out.setCell (p := ⟨g8, i, none⟩) (by show w.heap.size ≤ g8; have := HGE.out; omega) _⟩, by simp [intOf]; omega⟩
            have h := row_arr (i := i) (x := x / 256 % 256) HR8.out
            rw [pf_set HO32.out hlt (by rw [show i = 4 * (i / 4) + 2 by omega]; exact HGT.out.2.2.1)] at h
            exact h
          · have q2 : ((i : Nat) : Int) % 4 = 3 := by omega
            go_wp2_with fail
            refine ⟨⟨i + 1, by omega, by go_num, ?_, row_cell0 HR1.out (by have := HGE.out; omega), row_cell0 HRH.out (by have := HGE.out; omega), HB.out.setCell (p := ⟨g8, i, none⟩) (by show w.heap.size ≤ g8; have := HGE.out; omega) _⟩, by simp [intOf]; omega⟩
            have h := row_arr (i := i) (x := x % 256) HR8.out
            rw [pf_set HO32.out hlt (by rw [show i = 4 * (i / 4) + 3 by omega]; exact HGT.out.2.2.2)] at h
            exact h
        · obtain rfl : i = 32 := by omega
          rw [show ((32 : Nat) : Int) = 32 from rfl]
          rw [pf_all HO32.out] at hr8
          have szo : (arr .u8 (ob H)).size = 32 := by rw [arr_size, HO32.out]
          have szl : (ob H).length = 32 := HO32.out
          have szz : (arr .u8 z32).size = 32 := by rw [arr_size]; rfl
          clear hB hrh
          go_wp2_with fail
          exact ret_arr _ _ run_loadVar24 rfl rfl rfl (row_new HR1.out) szo ⟨by rw [HEND.out], below_setRow' HB.out (Nat.le_refl _) _⟩
end Go.Proofs.YtmlacbdonkfbdaaDoor
