/- The reference's Padded. -/
import Derived.Test.YtmlacbdonkfbdaaDoorSN
namespace Go.Proofs.YtmlacbdonkfbdaaDoor
open Go.RowKit

def P1Rel (zs : List Nat) (L : Nat) (w : World) (s : Value) (wr : World) : Prop :=
  ∃ (j M : Nat) (a : Option Addr) (c : Nat), j ≤ nz L ∧ M = L + 1 + j ∧ s = .slice a M c ∧ wr.ownsRow w.heap.size 5 1 (.slice a M c) M (cl (zs ++ 128 :: List.replicate j 0)) ∧ Below w.heap.size w wr
theorem padL_len (zs : List Nat) : (padL zs).length = zs.length + 1 + nz zs.length + 8 := by
  unfold padL; simp [be8_len]; omega
theorem padL_lt {zs : List Nat} (h : ∀ x ∈ zs, x < 256) : ∀ x ∈ padL zs, x < 256 := by
  intro x hx
  unfold padL at hx
  rcases List.mem_append.1 hx with hx | hx
  · exact h x hx
  · rcases List.mem_cons.1 hx with rfl | hx
    · omega
    · rcases List.mem_append.1 hx with hx | hx
      · have := List.eq_of_mem_replicate hx; omega
      · exact be8_lt _ x hx
theorem padL_cells (zs : List Nat) (L j : Nat) (hL : zs.length = L) (hj : j = nz L) :
    cl (padL zs) = cl (zs ++ 128 :: List.replicate j 0) ++ [.int .u8 (8 * ((L : Nat) : Int) / 72057594037927936 % 256)] ++ [.int .u8 (8 * ((L : Nat) : Int) / 281474976710656 % 256)] ++ [.int .u8 (8 * ((L : Nat) : Int) / 1099511627776 % 256)] ++ [.int .u8 (8 * ((L : Nat) : Int) / 4294967296 % 256)] ++ [.int .u8 (8 * ((L : Nat) : Int) / 16777216 % 256)] ++ [.int .u8 (8 * ((L : Nat) : Int) / 65536 % 256)] ++ [.int .u8 (8 * ((L : Nat) : Int) / 256 % 256)] ++ [.int .u8 (8 * ((L : Nat) : Int) % 256)] := by
  have e0 : padL zs = (zs ++ 128 :: List.replicate j 0) ++ be8 (8 * L) := by unfold padL; rw [hL, ← hj, List.append_assoc]; rfl
  rw [e0, cl_app]
  simp only [List.append_assoc, List.singleton_append]
  congr 1
set_option maxRecDepth 100000 in
set_option maxHeartbeats 1000000 in
theorem rpad_some (zs : List Nat) (ad : Addr) (c : Nat) (hl : zs.length ≤ 100000) (w : World) (h : BytesAt zs (.slice (some ad) zs.length c) w) :
    Calls Tryd.prog 30 #[.slice (some ad) zs.length c] w fun e w' => ∃ s', e = .returned s' ∧ (BytesAt (padL zs) s' w' ∧ ∀ j, InS s' j → w.heap.size ≤ j) ∧ Below w.heap.size w w' := by
  obtain ⟨i0, hi, hz0, hz1, hz2⟩ := info_parts Tryd.info5
  have HB := Lib.hid h
  have H256 := Lib.hid h.1
  obtain ⟨L, hL⟩ : ∃ L, zs.length = L := ⟨_, rfl⟩
  have HL := Lib.hid hL
  rw [hL] at hl HB ⊢
  clear h hL
  have hown2 : (w.alloc (.cells #[] 5)).ownsRow w.heap.size 5 1 (.slice (some ⟨w.heap.size, 0, none⟩) 0 0) 0 [] := World.ownsRow_lit w #[] 0 (Nat.le_refl _) (by unfold maxLen; omega) rfl
  have hbel2 : Below w.heap.size w (w.alloc (.cells #[] 5)) := (Below.refl _ w).alloc (Nat.le_refl _) _
  have hsz2 : w.heap.size ≤ (w.alloc (.cells #[] 5)).heap.size := hbel2.size
  have HB2 := Lib.hid (HB.out.kept hbel2)
  have hcz : ∀ j u, (cl zs)[j]? = some u → (w.alloc (.cells #[] 5)).cell? (ad.add j) = some u := by
    intro j u hu
    have hj : j < zs.length := by
      have := (List.getElem?_eq_some_iff.1 hu).1
      rw [cl_len] at this; exact this
    obtain ⟨_, a0, c0, e, _, h2⟩ := HB2.out
    cases e
    rcases h2 with h2 | ⟨b, off, ea, _, hjj⟩
    · omega
    · cases ea
      rw [cl_get zs j hj] at hu
      cases hu
      rw [show (⟨b, off, none⟩ : Addr).add j = ⟨b, off + j, none⟩ by unfold Addr.add; split <;> simp_all]
      exact hjj j hj
  go_enter Tryd.func30, Tryd.ntmps30
  go_wp2_with (first
    | (at_builtin; refine wpList_append_own _ rfl _ _ 22 rfl w.heap.size 5 i0 (.int .u8 0) 1 1 Tryd.underlying22 hi hz0 hz1 hz2 rfl (by decide) _ _ _ rfl hown2 ad L c (cl zs) rfl (by rw [cl_len, HL.out]; omega) hcz (cl_one zs) (by unfold maxLen; omega) (by omega) hsz2 ?_; intro v3 w3 hown3 hgrow3 hnil3)
    | (at_builtin; refine wpList_append_own _ rfl _ _ 22 rfl w.heap.size 5 i0 (.int .u8 0) 1 1 Tryd.underlying22 hi hz0 hz1 hz2 rfl (by decide) _ _ _ rfl (hown3.alloc _) ⟨w3.heap.size, 0, none⟩ 1 1 [.int .u8 128] rfl rfl (cell_one_new _ _ _) (fun x hx => by simp at hx; subst hx; rfl) (by unfold maxLen; omega) (by omega) (by have := hgrow3.size; simp at this ⊢; omega) ?_; intro v4 w4 hown4 hgrow4 hnil4))
  have hs3 : w.heap.size ≤ w3.heap.size := by have := hgrow3.size; omega
  have hb3 := below_owned hbel2 hown2 hgrow3 hsz2
  have hb4 := below_owned (hb3.alloc hs3 _) (hown3.alloc _) hgrow4 (by simp; omega)
  obtain ⟨a4, c4, rfl⟩ := owns_slice hown4
  rw [show 0 + L + 1 = L + 1 by omega] at hown4 ⊢
  have HE0 := Lib.hid (show P1Rel zs L w (.slice a4 (L + 1) c4) w4 from ⟨0, L + 1, a4, c4, Nat.zero_le _, by omega, rfl, by
    have e : [] ++ cl zs ++ [.int .u8 128] = cl (zs ++ 128 :: List.replicate 0 0) := by rw [List.nil_append, cl_app]; rfl
    rw [← e]; exact hown4, hb4⟩)
  clear hb3 hb4 hown3 hown4 hgrow3 hgrow4 hnil3 hnil4 hown2 hbel2 hcz hs3 hsz2 HB2
  go_loopw [3] (fun s wr => P1Rel zs L w s wr) (fun s _ => L + 200 - slLen s)
  case atStart => exact HE0.out
  case round =>
    clear HE0
    obtain ⟨j, M, a', c', hj, hM, rfl, hown, hB⟩ := hrel
    have HBr := Lib.hid hB
    have hsz := hB.size
    have HM := Lib.hid hM
    have hM2 : M ≤ L + 64 := by unfold nz at hj; omega
    clear hB
    by_cases hlt : j < nz L
    · have hc : (((M : Nat) : Int) % 64 != 56) = true := by
        rw [bne_iff_ne]; unfold nz at hlt; omega
      clear hM
      go_wp2_with (at_builtin; refine wpList_append_own _ rfl _ _ 22 rfl w.heap.size 5 i0 (.int .u8 0) 1 1 Tryd.underlying22 hi hz0 hz1 hz2 rfl (by decide) _ _ _ rfl (hown.alloc _) ⟨wr.heap.size, 0, none⟩ 1 1 [.int .u8 0] rfl rfl (cell_one_new _ _ _) (fun x hx => by simp at hx; subst hx; rfl) (by unfold maxLen; omega) (by omega) (by simp; omega) ?_; intro v' w5 hown' hgrow' hnil'; obtain ⟨a2, c2, rfl⟩ := owns_slice hown')
      go_roundw
      case rel => exact ⟨j + 1, M + 1, a2, c2, by omega, by have := HM.out; omega, rfl, by rw [← app_zero]; exact hown', below_owned (HBr.out.alloc hsz _) (hown.alloc _) hgrow' (by simp; omega)⟩
      case measure =>
        have hm := HM.out
        show L + 200 - (M + 1) < L + 200 - M
        omega
    · have hc : (((M : Nat) : Int) % 64 != 56) = false := by
        have hjn : j = nz L := by omega
        rw [bne_eq_false_iff_eq]; unfold nz at hjn; omega
      have HJ := Lib.hid (show j = nz L by omega)
      clear hj hlt
      clear hM
      go_wp2_with fail
      refine wp_loop_rounds 9 ?_
      rw [rounds_succ]
      go_wp2_with (at_builtin; refine wpList_append_own _ rfl _ _ 22 rfl w.heap.size 5 i0 (.int .u8 0) 1 1 Tryd.underlying22 hi hz0 hz1 hz2 rfl (by decide) _ _ _ rfl (hown.alloc _) ⟨wr.heap.size, 0, none⟩ 1 1 [_] rfl rfl (cell_one_new _ _ _) (fun x hx => by simp at hx; subst hx; rfl) (by unfold maxLen; omega) (by omega) (by simp; omega) ?_; intro v10 x10 hown10 hgrow10 hnil10)
      have hb10 := below_owned (HBr.out.alloc hsz _) (hown.alloc _) hgrow10 (by simp; omega)
      have HBx10 := Lib.hid hb10
      have hs10 := hb10.size
      clear hb10 hgrow10 hnil10
      rw [rounds_succ]
      go_wp2_with (at_builtin; refine wpList_append_own _ rfl _ _ 22 rfl w.heap.size 5 i0 (.int .u8 0) 1 1 Tryd.underlying22 hi hz0 hz1 hz2 rfl (by decide) _ _ _ rfl (hown10.alloc _) ⟨x10.heap.size, 0, none⟩ 1 1 [_] rfl rfl (cell_one_new _ _ _) (fun x hx => by simp at hx; subst hx; rfl) (by unfold maxLen; omega) (by omega) (by simp; omega) ?_; intro v11 x11 hown11 hgrow11 hnil11)
      have hb11 := below_owned (HBx10.out.alloc hs10 _) (hown10.alloc _) hgrow11 (by simp; omega)
      have HBx11 := Lib.hid hb11
      have hs11 := hb11.size
      clear hb11 hgrow11 hnil11
      rw [rounds_succ]
      go_wp2_with (at_builtin; refine wpList_append_own _ rfl _ _ 22 rfl w.heap.size 5 i0 (.int .u8 0) 1 1 Tryd.underlying22 hi hz0 hz1 hz2 rfl (by decide) _ _ _ rfl (hown11.alloc _) ⟨x11.heap.size, 0, none⟩ 1 1 [_] rfl rfl (cell_one_new _ _ _) (fun x hx => by simp at hx; subst hx; rfl) (by unfold maxLen; omega) (by omega) (by simp; omega) ?_; intro v12 x12 hown12 hgrow12 hnil12)
      have hb12 := below_owned (HBx11.out.alloc hs11 _) (hown11.alloc _) hgrow12 (by simp; omega)
      have HBx12 := Lib.hid hb12
      have hs12 := hb12.size
      clear hb12 hgrow12 hnil12
      rw [rounds_succ]
      go_wp2_with (at_builtin; refine wpList_append_own _ rfl _ _ 22 rfl w.heap.size 5 i0 (.int .u8 0) 1 1 Tryd.underlying22 hi hz0 hz1 hz2 rfl (by decide) _ _ _ rfl (hown12.alloc _) ⟨x12.heap.size, 0, none⟩ 1 1 [_] rfl rfl (cell_one_new _ _ _) (fun x hx => by simp at hx; subst hx; rfl) (by unfold maxLen; omega) (by omega) (by simp; omega) ?_; intro v13 x13 hown13 hgrow13 hnil13)
      have hb13 := below_owned (HBx12.out.alloc hs12 _) (hown12.alloc _) hgrow13 (by simp; omega)
      have HBx13 := Lib.hid hb13
      have hs13 := hb13.size
      clear hb13 hgrow13 hnil13
      rw [rounds_succ]
      go_wp2_with (at_builtin; refine wpList_append_own _ rfl _ _ 22 rfl w.heap.size 5 i0 (.int .u8 0) 1 1 Tryd.underlying22 hi hz0 hz1 hz2 rfl (by decide) _ _ _ rfl (hown13.alloc _) ⟨x13.heap.size, 0, none⟩ 1 1 [_] rfl rfl (cell_one_new _ _ _) (fun x hx => by simp at hx; subst hx; rfl) (by unfold maxLen; omega) (by omega) (by simp; omega) ?_; intro v14 x14 hown14 hgrow14 hnil14)
      have hb14 := below_owned (HBx13.out.alloc hs13 _) (hown13.alloc _) hgrow14 (by simp; omega)
      have HBx14 := Lib.hid hb14
      have hs14 := hb14.size
      clear hb14 hgrow14 hnil14
      rw [rounds_succ]
      go_wp2_with (at_builtin; refine wpList_append_own _ rfl _ _ 22 rfl w.heap.size 5 i0 (.int .u8 0) 1 1 Tryd.underlying22 hi hz0 hz1 hz2 rfl (by decide) _ _ _ rfl (hown14.alloc _) ⟨x14.heap.size, 0, none⟩ 1 1 [_] rfl rfl (cell_one_new _ _ _) (fun x hx => by simp at hx; subst hx; rfl) (by unfold maxLen; omega) (by omega) (by simp; omega) ?_; intro v15 x15 hown15 hgrow15 hnil15)
      have hb15 := below_owned (HBx14.out.alloc hs14 _) (hown14.alloc _) hgrow15 (by simp; omega)
      have HBx15 := Lib.hid hb15
      have hs15 := hb15.size
      clear hb15 hgrow15 hnil15
      rw [rounds_succ]
      go_wp2_with (at_builtin; refine wpList_append_own _ rfl _ _ 22 rfl w.heap.size 5 i0 (.int .u8 0) 1 1 Tryd.underlying22 hi hz0 hz1 hz2 rfl (by decide) _ _ _ rfl (hown15.alloc _) ⟨x15.heap.size, 0, none⟩ 1 1 [_] rfl rfl (cell_one_new _ _ _) (fun x hx => by simp at hx; subst hx; rfl) (by unfold maxLen; omega) (by omega) (by simp; omega) ?_; intro v16 x16 hown16 hgrow16 hnil16)
      have hb16 := below_owned (HBx15.out.alloc hs15 _) (hown15.alloc _) hgrow16 (by simp; omega)
      have HBx16 := Lib.hid hb16
      have hs16 := hb16.size
      clear hb16 hgrow16 hnil16
      rw [rounds_succ]
      go_wp2_with (at_builtin; refine wpList_append_own _ rfl _ _ 22 rfl w.heap.size 5 i0 (.int .u8 0) 1 1 Tryd.underlying22 hi hz0 hz1 hz2 rfl (by decide) _ _ _ rfl (hown16.alloc _) ⟨x16.heap.size, 0, none⟩ 1 1 [_] rfl rfl (cell_one_new _ _ _) (fun x hx => by simp at hx; subst hx; rfl) (by unfold maxLen; omega) (by omega) (by simp; omega) ?_; intro v17 x17 hown17 hgrow17 hnil17)
      have hb17 := below_owned (HBx16.out.alloc hs16 _) (hown16.alloc _) hgrow17 (by simp; omega)
      have HBx17 := Lib.hid hb17
      have hs17 := hb17.size
      clear hb17 hgrow17 hnil17
      rw [rounds_succ]
      go_wp2_with fail
      go_ret
      refine ⟨_, rfl, owns_both (base := w.heap.size) (padL_lt H256.out) ?_, HBx17.out⟩
      have hlen : (padL zs).length = M + 1 + 1 + 1 + 1 + 1 + 1 + 1 + 1 := by
        rw [padL_len, HL.out, ← HJ.out]; have := HM.out; omega
      rw [padL_cells zs L j HL.out HJ.out, hlen]
      exact hown17

set_option maxRecDepth 100000 in
set_option maxHeartbeats 1000000 in
theorem rpad_none (w : World) :
    Calls Tryd.prog 30 #[.slice none 0 0] w fun e w' => ∃ s', e = .returned s' ∧ (BytesAt (padL []) s' w' ∧ ∀ j, InS s' j → w.heap.size ≤ j) ∧ Below w.heap.size w w' := by
  obtain ⟨zs, hzs⟩ : ∃ zs : List Nat, [] = zs := ⟨_, rfl⟩
  rw [hzs]
  have HZ := Lib.hid hzs.symm
  clear hzs
  obtain ⟨i0, hi, hz0, hz1, hz2⟩ := info_parts Tryd.info5
  have H256 := Lib.hid (show ∀ x ∈ zs, x < 256 from fun x hx => by rw [HZ.out] at hx; cases hx)
  have HL := Lib.hid (show zs.length = 0 by rw [HZ.out]; rfl)
  have hown2 : (w.alloc (.cells #[] 5)).ownsRow w.heap.size 5 1 (.slice (some ⟨w.heap.size, 0, none⟩) 0 0) 0 [] := World.ownsRow_lit w #[] 0 (Nat.le_refl _) (by unfold maxLen; omega) rfl
  have hbel2 : Below w.heap.size w (w.alloc (.cells #[] 5)) := (Below.refl _ w).alloc (Nat.le_refl _) _
  have hsz2 : w.heap.size ≤ (w.alloc (.cells #[] 5)).heap.size := hbel2.size
  go_enter Tryd.func30, Tryd.ntmps30
  go_wp2_with (first
    | (at_builtin; refine wpList_append_own_none rfl _ _ 22 rfl w.heap.size 5 i0 1 Tryd.underlying22 hi _ _ _ rfl hown2 rfl ?_; generalize w.alloc (.cells #[] 5) = w2 at hown2 hbel2 hsz2 ⊢; have hown3 := hown2; generalize Value.slice (some ⟨w.heap.size, 0, none⟩) 0 0 = sv at hown3 ⊢)
    | (at_builtin; refine wpList_append_own _ rfl _ _ 22 rfl w.heap.size 5 i0 (.int .u8 0) 1 1 Tryd.underlying22 hi hz0 hz1 hz2 rfl (by decide) _ _ _ rfl (hown3.alloc _) ⟨w2.heap.size, 0, none⟩ 1 1 [.int .u8 128] rfl rfl (cell_one_new _ _ _) (fun x hx => by simp at hx; subst hx; rfl) (by unfold maxLen; omega) (by omega) (by simp; omega) ?_; intro v4 w4 hown4 hgrow4 hnil4))
  have hb4 := below_owned (hbel2.alloc hsz2 _) (hown3.alloc _) hgrow4 (by simp; omega)
  obtain ⟨a4, c4, rfl⟩ := owns_slice hown4
  rw [show 0 + 1 = 1 by omega] at hown4 ⊢
  have HE0 := Lib.hid (show P1Rel zs 0 w (.slice a4 (0 + 1) c4) w4 from ⟨0, 0 + 1, a4, c4, Nat.zero_le _, by omega, rfl, by
    have e : [] ++ [.int .u8 128] = cl (zs ++ 128 :: List.replicate 0 0) := by rw [HZ.out]; rfl
    rw [← e]; exact hown4, hb4⟩)
  clear hb4 hown3 hown4 hgrow4 hnil4 hown2 hbel2 hsz2
  go_loopw [3] (fun s wr => P1Rel zs 0 w s wr) (fun s _ => 0 + 200 - slLen s)
  case atStart => exact HE0.out
  case round =>
    clear HE0
    obtain ⟨j, M, a', c', hj, hM, rfl, hown, hB⟩ := hrel
    have HBr := Lib.hid hB
    have hsz := hB.size
    have HM := Lib.hid hM
    have hM2 : M ≤ 0 + 64 := by unfold nz at hj; omega
    clear hB
    by_cases hlt : j < nz 0
    · have hc : (((M : Nat) : Int) % 64 != 56) = true := by
        rw [bne_iff_ne]; unfold nz at hlt; omega
      clear hM
      go_wp2_with (at_builtin; refine wpList_append_own _ rfl _ _ 22 rfl w.heap.size 5 i0 (.int .u8 0) 1 1 Tryd.underlying22 hi hz0 hz1 hz2 rfl (by decide) _ _ _ rfl (hown.alloc _) ⟨wr.heap.size, 0, none⟩ 1 1 [.int .u8 0] rfl rfl (cell_one_new _ _ _) (fun x hx => by simp at hx; subst hx; rfl) (by unfold maxLen; omega) (by omega) (by simp; omega) ?_; intro v' w5 hown' hgrow' hnil'; obtain ⟨a2, c2, rfl⟩ := owns_slice hown')
      go_roundw
      case rel => exact ⟨j + 1, M + 1, a2, c2, by omega, by have := HM.out; omega, rfl, by rw [← app_zero]; exact hown', below_owned (HBr.out.alloc hsz _) (hown.alloc _) hgrow' (by simp; omega)⟩
      case measure =>
        have hm := HM.out
        show 0 + 200 - (M + 1) < 0 + 200 - M
        omega
    · have hc : (((M : Nat) : Int) % 64 != 56) = false := by
        have hjn : j = nz 0 := by omega
        rw [bne_eq_false_iff_eq]; unfold nz at hjn; omega
      have HJ := Lib.hid (show j = nz 0 by omega)
      clear hj hlt
      clear hM
      go_wp2_with fail
      refine wp_loop_rounds 9 ?_
      rw [rounds_succ]
      go_wp2_with (at_builtin; refine wpList_append_own _ rfl _ _ 22 rfl w.heap.size 5 i0 (.int .u8 0) 1 1 Tryd.underlying22 hi hz0 hz1 hz2 rfl (by decide) _ _ _ rfl (hown.alloc _) ⟨wr.heap.size, 0, none⟩ 1 1 [_] rfl rfl (cell_one_new _ _ _) (fun x hx => by simp at hx; subst hx; rfl) (by unfold maxLen; omega) (by omega) (by simp; omega) ?_; intro v10 x10 hown10 hgrow10 hnil10)
      have hb10 := below_owned (HBr.out.alloc hsz _) (hown.alloc _) hgrow10 (by simp; omega)
      have HBx10 := Lib.hid hb10
      have hs10 := hb10.size
      clear hb10 hgrow10 hnil10
      rw [rounds_succ]
      go_wp2_with (at_builtin; refine wpList_append_own _ rfl _ _ 22 rfl w.heap.size 5 i0 (.int .u8 0) 1 1 Tryd.underlying22 hi hz0 hz1 hz2 rfl (by decide) _ _ _ rfl (hown10.alloc _) ⟨x10.heap.size, 0, none⟩ 1 1 [_] rfl rfl (cell_one_new _ _ _) (fun x hx => by simp at hx; subst hx; rfl) (by unfold maxLen; omega) (by omega) (by simp; omega) ?_; intro v11 x11 hown11 hgrow11 hnil11)
      have hb11 := below_owned (HBx10.out.alloc hs10 _) (hown10.alloc _) hgrow11 (by simp; omega)
      have HBx11 := Lib.hid hb11
      have hs11 := hb11.size
      clear hb11 hgrow11 hnil11
      rw [rounds_succ]
      go_wp2_with (at_builtin; refine wpList_append_own _ rfl _ _ 22 rfl w.heap.size 5 i0 (.int .u8 0) 1 1 Tryd.underlying22 hi hz0 hz1 hz2 rfl (by decide) _ _ _ rfl (hown11.alloc _) ⟨x11.heap.size, 0, none⟩ 1 1 [_] rfl rfl (cell_one_new _ _ _) (fun x hx => by simp at hx; subst hx; rfl) (by unfold maxLen; omega) (by omega) (by simp; omega) ?_; intro v12 x12 hown12 hgrow12 hnil12)
      have hb12 := below_owned (HBx11.out.alloc hs11 _) (hown11.alloc _) hgrow12 (by simp; omega)
      have HBx12 := Lib.hid hb12
      have hs12 := hb12.size
      clear hb12 hgrow12 hnil12
      rw [rounds_succ]
      go_wp2_with (at_builtin; refine wpList_append_own _ rfl _ _ 22 rfl w.heap.size 5 i0 (.int .u8 0) 1 1 Tryd.underlying22 hi hz0 hz1 hz2 rfl (by decide) _ _ _ rfl (hown12.alloc _) ⟨x12.heap.size, 0, none⟩ 1 1 [_] rfl rfl (cell_one_new _ _ _) (fun x hx => by simp at hx; subst hx; rfl) (by unfold maxLen; omega) (by omega) (by simp; omega) ?_; intro v13 x13 hown13 hgrow13 hnil13)
      have hb13 := below_owned (HBx12.out.alloc hs12 _) (hown12.alloc _) hgrow13 (by simp; omega)
      have HBx13 := Lib.hid hb13
      have hs13 := hb13.size
      clear hb13 hgrow13 hnil13
      rw [rounds_succ]
      go_wp2_with (at_builtin; refine wpList_append_own _ rfl _ _ 22 rfl w.heap.size 5 i0 (.int .u8 0) 1 1 Tryd.underlying22 hi hz0 hz1 hz2 rfl (by decide) _ _ _ rfl (hown13.alloc _) ⟨x13.heap.size, 0, none⟩ 1 1 [_] rfl rfl (cell_one_new _ _ _) (fun x hx => by simp at hx; subst hx; rfl) (by unfold maxLen; omega) (by omega) (by simp; omega) ?_; intro v14 x14 hown14 hgrow14 hnil14)
      have hb14 := below_owned (HBx13.out.alloc hs13 _) (hown13.alloc _) hgrow14 (by simp; omega)
      have HBx14 := Lib.hid hb14
      have hs14 := hb14.size
      clear hb14 hgrow14 hnil14
      rw [rounds_succ]
      go_wp2_with (at_builtin; refine wpList_append_own _ rfl _ _ 22 rfl w.heap.size 5 i0 (.int .u8 0) 1 1 Tryd.underlying22 hi hz0 hz1 hz2 rfl (by decide) _ _ _ rfl (hown14.alloc _) ⟨x14.heap.size, 0, none⟩ 1 1 [_] rfl rfl (cell_one_new _ _ _) (fun x hx => by simp at hx; subst hx; rfl) (by unfold maxLen; omega) (by omega) (by simp; omega) ?_; intro v15 x15 hown15 hgrow15 hnil15)
      have hb15 := below_owned (HBx14.out.alloc hs14 _) (hown14.alloc _) hgrow15 (by simp; omega)
      have HBx15 := Lib.hid hb15
      have hs15 := hb15.size
      clear hb15 hgrow15 hnil15
      rw [rounds_succ]
      go_wp2_with (at_builtin; refine wpList_append_own _ rfl _ _ 22 rfl w.heap.size 5 i0 (.int .u8 0) 1 1 Tryd.underlying22 hi hz0 hz1 hz2 rfl (by decide) _ _ _ rfl (hown15.alloc _) ⟨x15.heap.size, 0, none⟩ 1 1 [_] rfl rfl (cell_one_new _ _ _) (fun x hx => by simp at hx; subst hx; rfl) (by unfold maxLen; omega) (by omega) (by simp; omega) ?_; intro v16 x16 hown16 hgrow16 hnil16)
      have hb16 := below_owned (HBx15.out.alloc hs15 _) (hown15.alloc _) hgrow16 (by simp; omega)
      have HBx16 := Lib.hid hb16
      have hs16 := hb16.size
      clear hb16 hgrow16 hnil16
      rw [rounds_succ]
      go_wp2_with (at_builtin; refine wpList_append_own _ rfl _ _ 22 rfl w.heap.size 5 i0 (.int .u8 0) 1 1 Tryd.underlying22 hi hz0 hz1 hz2 rfl (by decide) _ _ _ rfl (hown16.alloc _) ⟨x16.heap.size, 0, none⟩ 1 1 [_] rfl rfl (cell_one_new _ _ _) (fun x hx => by simp at hx; subst hx; rfl) (by unfold maxLen; omega) (by omega) (by simp; omega) ?_; intro v17 x17 hown17 hgrow17 hnil17)
      have hb17 := below_owned (HBx16.out.alloc hs16 _) (hown16.alloc _) hgrow17 (by simp; omega)
      have HBx17 := Lib.hid hb17
      have hs17 := hb17.size
      clear hb17 hgrow17 hnil17
      rw [rounds_succ]
      go_wp2_with fail
      go_ret
      refine ⟨_, rfl, owns_both (base := w.heap.size) (padL_lt H256.out) ?_, HBx17.out⟩
      have hlen : (padL zs).length = M + 1 + 1 + 1 + 1 + 1 + 1 + 1 + 1 := by
        rw [padL_len, HL.out, ← HJ.out]; have := HM.out; omega
      rw [padL_cells zs 0 j HL.out HJ.out, hlen]
      exact hown17

theorem rpad_any (zs : List Nat) (s : Value) (hl : zs.length ≤ 100000) (w : World) (h : BytesAt zs s w) (hnil : Nil0 s) :
    Calls Tryd.prog 30 #[s] w fun e w' => ∃ s', e = .returned s' ∧ (BytesAt (padL zs) s' w' ∧ ∀ j, InS s' j → w.heap.size ≤ j) ∧ Below w.heap.size w w' := by
  obtain ⟨h1, a, c, rfl, hc, h2⟩ := h
  cases a with
  | none =>
    have h0 : zs.length = 0 := by
      rcases h2 with h2 | ⟨b, off, e, _⟩
      · exact h2
      · cases e
    obtain rfl := hnil _ _ rfl
    obtain rfl := List.length_eq_zero_iff.1 h0
    exact rpad_none w
  | some ad => exact rpad_some zs ad c hl w ⟨h1, _, c, rfl, hc, h2⟩
end Go.Proofs.YtmlacbdonkfbdaaDoor
