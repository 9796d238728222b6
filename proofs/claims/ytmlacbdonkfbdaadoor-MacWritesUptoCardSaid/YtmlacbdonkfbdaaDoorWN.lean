/- The reference: block. -/
import Derived.Test.YtmlacbdonkfbdaaDoorWL
import Derived.Test.YtmlacbdonkfbdaaDoorTB
namespace Go.Proofs.YtmlacbdonkfbdaaDoor
open Go.RowKit Go.Shelf

theorem zl64 : zl 64 = z64 := by rw [zl_eq, z64_eq]
theorem kb_lo {ks : List Nat} {k : Nat} (h : k < ks.length) : (kbL ks).getD k 0 = ks.getD k 0 := by
  unfold kbL splice
  rw [List.take_zero, List.nil_append, List.getD, List.getElem?_append_left h, List.getD]
theorem kb_hi {ks : List Nat} {k : Nat} (h : ks.length ≤ k) (hk : k < 64) : (kbL ks).getD k 0 = 0 := by
  unfold kbL splice
  rw [List.take_zero, List.nil_append, List.getD, List.getElem?_append_right h, List.getElem?_drop, z64_eq, List.getElem?_replicate, if_pos (by omega)]
  rfl
def rkL (m : Nat) (kb : List Nat) (k : Nat) : List Nat := (cmb m kb).take k ++ z64.drop k
theorem rk_zero (m : Nat) (kb : List Nat) : rkL m kb 0 = z64 := by unfold rkL; simp
theorem rk_all {m : Nat} {kb : List Nat} (h : kb.length = 64) : rkL m kb 64 = cmb m kb := by
  unfold rkL; rw [List.take_of_length_le (by rw [cmb_len, h]; omega), List.drop_eq_nil_of_le (by rw [z64_len]; omega), List.append_nil]
theorem rk_len {m : Nat} {kb : List Nat} {k : Nat} (h : kb.length = 64) (hk : k ≤ 64) : (rkL m kb k).length = 64 := by
  unfold rkL; rw [List.length_append, List.length_take, List.length_drop, cmb_len, h, z64_len]; omega
theorem rk_get {m : Nat} {kb : List Nat} {k : Nat} (h : kb.length = 64) (hk : k < 64) : (rkL m kb k).getD k 0 = 0 := by
  have h1 : ((cmb m kb).take k).length = k := by rw [List.length_take, cmb_len, h]; omega
  unfold rkL
  rw [List.getD, List.getElem?_append_right (by omega), h1, Nat.sub_self, List.getElem?_drop, Nat.add_zero, z64_eq, List.getElem?_replicate, if_pos hk]
  rfl
theorem rk_set {m : Nat} {kb : List Nat} {k : Nat} (h : kb.length = 64) (hk : k < 64) : (rkL m kb k).set k (kb.getD k 0 ^^^ m) = rkL m kb (k + 1) := by
  have h1 : ((cmb m kb).take k).length = k := by rw [List.length_take, cmb_len, h]; omega
  have hz : k < z64.length := by rw [z64_len]; exact hk
  have hc : k < (cmb m kb).length := by rw [cmb_len, h]; exact hk
  have hkb : k < kb.length := by omega
  unfold rkL
  rw [List.set_append_right _ _ (by omega), h1, Nat.sub_self, List.drop_eq_getElem_cons hz, List.set_cons_zero, List.take_succ_eq_append_getElem hc, List.append_assoc]
  have e : (cmb m kb)[k] = kb.getD k 0 ^^^ m := by
    have e1 : kb.getD k 0 = kb[k] := by rw [List.getD, List.getElem?_eq_getElem hkb]; rfl
    rw [e1]; simp [cmb]
  rw [e]; rfl
/-- Block g is a row of bytes. -/
def O5 (g : Nat) (W : World) : Prop := ∃ cs, W.heap[g]? = some (.cells cs 5 (0, 0))
theorem O5.set {g o : Nat} {W : World} {x : Value} (h : O5 g W) : O5 g (W.setCell ⟨g, o, none⟩ x) := by
  obtain ⟨cs, h⟩ := h
  refine ⟨cs.setIfInBounds o x, ?_⟩
  unfold World.setCell
  simp only [Array.getElem?_modify]
  simp [h]
theorem O5.kept {g : Nat} {W V : World} (h : O5 g W) (hb : Below W.heap.size W V) : O5 g V := by
  obtain ⟨cs, h⟩ := h
  exact ⟨cs, (hb.block g (Array.getElem?_eq_some_iff.1 h).1).trans h⟩
theorem O5.owns {g n : Nat} {W : World} {l : List Nat} {base : Nat} (h : O5 g W) (hr : rowN W g = some (arr .u8 l)) (hb : base ≤ g) (hn : l.length = n) (hm : n ≤ 1000) : W.ownsRow base 5 1 (.slice (some ⟨g, 0, none⟩) n n) l.length (cl l) := by
  obtain ⟨cs, h⟩ := h
  have e : cs = arr .u8 l := by
    obtain ⟨t, hg⟩ := rowN_some hr
    rw [h] at hg
    injection hg with hg
    injection hg
  subst e
  refine ⟨by rw [cl_len, Nat.mul_one], .inr ⟨g, n, _, by rw [hn], hb, h, by omega, by unfold maxLen; omega, by rw [arr_size, Nat.mul_one, hn], ?_⟩⟩
  rw [arr_toList, Nat.mul_one]
  exact List.take_of_length_le (by rw [List.length_map]; omega)
def RkRel (kb ks : List Nat) (s : Value) (m g : Nat) (w : World) (i : Value) (wr : World) : Prop :=
  ∃ k : Nat, k ≤ 64 ∧ i = .int .i64 (k : Nat) ∧ rowN wr g = some (arr .u8 (rkL m kb k)) ∧ BytesAt ks s wr ∧ (∀ j, 0 < ks.length → InS s j → j ≠ g) ∧ O5 g wr ∧ Below w.heap.size w wr
set_option maxRecDepth 100000 in
set_option maxHeartbeats 2000000 in
theorem kblock_any (key : List Nat) (s : Value) (m : Nat) (hl : key.length ≤ 100000) (hm : m < 256) (w : World) (hG : RG w) (hB : BytesAt key s w) (hnil : Nil0 s) :
    Calls Tryd.prog 21 #[s, .int .u8 (m : Nat)] w fun e w' => e = .returned (.slice (some ⟨w.heap.size, 0, none⟩) 64 64) ∧ rowN w' w.heap.size = some (arr .u8 (blkL m key)) ∧ O5 w.heap.size w' ∧ Below w.heap.size w w' := by
  have hm64 : ∀ W, (Instr.makeSlice 22 (.int .i64 64) (.int .i64 64)).run Tryd.prog W = .ok (.slice (some ⟨W.heap.size, 0, none⟩) 64 64) (W.alloc (.cells (arr .u8 z64) 5)) := fun W => by rw [← zl64]; exact run_make22 64 (by omega) W
  obtain ⟨W1, hW1⟩ : ∃ X, w.alloc (.cells (arr .u8 z64) 5) = X := ⟨_, rfl⟩
  have hb1 : Below w.heap.size w W1 := by rw [← hW1]; exact (Below.refl _ w).alloc (Nat.le_refl _) _
  have hr1 : rowN W1 w.heap.size = some (arr .u8 z64) := by rw [← hW1, rowN_alloc, if_pos rfl]
  have h51 : O5 w.heap.size W1 := ⟨_, by rw [← hW1]; exact World.alloc_heap_new w _⟩
  have H51 := Lib.hid h51
  have HB1 := Lib.hid hb1
  have HR1 := Lib.hid hr1
  have HB := Lib.hid hB
  have HG := Lib.hid hG
  have hlz := Lib.hid (show ∀ j, 0 < key.length → InS s j → j < w.heap.size from fun j h hj => hB.lt h hj)
  obtain ⟨_, a, c, rfl, hcc, _⟩ := hB
  by_cases hlt : 64 < key.length
  · have hklL : keyL key = shaL key := if_pos hlt
    have HSUM := Lib.hid (rsum_any key (.slice a key.length c) hl W1 (hG.kept hb1) (HB.out.kept hb1) hnil)
    have hlS : (shaL key).length = 32 := shaL_len key
    have HS256 := Lib.hid (shaL_256 key)
    obtain ⟨O, hO⟩ : ∃ O, shaL key = O := ⟨_, rfl⟩
    rw [hO] at hklL HSUM hlS HS256
    have hs24 := fun (W : World) (g : Nat) => run_slice24_all g W
    have hz32 := z32_lit
    have hzl : z32.length = 32 := rfl
    have sz2 : (arr .u8 O).size = 32 := by rw [arr_size, hlS]
    have sz4 : (arr .u8 z32).size = 32 := by rw [arr_size]; rfl
    obtain ⟨L, hlL⟩ : ∃ L, key.length = L := ⟨_, rfl⟩
    rw [hlL] at HSUM hlt ⊢
    have hgt : (64 : Int) < ((L : Nat) : Int) := by omega
    have HBL := Lib.hid (show blkL m key = cmb m (kbL O) by unfold blkL; rw [hklL])
    clear hb1 hr1 h51 hO hklL hG hl hlL HB
    go_enter Tryd.func21, Tryd.ntmps21
    go_upto_region 2 with fail
    try rw [hW1]
    go_wp2_with fail
    refine HSUM.out.mono ?_
    rintro e w2 ⟨rfl, hb2⟩
    have HR2 := Lib.hid (keptW hb2 HR1.out)
    have H52 := Lib.hid (H51.out.kept hb2)
    have HB2 := Lib.hid (HB1.out.trans (hb2.mono HB1.out.size))
    have hg2 := rowN_lt HR2.out
    clear hb2 hW1
    go_upto_region 5 with fail
    obtain ⟨V, hV⟩ : ∃ V, (w2.alloc (.cells (arr .u8 z32) 27)).setRow w2.heap.size (arr .u8 O) = V := ⟨_, rfl⟩
    have hbV : Below w2.heap.size w2 V := by rw [← hV]; exact below_setRow' ((Below.refl _ _).alloc (Nat.le_refl _) _) (Nat.le_refl _) _
    have hrV : rowN V w2.heap.size = some (arr .u8 O) := by rw [← hV]; exact row_new (cs := arr .u8 z32) (by rw [rowN_alloc, if_pos rfl])
    rw [hV]
    have HI0 := Lib.hid (show RkRel (kbL O) O (.slice (some ⟨w2.heap.size, 0, none⟩) 32 32) m w.heap.size w (.int .i64 0) V from
      ⟨0, by omega, rfl, by rw [rk_zero]; exact keptW hbV HR2.out, bytes_row HS256.out hrV 32 hlS, (fun j _ hj => by obtain ⟨_, _, _, _, e2⟩ := hj; cases e2; omega), H52.out.kept hbV, HB2.out.trans (hbV.mono HB2.out.size)⟩)
    have HKL := Lib.hid (show (kbL O).length = 64 from kbL_len (by omega))
    have HOL := Lib.hid hlS
    have hk2 : O.length ≤ 64 := by omega
    clear hV hbV hrV HR2 HB2 HR1 HB1 hlS
    go_wp2_with fail
    go_loopw [7] (fun i wr => RkRel (kbL O) O (.slice (some ⟨w2.heap.size, 0, none⟩) 32 32) m w.heap.size w i wr) (fun i _ => 64 - (intOf i).toNat)
    case atStart => exact HI0.out
    case round =>
      clear HI0
      obtain ⟨k, hk, rfl, hrow, hbs, hap, h5, hB⟩ := hrel
      have H5 := Lib.hid h5
      have HR := Lib.hid hrow
      have HBB := Lib.hid hB
      have HBS := Lib.hid hbs
      have HAP := Lib.hid hap
      by_cases hk64 : k < 64
      · have hfz := (rowN_cell hrow).2 k
        have hc := cell_arr hrow (show k < (rkL m (kbL O) k).length by rw [rk_len HKL.out hk]; exact hk64)
        rw [rk_get HKL.out hk64] at hc
        have HSET := Lib.hid (rk_set (m := m) HKL.out hk64)
        have hki : ((k : Nat) : Int) < 64 := by omega
        by_cases hkl : k < 32
        · have hkL : ((k : Nat) : Int) < ((32 : Nat) : Int) := by omega
          obtain ⟨h256, a1, c1, ee, _, h2⟩ := hbs
          obtain ⟨b, off, ea, hblt, hj⟩ : ∃ b off, a1 = some ⟨b, off, none⟩ ∧ b < wr.heap.size ∧ ∀ j, j < (O).length → wr.cell? ⟨b, off + j, none⟩ = some (.int .u8 ((O).getD j 0 : Nat)) := by
            rcases h2 with h2 | h2
            · have := HOL.out; omega
            · exact h2
          have hkk : k < (O).length := by have := HOL.out; omega
          have hcs := hj k hkk
          have hne : b ≠ w.heap.size := hap b (by omega) ⟨off, none, _, _, by rw [ee, ea]⟩
          have hx256 : (O).getD k 0 < 256 := by rw [List.getD, List.getElem?_eq_getElem hkk]; exact h256 _ (List.getElem_mem hkk)
          rw [kb_lo hkk] at HSET
          have hX := bits_xor8 _ _ hx256 hm
          obtain ⟨x, hx⟩ : ∃ x, (O).getD k 0 = x := ⟨_, rfl⟩
          rw [hx] at hcs HSET hX
          have hr2 : rowN (wr.setCell ⟨w.heap.size, k, none⟩ (.int .u8 (x : Nat))) w.heap.size = some (arr .u8 ((rkL m (kbL O) k).set k x)) := row_arr hrow
          have hc2 := cell_arr hr2 (show k < ((rkL m (kbL O) k).set k x).length by rw [List.length_set, rk_len HKL.out hk]; exact hk64)
          have hgs : ((rkL m (kbL O) k).set k x).getD k 0 = x := by
            rw [List.getD, List.getElem?_set_self (by rw [rk_len HKL.out hk]; exact hk64)]; rfl
          rw [hgs] at hc2
          have hf2 := (rowN_cell hr2).2 k
          have HR3 := Lib.hid (show rowN ((wr.setCell ⟨w.heap.size, k, none⟩ (.int .u8 (x : Nat))).setCell ⟨w.heap.size, k, none⟩ (.int .u8 ((x ^^^ m : Nat) : Int))) w.heap.size = some (arr .u8 (rkL m (kbL O) (k + 1))) by
            have h := row_arr (i := k) (x := x ^^^ m) hr2
            rw [List.set_set, HSET.out] at h
            exact h)
          have HE := Lib.hid (show RkRel (kbL O) O (.slice (some ⟨w2.heap.size, 0, none⟩) 32 32) m w.heap.size w (.int .i64 ((k + 1 : Nat) : Int)) ((wr.setCell ⟨w.heap.size, k, none⟩ (.int .u8 (x : Nat))).setCell ⟨w.heap.size, k, none⟩ (.int .u8 ((x ^^^ m : Nat) : Int))) from
            ⟨k + 1, hk64, rfl, HR3.out, (HBS.out.grown (setCell_grown wr ⟨w.heap.size, k, none⟩ _) (fun j h0 hj => hap j h0 hj)).grown (setCell_grown _ ⟨w.heap.size, k, none⟩ _) (fun j h0 hj => hap j h0 hj), hap, h5.set.set,
              (HBB.out.setCell (p := ⟨w.heap.size, k, none⟩) (Nat.le_refl _) _).setCell (p := ⟨w.heap.size, k, none⟩) (Nat.le_refl _) _⟩)
          rw [ea] at ee
          injection ee with ea1 ea2 ea3
          have ea4 := Option.some.inj ea1; injection ea4 with eb1 eb2 eb3; subst eb1; subst eb2; rw [Nat.zero_add] at hcs
          clear ea2 ea3 h5 hrow hB hap h2 hj hx hr2 hgs HSET HR3 h256 hx256 HR HBB HBS HAP
          go_wp2_with fail
          first | exact ⟨HE.out, by simp [intOf]; omega⟩ | exact ⟨by have h := HE.out; rw [show ((k + 1 : Nat) : Int) = (k : Int) + 1 by omega] at h; exact h, by simp [intOf]; omega⟩
        · have hkL : ¬ ((k : Nat) : Int) < ((32 : Nat) : Int) := by omega
          rw [kb_hi (by have := HOL.out; omega) hk64, Nat.zero_xor] at HSET
          have hX : bits .xor .u8 0 (m : Int) = ((m : Nat) : Int) := by have h := bits_xor8 0 m (by omega) hm; rw [Nat.zero_xor] at h; exact h
          have HE := Lib.hid (show RkRel (kbL O) O (.slice (some ⟨w2.heap.size, 0, none⟩) 32 32) m w.heap.size w (.int .i64 ((k + 1 : Nat) : Int)) (wr.setCell ⟨w.heap.size, k, none⟩ (.int .u8 (m : Nat))) from
            ⟨k + 1, hk64, rfl, by
              have h := row_arr (i := k) (x := m) hrow
              rw [HSET.out] at h
              exact h, HBS.out.grown (setCell_grown wr ⟨w.heap.size, k, none⟩ _) (fun j h0 hj => hap j h0 hj), hap, h5.set, HBB.out.setCell (p := ⟨w.heap.size, k, none⟩) (Nat.le_refl _) _⟩)
          clear h5 hrow hB hap hbs HSET HR HBB HBS HAP
          go_wp2_with fail
          first | exact ⟨HE.out, by simp [intOf]; omega⟩ | exact ⟨by have h := HE.out; rw [show ((k + 1 : Nat) : Int) = (k : Int) + 1 by omega] at h; exact h, by simp [intOf]; omega⟩
      · obtain rfl : k = 64 := by omega
        rw [rk_all HKL.out, ← HBL.out] at hrow
        have HE := Lib.hid hrow
        clear h5 hrow hB hap hbs HR HBS HAP
        go_wp2_with fail
        go_ret
        exact ⟨rfl, HE.out, H5.out, HBB.out⟩
  · have hkl : keyL key = key := if_neg hlt
    have HI0 := Lib.hid (show RkRel (kbL key) key (.slice a key.length c) m w.heap.size w (.int .i64 0) W1 from
      ⟨0, by omega, rfl, by rw [rk_zero]; exact hr1, HB.out.kept hb1, (fun j h0 hj => by have := hlz.out j h0 hj; omega), h51, hb1⟩)
    have HKL := Lib.hid (show (kbL key).length = 64 from kbL_len (by omega))
    have hk2 : key.length ≤ 64 := by omega
    have HBL := Lib.hid (show blkL m key = cmb m (kbL key) by unfold blkL; rw [hkl])
    obtain ⟨L, hlL⟩ : ∃ L, key.length = L := ⟨_, rfl⟩
    have HOL := Lib.hid hlL
    rw [hlL] at hlt HI0 ⊢
    have hgt : ¬ (64 : Int) < ((L : Nat) : Int) := by omega
    clear hb1 hr1 h51 hG hl hlL HB hkl HB1 HR1
    go_enter Tryd.func21, Tryd.ntmps21
    go_upto_region 2 with fail
    try rw [hW1]
    go_wp2_with fail
    go_loopw [7] (fun i wr => RkRel (kbL key) key (.slice (a) L c) m w.heap.size w i wr) (fun i _ => 64 - (intOf i).toNat)
    case atStart => exact HI0.out
    case round =>
      clear HI0
      obtain ⟨k, hk, rfl, hrow, hbs, hap, h5, hB⟩ := hrel
      have H5 := Lib.hid h5
      have HR := Lib.hid hrow
      have HBB := Lib.hid hB
      have HBS := Lib.hid hbs
      have HAP := Lib.hid hap
      by_cases hk64 : k < 64
      · have hfz := (rowN_cell hrow).2 k
        have hc := cell_arr hrow (show k < (rkL m (kbL key) k).length by rw [rk_len HKL.out hk]; exact hk64)
        rw [rk_get HKL.out hk64] at hc
        have HSET := Lib.hid (rk_set (m := m) HKL.out hk64)
        have hki : ((k : Nat) : Int) < 64 := by omega
        by_cases hkl : k < L
        · have hkL : ((k : Nat) : Int) < ((L : Nat) : Int) := by omega
          obtain ⟨h256, a1, c1, ee, _, h2⟩ := hbs
          obtain ⟨b, off, ea, hblt, hj⟩ : ∃ b off, a1 = some ⟨b, off, none⟩ ∧ b < wr.heap.size ∧ ∀ j, j < (key).length → wr.cell? ⟨b, off + j, none⟩ = some (.int .u8 ((key).getD j 0 : Nat)) := by
            rcases h2 with h2 | h2
            · have := HOL.out; omega
            · exact h2
          have hkk : k < (key).length := by have := HOL.out; omega
          have hcs := hj k hkk
          have hne : b ≠ w.heap.size := hap b (by omega) ⟨off, none, _, _, by rw [ee, ea]⟩
          have hx256 : (key).getD k 0 < 256 := by rw [List.getD, List.getElem?_eq_getElem hkk]; exact h256 _ (List.getElem_mem hkk)
          rw [kb_lo hkk] at HSET
          have hX := bits_xor8 _ _ hx256 hm
          obtain ⟨x, hx⟩ : ∃ x, (key).getD k 0 = x := ⟨_, rfl⟩
          rw [hx] at hcs HSET hX
          have hr2 : rowN (wr.setCell ⟨w.heap.size, k, none⟩ (.int .u8 (x : Nat))) w.heap.size = some (arr .u8 ((rkL m (kbL key) k).set k x)) := row_arr hrow
          have hc2 := cell_arr hr2 (show k < ((rkL m (kbL key) k).set k x).length by rw [List.length_set, rk_len HKL.out hk]; exact hk64)
          have hgs : ((rkL m (kbL key) k).set k x).getD k 0 = x := by
            rw [List.getD, List.getElem?_set_self (by rw [rk_len HKL.out hk]; exact hk64)]; rfl
          rw [hgs] at hc2
          have hf2 := (rowN_cell hr2).2 k
          have HR3 := Lib.hid (show rowN ((wr.setCell ⟨w.heap.size, k, none⟩ (.int .u8 (x : Nat))).setCell ⟨w.heap.size, k, none⟩ (.int .u8 ((x ^^^ m : Nat) : Int))) w.heap.size = some (arr .u8 (rkL m (kbL key) (k + 1))) by
            have h := row_arr (i := k) (x := x ^^^ m) hr2
            rw [List.set_set, HSET.out] at h
            exact h)
          have HE := Lib.hid (show RkRel (kbL key) key (.slice (a) L c) m w.heap.size w (.int .i64 ((k + 1 : Nat) : Int)) ((wr.setCell ⟨w.heap.size, k, none⟩ (.int .u8 (x : Nat))).setCell ⟨w.heap.size, k, none⟩ (.int .u8 ((x ^^^ m : Nat) : Int))) from
            ⟨k + 1, hk64, rfl, HR3.out, (HBS.out.grown (setCell_grown wr ⟨w.heap.size, k, none⟩ _) (fun j h0 hj => hap j h0 hj)).grown (setCell_grown _ ⟨w.heap.size, k, none⟩ _) (fun j h0 hj => hap j h0 hj), hap, h5.set.set,
              (HBB.out.setCell (p := ⟨w.heap.size, k, none⟩) (Nat.le_refl _) _).setCell (p := ⟨w.heap.size, k, none⟩) (Nat.le_refl _) _⟩)
          rw [ea] at ee
          injection ee with ea1 ea2 ea3
          subst ea1
          clear ea2 ea3 h5 hrow hB hap h2 hj hx hr2 hgs HSET HR3 h256 hx256 HR HBB HBS HAP
          go_wp2_with fail
          first | exact ⟨HE.out, by simp [intOf]; omega⟩ | exact ⟨by have h := HE.out; rw [show ((k + 1 : Nat) : Int) = (k : Int) + 1 by omega] at h; exact h, by simp [intOf]; omega⟩
        · have hkL : ¬ ((k : Nat) : Int) < ((L : Nat) : Int) := by omega
          rw [kb_hi (by have := HOL.out; omega) hk64, Nat.zero_xor] at HSET
          have hX : bits .xor .u8 0 (m : Int) = ((m : Nat) : Int) := by have h := bits_xor8 0 m (by omega) hm; rw [Nat.zero_xor] at h; exact h
          have HE := Lib.hid (show RkRel (kbL key) key (.slice (a) L c) m w.heap.size w (.int .i64 ((k + 1 : Nat) : Int)) (wr.setCell ⟨w.heap.size, k, none⟩ (.int .u8 (m : Nat))) from
            ⟨k + 1, hk64, rfl, by
              have h := row_arr (i := k) (x := m) hrow
              rw [HSET.out] at h
              exact h, HBS.out.grown (setCell_grown wr ⟨w.heap.size, k, none⟩ _) (fun j h0 hj => hap j h0 hj), hap, h5.set, HBB.out.setCell (p := ⟨w.heap.size, k, none⟩) (Nat.le_refl _) _⟩)
          clear h5 hrow hB hap hbs HSET HR HBB HBS HAP
          go_wp2_with fail
          first | exact ⟨HE.out, by simp [intOf]; omega⟩ | exact ⟨by have h := HE.out; rw [show ((k + 1 : Nat) : Int) = (k : Int) + 1 by omega] at h; exact h, by simp [intOf]; omega⟩
      · obtain rfl : k = 64 := by omega
        rw [rk_all HKL.out, ← HBL.out] at hrow
        have HE := Lib.hid hrow
        clear h5 hrow hB hap hbs HR HBS HAP
        go_wp2_with fail
        go_ret
        exact ⟨rfl, HE.out, H5.out, HBB.out⟩
end Go.Proofs.YtmlacbdonkfbdaaDoor
