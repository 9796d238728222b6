/- package mac: finish, inProgress, New, Write. -/
import Derived.Test.YtmlacbdonkfbdaaDoorWD
namespace Go.Proofs.YtmlacbdonkfbdaaDoor
open Go.RowKit Go.Shelf

attribute [local go_sem] Oper.semAt_some
set_option maxRecDepth 100000 in
set_option maxHeartbeats 1000000 in
theorem finish_mac (key zs I : List Nat) (hI : I.length = 32) (hI256 : ∀ x ∈ I, x < 256) (g : Nat) (h256 : ∀ x ∈ key, x < 256) (w : World) (h : HashIn (kpre key) zs g w) (hK : KG w) :
    Calls Tryd.prog 28 #[.pointer (some ⟨g, 0, none⟩), .agg (arr .u8 I)] w fun e w' => e = .returned (.agg (arr .u8 (shaL (blkL 92 key ++ I)))) ∧ Below w.heap.size w w' := by
  obtain ⟨W1, hW1⟩ : ∃ X, ((w.alloc (.cells (arr .u8 I) 27)).alloc (.cells (arr .u8 z32) 27)).alloc (.cells (hashA zero8 z64 0) 54) = X := ⟨_, rfl⟩
  have hb1 : Below w.heap.size w W1 := by rw [← hW1]; exact (((Below.refl _ w).alloc (Nat.le_refl _) _).alloc (by simp) _).alloc (by simp <;> omega) _
  have hr0 : rowN W1 w.heap.size = some (arr .u8 I) := by rw [← hW1]; simp only [rowN_alloc, World.size_alloc, if_true]; (repeat rw [if_neg (by omega)])
  have hr1 : rowN W1 (w.heap.size + 1) = some (arr .u8 z32) := by rw [← hW1]; simp only [rowN_alloc, World.size_alloc, if_true]; (repeat rw [if_neg (by omega)])
  have hr2 : rowN W1 (w.heap.size + 1 + 1) = some (hashA zero8 z64 0) := by rw [← hW1]; simp only [rowN_alloc, World.size_alloc, if_true]
  have hw1 := hK.1
  have hgw := h.lt
  have HWR := Lib.hid (write_at (w.heap.size + 1 + 1) [] (blkL 92 key) _ W1 (HashAt.zero hr2) (by rw [blkL_len]; decide) (hK.kept hb1) (by omega) (mac_a h256 (h.kept hb1)) (fun j _ hj => by obtain ⟨_, _, _, _, e2⟩ := hj; cases e2; omega))
  have HW2 := Lib.hid (fun (W : World) (h1 : HashAt (blkL 92 key) (w.heap.size + 1 + 1) W) (h2 : KG W) (h3 : rowN W w.heap.size = some (arr .u8 I)) => write_at (w.heap.size + 1 + 1) (blkL 92 key) I (.slice (some ⟨w.heap.size, 0, none⟩) 32 32) W h1 (by rw [blkL_len, hI]; decide) h2 (by omega) (bytes_row hI256 h3 32 hI) (fun j _ hj => by obtain ⟨_, _, _, _, e2⟩ := hj; cases e2; omega))
  have HS3 := Lib.hid (fun (W : World) (h1 : HashAt (blkL 92 key ++ I) (w.heap.size + 1 + 1) W) (h2 : KG W) => hsum_at (w.heap.size + 1 + 1) (blkL 92 key ++ I) W h1 (by rw [List.length_append, blkL_len, hI]; decide) h2)
  have HK1 := Lib.hid (hK.kept hb1)
  have HB1 := Lib.hid hb1
  have HR0 := Lib.hid hr0
  have HR1 := Lib.hid hr1
  have hs47 := fun (W : World) => run_slice47 g 0 W
  have hs24 := fun (W : World) => run_slice24_all w.heap.size W
  have hz32 := z32_lit
  have sz4 : (arr .u8 z32).size = 32 := by rw [arr_size]; rfl
  have hO32 : (shaL (blkL 92 key ++ I)).length = 32 := shaL_len _
  obtain ⟨O, hO⟩ : ∃ O, shaL (blkL 92 key ++ I) = O := ⟨_, rfl⟩
  rw [hO] at HS3 hO32 ⊢
  have sz2 : (arr .u8 O).size = 32 := by rw [arr_size, hO32]
  clear hb1 hr0 hr1 hr2 hK h hI hI256 hO
  go_enter Tryd.func28, Tryd.ntmps28
  go_upto_region 2 with fail
  try rw [hW1]
  go_wp2_with fail
  refine HWR.out.mono ?_
  rintro e w2 ⟨rfl, hh2, hg2⟩
  have hs1 := HB1.out.size
  have HB2 := Lib.hid (HB1.out.grown hg2 HB1.out.size (fun r e => by cases e; omega))
  have HK2 := Lib.hid (HK1.out.grown hg2 (fun e => by have := Option.some.inj e; omega))
  have HR02 := Lib.hid (show rowN w2 w.heap.size = some (arr .u8 I) by rw [grownBy_rowN hg2 (rowN_lt HR0.out) (fun e => by have := Option.some.inj e; omega)]; exact HR0.out)
  have HR12 := Lib.hid (show rowN w2 (w.heap.size + 1) = some (arr .u8 z32) by rw [grownBy_rowN hg2 (rowN_lt HR1.out) (fun e => by have := Option.some.inj e; omega)]; exact HR1.out)
  have HH2 := Lib.hid hh2
  clear hh2 hg2 HR0 HR1 HK1 hW1
  go_wp2_with fail
  refine (HW2.out _ HH2.out HK2.out HR02.out).mono ?_
  rintro e w3 ⟨rfl, hh3, hg3⟩
  have HB3 := Lib.hid (HB2.out.grown hg3 HB2.out.size (fun r e => by cases e; omega))
  have HK3 := Lib.hid (HK2.out.grown hg3 (fun e => by have := Option.some.inj e; omega))
  have HR13 := Lib.hid (show rowN w3 (w.heap.size + 1) = some (arr .u8 z32) by rw [grownBy_rowN hg3 (rowN_lt HR12.out) (fun e => by have := Option.some.inj e; omega)]; exact HR12.out)
  have HH3 := Lib.hid hh3
  clear hh3 hg3 HR12 HK2 HH2
  go_wp2_with fail
  refine (HS3.out _ HH3.out HK3.out).mono ?_
  rintro e w4 ⟨rfl, hb4⟩
  have hr14 := keptW hb4 HR13.out
  have HB4 := Lib.hid (HB3.out.trans (hb4.mono HB3.out.size))
  clear hb4
  go_wp2_with fail
  exact ret_arr _ _ run_loadVar24 rfl rfl rfl (row_new hr14) sz2 ⟨rfl, below_setRow' HB4.out (by omega) _⟩

set_option maxRecDepth 100000 in
theorem inProgress_nil (w : World) : Calls Tryd.prog 25 #[.pointer none] w fun e w' => e = .returned (.bool false) ∧ Below w.heap.size w w' := by
  have hq : ∀ w, (binOp BinOp.neq 38 (.pointer none) (.pointer none)).run Tryd.prog w = .ok (.bool false) w := fun w => by kernel_rfl
  go_enter Tryd.func25, Tryd.ntmps25
  go_wp2_with fail
  go_ret
  exact ⟨rfl, Below.refl _ _⟩
set_option maxRecDepth 100000 in
theorem inProgress_of (g : Nat) (b : Bool) (w : World) (h : Calls Tryd.prog 34 #[.pointer (some ⟨g, 0, none⟩)] w fun e w' => e = .returned (.bool b) ∧ Below w.heap.size w w') : Calls Tryd.prog 25 #[.pointer (some ⟨g, 0, none⟩)] w fun e w' => e = .returned (.bool b) ∧ Below w.heap.size w w' := by
  have H := Lib.hid h
  clear h
  go_enter Tryd.func25, Tryd.ntmps25
  go_wp2_with fail
  refine H.out.mono ?_
  rintro e w2 ⟨rfl, hb⟩
  have HB := Lib.hid hb
  clear hb H
  go_wp2_with fail
  go_ret
  exact ⟨rfl, HB.out⟩
end Go.Proofs.YtmlacbdonkfbdaaDoor
