/- MacNone walked. -/
import Derived.Test.YtmlacbdonkfbdaaDoorWJ
import Derived.Test.YtmlacbdonkfbdaaDoorTG
namespace Go.Proofs.YtmlacbdonkfbdaaDoor
open Go.RowKit Go.Shelf

attribute [local go_sem] Oper.semAt_some
theorem run_build56z (W : World) : (Instr.build 56 #[]).run Tryd.prog W = .ok (.agg (hashB zpre zero8 z64 0)) W := by
  have h : Tryd.prog.built 56 [] = some (hashB zpre zero8 z64 0) := by
    rw [built56]
    show some _ = some _
    refine congrArg some ?_
    rw [hashB_eq]
    show _ = kbA z64 z64 ++ _
    rw [← zero128]
    apply Array.ext'
    simp only [Array.toList_append]
  exact run_build (P := Tryd.prog) W 56 #[] _ h
def macNew0 : Sem Next := do pure (.value (← Instr.build 56 #[]))
@[go_sem ↓] theorem execOp_build56z (ρ : Operand → Value) (dst : Option Tmp) (ty : TypeId) (pos : String) (after : Array Edge) (guard : Option (Nat × Bool)) :
    execOp ρ { dst, op := .build 56 #[], type := ty, pos, after, guard } = macNew0 := by simp [execOp, macNew0]
@[go_sem] theorem run_macNew0 (W : World) : macNew0.run Tryd.prog W = .ok (.value (.agg (hashB zpre zero8 z64 0))) W := by
  simp only [macNew0, Sem.run_bind, run_build56z, Result.andThen_ok, Sem.run_pure]
set_option maxRecDepth 100000 in
theorem mcopy_no (p : Value) (w : World) (h : Calls Tryd.prog 25 #[p] w fun e w' => e = .returned (.bool false) ∧ Below w.heap.size w w') : Calls Tryd.prog 16 #[p] w fun e w' => e = .returned (.pointer none) ∧ Below w.heap.size w w' := by
  have H := Lib.hid h
  clear h
  go_enter Tryd.func16, Tryd.ntmps16
  go_wp2_with fail
  refine H.out.mono ?_
  rintro e w2 ⟨rfl, hb⟩
  have HB := Lib.hid hb
  clear hb H
  go_wp2_with fail
  go_ret
  exact ⟨rfl, HB.out⟩
set_option maxRecDepth 100000 in
set_option maxHeartbeats 4000000 in
theorem none_walk (zs : List Nat) (s : Value) (w : World) (hB : BytesAt zs s w) (hK : KG w) :
    Calls Tryd.prog 7 #[s] w fun e w' => e = .returned (.bool true) ∧ Below w.heap.size w w' := by
  have HK := Lib.hid hK
  obtain ⟨_, a, c, rfl, _, _⟩ := hB
  obtain ⟨L, hL⟩ : ∃ L, zs.length = L := ⟨_, rfl⟩
  rw [hL]
  clear hK hL
  by_cases hbig : 100 < L
  · have hb : (100 : Int) < ((L : Nat) : Int) := by omega
    go_enter Tryd.func7, Tryd.ntmps7
    go_wp2_with fail
    refine (known_any _ HK.out).mono ?_
    rintro e w1 ⟨rfl, hb1⟩
    have HB1 := Lib.hid hb1
    clear hb1
    go_wp2_with fail
    go_ret
    exact ⟨rfl, HB1.out⟩
  · have hb : ¬ (100 : Int) < ((L : Nat) : Int) := by omega
    obtain ⟨Z, hZ⟩ : ∃ Z, hashB zpre zero8 z64 0 = Z := ⟨_, rfl⟩
    have hnew := run_macNew0
    rw [hZ] at hnew
    have hz128 : ∀ i, i < 128 → Z[i]? = (kbA z64 z64)[i]? := fun i hi => by rw [← hZ]; exact hashB_pre zpre zero8 z64 0 i hi
    obtain ⟨V, hV⟩ : ∃ V, (w.alloc (.cells Z 56)).alloc (.cells #[.pointer none, .pointer (some ⟨w.heap.size, 0, none⟩)] 38) = V := ⟨_, rfl⟩
    have hbV : Below w.heap.size w V := by rw [← hV]; exact ((Below.refl _ w).alloc (Nat.le_refl _) _).alloc (by simp) _
    have hrZ : rowN V w.heap.size = some Z := by rw [← hV]; simp only [rowN_alloc, World.size_alloc, if_true]; rw [if_neg (by omega)]
    have hrl : rowN V (w.heap.size + 1) = some #[.pointer none, .pointer (some ⟨w.heap.size, 0, none⟩)] := by rw [← hV]; simp only [rowN_alloc, World.size_alloc, if_true]
    have HBV := Lib.hid hbV
    have HRL := Lib.hid hrl
    have HNO0 := Lib.hid (fun (X : World) (_ : Below V.heap.size V X) => inProgress_nil X)
    have HNO1 := Lib.hid (fun (X : World) (hx : Below V.heap.size V X) => inProgress_of w.heap.size false X (haveKey_no w.heap.size Z X (keptW hx hrZ) hz128))
    have HS0 := Lib.hid (fun (X : World) (hx : Below V.heap.size V X) => msum_no (.pointer none) X (fun W hW => HNO0.out W (hx.trans (hW.mono hx.size))))
    have HW0 := Lib.hid (fun (X : World) (hx : Below V.heap.size V X) => mwrite_no (.pointer none) (.slice a L c) X (HNO0.out X hx))
    have HC0 := Lib.hid (fun (X : World) (hx : Below V.heap.size V X) => mcopy_no (.pointer none) X (HNO0.out X hx))
    have HS1 := Lib.hid (fun (X : World) (hx : Below V.heap.size V X) => msum_no (.pointer (some ⟨w.heap.size, 0, none⟩)) X (fun W hW => HNO1.out W (hx.trans (hW.mono hx.size))))
    have HW1 := Lib.hid (fun (X : World) (hx : Below V.heap.size V X) => mwrite_no (.pointer (some ⟨w.heap.size, 0, none⟩)) (.slice a L c) X (HNO1.out X hx))
    have HC1 := Lib.hid (fun (X : World) (hx : Below V.heap.size V X) => mcopy_no (.pointer (some ⟨w.heap.size, 0, none⟩)) X (HNO1.out X hx))
    have hY := Lib.hid (fun (y : World) (hy : Below V.heap.size V y) => show Below V.heap.size V ((y.alloc (.cells (arr .u8 z32) 27)).setRow y.heap.size (arr .u8 z32)) from below_setRow' (hy.alloc hy.size _) hy.size _)
    have hY2 := Lib.hid (fun (y : World) => show rowN ((y.alloc (.cells (arr .u8 z32) 27)).setRow y.heap.size (arr .u8 z32)) y.heap.size = some (arr .u8 z32) from row_new (cs := arr .u8 z32) (by rw [rowN_alloc, if_pos rfl]))
    have hz32 := z32_lit
    have hzl : z32.length = 32 := rfl
    have sz4 : (arr .u8 z32).size = 32 := by rw [arr_size]; rfl
    have hq : ∀ w, (binOp BinOp.neq 38 (.pointer none) (.pointer none)).run Tryd.prog w = .ok (.bool false) w := fun w => by kernel_rfl
    have HX0 := Lib.hid (Below.refl V.heap.size V)
    clear hbV hrZ hrl hz128 HNO0 HNO1
    go_enter Tryd.func7, Tryd.ntmps7
    go_wp2_with fail
    try rw [hV]
    refine wp_loop_rounds 4 ?_
    obtain ⟨X0, hX0⟩ : ∃ X, V = X := ⟨_, rfl⟩
    have HX0 := Lib.hid (show Below V.heap.size V X0 by rw [← hX0]; exact Below.refl _ _)
    rw [hX0]
    clear hX0 hV hnew hZ
    have hcl := (rowN_cell (keptW HX0.out HRL.out)).1 0
    have hcl0 : X0.cell? ⟨w.heap.size + 1, 0, none⟩ = some (.pointer none) := hcl
    clear hcl
    rw [rounds_succ]
    go_wp2_with fail
    refine (HS0.out _ HX0.out).mono ?_
    rintro e y0 ⟨rfl, hb0⟩
    have HY0 := Lib.hid (HX0.out.trans (hb0.mono HX0.out.size))
    clear hb0 hcl0
    go_upto_region 8 with fail
    obtain ⟨Y, hYY⟩ : ∃ Y, (y0.alloc (.cells (arr .u8 z32) 27)).setRow y0.heap.size (arr .u8 z32) = Y := ⟨_, rfl⟩
    have HYY := Lib.hid (show Below V.heap.size V Y by rw [← hYY]; exact hY.out _ HY0.out)
    have hrY : rowN Y y0.heap.size = some (arr .u8 z32) := by rw [← hYY]; exact hY2.out _
    rw [hYY]
    clear hYY
    go_wp2_with fail
    refine (HW0.out _ HYY.out).mono ?_
    rintro e u0 ⟨rfl, hb0⟩
    have HU0 := Lib.hid (HYY.out.trans (hb0.mono HYY.out.size))
    clear hb0 hrY
    go_wp2_with fail
    refine (HC0.out _ HU0.out).mono ?_
    rintro e X1 ⟨rfl, hb0⟩
    have HX1 := Lib.hid (HU0.out.trans (hb0.mono HU0.out.size))
    clear hb0
    go_wp2_with fail
    have hcl := (rowN_cell (keptW HX1.out HRL.out)).1 1
    have hcl1 : X1.cell? ⟨w.heap.size + 1, 1, none⟩ = some (.pointer (some ⟨w.heap.size, 0, none⟩)) := hcl
    clear hcl
    rw [rounds_succ]
    go_wp2_with fail
    refine (HS1.out _ HX1.out).mono ?_
    rintro e y1 ⟨rfl, hb1⟩
    have HY1 := Lib.hid (HX1.out.trans (hb1.mono HX1.out.size))
    clear hb1 hcl1
    go_upto_region 8 with fail
    obtain ⟨Y, hYY⟩ : ∃ Y, (y1.alloc (.cells (arr .u8 z32) 27)).setRow y1.heap.size (arr .u8 z32) = Y := ⟨_, rfl⟩
    have HYY := Lib.hid (show Below V.heap.size V Y by rw [← hYY]; exact hY.out _ HY1.out)
    have hrY : rowN Y y1.heap.size = some (arr .u8 z32) := by rw [← hYY]; exact hY2.out _
    rw [hYY]
    clear hYY
    go_wp2_with fail
    refine (HW1.out _ HYY.out).mono ?_
    rintro e u1 ⟨rfl, hb1⟩
    have HU1 := Lib.hid (HYY.out.trans (hb1.mono HYY.out.size))
    clear hb1 hrY
    go_wp2_with fail
    refine (HC1.out _ HU1.out).mono ?_
    rintro e X2 ⟨rfl, hb1⟩
    have HX2 := Lib.hid (HU1.out.trans (hb1.mono HU1.out.size))
    clear hb1
    go_wp2_with fail
    rw [rounds_succ]
    go_wp2_with fail
    refine (known_any _ ((HK.out.kept HBV.out).kept HX2.out)).mono ?_
    rintro e w9 ⟨rfl, hb9⟩
    have HB9 := Lib.hid (HBV.out.trans ((HX2.out.trans (hb9.mono HX2.out.size)).mono HBV.out.size))
    clear hb9
    go_wp2_with fail
    go_ret
    exact ⟨rfl, HB9.out⟩
end Go.Proofs.YtmlacbdonkfbdaaDoor
