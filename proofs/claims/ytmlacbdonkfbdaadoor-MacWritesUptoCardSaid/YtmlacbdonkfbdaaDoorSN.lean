/- Sum: the hash of a string. -/
import Derived.Test.YtmlacbdonkfbdaaDoorSM
namespace Go.Proofs.YtmlacbdonkfbdaaDoor
open Go.RowKit Go.Shelf

theorem padR_all (zs : List Nat) : padR zs zs.length = padL zs := by
  unfold padR padL endL
  have hl : (zs.drop (zs.length / 64 * 64)).length = zs.length % 64 := by rw [List.length_drop]; omega
  rw [← List.append_assoc, List.take_append_drop, hl]
  have : nz (zs.length % 64) = nz zs.length := by unfold nz; omega
  rw [this]
theorem zero8_w32 : W32 zero8 := by
  intro x hx
  have : x = 0 := by simpa [zero8] using hx
  omega
theorem run_build35 (W : World) : (Instr.build 52 #[]).run Tryd.prog W = .ok (.agg (arr .u32 zero8)) W := by
  rw [← zero8_lit]; kernel_rfl
def arBuild35 : Sem Next := do pure (.value (← Instr.build 52 #[]))
@[go_sem ↓] theorem execOp_build35 (ρ : Operand → Value) (dst : Option Tmp) (ty : TypeId) (pos : String) (after : Array Edge) (guard : Option (Nat × Bool)) :
    execOp ρ { dst, op := .build 52 #[], type := ty, pos, after, guard } = arBuild35 := by simp [execOp, arBuild35]
@[go_sem] theorem run_arBuild35 (W : World) : arBuild35.run Tryd.prog W = .ok (.value (.agg (arr .u32 zero8))) W := by
  simp only [arBuild35, Sem.run_bind, run_build35, Result.andThen_ok, Sem.run_pure]
theorem outB_len {s : List Nat} (h : s.length = 8) : (outB s).length = 32 := by
  show (ob (plusL s iv)).length = 32
  rw [ob_len, plusL_len h iv_len]

set_option maxRecDepth 100000 in
theorem sum_any (zs : List Nat) (s : Value) (hL : zs.length ≤ 140737488355328) (w : World) (hK : KG w) (hB : BytesAt zs s w) (hnil : Nil0 s) :
    Calls Tryd.prog 32 #[s] w fun e w' => e = .returned (.agg (arr .u8 (shaL zs))) ∧ Below w.heap.size w w' := by
  have hlS : (shaL zs).length = 32 := outB_len (absB_len rfl _ _)
  have HF := Lib.hid (fun W (h1 : KG W) (h2 : BytesAt zs s W) => finish_any zero8 zs s zs.length rfl zero8_w32 hL (by omega) W h1 h2 hnil)
  rw [padR_all] at HF
  have HK := Lib.hid hK
  obtain ⟨L, hl⟩ : ∃ L, zs.length = L := ⟨_, rfl⟩
  have HB := Lib.hid hB
  have hz32 := z32_lit
  have HA := Lib.hid ((Below.refl w.heap.size w).alloc (Nat.le_refl _) (.cells (arr .u8 z32) 27))
  have hr0 : rowN (w.alloc (.cells (arr .u8 z32) 27)) w.heap.size = some (arr .u8 z32) := by rw [rowN_alloc, if_pos rfl]
  have HR0 := Lib.hid hr0
  have sz2 : (arr .u8 (shaL zs)).size = 32 := by rw [arr_size, hlS]
  have sz4 : (arr .u8 z32).size = 32 := by rw [arr_size]; rfl
  obtain ⟨_, a, c, rfl, _, _⟩ := hB
  rw [hl] at HF HB ⊢
  clear hr0 hK hnil hl hL
  go_enter Tryd.func32, Tryd.ntmps32
  go_wp2_with fail
  refine (HF.out _ (HK.out.kept HA.out) (HB.out.kept HA.out)).mono ?_
  rintro e w2 ⟨rfl, hb2⟩
  have HR2 := Lib.hid (keptW hb2 HR0.out)
  have HB2 := Lib.hid (HA.out.trans (hb2.mono (by simp)))
  have hr2 := HR2.out
  obtain ⟨O, hO⟩ : ∃ O, outB (absB zero8 ((padL zs).length / 64) (padL zs)) = O := ⟨_, rfl⟩
  have HO := Lib.hid (show shaL zs = O from hO)
  rw [hO]
  rw [HO.out] at sz2 hlS
  clear hb2 hO
  go_wp2_with fail
  exact ret_arr _ _ run_loadVar24 rfl rfl rfl (row_new HR2.out) sz2 ⟨by rw [HO.out], below_setRow' HB2.out (Nat.le_refl _) _⟩
end Go.Proofs.YtmlacbdonkfbdaaDoor
