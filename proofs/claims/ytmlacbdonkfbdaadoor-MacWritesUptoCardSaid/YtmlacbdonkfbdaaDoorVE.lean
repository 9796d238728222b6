/- A state that lies behind 128 cells: absorb. -/
import Derived.Deep.QuietTactic
import Derived.BigQuiet
import Derived.Deep.MidRow
import Derived.Test.YtmlacbdonkfbdaaDoorSE
namespace Go.Proofs.YtmlacbdonkfbdaaDoor
open Go.RowKit

/-- 128 cells that lie ahead. -/
structure Pre where
  a : Array Value
  sz : a.size = 128
@[irreducible] def stB (P : Pre) (s : List Nat) (rest : Array Value) : Array Value := P.a ++ (arr .u32 s ++ rest)
theorem stB_eq (P : Pre) (s : List Nat) (rest : Array Value) : stB P s rest = P.a ++ stA s rest := by unfold stB stA; rfl
theorem stB_size (P : Pre) {s : List Nat} (h : s.length = 8) (rest : Array Value) : (stB P s rest).size = 136 + rest.size := by rw [stB_eq, Array.size_append, P.sz, stA_size h]; omega
theorem stB_get (P : Pre) (s : List Nat) (rest : Array Value) (i : Nat) : (stB P s rest)[128 + i]? = (stA s rest)[i]? := by
  rw [stB_eq, Array.getElem?_append_right (by rw [P.sz]; omega), P.sz, Nat.add_sub_cancel_left]
theorem stB_pre (P : Pre) (s : List Nat) (rest : Array Value) (i : Nat) (hi : i < 128) : (stB P s rest)[i]? = P.a[i]? := by
  rw [stB_eq, Array.getElem?_append_left (by rw [P.sz]; omega)]
theorem run_arLoad_of {t : TypeId} {W : World} {a : Addr} {v : Value} (hl : (loadVar t a).run Tryd.prog W = .ok v W) : (arLoad t (.pointer (some a))).run Tryd.prog W = .ok (.value v) W := by
  simp [arLoad, Instr.loadAt, Instr.sureAddr, hl]
theorem run_arStore_of {t : TypeId} {W W' : World} {a : Addr} {v : Value} (hl : (storeVar t a v).run Tryd.prog W = .ok () W') : (arStore t (.pointer (some a)) v).run Tryd.prog W = .ok .skip W' := by
  simp [arStore, Instr.storeAt, Instr.sureAddr, hl]
theorem load_in {P : Pre} {W : World} {g : Nat} {s : List Nat} {rest : Array Value} (hs : s.length = 8) (h : rowN W g = some (stB P s rest)) : (arLoad 52 (.pointer (some ⟨g, 128, none⟩))).run Tryd.prog W = .ok (.value (.agg (arr .u32 s))) W := by
  have hr : W.rangeAt g 128 (arr .u32 s).toList := by
    intro j v hv
    have hj : j < 8 := by
      have := (List.getElem?_eq_some_iff.1 hv).1
      rw [Array.length_toList, arr_size, hs] at this; exact this
    rw [(rowN_cell h).1, stB_get, stA_low hs rest j hj, ← Array.getElem?_toList]; exact hv
  have hl := run_loadVar_mid (P := Tryd.prog) W g 128 52 (arr .u32 s).toList _ hr Tryd.underlying52 rfl (by rw [info35, Array.length_toList, arr_size, hs])
  rw [Array.toArray_toList] at hl
  exact run_arLoad_of hl
theorem in_set {P : Pre} {s s' : List Nat} (hs : s.length = 8) (hs' : s'.length = 8) (rest : Array Value) :
    ((stB P s rest).toList.take (128 + 0) ++ (arr .u32 s').toList ++ (stB P s rest).toList.drop (128 + 0 + (arr .u32 s').toList.length)).toArray = stB P s' rest := by
  have hp : P.a.toList.length = 128 := by rw [Array.length_toList, P.sz]
  unfold stB
  apply Array.ext'
  simp only [Array.toList_append]
  have h8 : (arr .u32 s).toList.length = 8 := by rw [Array.length_toList, arr_size, hs]
  have h8' : (arr .u32 s').toList.length = 8 := by rw [Array.length_toList, arr_size, hs']
  generalize P.a.toList = A at *
  generalize (arr .u32 s).toList = X at *
  generalize (arr .u32 s').toList = Y at *
  rw [h8', List.take_append_of_le_length (by omega), List.take_of_length_le (by omega), List.drop_append, List.drop_eq_nil_of_le (by omega), List.nil_append, List.drop_append, hp, List.drop_eq_nil_of_le (by omega), List.nil_append, h8, show 128 + 0 + 8 - 128 - 8 = 0 by omega, List.drop_zero, List.append_assoc]
theorem store_in {P : Pre} {W : World} {g : Nat} {s s' : List Nat} {rest : Array Value} (hs : s.length = 8) (hs' : s'.length = 8) (h : rowN W g = some (stB P s rest)) : (arStore 52 (.pointer (some ⟨g, 128, none⟩)) (.agg (arr .u32 s'))).run Tryd.prog W = .ok .skip (W.setRow g (stB P s' rest)) := by
  obtain ⟨t', hg⟩ := rowN_some h
  obtain ⟨i, hi, hsz⟩ : ∃ i, Tryd.prog.info? 52 = some i ∧ i.size = 8 := by
    have h := info35
    cases e : Tryd.prog.info? 52 with
    | none => rw [e] at h; cases h
    | some i => exact ⟨i, rfl, by rw [e] at h; simpa using h⟩
  have hst := run_storeCells_at (P := Tryd.prog) g 128 t' (arr .u32 s').toList 0 (stB P s rest) W hg (by rw [Array.length_toList, arr_size, hs', stB_size P hs]; omega) (arr_oneCell _ _)
  have hsize : (sizeOf 52).run Tryd.prog W = .ok 8 W := by simp [sizeOf, typeInfo, hi, hsz]
  rw [in_set hs hs'] at hst
  have hcs : (arr .u32 s').size = 8 := by rw [arr_size, hs']
  refine run_arStore_of ?_
  simp only [storeVar, Sem.run_bind, hsize, Result.andThen_ok, Value.cells, hcs, ne_eq, not_true_eq_false, if_false]
  exact hst

/-- What the rounds hold. -/
def AbRelI (P : Pre) (s zs : List Nat) (rest : Array Value) (g G : Nat) (w : World) (a b c d e f p h i : Value) (wr : World) : Prop :=
  ∃ (t : Nat) (v : V8), t ≤ 64 ∧ v = rnds (sch zs 64) (V8.of (plusL s iv)) t ∧ i = .int .i64 (t : Nat) ∧ a = .int .u32 (v.a : Nat) ∧ b = .int .u32 (v.b : Nat) ∧ c = .int .u32 (v.c : Nat) ∧ d = .int .u32 (v.d : Nat) ∧ e = .int .u32 (v.e : Nat) ∧ f = .int .u32 (v.f : Nat) ∧ p = .int .u32 (v.g : Nat) ∧ h = .int .u32 (v.h : Nat) ∧
    rowN wr g = some (stB P s rest) ∧ ARows G wr ∧ KG wr ∧ Below w.heap.size w wr

set_option maxRecDepth 100000 in
set_option maxHeartbeats 2000000 in
theorem absorb_in (P : Pre) (s zs : List Nat) (rest : Array Value) (g b off c : Nat) (hs : s.length = 8) (hw : W32 s) (hl : zs.length = 64) (h256 : ∀ x ∈ zs, x < 256) (w : World) (hK : KG w) (hrow : rowN w g = some (stB P s rest))
    (hblk : b < w.heap.size) (hc : ∀ j, j < 64 → w.cell? ⟨b, off + j, none⟩ = some (.int .u8 (zs.getD j 0 : Nat))) :
    Calls Tryd.prog 36 #[.pointer (some ⟨g, 128, none⟩), .slice (some ⟨b, off, none⟩) 64 c] w fun e w' => e = .returned (.tuple #[]) ∧ rowN w' g = some (stB P (absL s zs) rest) ∧ w.grownBy w' (some g) := by
  have HS := Lib.hid hs
  have HW := Lib.hid hw
  have H256 := Lib.hid h256
  have HWD := Lib.hid (fun W => words_any s hs hw W)
  have HLD := Lib.hid (fun (W : World) (h : rowN W g = some (stB P s rest)) => load_in hs h)
  have hpl := plusL_len hs iv_len
  have HPL := Lib.hid hpl
  have HSC := Lib.hid (fun W (hb : Below w.heap.size w W) => schedule_any zs b off c hl h256 W (Nat.lt_of_lt_of_le hblk hb.size) (fun j hj => (hb.cell (p := ⟨b, off + j, none⟩) hblk).trans (hc j hj)))
  have HK := Lib.hid hK
  have HR := Lib.hid hrow
  clear hs hw hl h256 hK hrow hblk hc hpl
  have hmf : ∀ (fn : Fn) (first cap : Array Value) (w : World), (Instr.makeFunc fn first cap).run Tryd.prog w = .ok (.func fn first cap) w := fun _ _ _ _ => rfl
  go_enter Tryd.func36, Tryd.ntmps36
  go_wp2_with fail
  refine (rotations_any _ _ _ _).mono ?_
  rintro e w1 ⟨rfl, rfl⟩
  go_wp2_with fail
  refine (rotations_any _ _ _ _).mono ?_
  rintro e w2 ⟨rfl, rfl⟩
  obtain ⟨X, hX, hA, hb4⟩ := four w
  rw [hX]
  have hr1 := keptW hb4 HR.out
  have HR1 := Lib.hid hr1
  have HK1 := Lib.hid (HK.out.kept hb4)
  have HA1 := Lib.hid hA
  have HB1 := Lib.hid hb4
  have hld1 := HLD.out X hr1
  clear hX hA hb4 HK HR
  go_wp2_with fail
  refine (HWD.out _).mono ?_
  rintro e w3 ⟨rfl, hb⟩
  have HR3 := Lib.hid (keptW hb HR1.out)
  have HK3 := Lib.hid (HK1.out.kept hb)
  have HA3 := Lib.hid (HA1.out.kept hb)
  have HB3 := Lib.hid (HB1.out.trans (hb.mono HB1.out.size))
  have hl8 := HPL.out
  have sz0 : (arr .u32 zero8).size = 8 := by rw [arr_size]; rfl
  have hne : g < w3.heap.size := rowN_lt HR3.out
  clear hb hld1 hr1 HR1 HK1 HA1 HB1
  go_upto_region 4 with fail
  obtain ⟨V, hV⟩ : ∃ V, (w3.alloc (.cells (arr .u32 zero8) 52)).setRow w3.heap.size (arr .u32 (plusL s iv)) = V := ⟨_, rfl⟩
  have hb5 : Below w3.heap.size w3 V := by rw [← hV]; exact below_setRow' ((Below.refl _ _).alloc (Nat.le_refl _) _) (Nat.le_refl _) _
  have hrV : rowN V w3.heap.size = some (arr .u32 (plusL s iv)) := by rw [← hV]; exact row_new (cs := arr .u32 zero8) (by rw [rowN_alloc, if_pos rfl])
  rw [hV]
  have HR5 := Lib.hid (keptW hb5 HR3.out)
  have HK5 := Lib.hid (HK3.out.kept hb5)
  have HA5 := Lib.hid (HA3.out.kept hb5)
  have HB5 := Lib.hid (HB3.out.trans (hb5.mono HB3.out.size))
  clear hV hb5 HR3 HK3 HA3 HB3 hne
  generalize w3.heap.size = gv at *
  have hrVd : rowN V.drew gv = some (arr .u32 (plusL s iv)) := hrV
  have d0 := cell_arr hrVd (show 0 < (plusL s iv).length by omega)
  have d1 := cell_arr hrVd (show 1 < (plusL s iv).length by omega)
  have d2 := cell_arr hrVd (show 2 < (plusL s iv).length by omega)
  have d3 := cell_arr hrVd (show 3 < (plusL s iv).length by omega)
  have d4 := cell_arr hrVd (show 4 < (plusL s iv).length by omega)
  have d5 := cell_arr hrVd (show 5 < (plusL s iv).length by omega)
  have d6 := cell_arr hrVd (show 6 < (plusL s iv).length by omega)
  have d7 := cell_arr hrVd (show 7 < (plusL s iv).length by omega)
  have HV := Lib.hid (show rnds (sch zs 64) (V8.of (plusL s iv)) 0 = V8.of (plusL s iv) from rfl)
  obtain ⟨v0, hv0⟩ : ∃ v, V8.of (plusL s iv) = v := ⟨_, rfl⟩
  have a0 : (plusL s iv).getD 0 0 = v0.a := by rw [← hv0]; rfl
  have a1 : (plusL s iv).getD 1 0 = v0.b := by rw [← hv0]; rfl
  have a2 : (plusL s iv).getD 2 0 = v0.c := by rw [← hv0]; rfl
  have a3 : (plusL s iv).getD 3 0 = v0.d := by rw [← hv0]; rfl
  have a4 : (plusL s iv).getD 4 0 = v0.e := by rw [← hv0]; rfl
  have a5 : (plusL s iv).getD 5 0 = v0.f := by rw [← hv0]; rfl
  have a6 : (plusL s iv).getD 6 0 = v0.g := by rw [← hv0]; rfl
  have a7 : (plusL s iv).getD 7 0 = v0.h := by rw [← hv0]; rfl
  rw [a0] at d0
  rw [a1] at d1
  rw [a2] at d2
  rw [a3] at d3
  rw [a4] at d4
  rw [a5] at d5
  rw [a6] at d6
  rw [a7] at d7
  have HV0 := Lib.hid hv0
  clear a0 a1 a2 a3 a4 a5 a6 a7 hrVd hrV hv0 hl8 sz0
  refine wp_region_still_lit (by kernel_rfl) (by kernel_rfl) ?_
  repeat still_step
  refine wpStill_nil ?_
  change Exit.then _ _ _ _ V.drew
  have HR6 := Lib.hid (show rowN V.drew g = some (stB P s rest) from HR5.out)
  have HK6 := Lib.hid (show KG V.drew from HK5.out)
  have HA6 := Lib.hid (show ARows w.heap.size V.drew from HA5.out)
  have HB6 := Lib.hid (show Below w.heap.size w V.drew from HB5.out.drew)
  clear d0 d1 d2 d3 d4 d5 d6 d7 HR5 HK5 HA5 HB5
  generalize V.drew = U at *
  go_wp2_with fail
  refine (HSC.out _ HB6.out).mono ?_
  rintro e w4 ⟨rfl, hb⟩
  have HR7 := Lib.hid (keptW hb HR6.out)
  have HK7 := Lib.hid (HK6.out.kept hb)
  have HA7 := Lib.hid (HA6.out.kept hb)
  have HB7 := Lib.hid (HB6.out.trans (hb.mono HB6.out.size))
  have HI0 := Lib.hid (show AbRelI P s zs rest g w.heap.size w (.int .u32 (v0.a : Nat)) (.int .u32 (v0.b : Nat)) (.int .u32 (v0.c : Nat)) (.int .u32 (v0.d : Nat)) (.int .u32 (v0.e : Nat)) (.int .u32 (v0.f : Nat)) (.int .u32 (v0.g : Nat)) (.int .u32 (v0.h : Nat)) (.int .i64 0) w4 from
    ⟨0, v0, by omega, by rw [HV.out, HV0.out], rfl, rfl, rfl, rfl, rfl, rfl, rfl, rfl, rfl, HR7.out, HA7.out, HK7.out, HB7.out⟩)
  clear hb HR6 HK6 HA6 HB6 HR7 HK7 HA7 HB7 HSC HWD
  obtain ⟨G, hG⟩ : ∃ G, w.heap.size = G := ⟨_, rfl⟩
  have HG := Lib.hid hG
  rw [hG] at HI0 ⊢
  clear hG
  go_wp2_with fail
  go_loopw [9, 10, 11, 12, 13, 14, 15, 16, 47] (fun a b c d e f p h i wr => AbRelI P s zs rest g G w a b c d e f p h i wr) (fun _ _ _ _ _ _ _ _ i _ => 64 - (intOf i).toNat)
  case atStart => exact HI0.out
  case round =>
    clear HI0
    obtain ⟨t, v, ht, hv, rfl, rfl, rfl, rfl, rfl, rfl, rfl, rfl, rfl, hrow, hA, hK, hB⟩ := hrel
    have HR := Lib.hid hrow
    have HA := Lib.hid hA
    have HK := Lib.hid hK
    have HB := Lib.hid hB
    have hlt8 : v.lt := by rw [hv]; exact rnds_lt (of_lt (plusL_w32 _ _)) t
    obtain ⟨l1, l2, l3, l4, l5, l6, l7, l8⟩ := hlt8
    by_cases hlt : t < 64
    · have HVN := Lib.hid (show rnd (kt t) ((sch zs 64).getD t 0) v = rnds (sch zs 64) (V8.of (plusL s iv)) (t + 1) by rw [hv]; rfl)
      have lw := (sch_w32 H256.out 64).get t
      have lk := kt_lt t
      have hix := fun W : World => run_arIndex65 (sch zs 64) t W (sch_len zs 64) hlt
      obtain ⟨wt, hwt⟩ : ∃ x, (sch zs 64).getD t 0 = x := ⟨_, rfl⟩
      rw [hwt] at HVN lw hix
      have hkc := hK.2 t hlt
      obtain ⟨kk, hkk⟩ : ∃ x, kt t = x := ⟨_, rfl⟩
      rw [hkk] at HVN lk hkc
      have x1 := xr_lt v.e l5 [6, 11, 25]
      have x2 := xr_lt v.a l1 [2, 13, 22]
      have x3 := chx_lt v.e v.f v.g l6 l7
      have x4 := majx_lt v.a v.b v.c l2 l3
      have C1 := Lib.hid (fun W hR => rots_any v.e l5 [6, 11, 25] (G + 1 + 1 + 1) W hR)
      have C2 := Lib.hid (fun W hR => rots_any v.a l1 [2, 13, 22] (G + 1) W hR)
      have C3 := Lib.hid (fun W => ch_any v.e v.f v.g l5 l6 l7 W)
      have C4 := Lib.hid (fun W => maj_any v.a v.b v.c l1 l2 l3 W)
      clear hv hwt hkk hrow hA hK hB
      go_upto_region 8 with fail
      have hkd : wr.drew.cell? ⟨1, t, none⟩ = some (.int .u32 (kk : Nat)) := hkc
      have HAd := Lib.hid (show ARows G wr.drew from HA.out)
      refine wp_region_still_lit (by kernel_rfl) (by kernel_rfl) ?_
      repeat still_step
      still_call ((C1.out _ HAd.out.r1).mono (fun _ _ h => ⟨h.1, h.2.symm⟩))
      repeat still_step
      still_call ((C3.out _).mono (fun _ _ h => ⟨h.1, h.2.symm⟩))
      repeat still_step
      refine wpStill_nil ?_
      change Exit.then _ _ _ _ wr.drew
      rw [tt1_wrap]
      have HRd := Lib.hid (show rowN wr.drew g = some (stB P s rest) from HR.out)
      have HKd := Lib.hid (show KG wr.drew from HK.out)
      have HBd := Lib.hid (show Below w.heap.size w wr.drew from HB.out.drew)
      have y1 : tt1 v kk wt < 4294967296 := Nat.mod_lt _ (by omega)
      obtain ⟨T1, hT1⟩ : ∃ x, tt1 v kk wt = x := ⟨_, rfl⟩
      rw [hT1] at y1 ⊢
      have HT1 := Lib.hid hT1
      clear hkd hkc HR HK HB HA hT1 hix
      generalize wr.drew = U at *
      go_wp2_with fail
      refine (C2.out _ HAd.out.r0).mono ?_
      rintro e w5 ⟨rfl, rfl⟩
      go_wp2_with fail
      refine (C4.out _).mono ?_
      rintro e w6 ⟨rfl, rfl⟩
      go_wp2_with fail
      refine ⟨⟨t + 1, rnd kk wt v, by omega, HVN.out, by go_num, ?_, rfl, rfl, rfl, ?_, rfl, rfl, rfl, HRd.out, HAd.out, HKd.out, HBd.out⟩, by simp [intOf]; omega⟩
      · refine congrArg (Value.int .u32) ?_
        show _ = (((tt1 v kk wt + tt2 v) % 4294967296 : Nat) : Int)
        rw [HT1.out]
        unfold tt2
        omega
      · refine congrArg (Value.int .u32) ?_
        show _ = (((v.d + tt1 v kk wt) % 4294967296 : Nat) : Int)
        rw [HT1.out]
        omega
    · obtain rfl : t = 64 := by omega
      have HABS := Lib.hid (show plusL s [v.a, v.b, v.c, v.d, v.e, v.f, v.g, v.h] = absL s zs by unfold absL; rw [← hv]; rfl)
      have HP2 := Lib.hid (fun W => plus_any s [v.a, v.b, v.c, v.d, v.e, v.f, v.g, v.h] HS.out rfl HW.out (list_w32 ⟨l1, l2, l3, l4, l5, l6, l7, l8⟩) W)
      rw [HABS.out] at HP2
      have hld2 := HLD.out wr hrow
      clear hv hA hK hB
      go_wp2_with fail
      refine (HP2.out _).mono ?_
      rintro e w8 ⟨rfl, hb⟩
      have hr8 := keptW hb HR.out
      have HB8 := Lib.hid (HB.out.trans (hb.mono HB.out.size))
      have hl9 := absL_len (bs := zs) HS.out
      have hst := store_in HS.out hl9 hr8
      clear hb hld2
      go_wp2_with fail
      go_end0
      exact ⟨rfl, row_new hr8, grownBy_trans (gb_of_below HB8.out _) (setRow_grown _ _ _)⟩
end Go.Proofs.YtmlacbdonkfbdaaDoor
