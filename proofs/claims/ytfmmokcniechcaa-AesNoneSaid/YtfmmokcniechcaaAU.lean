/- AES: AesNone walked. -/
import Derived.Test.YtfmmokcniechcaaAT
namespace Go.Proofs.Ytfmmokcniechcaa
open Go.RowKit Go.Shelf

attribute [local go_sem] Oper.semAt_some
theorem run_load4 {W : World} {g : Nat} {b : Bool} (h : rowN W g = some #[.bool b]) : (loadVar 4 ⟨g, 0, none⟩).run Try.prog W = .ok (.bool b) W := by
  have hc := (rowN_cell h).1 0
  go_simp
theorem ret_bool {fn : Func} {p : Tmp} {R : Ending → World → Prop} {a : Act} {w : World} (g : Nat) (b : Bool) (h : fn.results = #[.cell p 4])
    (hp : a.tmps.getD p undef = .pointer (some ⟨g, 0, none⟩)) (hd : a.defers = []) (hr : rowN w g = some #[.bool b]) (hR : R (.returned (.bool b)) w) : bodyPost Try.prog fn R .ret a w := by
  refine bodyPost_ret (v := .bool b) ?_ hd hR
  have hp' : a.tmps[p]?.getD undef = .pointer (some ⟨g, 0, none⟩) := by simpa using hp
  simp [results, h, hp', asAddr, run_load4 hr]
theorem results_bool {fn : Func} {p : Tmp} {tmps : Array Value} {w : World} (g : Nat) (b : Bool) (h : fn.results = #[.cell p 4])
    (hp : tmps.getD p undef = .pointer (some ⟨g, 0, none⟩)) (hr : rowN w g = some #[.bool b]) : (results fn tmps).run Try.prog w = .ok (.bool b) w := by
  have hp' : tmps[p]?.getD undef = .pointer (some ⟨g, 0, none⟩) := by simpa using hp
  simp [results, h, hp', asAddr, run_load4 hr]
def cphNew0 : Sem Next := do pure (.value (← Instr.build 40 #[]))
@[go_sem ↓] theorem execOp_build40z (ρ : Operand → Value) (dst : Option Tmp) (ty : TypeId) (pos : String) (after : Array Edge) (guard : Option (Nat × Bool)) :
    execOp ρ { dst, op := .build 40 #[], type := ty, pos, after, guard } = cphNew0 := by simp [execOp, cphNew0]
theorem built40z : Try.prog.built 40 [] = some (cphA (zr 512) (zr 44)) := by kernel_rfl
@[go_sem] theorem run_cphNew0 (W : World) : cphNew0.run Try.prog W = .ok (.value (.agg (cphA (zr 512) (zr 44)))) W := by
  have hr := run_build (P := Try.prog) W 40 #[] _ built40z
  simp only [cphNew0, Sem.run_bind, hr, Result.andThen_ok, Sem.run_pure]
theorem cphz_cell {W : World} {g : Nat} (h : rowN W g = some (cphA (zr 512) (zr 44))) : W.cell? ⟨g, 0, none⟩ = some (.int .u8 0) := by
  rw [(rowN_cell h).1, cph_lo (zr_len 512) _ (by omega)]
  have e : (zr 512).getD 0 0 = 0 := by rw [zr_eq]; rfl
  rw [e]; rfl
/-- What holds between the rounds. -/
def NnI (V0 : World) (B : Nat) (Ds : List Nat) (_ : Nat) (X : World) : Prop :=
  (∀ D ∈ Ds, V0.heap.size ≤ D ∧ D < B ∧ X.heap[D]? = some (.deferred (some []))) ∧ Below V0.heap.size V0 X
theorem nnI_own (V0 : World) (B : Nat) (Ds : List Nat) (hB : V0.heap.size ≤ B) : OwnFrom B (NnI V0 B Ds) := by
  rintro k X Y row ⟨h', hb⟩ hg hr
  exact ⟨fun D hD => ⟨(h' D hD).1, (h' D hD).2.1, (hg.block D (Array.getElem?_eq_some_iff.1 (h' D hD).2.2).1 (fun e => by have := (hr D e.symm).1; have := (h' D hD).2.1; omega)).trans (h' D hD).2.2⟩,
    hb.grown hg hb.size (fun r e => Nat.le_trans hB (hr r e).1)⟩
theorem nn_kept {V0 X Y : World} {Ds : List Nat} {B B' : Nat} {k : Nat} (h : NnI V0 B Ds k X) (hb : Below X.heap.size X Y) (hB : B ≤ B') : NnI V0 B' Ds 0 Y :=
  ⟨fun D hD => ⟨(h.1 D hD).1, Nat.lt_of_lt_of_le (h.1 D hD).2.1 hB, (hb.block D (Array.getElem?_eq_some_iff.1 (h.1 D hD).2.2).1).trans (h.1 D hD).2.2⟩, bthen h.2 hb⟩
set_option maxRecDepth 100000 in
set_option maxHeartbeats 8000000 in
theorem none_all (zs : List Nat) (a : Option Addr) (c : Nat) (w : World) : Calls Try.prog 4 #[.slice a zs.length c] w fun e w' => e = .returned (.bool true) ∧ Below w.heap.size w w' := by
  obtain ⟨L, hL⟩ : ∃ L, zs.length = L := ⟨_, rfl⟩
  rw [hL]
  clear hL
  refine (callsIn_wide (n := 6)).1 ?_
  refine callsIn_of_wp_marks Try.func4 rfl trivial ?_ rfl
  simp only [Try.ntmps4, List.size_toArray, List.length_cons, List.length_nil, Nat.reduceAdd, Nat.reduceSub, Array.replicate_succ, Array.replicate_zero, List.push_toArray, List.append_toArray, List.nil_append, List.cons_append]
  refine wpIn_wide.2 ?_
  by_cases hbig : 40 < L
  · have hb : (40 : Int) < ((L : Nat) : Int) := by omega
    go_wp2_with fail
    have hb0 : Below w.heap.size w (w.alloc (.cells #[.bool false] 4)) := (Below.refl _ w).alloc (Nat.le_refl _) _
    refine (known_any _).mono ?_
    rintro e wK ⟨rfl, hbk⟩
    have hR := keptW hbk (show rowN (w.alloc (.cells #[.bool false] 4)) w.heap.size = some #[.bool false] by rw [rowN_alloc, if_pos rfl])
    have cR := (rowN_cell hR).1 0
    have fR := (rowN_cell hR).2 0
    have HB := Lib.hid ((bthen hb0 hbk).setCell (p := ⟨w.heap.size, 0, none⟩) (Nat.le_refl _) (.bool true))
    have HR := Lib.hid (row_set0 (x := .bool true) hR)
    clear hbk hb0 hR
    go_wp2_with fail
    exact ⟨_, results_bool _ _ rfl rfl HR.out, rfl, HB.out⟩
  · have hb : ¬ (40 : Int) < ((L : Nat) : Int) := by omega
    have hnf : ∀ (g : Nat) (W : World), (binOp BinOp.eql 43 (.func (.func 27) #[] #[.pointer (some ⟨g, 0, none⟩)]) .nilFunc).run Try.prog W = .ok (.bool false) W := fun g W => by kernel_rfl
    obtain ⟨Z, hZ⟩ : ∃ Z, cphA (zr 512) (zr 44) = Z := ⟨_, rfl⟩
    obtain ⟨V, hV⟩ : ∃ V, ((w.alloc (.cells #[.bool false] 4)).alloc (.cells Z 40)).alloc (.cells #[.pointer none, .pointer (some ⟨w.heap.size + 1, 0, none⟩)] 24) = V := ⟨_, rfl⟩
    have hbV : Below w.heap.size w V := by rw [← hV]; exact (((Below.refl _ w).alloc (Nat.le_refl _) _).alloc (by simp) _).alloc (by simp; omega) _
    have hr0 : rowN V w.heap.size = some #[.bool false] := by rw [← hV]; simp only [rowN_alloc, World.size_alloc, if_true]; rw [if_neg (by omega), if_neg (by omega)]
    have hrz : rowN V (w.heap.size + 1) = some Z := by rw [← hV]; simp only [rowN_alloc, World.size_alloc, if_true]; rw [if_neg (by omega)]
    have hrl : rowN V (w.heap.size + 1 + 1) = some #[.pointer none, .pointer (some ⟨w.heap.size + 1, 0, none⟩)] := by rw [← hV]; simp only [rowN_alloc, World.size_alloc, if_true]
    have HRR := Lib.hid hr0
    have HRL := Lib.hid hrl
    have HBV := Lib.hid hbV
    have HP0 := Lib.hid (fun (W : World) (_ : Below V.heap.size V W) => isC_nil W)
    have HP1 := Lib.hid (fun (W : World) (h : Below V.heap.size V W) => isC_no (w.heap.size + 1) W (cphz_cell (keptW h (hrz.trans (by rw [hZ])))))
    go_wp2_with fail
    try rw [hZ]
    try rw [hV]
    clear hbV hr0 hrz hrl hV hZ
    refine wp_loop_rounds 4 ?_
    obtain ⟨X0, hX0⟩ : ∃ X, V = X := ⟨_, rfl⟩
    have HX0 := Lib.hid (show NnI V X0.heap.size [] 0 X0 by rw [← hX0]; exact ⟨fun D h => (by cases h), Below.refl _ _⟩)
    rw [hX0]
    clear hX0
    have hcl : X0.cell? ⟨w.heap.size + 1 + 1, 0, none⟩ = some (.pointer none) := (rowN_cell (keptW HX0.out.2 HRL.out)).1 0
    rw [rounds_succ]
    go_wp2_with fail
    refine (enc_stops _ _ 1 (.inl rfl) _ (begin_not _ _ _ (HP0.out _ HX0.out.2))).mono ?_
    rintro e y0 ⟨rfl, hb⟩
    have HY0 := Lib.hid (nn_kept HX0.out hb hb.size)
    clear hb hcl
    go_wp2_with fail
    refine (dec_stops _ _ 1 (.inl rfl) _ (begin_not _ _ _ (HP0.out _ HY0.out.2))).mono ?_
    rintro e z0 ⟨rfl, hb⟩
    have HZ0 := Lib.hid (nn_kept HY0.out hb hb.size)
    clear hb
    go_wp2_with fail
    refine (keys_any _ _).mono ?_
    rintro e u ⟨rfl, rfl⟩
    obtain ⟨U0, hU⟩ : ∃ U, z0.alloc (.cells #[.pointer none] 24) = U := ⟨_, rfl⟩
    have hbU : Below z0.heap.size z0 U0 := by rw [← hU]; exact (Below.refl _ _).alloc (Nat.le_refl _) _
    have hrU : rowN U0 z0.heap.size = some #[.pointer none] := by rw [← hU, rowN_alloc, if_pos rfl]
    have HU0 := Lib.hid (nn_kept HZ0.out hbU hbU.size)
    have HYL0 := Lib.hid (keys1_none (6 - 1) z0.heap.size (.pointer none) U0 hrU (fun W h => HP0.out W (bthen HU0.out.2 h)))
    have HLT0 := Lib.hid (rowN_lt hrU)
    rw [hU]
    clear hU hbU hrU
    go_wp2_with fail
    refine (wpIn_wide (n := 6)).1 ?_
    refine range_yields (by omega) (gf := 27) (lb := #[.pointer (some ⟨z0.heap.size, 0, none⟩)]) rfl (enters_of Try.func27 (by kernel_rfl) rfl) HYL0.out (fun _ => False) (fun j h => h.elim) (fun j h => by have := HLT0.out; omega) (Below.refl _ _)
      (NnI V U0.heap.size ([] : List Nat)) (fun _ _ _ => False) (nnI_own _ _ _ HU0.out.2.size) (fun _ _ _ _ _ hs _ _ => hs) HU0.out (fun _ _ _ => { tmps := #[], defers := [] }) (fun _ _ _ _ _ => True) (fun _ _ _ _ _ _ _ _ _ _ _ => trivial) ?as0 ?bo0 ?do0 ?st0
    case as0 =>
      intro l j u v W kf hj
      exact absurd hj (Nat.not_lt_zero _)
    case bo0 =>
      intro l j u v W0 W hj
      exact absurd hj (Nat.not_lt_zero _)
    case st0 =>
      rintro D j cc W hD hk hx hK
      exact hx.elim
    case do0 =>
      rintro D0 X1 hD hI hKD
      have HX1 := Lib.hid (show NnI V X1.heap.size ([D0] : List Nat) 0 X1 from ⟨fun D h => by
        have hl := (Array.getElem?_eq_some_iff.1 hKD).1
        rcases List.mem_cons.1 h with rfl | h
        · exact ⟨Nat.le_trans HU0.out.2.size hD, hl, hKD⟩
        · exact ⟨(hI.1 D h).1, by have := (hI.1 D h).2.1; omega, (hI.1 D h).2.2⟩, hI.2⟩)
      have HD0 := Lib.hid (show ∀ D ∈ ([] : List Nat), D < D0 from fun D h => by have := (hI.1 D h).2.1; omega)
      clear hI hKD hD HU0 HYL0 HLT0 HZ0 HY0 HX0
      go_wp2_with fail
      have hcl : X1.cell? ⟨w.heap.size + 1 + 1, 1, none⟩ = some (.pointer (some ⟨w.heap.size + 1, 0, none⟩)) := (rowN_cell (keptW HX1.out.2 HRL.out)).1 1
      rw [rounds_succ]
      go_wp2_with fail
      refine (enc_stops _ _ 1 (.inl rfl) _ (begin_not _ _ _ (HP1.out _ HX1.out.2))).mono ?_
      rintro e y1 ⟨rfl, hb⟩
      have HY1 := Lib.hid (nn_kept HX1.out hb hb.size)
      clear hb hcl
      go_wp2_with fail
      refine (dec_stops _ _ 1 (.inl rfl) _ (begin_not _ _ _ (HP1.out _ HY1.out.2))).mono ?_
      rintro e z1 ⟨rfl, hb⟩
      have HZ1 := Lib.hid (nn_kept HY1.out hb hb.size)
      clear hb
      go_wp2_with fail
      refine (keys_any _ _).mono ?_
      rintro e u ⟨rfl, rfl⟩
      obtain ⟨U1, hU⟩ : ∃ U, z1.alloc (.cells #[.pointer (some ⟨w.heap.size + 1, 0, none⟩)] 24) = U := ⟨_, rfl⟩
      have hbU : Below z1.heap.size z1 U1 := by rw [← hU]; exact (Below.refl _ _).alloc (Nat.le_refl _) _
      have hrU : rowN U1 z1.heap.size = some #[.pointer (some ⟨w.heap.size + 1, 0, none⟩)] := by rw [← hU, rowN_alloc, if_pos rfl]
      have HU1 := Lib.hid (nn_kept HZ1.out hbU hbU.size)
      have HYL1 := Lib.hid (keys1_none (6 - 1) z1.heap.size (.pointer (some ⟨w.heap.size + 1, 0, none⟩)) U1 hrU (fun W h => HP1.out W (bthen HU1.out.2 h)))
      have HLT1 := Lib.hid (rowN_lt hrU)
      rw [hU]
      clear hU hbU hrU
      go_wp2_with fail
      refine (wpIn_wide (n := 6)).1 ?_
      refine range_yields (by omega) (gf := 27) (lb := #[.pointer (some ⟨z1.heap.size, 0, none⟩)]) rfl (enters_of Try.func27 (by kernel_rfl) rfl) HYL1.out (fun _ => False) (fun j h => h.elim) (fun j h => by have := HLT1.out; omega) (Below.refl _ _)
        (NnI V U1.heap.size ([D0] : List Nat)) (fun _ _ _ => False) (nnI_own _ _ _ HU1.out.2.size) (fun _ _ _ _ _ hs _ _ => hs) HU1.out (fun _ _ _ => { tmps := #[], defers := [] }) (fun _ _ _ _ _ => True) (fun _ _ _ _ _ _ _ _ _ _ _ => trivial) ?as1 ?bo1 ?do1 ?st1
      case as1 =>
        intro l j u v W kf hj
        exact absurd hj (Nat.not_lt_zero _)
      case bo1 =>
        intro l j u v W0 W hj
        exact absurd hj (Nat.not_lt_zero _)
      case st1 =>
        rintro D j cc W hD hk hx hK
        exact hx.elim
      case do1 =>
        rintro D1 X2 hD hI hKD
        have HX2 := Lib.hid (show NnI V X2.heap.size ([D1, D0] : List Nat) 0 X2 from ⟨fun D h => by
          have hl := (Array.getElem?_eq_some_iff.1 hKD).1
          rcases List.mem_cons.1 h with rfl | h
          · exact ⟨Nat.le_trans HU1.out.2.size hD, hl, hKD⟩
          · exact ⟨(hI.1 D h).1, by have := (hI.1 D h).2.1; omega, (hI.1 D h).2.2⟩, hI.2⟩)
        have HD1 := Lib.hid (show ∀ D ∈ ([D0] : List Nat), D < D1 from fun D h => by have := (hI.1 D h).2.1; omega)
        clear hI hKD hD HU1 HYL1 HLT1 HZ1 HY1 HX1
        go_wp2_with fail
        rw [rounds_succ]
        go_wp2_with fail
        refine (known_any _).mono ?_
        rintro e wK ⟨rfl, hbk⟩
        have HF := Lib.hid (nn_kept HX2.out hbk hbk.size)
        have hR := keptW HF.out.2 HRR.out
        have cR := (rowN_cell hR).1 0
        have fR := (rowN_cell hR).2 0
        have HW := Lib.hid (rowN_lt HRR.out)
        have HSB := Lib.hid ((bthen HBV.out HF.out.2).setCell (p := ⟨w.heap.size, 0, none⟩) (Nat.le_refl _) (.bool true))
        have HR := Lib.hid (row_set0 (x := .bool true) hR)
        clear hbk hR
        go_wp2_with fail
        have d1 := HF.out.1 D1 (by simp)
        have d0 := HF.out.1 D0 (by simp)
        have hw := HW.out
        have hwV := HBV.out.size
        have n01 : D0 ≠ D1 := by have := HD1.out D0 (by simp); omega
        have k1 : (wK.setCell ⟨w.heap.size, 0, none⟩ (.bool true)).heap[D1]? = some (.deferred (some [])) := (Below.heap_setCell _ _ _ D1 (by show D1 ≠ w.heap.size; omega)).trans d1.2.2
        have k0 : (wK.setCell ⟨w.heap.size, 0, none⟩ (.bool true)).heap[D0]? = some (.deferred (some [])) := (Below.heap_setCell _ _ _ D0 (by show D0 ≠ w.heap.size; omega)).trans d0.2.2
        refine ⟨by simp, .inl ⟨_, _, rfl, run_takeDeferred k1, ?_⟩⟩
        refine ⟨by simp, .inl ⟨_, _, rfl, run_takeDeferred ((World.putObj_heap_other n01).trans k0), ?_⟩⟩
        refine ⟨_, results_bool w.heap.size true rfl rfl (by rw [rowN_putObj (by omega), rowN_putObj (by omega)]; exact HR.out), rfl, ?_⟩
        have h3 := HSB.out
        exact (h3.grown (grownBy_putObj' _ D1 _) h3.size (fun r e => by cases e; omega)).grown (grownBy_putObj' _ D0 _) (by have h4 := (bthen HBV.out HF.out.2).size; simp; exact h4) (fun r e => by cases e; omega)
end Go.Proofs.Ytfmmokcniechcaa
