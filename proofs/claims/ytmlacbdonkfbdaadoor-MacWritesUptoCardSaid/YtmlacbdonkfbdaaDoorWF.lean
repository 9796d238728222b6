/- package mac: New, Write, Sum. -/
import Derived.Deep.RegionHeld3
import Derived.Test.YtmlacbdonkfbdaaDoorWE
namespace Go.Proofs.YtmlacbdonkfbdaaDoor
open Go.RowKit Go.Shelf

attribute [local go_sem] Oper.semAt_some
/-! ### a Mac, built -/
def macNew (x : Value) : Sem Next := do pure (.value (← Instr.build 56 #[(0, x)]))
@[go_sem ↓] theorem execOp_build56 (ρ : Operand → Value) (dst : Option Tmp) (x : Operand) (ty : TypeId) (pos : String) (after : Array Edge) (guard : Option (Nat × Bool)) :
    execOp ρ { dst, op := .build 56 #[(0, x)], type := ty, pos, after, guard } = macNew (ρ x) := by simp [execOp, macNew]
theorem built56 (parts : List (Nat × Value)) : Tryd.prog.built 56 parts = Instr.fill (fun i => [(0, 128), (128, 73)].toArray[i]?) (List.replicate 128 (Value.int .u8 ((0 : Nat) : Int)) ++ (hashA zero8 z64 0).toList).toArray parts := by kernel_rfl
theorem run_macNew (P : Pre) (W : World) : (macNew (.agg P.a)).run Tryd.prog W = .ok (.value (.agg (hashB P zero8 z64 0))) W := by
  have hz : (hashA zero8 z64 0).size = 73 := hashA_size rfl z64_len 0
  have h : Tryd.prog.built 56 [(0, .agg P.a)] = some (hashB P zero8 z64 0) := by
    rw [built56, fill_step (off := 0) (size := 128) rfl (by show P.a.size = 128; exact P.sz) (by simp)]
    show some _ = some _
    refine congrArg some ?_
    rw [hashB_eq]
    apply Array.ext'
    show (List.take 0 _ ++ P.a.toList ++ List.drop (0 + 128) (List.replicate 128 (Value.int .u8 ((0 : Nat) : Int)) ++ (hashA zero8 z64 0).toList)) = _
    rw [Array.toList_append, List.take_zero, List.nil_append, Nat.zero_add, List.drop_append_of_le_length (by rw [List.length_replicate]; omega), List.drop_eq_nil_of_le (by rw [List.length_replicate]; omega), List.nil_append]
  have hr := run_build (P := Tryd.prog) W 56 #[(0, .agg P.a)] _ h
  simp only [macNew, Sem.run_bind, hr, Result.andThen_ok, Sem.run_pure]

set_option maxRecDepth 100000 in
theorem new_big (key : List Nat) (s : Value) (hl : 4096 < key.length) (w : World) (hB : BytesAt key s w) : Calls Tryd.prog 15 #[s] w fun e w' => e = .returned (.tuple #[.pointer none, .int .i64 2]) ∧ Below w.heap.size w w' := by
  obtain ⟨_, a, c, rfl, _, _⟩ := hB
  obtain ⟨L, hL⟩ : ∃ L, key.length = L := ⟨_, rfl⟩
  rw [hL] at hl ⊢
  have hi : (4096 : Int) < (L : Int) := by omega
  clear hL
  go_enter Tryd.func15, Tryd.ntmps15
  go_wp2_with fail
  go_ret2
  exact ⟨rfl, Below.refl _ _⟩
set_option maxRecDepth 100000 in
set_option maxHeartbeats 1000000 in
theorem new_any (key : List Nat) (s : Value) (hl : key.length ≤ 4096) (w : World) (hK : KG w) (hB : BytesAt key s w) (hnil : Nil0 s) :
    Calls Tryd.prog 15 #[s] w fun e w' => ∃ g, e = .returned (.tuple #[.pointer (some ⟨g, 0, none⟩), .int .i64 0]) ∧ w.heap.size ≤ g ∧ MacAt key [] g w' ∧ Below w.heap.size w w' := by
  have h256 := hB.1
  have HBO := Lib.hid (blocksOf_any key s (by omega) w hK hB hnil)
  have hbl := fun W => run_macNew (kpre key) W
  rw [show (kpre key).a = kbA (blkL 92 key) (blkL 54 key) from rfl] at hbl
  have HBG := Lib.hid (fun (g : Nat) (W : World) (h1 : HashIn (kpre key) [] g W) (h2 : KG W) (h3 : g ≠ 1) => begin_any key g h256 W h1 h2 h3)
  have HZ := Lib.hid (fun (g : Nat) (W : World) (h : rowN W g = some (hashB (kpre key) zero8 z64 0)) => show HashIn (kpre key) [] g W from ⟨zero8, z64, HI.zero, h⟩)
  have HK := Lib.hid hK
  obtain ⟨_, a, c, rfl, _, _⟩ := hB
  obtain ⟨L, hL⟩ : ∃ L, key.length = L := ⟨_, rfl⟩
  rw [hL] at hl HBO ⊢
  have hi : ¬ (4096 : Int) < (L : Int) := by omega
  obtain ⟨A, hA⟩ : ∃ A, hashB (kpre key) zero8 z64 0 = A := ⟨_, rfl⟩
  rw [hA] at hbl HZ
  clear hA hL hK hnil h256
  go_enter Tryd.func15, Tryd.ntmps15
  go_wp2_with fail
  refine HBO.out.mono ?_
  rintro e w1 ⟨rfl, hb1⟩
  have HB1 := Lib.hid hb1
  clear hb1 HBO
  go_upto_region 4 with fail
  obtain ⟨V, hV⟩ : ∃ V, w1.alloc (.cells A 56) = V := ⟨_, rfl⟩
  have hbV : Below w1.heap.size w1 V := by rw [← hV]; exact (Below.refl _ _).alloc (Nat.le_refl _) _
  have hrV : rowN V w1.heap.size = some A := by rw [← hV, rowN_alloc, if_pos rfl]
  try rw [hV]
  have HBV := Lib.hid (show Below w.heap.size w V.drew from (HB1.out.trans (hbV.mono HB1.out.size)).drew)
  have HRV := Lib.hid (show rowN V.drew w1.heap.size = some A from hrV)
  have hs1 := HB1.out.size
  have hk1 := HK.out.1
  clear hV hbV hrV
  refine wp_region_still_tail 6 (by kernel_rfl) (by kernel_rfl) ?_
  simp only [List.take_succ_cons, List.take_zero, List.drop_succ_cons, List.drop_zero]
  repeat still_step
  refine wpStill_nil ?_
  change wpList _ _ _ _ _ V.drew
  generalize V.drew = V1 at *
  go_wp2_with fail
  refine (HBG.out _ _ (HZ.out _ _ HRV.out) (HK.out.kept HBV.out) (by omega)).mono ?_
  rintro e w2 ⟨rfl, hm, hg⟩
  have HM := Lib.hid hm
  have HB2 := Lib.hid (HBV.out.grown hg HBV.out.size (fun r e => by cases e; exact hs1))
  clear hm hg
  go_wp2_with fail
  go_ret2
  exact ⟨_, rfl, hs1, HM.out, HB2.out⟩

set_option maxRecDepth 100000 in
theorem mwrite_no (p s : Value) (w : World) (h : Calls Tryd.prog 25 #[p] w fun e w' => e = .returned (.bool false) ∧ Below w.heap.size w w') : Calls Tryd.prog 17 #[p, s] w fun e w' => e = .returned (.int .i64 1) ∧ Below w.heap.size w w' := by
  have H := Lib.hid h
  clear h
  go_enter Tryd.func17, Tryd.ntmps17
  go_wp2_with fail
  refine H.out.mono ?_
  rintro e w2 ⟨rfl, hb⟩
  have HB := Lib.hid hb
  clear hb H
  go_wp2_with fail
  go_ret
  exact ⟨rfl, HB.out⟩
set_option maxRecDepth 100000 in
theorem mwrite_at (key zs bs : List Nat) (g : Nat) (s : Value) (h256 : ∀ x ∈ key, x < 256) (w : World) (hH : MacAt key zs g w) (hL : zs.length + bs.length ≤ 140737488355264) (hK : KG w) (hg1 : g ≠ 1) (hB : BytesAt bs s w) (hap : ∀ j, 0 < bs.length → InS s j → j ≠ g) :
    Calls Tryd.prog 17 #[.pointer (some ⟨g, 0, none⟩), s] w fun e w' => e = .returned (.int .i64 0) ∧ MacAt key (zs ++ bs) g w' ∧ w.grownBy w' (some g) := by
  have HP := Lib.hid (inProgress_of g true w (haveKey_yes key zs g h256 w hH))
  have HW := Lib.hid (fun (W : World) (hb : Below w.heap.size w W) => write_in (kpre key) g (blkL 54 key ++ zs) bs s W (HashIn.kept hH hb) (by rw [List.length_append, blkL_len]; omega) (hK.kept hb) hg1 (hB.kept hb) (fun j hj => hap j (by rw [List.length_append, blkL_len] at hj; omega)))
  clear hH hK hB hap
  go_enter Tryd.func17, Tryd.ntmps17
  go_wp2_with fail
  refine HP.out.mono ?_
  rintro e w2 ⟨rfl, hb⟩
  have HB := Lib.hid hb
  clear hb HP
  go_wp2_with fail
  refine (HW.out _ HB.out).mono ?_
  rintro e w3 ⟨rfl, hh, hg⟩
  have HH := Lib.hid (show MacAt key (zs ++ bs) g w3 by unfold MacAt; rw [← List.append_assoc]; exact hh)
  have HG := Lib.hid (grownBy_trans (gb_of_below HB.out (some g)) hg)
  clear hh hg HW
  go_wp2_with fail
  go_ret
  exact ⟨rfl, HH.out, HG.out⟩

/-! ### Sum -/
theorem run_build27 (W : World) : (Instr.build 27 #[]).run Tryd.prog W = .ok (.agg (arr .u8 z32)) W := by rw [← z32_lit]; kernel_rfl
def arBuild27 : Sem Next := do pure (.value (← Instr.build 27 #[]))
@[go_sem ↓] theorem execOp_build27 (ρ : Operand → Value) (dst : Option Tmp) (ty : TypeId) (pos : String) (after : Array Edge) (guard : Option (Nat × Bool)) :
    execOp ρ { dst, op := .build 27 #[], type := ty, pos, after, guard } = arBuild27 := by simp [execOp, arBuild27]
@[go_sem] theorem run_arBuild27 (W : World) : arBuild27.run Tryd.prog W = .ok (.value (.agg (arr .u8 z32))) W := by
  simp only [arBuild27, Sem.run_bind, run_build27, Result.andThen_ok, Sem.run_pure]
theorem ret_arr2 {fn : Func} {p q : Tmp} {v : Value} {R : Ending → World → Prop} {a : Act} {w : World} (g : Nat) (cs : Array Value) (h : fn.results = #[.cell p 27, .tmp q])
    (hp : a.tmps.getD p undef = .pointer (some ⟨g, 0, none⟩)) (hq : a.tmps.getD q undef = v) (hd : a.defers = []) (hr : rowN w g = some cs) (hs : cs.size = 32) (hR : R (.returned (.tuple #[.agg cs, v])) w) : bodyPost Tryd.prog fn R .ret a w := by
  refine bodyPost_ret (v := .tuple #[.agg cs, v]) ?_ hd hR
  have hp' : a.tmps[p]?.getD undef = .pointer (some ⟨g, 0, none⟩) := by simpa using hp
  have hq' : a.tmps[q]?.getD undef = v := by simpa using hq
  have hl' : (loadVar 27 ⟨g, 0, none⟩).run Tryd.prog w = .ok (.agg cs) w := by rw [run_loadVar24, hr, rowLoad_some _ _ _ _ _ hs]
  simp [results, h, hp', hq', asAddr, hl']
set_option maxRecDepth 100000 in
theorem msum_no (p : Value) (w : World) (h : ∀ W, Below w.heap.size w W → Calls Tryd.prog 25 #[p] W fun e w' => e = .returned (.bool false) ∧ Below W.heap.size W w') : Calls Tryd.prog 18 #[p] w fun e w' => e = .returned (.tuple #[.agg (arr .u8 z32), .int .i64 1]) ∧ Below w.heap.size w w' := by
  have H := Lib.hid h
  have hz32 := z32_lit
  have hzl : z32.length = 32 := rfl
  have sz4 : (arr .u8 z32).size = 32 := by rw [arr_size]; rfl
  have HA := Lib.hid ((Below.refl w.heap.size w).alloc (Nat.le_refl _) (.cells (arr .u8 z32) 27))
  have HR0 := Lib.hid (show rowN (w.alloc (.cells (arr .u8 z32) 27)) w.heap.size = some (arr .u8 z32) by rw [rowN_alloc, if_pos rfl])
  clear h
  go_enter Tryd.func18, Tryd.ntmps18
  go_wp2_with fail
  refine (H.out _ HA.out).mono ?_
  rintro e w2 ⟨rfl, hb⟩
  have hr2 := keptW hb HR0.out
  have HB := Lib.hid (HA.out.trans (hb.mono HA.out.size))
  clear hb H
  go_wp2_with fail
  exact ret_arr2 _ _ rfl rfl rfl rfl (row_new hr2) sz4 ⟨rfl, below_setRow' HB.out (Nat.le_refl _) _⟩
set_option maxRecDepth 100000 in
set_option maxHeartbeats 1000000 in
theorem msum_at (key zs : List Nat) (g : Nat) (h256 : ∀ x ∈ key, x < 256) (w : World) (hH : MacAt key zs g w) (hL : zs.length ≤ 140737488355264) (hK : KG w) :
    Calls Tryd.prog 18 #[.pointer (some ⟨g, 0, none⟩)] w fun e w' => e = .returned (.tuple #[.agg (arr .u8 (macL key zs)), .int .i64 0]) ∧ Below w.heap.size w w' := by
  have hz32 := z32_lit
  have sz4 : (arr .u8 z32).size = 32 := by rw [arr_size]; rfl
  have HA := Lib.hid ((Below.refl w.heap.size w).alloc (Nat.le_refl _) (.cells (arr .u8 z32) 27))
  have HR0 := Lib.hid (show rowN (w.alloc (.cells (arr .u8 z32) 27)) w.heap.size = some (arr .u8 z32) by rw [rowN_alloc, if_pos rfl])
  have HP := Lib.hid (fun W (hb : Below w.heap.size w W) => inProgress_of g true W (haveKey_yes key zs g h256 W (HashIn.kept hH hb)))
  have HSUM := Lib.hid (fun W (hb : Below w.heap.size w W) => hsum_at_in (kpre key) g (blkL 54 key ++ zs) W (HashIn.kept hH hb) (by rw [List.length_append, blkL_len]; omega) (hK.kept hb))
  have HFIN := Lib.hid (fun W (hb : Below w.heap.size w W) => show Calls Tryd.prog 28 #[.pointer (some ⟨g, 0, none⟩), .agg (arr .u8 (shaL (blkL 54 key ++ zs)))] W (fun e w' => e = .returned (.agg (arr .u8 (macL key zs))) ∧ Below W.heap.size W w') from
    finish_mac key (blkL 54 key ++ zs) (shaL (blkL 54 key ++ zs)) (shaL_len _) (shaL_256 _) g h256 W (HashIn.kept hH hb) (hK.kept hb))
  have hO32 : (macL key zs).length = 32 := shaL_len _
  obtain ⟨O, hO⟩ : ∃ O, macL key zs = O := ⟨_, rfl⟩
  obtain ⟨I, hI⟩ : ∃ I, shaL (blkL 54 key ++ zs) = I := ⟨_, rfl⟩
  rw [hO] at HFIN hO32 ⊢
  rw [hI] at HFIN HSUM
  have sz2 : (arr .u8 O).size = 32 := by rw [arr_size, hO32]
  clear hH hK hO hI
  go_enter Tryd.func18, Tryd.ntmps18
  go_wp2_with fail
  refine (HP.out _ HA.out).mono ?_
  rintro e w2 ⟨rfl, hb⟩
  have HL_0 := Lib.hid (show Below w.heap.size w w2.drew from (HA.out.trans (hb.mono HA.out.size)).drew)
  have Hr_0 := Lib.hid (show rowN w2.drew w.heap.size = some (arr .u8 z32) from keptW hb HR0.out)
  clear hb HP HA HR0
  go_upto_region 3 with fail
  refine wp_region_noPanic ?_
  refine wp_region_held_drew (S := fun W => True) (by kernel_rfl) trivial (fun hHeld0 => ?_)
  obtain ⟨x0, hx0⟩ : ∃ X, w2.drew = X := ⟨_, rfl⟩
  rw [hx0] at Hr_0 HL_0 ⊢
  clear hx0
  refine wpAnyH_take (i := 0) (oi := { dst := some 8, op := Op.move (Operand.tmp 0), type := 38, pos := "mac.go:102", after := #[], guard := none }) (v := ?tk0) rfl (by kernel_rfl) (by kernel_rfl) (by kernel_rfl) (fun _ _ _ h => h) (Or.inl ⟨by rfl, ?tw0⟩) hHeld0 ?_
  case tw0 => (intro W hW; clear hW; first | (go_simp; done) | (go_simp; with_reducible rfl))
  try simp only [Act.put, List.setIfInBounds_toArray, List.set_cons_zero, List.set_cons_succ]
  refine wpAnyH_take (i := 1) (oi := { dst := some 9, op := Op.nilCheck (Operand.tmp 8), type := 0, pos := "mac.go:102", after := #[{ on := 0, ground := Ground.data }], guard := none }) (v := ?tk1) rfl (by kernel_rfl) (by kernel_rfl) (by kernel_rfl) (fun _ _ _ h => h) (Or.inl ⟨by rfl, ?tw1⟩) hHeld0 ?_
  case tw1 => (intro W hW; clear hW; first | (go_simp; done) | (go_simp; with_reducible rfl))
  try simp only [Act.put, List.setIfInBounds_toArray, List.set_cons_zero, List.set_cons_succ]
  refine wpAnyH_take (i := 2) (oi := { dst := some 10, op := Op.fieldAddr 56 (Operand.tmp 9) 0, type := 0, pos := "mac.go:102", after := #[{ on := 1, ground := Ground.data }], guard := none }) (v := ?tk2) rfl (by kernel_rfl) (by kernel_rfl) (by kernel_rfl) (fun _ _ _ h => h) (Or.inl ⟨by rfl, ?tw2⟩) hHeld0 ?_
  case tw2 => (intro W hW; clear hW; first | (go_simp; done) | (go_simp; with_reducible rfl))
  try simp only [Act.put, List.setIfInBounds_toArray, List.set_cons_zero, List.set_cons_succ]
  refine wpAnyH_take (i := 3) (oi := { dst := some 11, op := Op.move (Operand.tmp 0), type := 38, pos := "mac.go:102", after := #[], guard := none }) (v := ?tk3) rfl (by kernel_rfl) (by kernel_rfl) (by kernel_rfl) (fun _ _ _ h => h) (Or.inl ⟨by rfl, ?tw3⟩) hHeld0 ?_
  case tw3 => (intro W hW; clear hW; first | (go_simp; done) | (go_simp; with_reducible rfl))
  try simp only [Act.put, List.setIfInBounds_toArray, List.set_cons_zero, List.set_cons_succ]
  refine wpAnyH_take (i := 4) (oi := { dst := some 12, op := Op.nilCheck (Operand.tmp 11), type := 0, pos := "mac.go:102", after := #[{ on := 3, ground := Ground.data }], guard := none }) (v := ?tk4) rfl (by kernel_rfl) (by kernel_rfl) (by kernel_rfl) (fun _ _ _ h => h) (Or.inl ⟨by rfl, ?tw4⟩) hHeld0 ?_
  case tw4 => (intro W hW; clear hW; first | (go_simp; done) | (go_simp; with_reducible rfl))
  try simp only [Act.put, List.setIfInBounds_toArray, List.set_cons_zero, List.set_cons_succ]
  refine wpAnyH_take (i := 5) (oi := { dst := some 13, op := Op.fieldAddr 56 (Operand.tmp 12) 1, type := 0, pos := "mac.go:102", after := #[{ on := 4, ground := Ground.data }], guard := none }) (v := ?tk5) rfl (by kernel_rfl) (by kernel_rfl) (by kernel_rfl) (fun _ _ _ h => h) (Or.inl ⟨by rfl, ?tw5⟩) hHeld0 ?_
  case tw5 => (intro W hW; clear hW; first | (go_simp; done) | (go_simp; with_reducible rfl))
  try simp only [Act.put, List.setIfInBounds_toArray, List.set_cons_zero, List.set_cons_succ]
  refine wpAnyH_ready (rs := [6]) (by kernel_rfl) (by simp) ?_
  refine AllReadyH.cons (o := { dst := some 14, op := Op.call { callee := Callee.value (Operand.func 29), args := #[Operand.tmp 13], argTypes := #[54] }, type := 27, pos := "mac.go:102", after := #[{ on := 5, ground := Ground.data }], guard := none }) rfl (fun K' hK => ?_) AllReadyH.nil
  go_simp
  refine ((HSUM.out _ HL_0.out)).mono ?_
  rintro e x1 ⟨rfl, hb⟩
  have Hr_1 := Lib.hid (keptW hb Hr_0.out)
  have HL_1 := Lib.hid (HL_0.out.trans (hb.mono HL_0.out.size))
  clear hb
  refine hK.out _ _ trivial (fun hHeld1 => ?_)
  clear hK K'
  try simp only [Act.put, List.setIfInBounds_toArray, List.set_cons_zero, List.set_cons_succ]
  refine wpAnyH_ready (rs := [7]) (by kernel_rfl) (by simp) ?_
  refine AllReadyH.cons (o := { dst := some 15, op := Op.call { callee := Callee.value (Operand.func 28), args := #[Operand.tmp 10, Operand.tmp 14], argTypes := #[49, 27] }, type := 27, pos := "mac.go:102", after := #[{ on := 2, ground := Ground.data }, { on := 6, ground := Ground.data }, { on := 6, ground := Ground.chain }], guard := none }) rfl (fun K' hK => ?_) AllReadyH.nil
  go_simp
  refine ((HFIN.out _ HL_1.out)).mono ?_
  rintro e x2 ⟨rfl, hb⟩
  have Hr_2 := Lib.hid (keptW hb Hr_1.out)
  have HL_2 := Lib.hid (HL_1.out.trans (hb.mono HL_1.out.size))
  clear hb
  refine hK.out _ _ trivial (fun hHeld2 => ?_)
  clear hK K'
  try simp only [Act.put, List.setIfInBounds_toArray, List.set_cons_zero, List.set_cons_succ]
  refine wpAnyH_ready (rs := [8]) (by kernel_rfl) (by simp) ?_
  refine AllReadyH.cons (o := { dst := none, op := Op.store 27 (Operand.tmp 2) (Operand.tmp 15), type := 0, pos := "mac.go:102", after := #[{ on := 7, ground := Ground.data }, { on := 7, ground := Ground.chain }, { on := 0, ground := Ground.phase }, { on := 1, ground := Ground.phase }, { on := 2, ground := Ground.phase }, { on := 3, ground := Ground.phase }, { on := 4, ground := Ground.phase }, { on := 5, ground := Ground.phase }, { on := 6, ground := Ground.phase }, { on := 7, ground := Ground.phase }], guard := none }) rfl (fun K' hK => ?_) AllReadyH.nil
  have hrow := Hr_2.out
  go_simp
  obtain ⟨x3, hx3⟩ : ∃ X, x2.setRow w.heap.size (arr .u8 O) = X := ⟨_, rfl⟩
  rw [hx3]
  have Hr_3 := Lib.hid (show rowN x3 w.heap.size = some (arr .u8 O) by rw [← hx3, rowN_setRow, if_pos rfl, hrow]; rfl)
  have hbl : Below w.heap.size w x3 := by rw [← hx3]; exact below_setRow' HL_2.out (by omega) _
  have HL_3 := Lib.hid hbl
  clear hrow hbl hx3
  refine hK.out _ _ trivial (fun hHeld3 => ?_)
  clear hK K'
  try simp only [Act.put, List.setIfInBounds_toArray, List.set_cons_zero, List.set_cons_succ]
  refine wpAnyH_take (i := 9) (oi := { dst := some 3, op := Op.assign (Operand.const (Value.int IntKind.i64 0)), type := 28, pos := "mac.go:102", after := #[{ on := 8, ground := Ground.chain }, { on := 0, ground := Ground.phase }, { on := 1, ground := Ground.phase }, { on := 2, ground := Ground.phase }, { on := 3, ground := Ground.phase }, { on := 4, ground := Ground.phase }, { on := 5, ground := Ground.phase }, { on := 6, ground := Ground.phase }, { on := 7, ground := Ground.phase }, { on := 8, ground := Ground.phase }], guard := none }) (v := ?tk6) rfl (by kernel_rfl) (by kernel_rfl) (by kernel_rfl) (fun _ _ _ h => h) (Or.inl ⟨by rfl, ?tw6⟩) hHeld3 ?_
  case tw6 => (intro W hW; clear hW; first | (go_simp; done) | (go_simp; with_reducible rfl))
  try simp only [Act.put, List.setIfInBounds_toArray, List.set_cons_zero, List.set_cons_succ]
  refine wpAnyH_done (by kernel_rfl) ?_ _
  refine NoPanic.normal ?_
  go_wp2_with fail
  exact ret_arr2 _ _ rfl rfl rfl rfl Hr_3.out sz2 ⟨rfl, HL_3.out⟩
end Go.Proofs.YtmlacbdonkfbdaaDoor
