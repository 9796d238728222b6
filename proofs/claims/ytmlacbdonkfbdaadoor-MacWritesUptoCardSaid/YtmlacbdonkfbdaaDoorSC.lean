/- rotations, the mixes of the schedule, plus, words. -/
import Derived.Test.YtmlacbdonkfbdaaDoorSB
namespace Go.Proofs.YtmlacbdonkfbdaaDoor
open Go.RowKit

/-! An array by value, read at an index. -/
def arIndex (t : TypeId) (x i : Value) : Sem Next := do pure (.value (← Instr.index t x i))
section
variable (ρ : Operand → Value) (dst : Option Tmp) (x y : Operand) (ty : TypeId) (pos : String) (after : Array Edge) (guard : Option (Nat × Bool)) (b1 b2 : Bool)
@[go_sem ↓] theorem execOp_index34 : execOp ρ { dst, op := .index 51 x y, type := ty, pos, after, guard } = arIndex 51 (ρ x) (ρ y) := rfl
@[go_sem ↓] theorem execOp_index35 : execOp ρ { dst, op := .index 52 x y, type := ty, pos, after, guard } = arIndex 52 (ρ x) (ρ y) := rfl
@[go_sem ↓] theorem execOp_index65 : execOp ρ { dst, op := .index 89 x y, type := ty, pos, after, guard } = arIndex 89 (ρ x) (ρ y) := rfl
end
theorem index34 (l : List Nat) (i : Nat) (hi : i < 8) (W : World) : (Instr.index 51 (.agg (arr .u32 l)) (.int .i64 (i : Nat))).run Tryd.prog W = (part 50 (arr .u32 l) i).run Tryd.prog W := by
  have h1 : (i : Int) < 8 := by omega
  simp only [Instr.index, Sem.run_bind, run_underlying Tryd.underlying51, Result.andThen_ok]
  simp [asIntOf, h1]
theorem index35 (l : List Nat) (i : Nat) (hi : i < 8) (W : World) : (Instr.index 52 (.agg (arr .u32 l)) (.int .i64 (i : Nat))).run Tryd.prog W = (part 50 (arr .u32 l) i).run Tryd.prog W := by
  have h1 : (i : Int) < 8 := by omega
  simp only [Instr.index, Sem.run_bind, run_underlying Tryd.underlying52, Result.andThen_ok]
  simp [asIntOf, h1]
theorem index65 (l : List Nat) (i : Nat) (hi : i < 64) (W : World) : (Instr.index 89 (.agg (arr .u32 l)) (.int .i64 (i : Nat))).run Tryd.prog W = (part 50 (arr .u32 l) i).run Tryd.prog W := by
  have h1 : (i : Int) < 64 := by omega
  simp only [Instr.index, Sem.run_bind, run_underlying Tryd.underlying89, Result.andThen_ok]
  simp [asIntOf, h1]
theorem plain33 : Tryd.prog.plainKey 50 = true := by kernel_rfl
@[go_sem] theorem run_arIndex34 (l : List Nat) (i : Nat) (W : World) (hl : l.length = 8) (hi : i < 8) : (arIndex 51 (.agg (arr .u32 l)) (.int .i64 (i : Nat))).run Tryd.prog W = .ok (.value (.int .u32 (l.getD i 0 : Nat))) W := by
  simp only [arIndex, Sem.run_bind, index34 l i hi, run_part_plain W plain33 (arr_get .u32 l i (by omega)), Result.andThen_ok, Sem.run_pure]
@[go_sem] theorem run_arIndex35 (l : List Nat) (i : Nat) (W : World) (hl : l.length = 8) (hi : i < 8) : (arIndex 52 (.agg (arr .u32 l)) (.int .i64 (i : Nat))).run Tryd.prog W = .ok (.value (.int .u32 (l.getD i 0 : Nat))) W := by
  simp only [arIndex, Sem.run_bind, index35 l i hi, run_part_plain W plain33 (arr_get .u32 l i (by omega)), Result.andThen_ok, Sem.run_pure]
@[go_sem] theorem run_arIndex65 (l : List Nat) (i : Nat) (W : World) (hl : l.length = 64) (hi : i < 64) : (arIndex 89 (.agg (arr .u32 l)) (.int .i64 (i : Nat))).run Tryd.prog W = .ok (.value (.int .u32 (l.getD i 0 : Nat))) W := by
  simp only [arIndex, Sem.run_bind, index65 l i hi, run_part_plain W plain33 (arr_get .u32 l i (by omega)), Result.andThen_ok, Sem.run_pure]

set_option maxRecDepth 100000 in
theorem rotations_any (a : Addr) (L c : Nat) (w : World) : Calls Tryd.prog 45 #[.slice (some a) L c] w fun e w' => e = .returned (.func (.func 51) #[] #[.pointer (some ⟨w.heap.size, 0, none⟩)]) ∧ w' = w.alloc (.cells #[.slice (some a) L c] 83) := by
  have hmf : ∀ (fn : Fn) (first cap : Array Value) (w : World), (Instr.makeFunc fn first cap).run Tryd.prog w = .ok (.func fn first cap) w := fun _ _ _ _ => rfl
  go_enter Tryd.func45, Tryd.ntmps45
  go_wp2
  go_ret
  exact ⟨rfl, rfl⟩

theorem xor_div {a b d : Nat} (m : Nat) (hd : d = m) (ha : a < 4294967296) (hb : b < 4294967296) : bits BinOp.xor IntKind.u32 ((a : Nat) : Int) (((b : Nat) : Int) / ((d : Nat) : Int)) = ((a ^^^ b / m : Nat) : Int) := by
  subst hd
  rw [← Int.natCast_ediv, bits_xor32 _ _ ha (Nat.lt_of_le_of_lt (Nat.div_le_self _ _) hb)]

set_option maxRecDepth 100000 in
theorem mix0_any (x : Nat) (hx : x < 4294967296) (g gf : Nat) (w : World) (h : Rots g [7, 18] w) (hf : rowN w gf = some #[.func (.func 51) #[] #[.pointer (some ⟨g, 0, none⟩)]]) :
    Calls Tryd.prog 53 #[.int .u32 (x : Nat), .pointer (some ⟨gf, 0, none⟩)] w fun e w' => e = .returned (.int .u32 ((xr x [7, 18] ^^^ x / 8 : Nat))) ∧ w = w' := by
  have c1 := (rowN_cell hf).1 0
  have HR := Lib.hid (fun W (hW : Rots g [7, 18] W) => rots_any x hx [7, 18] g W hW)
  have HH := Lib.hid h
  have HX := Lib.hid (xor_div (a := xr x [7, 18]) (b := x) (d := 8) 8 rfl (xr_lt x hx _) hx)
  clear hf h
  go_enter Tryd.func53, Tryd.ntmps53
  go_wp2_with fail
  refine (HR.out _ HH.out).mono ?_
  rintro e w1 ⟨rfl, rfl⟩
  go_wp2_with fail
  go_ret
  exact ⟨ret_eq (congrArg (Value.int .u32) HX.out), rfl⟩
set_option maxRecDepth 100000 in
theorem mix1_any (x : Nat) (hx : x < 4294967296) (g gf : Nat) (w : World) (h : Rots g [17, 19] w) (hf : rowN w gf = some #[.func (.func 51) #[] #[.pointer (some ⟨g, 0, none⟩)]]) :
    Calls Tryd.prog 54 #[.int .u32 (x : Nat), .pointer (some ⟨gf, 0, none⟩)] w fun e w' => e = .returned (.int .u32 ((xr x [17, 19] ^^^ x / 1024 : Nat))) ∧ w = w' := by
  have c1 := (rowN_cell hf).1 0
  have HR := Lib.hid (fun W (hW : Rots g [17, 19] W) => rots_any x hx [17, 19] g W hW)
  have HH := Lib.hid h
  have HX := Lib.hid (xor_div (a := xr x [17, 19]) (b := x) (d := 1024) 1024 rfl (xr_lt x hx _) hx)
  clear hf h
  go_enter Tryd.func54, Tryd.ntmps54
  go_wp2_with fail
  refine (HR.out _ HH.out).mono ?_
  rintro e w1 ⟨rfl, rfl⟩
  go_wp2_with fail
  go_ret
  exact ⟨ret_eq (congrArg (Value.int .u32) HX.out), rfl⟩

/-! ### plus -/
/-- Every word is less than 2^32. -/
def W32 (l : List Nat) : Prop := ∀ x ∈ l, x < 4294967296
theorem W32.get {l : List Nat} (h : W32 l) (i : Nat) : l.getD i 0 < 4294967296 := by
  by_cases hi : i < l.length
  · rw [List.getD, List.getElem?_eq_getElem hi]; exact h _ (List.getElem_mem _)
  · rw [List.getD, List.getElem?_eq_none (by omega)]; exact (by decide : (0 : Nat) < 4294967296)
theorem plusL_len {s t : List Nat} (hs : s.length = 8) (ht : t.length = 8) : (plusL s t).length = 8 := by unfold plusL; rw [List.length_zipWith]; omega
theorem plusL_w32 (s t : List Nat) : W32 (plusL s t) := by
  intro x hx
  unfold plusL at hx
  obtain ⟨i, hi, rfl⟩ := List.mem_iff_getElem.1 hx
  rw [List.getElem_zipWith]
  exact Nat.mod_lt _ (by omega)
theorem plusL_get {s t : List Nat} (i : Nat) (h1 : i < s.length) (h2 : i < t.length) : (plusL s t).getD i 0 = (s.getD i 0 + t.getD i 0) % 4294967296 := by
  unfold plusL
  simp [List.getD, List.getElem?_zipWith, h1, h2]
/-- The first k words are sums. -/
def plS (s t : List Nat) (k : Nat) : List Nat := (plusL s t).take k ++ s.drop k
theorem plS_len {s t : List Nat} (hs : s.length = 8) (ht : t.length = 8) {k : Nat} (hk : k ≤ 8) : (plS s t k).length = 8 := by
  unfold plS; rw [List.length_append, List.length_take, List.length_drop, plusL_len hs ht]; omega
theorem plS_get {s t : List Nat} (hs : s.length = 8) (ht : t.length = 8) {k : Nat} (hk : k < 8) : (plS s t k).getD k 0 = s.getD k 0 := by
  unfold plS
  have hl : ((plusL s t).take k).length = k := by rw [List.length_take, plusL_len hs ht]; omega
  rw [List.getD, List.getElem?_append_right (by omega), hl, Nat.sub_self, List.getElem?_drop]; rfl
theorem plS_set {s t : List Nat} (hs : s.length = 8) (ht : t.length = 8) {k : Nat} (hk : k < 8) : (plS s t k).set k ((s.getD k 0 + t.getD k 0) % 4294967296) = plS s t (k + 1) := by
  have hl := plusL_len hs ht
  refine List.ext_getElem? fun i => ?_
  have hlt : ((plusL s t).take k).length = k := by rw [List.length_take, hl]; omega
  have hlt2 : ((plusL s t).take (k + 1)).length = k + 1 := by rw [List.length_take, hl]; omega
  rw [List.getElem?_set, plS_len hs ht (by omega)]
  unfold plS
  by_cases e : k = i
  · subst e
    rw [if_pos rfl, if_pos hk, List.getElem?_append_left (by omega), List.getElem?_take, if_pos (by omega)]
    rw [← plusL_get k (by omega) (by omega), List.getD, List.getElem?_eq_getElem (by omega)]; rfl
  · rw [if_neg e]
    by_cases hlt3 : i < k
    · rw [List.getElem?_append_left (by omega), List.getElem?_append_left (by omega), List.getElem?_take, List.getElem?_take, if_pos hlt3, if_pos (by omega)]
    · rw [List.getElem?_append_right (by omega), List.getElem?_append_right (by omega), hlt, hlt2, List.getElem?_drop, List.getElem?_drop]
      congr 1; omega
theorem plS_zero (s t : List Nat) : plS s t 0 = s := by unfold plS; simp
theorem plS_all {s t : List Nat} (hs : s.length = 8) (ht : t.length = 8) : plS s t 8 = plusL s t := by
  unfold plS
  rw [List.take_of_length_le (by rw [plusL_len hs ht]; omega), List.drop_eq_nil_of_le (by omega), List.append_nil]

/-! Eight words, built. -/
def arBuild (x0 x1 x2 x3 x4 x5 x6 x7 : Value) : Sem Next := do pure (.value (← Instr.build 51 #[(0, x0), (1, x1), (2, x2), (3, x3), (4, x4), (5, x5), (6, x6), (7, x7)]))
@[go_sem ↓] theorem execOp_build34 (ρ : Operand → Value) (dst : Option Tmp) (x0 x1 x2 x3 x4 x5 x6 x7 : Operand) (ty : TypeId) (pos : String) (after : Array Edge) (guard : Option (Nat × Bool)) :
    execOp ρ { dst, op := .build 51 #[(0, x0), (1, x1), (2, x2), (3, x3), (4, x4), (5, x5), (6, x6), (7, x7)], type := ty, pos, after, guard } = arBuild (ρ x0) (ρ x1) (ρ x2) (ρ x3) (ρ x4) (ρ x5) (ρ x6) (ρ x7) := by simp [execOp, arBuild]
theorem run_build34 (a b c d e f g h : Int) (W : World) : (Instr.build 51 #[(0, .int .u32 a), (1, .int .u32 b), (2, .int .u32 c), (3, .int .u32 d), (4, .int .u32 e), (5, .int .u32 f), (6, .int .u32 g), (7, .int .u32 h)]).run Tryd.prog W =
    .ok (.agg #[.int .u32 a, .int .u32 b, .int .u32 c, .int .u32 d, .int .u32 e, .int .u32 f, .int .u32 g, .int .u32 h]) W := by kernel_rfl
@[go_sem] theorem run_arBuild (a b c d e f g h : Nat) (W : World) : (arBuild (.int .u32 (a : Nat)) (.int .u32 (b : Nat)) (.int .u32 (c : Nat)) (.int .u32 (d : Nat)) (.int .u32 (e : Nat)) (.int .u32 (f : Nat)) (.int .u32 (g : Nat)) (.int .u32 (h : Nat))).run Tryd.prog W = .ok (.value (.agg (arr .u32 [a, b, c, d, e, f, g, h]))) W := by
  simp only [arBuild, Sem.run_bind, run_build34, Result.andThen_ok, Sem.run_pure, arr_lit]
  rfl
theorem run_arBuild_iv (W : World) : (arBuild (.int .u32 1779033703) (.int .u32 3144134277) (.int .u32 1013904242) (.int .u32 2773480762) (.int .u32 1359893119) (.int .u32 2600822924) (.int .u32 528734635) (.int .u32 1541459225)).run Tryd.prog W = .ok (.value (.agg (arr .u32 iv))) W := by
  simp only [arBuild, Sem.run_bind, run_build34, Result.andThen_ok, Sem.run_pure, arr_lit]
  rfl
attribute [go_sem] run_arBuild_iv

theorem zero8_lit : #[Value.int .u32 0, Value.int .u32 0, Value.int .u32 0, Value.int .u32 0, Value.int .u32 0, Value.int .u32 0, Value.int .u32 0, Value.int .u32 0] = arr .u32 zero8 := by rw [arr_lit]; rfl

def PlRel (s t : List Nat) (g : Nat) (w : World) (i : Value) (wr : World) : Prop :=
  ∃ k : Nat, k ≤ 8 ∧ i = .int .i64 (k : Nat) ∧ rowN wr g = some (arr .u32 (plS s t k)) ∧ rowN wr (g + 1 + 1) = some (arr .u32 zero8) ∧ Below w.heap.size w wr
set_option maxRecDepth 100000 in
theorem plus_any (s t : List Nat) (hs : s.length = 8) (ht : t.length = 8) (hw1 : W32 s) (hw2 : W32 t) (w : World) :
    Calls Tryd.prog 48 #[.agg (arr .u32 s), .agg (arr .u32 t)] w fun e w' => e = .returned (.agg (arr .u32 (plusL s t))) ∧ Below w.heap.size w w' := by
  have HS := Lib.hid hs
  have HT := Lib.hid ht
  have ht8 := ht
  have HW1 := Lib.hid hw1
  have HW2 := Lib.hid hw2
  have hz := zero8_lit
  have hzl : zero8.length = 8 := rfl
  have sz1 : (arr .u32 t).size = 8 := by rw [arr_size, ht]
  clear hs ht hw1 hw2
  go_enter Tryd.func48, Tryd.ntmps48
  go_wp2_with fail
  go_loopw [8] (fun i wr => PlRel s t w.heap.size w i wr) (fun i _ => 8 - (intOf i).toNat)
  case atStart =>
    refine ⟨0, by omega, rfl, ?_, ?_, (((Below.refl _ w).alloc (Nat.le_refl _) _).alloc (by simp) _).alloc (by simp <;> omega) _⟩
    · rw [plS_zero]; simp only [rowN_alloc, World.size_alloc, if_true]; (repeat rw [if_neg (by omega)])
    · rw [← zero8_lit]; simp only [rowN_alloc, World.size_alloc, if_true]
  case round =>
    obtain ⟨k, hk, rfl, hrow, hr2, hB⟩ := hrel
    have HB := Lib.hid hB
    have HR2 := Lib.hid hr2
    by_cases hlt : k < 8
    · have hc := cell_arr hrow (show k < (plS s t k).length by rw [plS_len HS.out HT.out hk]; exact hlt)
      rw [plS_get HS.out HT.out hlt] at hc
      have hf := (rowN_cell hrow).2 k
      have b1 := HW1.out.get k
      have b2 := HW2.out.get k
      have HSET := Lib.hid (plS_set HS.out HT.out hlt)
      have HR := Lib.hid hrow
      obtain ⟨x, hx⟩ : ∃ x, s.getD k 0 = x := ⟨_, rfl⟩
      obtain ⟨y, hy⟩ : ∃ y, t.getD k 0 = y := ⟨_, rfl⟩
      have HY := Lib.hid (show ∀ W : World, (arIndex 51 (.agg (arr .u32 t)) (.int .i64 (k : Nat))).run Tryd.prog W = .ok (.value (.int .u32 (y : Nat))) W from fun W => by rw [← hy]; exact run_arIndex34 t k W ht8 hlt)
      rw [hx] at hc b1 HSET
      rw [hy] at b2 HSET
      clear hx hy hB hr2 hrow
      have hY := HY.out
      go_wp2_with fail
      have e : (((x : Nat) : Int) + ((y : Nat) : Int)) % 4294967296 = (((x + y) % 4294967296 : Nat) : Int) := by omega
      refine ⟨⟨k + 1, by omega, by go_num, ?_, row_cell0 HR2.out (by omega), HB.out.setCell (p := ⟨w.heap.size, k, none⟩) (Nat.le_refl _) _⟩, by simp [intOf]; omega⟩
      rw [e]
      have h := row_arr (i := k) (x := (x + y) % 4294967296) HR.out
      rw [HSET.out] at h
      exact h
    · obtain rfl : k = 8 := by omega
      rw [plS_all HS.out HT.out] at hrow
      have hl8 := plusL_len HS.out HT.out
      have sz2 : (arr .u32 (plusL s t)).size = 8 := by rw [arr_size, hl8]
      have sz3 : (arr .u32 zero8).size = 8 := by rw [arr_size]; rfl
      clear hB
      go_wp2_with fail
      exact ret_arr _ _ run_loadVar35 rfl rfl rfl (row_new HR2.out) sz2 ⟨rfl, below_setRow' HB.out (by omega) _⟩

theorem iv_len : iv.length = 8 := rfl
theorem iv_w32 : W32 iv := by
  have h : iv.all (fun x => decide (x < 4294967296)) = true := by decide +kernel
  intro x hx
  simpa using List.all_eq_true.1 h x hx
set_option maxRecDepth 100000 in
theorem words_any (s : List Nat) (hs : s.length = 8) (hw1 : W32 s) (w : World) :
    Calls Tryd.prog 46 #[.agg (arr .u32 s)] w fun e w' => e = .returned (.agg (arr .u32 (plusL s iv))) ∧ Below w.heap.size w w' := by
  have HP := Lib.hid (fun W => plus_any s iv hs iv_len hw1 iv_w32 W)
  have hz := zero8_lit
  have hzl : zero8.length = 8 := rfl
  have sz1 : (arr .u32 s).size = 8 := by rw [arr_size, hs]
  have hl8 := plusL_len hs iv_len
  have sz3 : (arr .u32 zero8).size = 8 := by rw [arr_size]; rfl
  have HSZ := Lib.hid (show (arr .u32 (plusL s iv)).size = 8 by rw [arr_size, hl8])
  have hr0 : rowN ((w.alloc (.cells (arr .u32 s) 52)).alloc (.cells (arr .u32 zero8) 52)) (w.heap.size + 1) = some (arr .u32 zero8) := by rw [rowN_alloc, if_pos (by simp)]
  have HB0 := Lib.hid (((Below.refl _ w).alloc (Nat.le_refl _) (.cells (arr .u32 s) 52)).alloc (by simp) (.cells (arr .u32 zero8) 52))
  have HR0 := Lib.hid hr0
  clear hr0
  go_enter Tryd.func46, Tryd.ntmps46
  go_wp2_with fail
  refine (HP.out _).mono ?_
  rintro e w1 ⟨rfl, hb⟩
  have hr1 := keptW hb HR0.out
  have HB1 := Lib.hid (HB0.out.trans (hb.mono HB0.out.size))
  clear hb
  go_wp2_with fail
  exact ret_arr _ _ run_loadVar35 rfl rfl rfl (row_new hr1) HSZ.out ⟨rfl, below_setRow' HB1.out (by omega) _⟩
end Go.Proofs.YtmlacbdonkfbdaaDoor
