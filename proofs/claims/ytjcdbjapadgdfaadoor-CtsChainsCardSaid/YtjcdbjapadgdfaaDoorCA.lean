/- CTS: blocks of 16 bytes; combine; newMode. -/
import Derived.Test.YtjcdbjapadgdfaaDoorAS
namespace Go.Proofs.YtjcdbjapadgdfaaDoor
open Go.RowKit Go.Shelf

attribute [local go_sem] Oper.semAt_some
/-! The operations on blocks, taken whole. -/
section
variable (ρ : Operand → Value) (dst : Option Tmp) (x y : Operand) (ty : TypeId) (pos : String) (after : Array Edge) (guard : Option (Nat × Bool))
@[go_sem ↓] theorem execOp_load47 : execOp ρ { dst, op := .load 48 x, type := ty, pos, after, guard } = arLoad 48 (ρ x) := rfl
@[go_sem ↓] theorem execOp_store47 : execOp ρ { dst, op := .store 48 x y, type := ty, pos, after, guard } = arStore 48 (ρ x) (ρ y) := rfl
end
theorem run_zero47 (W : World) : (zeroValue 48).run Tryd.prog W = .ok (.agg (List.replicate 16 (Value.int .u8 ((0 : Nat) : Int))).toArray) W := by kernel_rfl
@[go_sem ↓] theorem run_zeroValue47 (W : World) : (zeroValue 48).run Tryd.prog W = .ok (.agg (arr .u8 (zr 16))) W := by
  rw [run_zero47, arr_lit, zr_eq, List.map_replicate]
/-- A block that lies in a row. -/
theorem load16 {W : World} {g o : Nat} {cs : Array Value} {b : List Nat} (h : rowN W g = some cs) (hb : b.length = 16) (hc : ∀ i, i < 16 → cs[o + i]? = (arr .u8 b)[i]?) :
    (arLoad 48 (.pointer (some ⟨g, o, none⟩))).run Tryd.prog W = .ok (.value (.agg (arr .u8 b))) W :=
  load_mid (n := 16) Tryd.underlying48 rfl (by kernel_rfl) h (by rw [arr_size, hb]) hc
theorem load16_row {W : World} {g : Nat} {b : List Nat} (h : rowN W g = some (arr .u8 b)) (hb : b.length = 16) :
    (arLoad 48 (.pointer (some ⟨g, 0, none⟩))).run Tryd.prog W = .ok (.value (.agg (arr .u8 b))) W := load16 h hb (fun i _ => by rw [Nat.zero_add])
theorem dt_get (l : List Nat) (a : Nat) {m k : Nat} (hk : k < m) : ((l.drop a).take m).getD k 0 = l.getD (a + k) 0 := by
  rw [List.getD, List.getElem?_take, if_pos hk, List.getElem?_drop]; rfl
theorem load16_mid {W : World} {g o : Nat} {l : List Nat} (h : rowN W g = some (arr .u8 l)) (ho : o + 16 ≤ l.length) :
    (arLoad 48 (.pointer (some ⟨g, o, none⟩))).run Tryd.prog W = .ok (.value (.agg (arr .u8 ((l.drop o).take 16)))) W := by
  refine load16 h (by rw [List.length_take, List.length_drop]; omega) (fun i hi => ?_)
  rw [arr_get?, arr_get?, List.getElem?_take, if_pos hi, List.getElem?_drop]
/-- A block is written over a part of a row. -/
def put16 (l : List Nat) (o : Nat) (b : List Nat) : List Nat := l.take o ++ b ++ l.drop (o + 16)
theorem put16_len {l b : List Nat} {o : Nat} (hb : b.length = 16) (ho : o + 16 ≤ l.length) : (put16 l o b).length = l.length := by
  unfold put16; rw [List.length_append, List.length_append, List.length_take, List.length_drop, hb]; omega
theorem put16_all {l b : List Nat} (_ : b.length = 16) (hl : l.length = 16) : put16 l 0 b = b := by
  unfold put16; rw [List.take_zero, List.nil_append, List.drop_eq_nil_of_le (by omega), List.append_nil]
theorem store16_mid {W : World} {g o : Nat} {l b : List Nat} (h : rowN W g = some (arr .u8 l)) (hb : b.length = 16) (ho : o + 16 ≤ l.length) :
    (arStore 48 (.pointer (some ⟨g, o, none⟩)) (.agg (arr .u8 b))).run Tryd.prog W = .ok .skip (W.setRow g (arr .u8 (put16 l o b))) := by
  obtain ⟨t', hg⟩ := rowN_some h
  obtain ⟨d, hd, hsz⟩ : ∃ d, Tryd.prog.info? 48 = some d ∧ d.size = 16 := by
    have h : (Tryd.prog.info? 48).map (·.size) = some 16 := by kernel_rfl
    cases e : Tryd.prog.info? 48 with
    | none => rw [e] at h; cases h
    | some d => exact ⟨d, rfl, by rw [e] at h; simpa using h⟩
  have hst := run_storeCells_at (P := Tryd.prog) g o t' (arr .u8 b).toList 0 (arr .u8 l) W hg (by rw [Array.length_toList, arr_size, arr_size, hb]; omega) (arr_oneCell _ _)
  have hsize : (sizeOf 48).run Tryd.prog W = .ok 16 W := by simp [sizeOf, typeInfo, hd, hsz]
  have e : ((arr .u8 l).toList.take (o + 0) ++ (arr .u8 b).toList ++ (arr .u8 l).toList.drop (o + 0 + (arr .u8 b).toList.length)).toArray = arr .u8 (put16 l o b) := by
    have hl : (arr .u8 b).toList.length = 16 := by rw [Array.length_toList, arr_size, hb]
    rw [hl, Nat.add_zero]
    apply Array.ext'
    rw [arr_toList, arr_toList, arr_toList]
    unfold put16
    simp only [List.map_append, List.map_take, List.map_drop]
  rw [e] at hst
  have hcs : (arr .u8 b).size = 16 := by rw [arr_size, hb]
  refine run_arStore_of ?_
  simp only [storeVar, Sem.run_bind, hsize, Result.andThen_ok, Value.cells, hcs, ne_eq, not_true_eq_false, if_false]
  exact hst
theorem store16_row {W : World} {g : Nat} {l b : List Nat} (h : rowN W g = some (arr .u8 l)) (hl : l.length = 16) (hb : b.length = 16) :
    (arStore 48 (.pointer (some ⟨g, 0, none⟩)) (.agg (arr .u8 b))).run Tryd.prog W = .ok .skip (W.setRow g (arr .u8 b)) := by
  have e := store16_mid (o := 0) h hb (by omega)
  rw [put16_all hb hl] at e
  exact e
/-- A slice of at least 16 bytes as an array. -/
theorem arrayAt16 (a : Addr) (L c : Nat) (h : 16 ≤ L) (W : World) : (Instr.arrayAt 48 (.slice (some a) L c)).run Tryd.prog W = .ok (.pointer (some a)) W := by
  have hu := Tryd.underlying48
  have h1 : ¬ L < 16 := by omega
  simp only [Instr.arrayAt, Sem.run_bind, run_underlying hu, Result.andThen_ok, if_neg h1]
  rfl
theorem BytesAt.cells {zs : List Nat} {s : Value} {w : World} (h : BytesAt zs s w) (h0 : 0 < zs.length) : ∃ b off c, s = .slice (some ⟨b, off, none⟩) zs.length c ∧ b < w.heap.size ∧ ∀ j, j < zs.length → w.cell? ⟨b, off + j, none⟩ = some (.int .u8 (zs.getD j 0 : Nat)) := by
  obtain ⟨_, a, c, rfl, _, hc⟩ := h
  rcases hc with hc | ⟨b, off, rfl, hb, hc⟩
  · omega
  · exact ⟨b, off, c, rfl, hb, hc⟩
theorem bits_xor8 (a b : Nat) (ha : a < 256) (hb : b < 256) : bits .xor .u8 (a : Int) (b : Int) = ((a ^^^ b : Nat) : Int) := by
  have := xor8 ha hb
  show IntKind.u8.wrap ((BitVec.ofInt 8 (a : Int) ^^^ BitVec.ofInt 8 (b : Int)).toNat : Int) = _
  rw [BitVec.toNat_xor, u8_nat a ha, u8_nat b hb, IntKind.wrap_u8]
  omega
theorem xor_256 {a b : List Nat} (ha : ∀ x ∈ a, x < 256) (hb : ∀ x ∈ b, x < 256) : ∀ x ∈ xorL a b, x < 256 := by
  intro x hx
  unfold xorL at hx
  rw [List.mem_iff_getElem] at hx
  obtain ⟨i, hi, rfl⟩ := hx
  rw [List.getElem_zipWith]
  exact xor8 (ha _ (List.getElem_mem _)) (hb _ (List.getElem_mem _))
theorem xor_len {a b : List Nat} (ha : a.length = 16) (hb : b.length = 16) : (xorL a b).length = 16 := by unfold xorL; rw [List.length_zipWith, ha, hb]; rfl
def CoR (A B : List Nat) (g : Nat) (w : World) (i : Value) (wr : World) : Prop :=
  ∃ k : Nat, k ≤ 16 ∧ i = .int .i64 (k : Nat) ∧ rowN wr g = some (arr .u8 (gK A B k)) ∧ w.grownBy wr (some g)
set_option maxRecDepth 100000 in
set_option maxHeartbeats 1000000 in
theorem combine_any (st bs : List Nat) (g : Nat) (s : Value) (hs : st.length = 16) (hb : bs.length = 16) (h256 : ∀ x ∈ st, x < 256) (w : World) (hrow : rowN w g = some (arr .u8 st)) (hB : BytesAt bs s w) (hne : ¬ InS s g) :
    Calls Tryd.prog 30 #[.pointer (some ⟨g, 0, none⟩), s] w fun e w' => e = .returned (.tuple #[]) ∧ rowN w' g = some (arr .u8 (xorL st bs)) ∧ w.grownBy w' (some g) := by
  have HS := Lib.hid hs
  have H1 := Lib.hid h256
  have H2 := Lib.hid hB.1
  have HXL := Lib.hid (xor_len hs hb)
  obtain ⟨b, off, c, rfl, hbl, hc⟩ := hB.cells (by omega)
  have hbg : b ≠ g := fun e => hne ⟨off, none, _, _, by rw [e]⟩
  rw [hb] at hc ⊢
  have HC := Lib.hid hc
  have HXE := Lib.hid (fun (k : Nat) (hk : k < 16) => show (xorL st bs).getD k 0 = st.getD k 0 ^^^ bs.getD k 0 from xorL_get (by omega) (by omega))
  have HI0 := Lib.hid (show CoR (xorL st bs) st g w (.int .i64 0) w from ⟨0, by omega, rfl, by rw [gK_zero]; exact hrow, grownBy_refl _ _⟩)
  obtain ⟨A, hA⟩ : ∃ q, xorL st bs = q := ⟨_, rfl⟩
  rw [hA] at HXL HXE HI0 ⊢
  clear hs hb h256 hrow hB hne hc hA
  go_enter Tryd.func30, Tryd.ntmps30
  go_wp2_with fail
  go_loopw [8] (fun i wr => CoR A st g w i wr) (fun i _ => 16 - (intOf i).toNat)
  case atStart => exact HI0.out
  case round =>
    obtain ⟨k, hk, rfl, hr, hg⟩ := hrel
    have HG := Lib.hid hg
    by_cases hlt : k < 16
    · have hk4 : ((k : Nat) : Int) < 16 := by omega
      have hcb : wr.cell? ⟨b, off + k, none⟩ = some (.int .u8 (bs.getD k 0 : Nat)) := hg.cell (HC.out k hlt) (fun e => hbg (by injection e))
      have hgl : (gK A st k).length = 16 := by rw [gK_len (by rw [HXL.out, HS.out]), HS.out]
      have hcg : wr.drew.cell? ⟨g, k, none⟩ = some (.int .u8 (st.getD k 0 : Nat)) := by
        have h := cell_arr hr (show k < (gK A st k).length by omega)
        rw [gK_get (by rw [HXL.out, HS.out]) (by rw [HS.out]; exact hlt)] at h
        exact h
      have hff := (rowN_cell hr).2 k
      have y1 := byte_lt H1.out k
      have y2 := byte_lt H2.out k
      have HSET := Lib.hid (gK_set (A := A) (B := st) (k := k) (by rw [HXL.out, HS.out]) (by rw [HS.out]; exact hlt))
      rw [HXE.out k hlt] at HSET
      have hxy := bits_xor8 _ _ y1 y2
      obtain ⟨x, hx⟩ : ∃ q, st.getD k 0 = q := ⟨_, rfl⟩
      obtain ⟨y, hy⟩ : ∃ q, bs.getD k 0 = q := ⟨_, rfl⟩
      rw [hx] at hcg HSET hxy
      rw [hy] at hcb HSET hxy
      obtain ⟨z, hz⟩ : ∃ q, x ^^^ y = q := ⟨_, rfl⟩
      rw [hz] at HSET hxy
      have HR := Lib.hid (show rowN wr.drew g = some (arr .u8 (gK A st k)) from hr)
      clear hr hg hx hy hz y1 y2 hgl
      go_upto_region 3 with fail
      refine wp_region_still_tail 9 (by kernel_rfl) (by kernel_rfl) ?_
      simp only [List.take_succ_cons, List.take_zero, List.drop_succ_cons, List.drop_zero]
      repeat still_step
      refine wpStill_nil ?_
      go_wp2_with fail
      refine ⟨⟨k + 1, by omega, by go_num, ?_, grownBy_trans HG.out (grownBy_trans (grown_of_below (Below.refl _ _).drew _) (grown_setCell _ _ _ _))⟩, by simp [intOf]; omega⟩
      rw [← HSET.out]
      exact row_arr HR.out
    · obtain rfl : k = 16 := by omega
      rw [gK_all (by rw [HXL.out]; exact Nat.le_refl _) (by rw [HS.out]; exact Nat.le_refl _)] at hr
      have HR := Lib.hid hr
      clear hr hg
      go_wp2_with fail
      go_end0
      exact ⟨rfl, HR.out, HG.out⟩
/-- A mode: its cipher and its IV. -/
@[irreducible] def mdA (gc : Nat) (iv : List Nat) : Array Value := #[Value.pointer (some ⟨gc, 0, none⟩)] ++ arr .u8 iv
theorem mdA_eq (gc : Nat) (iv : List Nat) : mdA gc iv = #[Value.pointer (some ⟨gc, 0, none⟩)] ++ arr .u8 iv := by unfold mdA; rfl
theorem mdA_size {gc : Nat} {iv : List Nat} (h : iv.length = 16) : (mdA gc iv).size = 17 := by rw [mdA_eq, Array.size_append, arr_size, h]; rfl
theorem mdA_zero (gc : Nat) (iv : List Nat) : (mdA gc iv)[0]? = some (.pointer (some ⟨gc, 0, none⟩)) := by rw [mdA_eq, Array.getElem?_append, if_pos (by simp)]; rfl
theorem mdA_iv (gc : Nat) (iv : List Nat) (i : Nat) : (mdA gc iv)[1 + i]? = (arr .u8 iv)[i]? := by
  rw [mdA_eq, Array.getElem?_append, if_neg (by simp)]; congr 1; simp
def mdNew (x y : Value) : Sem Next := do pure (.value (← Instr.build 53 #[(0, x), (1, y)]))
@[go_sem ↓] theorem execOp_build52 (ρ : Operand → Value) (dst : Option Tmp) (x y : Operand) (ty : TypeId) (pos : String) (after : Array Edge) (guard : Option (Nat × Bool)) :
    execOp ρ { dst, op := .build 53 #[(0, x), (1, y)], type := ty, pos, after, guard } = mdNew (ρ x) (ρ y) := by simp [execOp, mdNew]
theorem built52 (a b c d e f g h i j k l m n o p gc : Nat) : Tryd.prog.built 53 [(0, .pointer (some ⟨gc, 0, none⟩)), (1, .agg (arr .u8 [a, b, c, d, e, f, g, h, i, j, k, l, m, n, o, p]))] = some (mdA gc [a, b, c, d, e, f, g, h, i, j, k, l, m, n, o, p]) := by kernel_rfl
theorem run_mdNew (iv : List Nat) (hs : iv.length = 16) (gc : Nat) (W : World) : (mdNew (.pointer (some ⟨gc, 0, none⟩)) (.agg (arr .u8 iv))).run Tryd.prog W = .ok (.value (.agg (mdA gc iv))) W := by
  obtain ⟨a, b, c, d, e, f, g, h, i, j, k, l, m, n, o, p, rfl⟩ := sixteen hs
  have hr := run_build (P := Tryd.prog) W 53 #[(0, .pointer (some ⟨gc, 0, none⟩)), (1, .agg (arr .u8 [a, b, c, d, e, f, g, h, i, j, k, l, m, n, o, p]))] _ (built52 a b c d e f g h i j k l m n o p gc)
  simp only [mdNew, Sem.run_bind, hr, Result.andThen_ok, Sem.run_pure]
/-- A mode lies at a block. -/
def MdAt (key iv : List Nat) (gm gc : Nat) (W : World) : Prop := rowN W gm = some (mdA gc iv) ∧ CphAt key gc W
set_option maxRecDepth 100000 in
theorem newMode_key (key : List Nat) (ks vs : Value) (hl : key.length ≠ 16) (w : World) (hK : BytesAt key ks w) :
    Calls Tryd.prog 20 #[ks, vs] w fun e w' => e = .returned (.tuple #[.pointer none, .int .i64 2]) ∧ Below w.heap.size w w' := by
  have H := Lib.hid (new_len key ks hl w hK)
  clear hK
  go_enter Tryd.func20, Tryd.ntmps20
  go_wp2_with fail
  refine H.out.mono ?_
  rintro e w1 ⟨rfl, hb⟩
  have HB := Lib.hid hb
  clear hb H
  go_wp2_with fail
  go_ret2
  exact ⟨rfl, HB.out⟩
set_option maxRecDepth 100000 in
theorem newMode_iv (key iv : List Nat) (ks vs : Value) (hl : key.length = 16) (hv : iv.length ≠ 16) (w : World) (hK : BytesAt key ks w) (hV : BytesAt iv vs w) :
    Calls Tryd.prog 20 #[ks, vs] w fun e w' => e = .returned (.tuple #[.pointer none, .int .i64 2]) ∧ Below w.heap.size w w' := by
  have H := Lib.hid (new_any key ks hl w hK)
  obtain ⟨_, a, c, rfl, _, _⟩ := hV
  have hi : ¬ ((iv.length : Nat) : Int) = 16 := by omega
  obtain ⟨L, hL⟩ : ∃ q, iv.length = q := ⟨_, rfl⟩
  rw [hL] at hi ⊢
  clear hK hL hv
  go_enter Tryd.func20, Tryd.ntmps20
  go_wp2_with fail
  refine H.out.mono ?_
  rintro e w1 ⟨g, rfl, _, _, hb⟩
  have HB := Lib.hid hb
  clear hb H
  go_wp2_with fail
  go_ret2
  exact ⟨rfl, HB.out⟩
set_option maxRecDepth 100000 in
theorem newMode_any (key iv : List Nat) (ks vs : Value) (hl : key.length = 16) (hv : iv.length = 16) (w : World) (hK : BytesAt key ks w) (hV : BytesAt iv vs w) :
    Calls Tryd.prog 20 #[ks, vs] w fun e w' => ∃ gm gc, e = .returned (.tuple #[.pointer (some ⟨gm, 0, none⟩), .int .i64 0]) ∧ MdAt key iv gm gc w' ∧ w.heap.size ≤ gm ∧ w.heap.size ≤ gc ∧ Below w.heap.size w w' := by
  have H := Lib.hid (new_any key ks hl w hK)
  have hnw := run_mdNew iv hv
  have szm := fun gc => mdA_size (gc := gc) hv
  obtain ⟨b, off, c, rfl, hbl, hc⟩ := hV.cells (by omega)
  rw [hv] at hc ⊢
  have HC := Lib.hid hc
  have HV := Lib.hid hv
  have hat := fun (W : World) => arrayAt16 ⟨b, off, none⟩ 16 c (by omega) W
  clear hK hV hc
  go_enter Tryd.func20, Tryd.ntmps20
  go_wp2_with fail
  refine H.out.mono ?_
  rintro e w1 ⟨g, rfl, hge, hC, hb⟩
  have hrg : w1.rangeAt b off (arr .u8 iv).toList := by
    intro j v hj
    have hjl : j < 16 := by
      have := (List.getElem?_eq_some_iff.1 hj).1
      rw [Array.length_toList, arr_size, HV.out] at this; exact this
    rw [show w1.cell? ⟨b, off + j, none⟩ = _ from (hb.cell (p := ⟨b, off + j, none⟩) hbl).trans (HC.out j hjl), ← arr_get .u8 iv j (by rw [HV.out]; exact hjl), ← Array.getElem?_toList]
    exact hj
  have hld : (arLoad 48 (.pointer (some ⟨b, off, none⟩))).run Tryd.prog w1 = .ok (.value (.agg (arr .u8 iv))) w1 := by
    have hl := run_loadVar_mid (P := Tryd.prog) w1 b off 48 (arr .u8 iv).toList _ hrg Tryd.underlying48 rfl (by rw [Array.length_toList, arr_size, HV.out]; kernel_rfl)
    rw [Array.toArray_toList] at hl
    exact run_arLoad_of hl
  have hnw1 := hnw g w1
  have szm1 := szm g
  have HB := Lib.hid hb
  have HCC := Lib.hid hC
  have HGE := Lib.hid hge
  clear hb hC hge H hrg hnw szm
  go_wp2_with fail
  go_ret2
  have hbx : Below w1.heap.size w1 (w1.alloc (.cells (mdA g iv) 53)) := (Below.refl _ _).alloc (Nat.le_refl _) _
  exact ⟨w1.heap.size, g, rfl, ⟨by rw [rowN_alloc, if_pos rfl], keptW hbx HCC.out⟩, HB.out.size, HGE.out, bthen HB.out hbx⟩
end Go.Proofs.YtjcdbjapadgdfaaDoor
