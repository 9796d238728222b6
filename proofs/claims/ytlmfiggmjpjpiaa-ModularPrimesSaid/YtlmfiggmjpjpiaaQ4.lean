/- What Mul comes to. -/
import Derived.Test.YtlmfiggmjpjpiaaQ3
import Derived.Deep.RegionHeld3
namespace Go.Proofs.Ytlmfiggmjpjpiaa
open Go.RowKit

def mulV (v u : Nat) : Nat := if v * u < P64 ^ 16 then v * u else 0
def mulE (v u : Nat) : Int := if v * u < P64 ^ 16 then 0 else 7

theorem natLen_pow {v : Nat} : v < P64 ^ natLen v := lt_dlen (show 2 ≤ P64 by rw [P64_eq]; decide) v
theorem natLen_le {v : Nat} (hv : v < P64 ^ 16) : natLen v ≤ 16 := dlen_le (by rw [P64_eq]; decide) hv
theorem natLen_pos {v : Nat} (h : 0 < natLen v) : P64 ^ (natLen v - 1) ≤ v := by
  refine (dlen_le_of (show 2 ≤ P64 by rw [P64_eq]; decide) ?_).2
  rintro rfl
  exact absurd h (by decide)
theorem mul_wide {v u : Nat} (h : 17 < natLen v + natLen u) (hv : natLen v ≤ 16) (hu : natLen u ≤ 16) : ¬ v * u < P64 ^ 16 := by
  have h1 := natLen_pos (v := v) (by omega)
  have h2 := natLen_pos (v := u) (by omega)
  have h3 := Nat.mul_le_mul h1 h2
  rw [← Nat.pow_add] at h3
  have h4 : P64 ^ 16 ≤ P64 ^ (natLen v - 1 + (natLen u - 1)) := Nat.pow_le_pow_right P64_pos (by omega)
  omega
theorem kept2 {W w1 : World} (hb : Below W.heap.size W w1) {g : Nat} {cs : Array Value} (h : rowN W g = some cs) : rowN w1 g = some cs := by
  rw [brow hb _ (rowN_lt h)]; exact h

/-- A load of a number's digits, taken first in a region that draws its order. -/
theorem yields_load26 {ops : Array Oper} {S : World → Prop} {op : Oper} {a : Act} (hw : Region.wanted op (yielded ops a.tmps) = true) (x : Operand) (ho : op.op = .load 26 x)
    (g : Nat) (hx : a.eval x = .pointer (some ⟨g, 0, none⟩)) (v : Nat) (hS : ∀ w, S w → rowN w g = some (natA v)) : YieldsIf Try.prog ops S op (.agg (natA v)) a :=
  .inl ⟨hw, fun w hw' => by
    unfold execOp
    simp only [ho, hx, Instr.loadAt, Instr.sureAddr, Sem.run_bind, Sem.run_pure, Result.andThen_ok, run_loadVar26, hS w hw', rowLoad_some _ _ _ _ (natA_size v)]⟩

theorem arr26 : Try.prog.arrayLen 26 = 16 ∧ Try.prog.elem 26 = 24 ∧ Try.prog.underlying 26 = some (.array (Try.prog.arrayLen 26) (Try.prog.elem 26)) := ⟨by kernel_rfl, by kernel_rfl, by kernel_rfl⟩
theorem arr84 : Try.prog.arrayLen 98 = 17 ∧ Try.prog.elem 98 = 24 ∧ Try.prog.underlying 98 = some (.array (Try.prog.arrayLen 98) (Try.prog.elem 98)) := ⟨by kernel_rfl, by kernel_rfl, by kernel_rfl⟩
theorem run_slice26_h (g k : Nat) (hk : k ≤ 16) (W : World) : (Instr.sliceAt 26 (.pointer (some ⟨g, 0, none⟩)) none (some (.int .i64 (k : Nat))) none).run Try.prog W = .ok (.slice (some ⟨g, 0, none⟩) k 16) W := by
  obtain ⟨h1, h2, h3⟩ := arr26
  rw [run_sliceAt_array_h W 26 _ h3 _ _ (by omega) (by rw [h1]; omega), h2, h1, Try.sizeOf24]
  simp [slicedAt, Addr.add]
theorem run_slice84_lh (g i j : Nat) (hi : i ≤ j) (hj : j ≤ 17) (hi17 : i < 17) (W : World) : (Instr.sliceAt 98 (.pointer (some ⟨g, 0, none⟩)) (some (.int .i64 (i : Nat))) (some (.int .i64 (j : Nat))) none).run Try.prog W = .ok (.slice (some ⟨g, i, none⟩) (j - i) (17 - i)) W := by
  obtain ⟨h1, h2, h3⟩ := arr84
  rw [run_sliceAt_array_lh W 98 _ h3 _ _ _ _ (by omega) (by omega) (by rw [h1]; omega), h2, h1, Try.sizeOf24]
  have e : ¬ 17 = i := by omega
  simp [slicedAt, Addr.add, e]
  exact fun h => h.symm

theorem run_slice26_all (g : Nat) (W : World) : (Instr.sliceAt 26 (.pointer (some ⟨g, 0, none⟩)) none none none).run Try.prog W = .ok (.slice (some ⟨g, 0, none⟩) 16 16) W := by
  obtain ⟨h1, h2, h3⟩ := arr26
  rw [run_sliceAt_array_all W 26 _ h3, h2, h1, Try.sizeOf24]
  simp [slicedAt, Addr.add]
theorem run_slice84_16 (g : Nat) (W : World) : (Instr.sliceAt 98 (.pointer (some ⟨g, 0, none⟩)) none (some (.int .i64 16)) none).run Try.prog W = .ok (.slice (some ⟨g, 0, none⟩) 16 17) W := by
  obtain ⟨h1, h2, h3⟩ := arr84
  rw [run_sliceAt_array_h W 98 _ h3 _ _ (by omega) (by rw [h1]; omega), h2, h1, Try.sizeOf24]
  simp [slicedAt, Addr.add]
theorem copy_nat (W : World) (R G x y : Nat) (hR : rowN W R = some (natA y)) (hG : rowN W G = some (wdA 17 x)) :
    (Builtin.copy_ #[93, 93] 3 #[.slice (some ⟨R, 0, none⟩) 16 16, .slice (some ⟨G, 0, none⟩) 16 17]).run Try.prog W = .ok (goInt 16) (W.setRow R (natA x)) := by
  obtain ⟨t, ht⟩ := rowN_some hR
  have hn : ((natA x).toList).length = Nat.min 16 16 := by rw [Array.length_toList, natA_size]; rfl
  have hu : Try.prog.underlying 93 = some (.slice 24) := by kernel_rfl
  have hs : (Try.prog.info? 24).map (·.size) = some 1 := by kernel_rfl
  have h := run_copy_row (P := Try.prog) W 93 93 3 24 R 0 16 16 ⟨G, 0, none⟩ 16 17 (natA y) t (natA x).toList hu hs ht hn (fun j v hv => by
    have hj : j < 16 := by have := (List.getElem?_eq_some_iff.1 hv).1; rwa [Array.length_toList, natA_size] at this
    have e : (⟨G, 0, none⟩ : Addr).add j = ⟨G, j, none⟩ := by unfold Addr.add; split <;> simp_all
    rw [Array.getElem?_toList, natA_get _ _ hj] at hv
    rw [e, (rowN_cell hG).1, wdA_get _ _ _ (by omega), ← hv]) (by rw [hn, natA_size]; decide) (natA_oneCell x)
  have hd : (natA y).toList.drop (0 + (natA x).toList.length) = [] := by
    rw [List.drop_eq_nil_of_le]; rw [Array.length_toList, Array.length_toList, natA_size, natA_size]; omega
  rw [hd, hn, List.take_zero, List.append_nil, List.nil_append, Array.toArray_toList] at h
  exact h

set_option maxRecDepth 100000 in
theorem mul_any_wide (v u : Nat) (hv : v < P64 ^ 16) (hu : u < P64 ^ 16) (h : 17 < natLen v + natLen u) (w : World) : Calls Try.prog 66 #[.agg (natA v), .agg (natA u)] w fun e w' =>
    e = .returned (.tuple #[.agg (natA 0), .int .i64 7]) ∧ Below w.heap.size w w' := by
  have HLV := Lib.hid (length_any v hv)
  have HLU := Lib.hid (length_any u hu)
  have hn := natLen_le hv
  have hm := natLen_le hu
  generalize natLen v = n at *
  generalize natLen u = m at *
  clear hv hu
  have hA : rowN (((w.alloc (.cells (natA v) 28)).alloc (.cells (natA u) 28)).alloc (.cells (natA 0) 28)).drew w.heap.size = some (natA v) := by
    simp only [rowN_drew, rowN_alloc, World.size_alloc, if_true] <;> (repeat rw [if_neg (by omega)])
  have hB : rowN (((w.alloc (.cells (natA v) 28)).alloc (.cells (natA u) 28)).alloc (.cells (natA 0) 28)).drew (w.heap.size + 1) = some (natA u) := by
    simp only [rowN_drew, rowN_alloc, World.size_alloc, if_true] <;> (repeat rw [if_neg (by omega)])
  have hR : rowN (((w.alloc (.cells (natA v) 28)).alloc (.cells (natA u) 28)).alloc (.cells (natA 0) 28)).drew (w.heap.size + 1 + 1) = some (natA 0) := by
    simp only [rowN_drew, rowN_alloc, World.size_alloc, if_true] <;> (repeat rw [if_neg (by omega)])
  have hbel : Below w.heap.size w (((w.alloc (.cells (natA v) 28)).alloc (.cells (natA u) 28)).alloc (.cells (natA 0) 28)).drew := ((((Below.refl _ _).alloc (Nat.le_refl _) _).alloc (by simp) _).alloc (by simp; omega) _).drew
  have HBel := Lib.hid hbel
  clear hbel
  go_enter Try.func66, Try.ntmps66
  go_wp2_with fail
  refine wp_region_noPanic ?_
  refine wp_region_held_drew (S := fun W => rowN W w.heap.size = some (natA v) ∧ rowN W (w.heap.size + 1) = some (natA u) ∧ rowN W (w.heap.size + 1 + 1) = some (natA 0) ∧ Below w.heap.size w W) (by kernel_rfl) ⟨hA, hB, hR, HBel.out⟩ (fun hHeld0 => ?_)
  refine wpAnyH_take (i := 0) (oi := { dst := some 13, op := Op.fieldAddr 28 (Operand.tmp 2) 0, type := 0, pos := "arithmetic.go:37", after := #[], guard := none }) (v := ?_) rfl (by kernel_rfl) (by kernel_rfl) (by kernel_rfl) (fun _ _ _ h => h) (Or.inl ⟨by rfl, ?_⟩) hHeld0 ?_
  rotate_left
  · (intro W hW; clear hW; first | (go_simp; done) | (go_simp; with_reducible rfl))
  try simp only [Act.put, List.setIfInBounds_toArray, List.set_cons_zero, List.set_cons_succ]
  refine wpAnyH_take (i := 1) (oi := { dst := some 14, op := Op.load 26 (Operand.tmp 13), type := 26, pos := "arithmetic.go:37", after := #[{ on := 0, ground := Ground.data }], guard := none }) (v := _) rfl (by kernel_rfl) (by kernel_rfl) (by kernel_rfl) (fun _ _ _ h => h) (yields_load26 rfl _ rfl w.heap.size rfl v (fun W hW => hW.1)) hHeld0 ?_
  try simp only [Act.put, List.setIfInBounds_toArray, List.set_cons_zero, List.set_cons_succ]
  refine wpAnyH_take (i := 3) (oi := { dst := some 16, op := Op.fieldAddr 28 (Operand.tmp 3) 0, type := 0, pos := "arithmetic.go:37", after := #[], guard := none }) (v := ?_) rfl (by kernel_rfl) (by kernel_rfl) (by kernel_rfl) (fun _ _ _ h => h) (Or.inl ⟨by rfl, ?_⟩) hHeld0 ?_
  rotate_left
  · (intro W hW; clear hW; first | (go_simp; done) | (go_simp; with_reducible rfl))
  try simp only [Act.put, List.setIfInBounds_toArray, List.set_cons_zero, List.set_cons_succ]
  refine wpAnyH_take (i := 4) (oi := { dst := some 17, op := Op.load 26 (Operand.tmp 16), type := 26, pos := "arithmetic.go:37", after := #[{ on := 3, ground := Ground.data }], guard := none }) (v := _) rfl (by kernel_rfl) (by kernel_rfl) (by kernel_rfl) (fun _ _ _ h => h) (yields_load26 rfl _ rfl (w.heap.size + 1) rfl u (fun W hW => hW.2.1)) hHeld0 ?_
  try simp only [Act.put, List.setIfInBounds_toArray, List.set_cons_zero, List.set_cons_succ]
  refine wpAnyH_ready (rs := [2]) (by kernel_rfl) (by simp) ?_
  refine AllReadyH.cons (o := { dst := some 15, op := Op.call { callee := Callee.value (Operand.func 71), args := #[Operand.tmp 14], argTypes := #[26] }, type := 3, pos := "arithmetic.go:37", after := #[{ on := 1, ground := Ground.data }], guard := none }) rfl (fun K hK => ?_) AllReadyH.nil
  go_simp
  (refine (HLV.out _).mono ?_; rintro e w1 ⟨rfl, hb⟩; have hA1 := kept2 hb hA; have hB1 := kept2 hb hB; have hR1 := kept2 hb hR; have HBel1 := Lib.hid (HBel.out.trans (hb.mono HBel.out.size)); clear hb)
  refine hK.out _ _ ⟨hA1, hB1, hR1, HBel1.out⟩ (fun hHeld1 => ?_)
  clear hK K
  try simp only [Act.put, List.setIfInBounds_toArray, List.set_cons_zero, List.set_cons_succ]
  refine wpAnyH_ready (rs := [5]) (by kernel_rfl) (by simp) ?_
  refine AllReadyH.cons (o := { dst := some 18, op := Op.call { callee := Callee.value (Operand.func 71), args := #[Operand.tmp 17], argTypes := #[26] }, type := 3, pos := "arithmetic.go:37", after := #[{ on := 4, ground := Ground.data }, { on := 2, ground := Ground.chain }], guard := none }) rfl (fun K hK => ?_) AllReadyH.nil
  go_simp
  (refine (HLU.out _).mono ?_; rintro e w2 ⟨rfl, hb⟩; have hA2 := kept2 hb hA1; have hB2 := kept2 hb hB1; have hR2 := kept2 hb hR1; have HBel2 := Lib.hid (HBel1.out.trans (hb.mono HBel1.out.size)); clear hb)
  refine hK.out _ _ ⟨hA2, hB2, hR2, HBel2.out⟩ (fun hHeld2 => ?_)
  clear hK K
  try simp only [Act.put, List.setIfInBounds_toArray, List.set_cons_zero, List.set_cons_succ]
  refine wpAnyH_take (i := 6) (oi := { dst := some 6, op := Op.assign (Operand.tmp 15), type := 3, pos := "arithmetic.go:37", after := #[{ on := 2, ground := Ground.data }, { on := 5, ground := Ground.chain }, { on := 0, ground := Ground.phase }, { on := 1, ground := Ground.phase }, { on := 2, ground := Ground.phase }, { on := 3, ground := Ground.textOnly Departure.lateStores }, { on := 4, ground := Ground.textOnly Departure.lateStores }, { on := 5, ground := Ground.textOnly Departure.lateStoresUnsure }], guard := none }) (v := ?_) rfl (by kernel_rfl) (by kernel_rfl) (by kernel_rfl) (fun _ _ _ h => h) (Or.inl ⟨by rfl, ?_⟩) hHeld2 ?_
  rotate_left
  · (intro W hW; clear hW; first | (go_simp; done) | (go_simp; with_reducible rfl))
  try simp only [Act.put, List.setIfInBounds_toArray, List.set_cons_zero, List.set_cons_succ]
  refine wpAnyH_take (i := 7) (oi := { dst := some 7, op := Op.assign (Operand.tmp 18), type := 3, pos := "arithmetic.go:37", after := #[{ on := 5, ground := Ground.data }, { on := 6, ground := Ground.chain }, { on := 0, ground := Ground.phase }, { on := 1, ground := Ground.phase }, { on := 2, ground := Ground.phase }, { on := 3, ground := Ground.phase }, { on := 4, ground := Ground.phase }, { on := 5, ground := Ground.phase }, { on := 6, ground := Ground.phase }], guard := none }) (v := ?_) rfl (by kernel_rfl) (by kernel_rfl) (by kernel_rfl) (fun _ _ _ h => h) (Or.inl ⟨by rfl, ?_⟩) hHeld2 ?_
  rotate_left
  · (intro W hW; clear hW; first | (go_simp; done) | (go_simp; with_reducible rfl))
  try simp only [Act.put, List.setIfInBounds_toArray, List.set_cons_zero, List.set_cons_succ]
  refine wpAnyH_done (by kernel_rfl) ?_ _
  refine NoPanic.normal ?_
  go_wp2_with fail
  exact ret_nat_tmp _ (natA 0) rfl rfl rfl (by simp [rowN_setRow, hR2]) (natA_size _) ⟨rfl, below_setRow' HBel2.out (by omega) _⟩

set_option maxRecDepth 100000 in
theorem mul_any_short (v u : Nat) (hv : v < P64 ^ 16) (hu : u < P64 ^ 16) (h : natLen v + natLen u ≤ 17) (w : World) : Calls Try.prog 66 #[.agg (natA v), .agg (natA u)] w fun e w' =>
    e = .returned (.tuple #[.agg (natA (mulV v u)), .int .i64 (mulE v u)]) ∧ Below w.heap.size w w' := by
  have hmf : ∀ (fn : Fn) (first cap : Array Value) (w : World), (Instr.makeFunc fn first cap).run Try.prog w = .ok (.func fn first cap) w := fun _ _ _ _ => rfl
  have HLV := Lib.hid (length_any v hv)
  have HLU := Lib.hid (length_any u hu)
  have hn := natLen_le hv
  have hm := natLen_le hu
  have HNV := Lib.hid (natLen_pow (v := v))
  have HNU := Lib.hid (natLen_pow (v := u))
  have HV := Lib.hid hv
  have HU := Lib.hid hu
  have hs1 := fun g => run_slice26_h g (natLen v) hn
  have hs2 := fun g => run_slice26_h g (natLen u) hm
  generalize natLen v = n at *
  generalize natLen u = m at *
  clear hv hu
  have hA : rowN (((w.alloc (.cells (natA v) 28)).alloc (.cells (natA u) 28)).alloc (.cells (natA 0) 28)).drew w.heap.size = some (natA v) := by
    simp only [rowN_drew, rowN_alloc, World.size_alloc, if_true] <;> (repeat rw [if_neg (by omega)])
  have hB : rowN (((w.alloc (.cells (natA v) 28)).alloc (.cells (natA u) 28)).alloc (.cells (natA 0) 28)).drew (w.heap.size + 1) = some (natA u) := by
    simp only [rowN_drew, rowN_alloc, World.size_alloc, if_true] <;> (repeat rw [if_neg (by omega)])
  have hR : rowN (((w.alloc (.cells (natA v) 28)).alloc (.cells (natA u) 28)).alloc (.cells (natA 0) 28)).drew (w.heap.size + 1 + 1) = some (natA 0) := by
    simp only [rowN_drew, rowN_alloc, World.size_alloc, if_true] <;> (repeat rw [if_neg (by omega)])
  have hbel : Below w.heap.size w (((w.alloc (.cells (natA v) 28)).alloc (.cells (natA u) 28)).alloc (.cells (natA 0) 28)).drew := ((((Below.refl _ _).alloc (Nat.le_refl _) _).alloc (by simp) _).alloc (by simp; omega) _).drew
  have HBel := Lib.hid hbel
  clear hbel
  go_enter Try.func66, Try.ntmps66
  go_wp2_with fail
  refine wp_region_noPanic ?_
  refine wp_region_held_drew (S := fun W => rowN W w.heap.size = some (natA v) ∧ rowN W (w.heap.size + 1) = some (natA u) ∧ rowN W (w.heap.size + 1 + 1) = some (natA 0) ∧ Below w.heap.size w W) (by kernel_rfl) ⟨hA, hB, hR, HBel.out⟩ (fun hHeld0 => ?_)
  refine wpAnyH_take (i := 0) (oi := { dst := some 13, op := Op.fieldAddr 28 (Operand.tmp 2) 0, type := 0, pos := "arithmetic.go:37", after := #[], guard := none }) (v := ?_) rfl (by kernel_rfl) (by kernel_rfl) (by kernel_rfl) (fun _ _ _ h => h) (Or.inl ⟨by rfl, ?_⟩) hHeld0 ?_
  rotate_left
  · (intro W hW; clear hW; first | (go_simp; done) | (go_simp; with_reducible rfl))
  try simp only [Act.put, List.setIfInBounds_toArray, List.set_cons_zero, List.set_cons_succ]
  refine wpAnyH_take (i := 1) (oi := { dst := some 14, op := Op.load 26 (Operand.tmp 13), type := 26, pos := "arithmetic.go:37", after := #[{ on := 0, ground := Ground.data }], guard := none }) (v := _) rfl (by kernel_rfl) (by kernel_rfl) (by kernel_rfl) (fun _ _ _ h => h) (yields_load26 rfl _ rfl w.heap.size rfl v (fun W hW => hW.1)) hHeld0 ?_
  try simp only [Act.put, List.setIfInBounds_toArray, List.set_cons_zero, List.set_cons_succ]
  refine wpAnyH_take (i := 3) (oi := { dst := some 16, op := Op.fieldAddr 28 (Operand.tmp 3) 0, type := 0, pos := "arithmetic.go:37", after := #[], guard := none }) (v := ?_) rfl (by kernel_rfl) (by kernel_rfl) (by kernel_rfl) (fun _ _ _ h => h) (Or.inl ⟨by rfl, ?_⟩) hHeld0 ?_
  rotate_left
  · (intro W hW; clear hW; first | (go_simp; done) | (go_simp; with_reducible rfl))
  try simp only [Act.put, List.setIfInBounds_toArray, List.set_cons_zero, List.set_cons_succ]
  refine wpAnyH_take (i := 4) (oi := { dst := some 17, op := Op.load 26 (Operand.tmp 16), type := 26, pos := "arithmetic.go:37", after := #[{ on := 3, ground := Ground.data }], guard := none }) (v := _) rfl (by kernel_rfl) (by kernel_rfl) (by kernel_rfl) (fun _ _ _ h => h) (yields_load26 rfl _ rfl (w.heap.size + 1) rfl u (fun W hW => hW.2.1)) hHeld0 ?_
  try simp only [Act.put, List.setIfInBounds_toArray, List.set_cons_zero, List.set_cons_succ]
  refine wpAnyH_ready (rs := [2]) (by kernel_rfl) (by simp) ?_
  refine AllReadyH.cons (o := { dst := some 15, op := Op.call { callee := Callee.value (Operand.func 71), args := #[Operand.tmp 14], argTypes := #[26] }, type := 3, pos := "arithmetic.go:37", after := #[{ on := 1, ground := Ground.data }], guard := none }) rfl (fun K hK => ?_) AllReadyH.nil
  go_simp
  (refine (HLV.out _).mono ?_; rintro e w1 ⟨rfl, hb⟩; have hA1 := kept2 hb hA; have hB1 := kept2 hb hB; have hR1 := kept2 hb hR; have HBel1 := Lib.hid (HBel.out.trans (hb.mono HBel.out.size)); clear hb)
  refine hK.out _ _ ⟨hA1, hB1, hR1, HBel1.out⟩ (fun hHeld1 => ?_)
  clear hK K
  try simp only [Act.put, List.setIfInBounds_toArray, List.set_cons_zero, List.set_cons_succ]
  refine wpAnyH_ready (rs := [5]) (by kernel_rfl) (by simp) ?_
  refine AllReadyH.cons (o := { dst := some 18, op := Op.call { callee := Callee.value (Operand.func 71), args := #[Operand.tmp 17], argTypes := #[26] }, type := 3, pos := "arithmetic.go:37", after := #[{ on := 4, ground := Ground.data }, { on := 2, ground := Ground.chain }], guard := none }) rfl (fun K hK => ?_) AllReadyH.nil
  go_simp
  (refine (HLU.out _).mono ?_; rintro e w2 ⟨rfl, hb⟩; have hA2 := kept2 hb hA1; have hB2 := kept2 hb hB1; have hR2 := kept2 hb hR1; have HBel2 := Lib.hid (HBel1.out.trans (hb.mono HBel1.out.size)); clear hb)
  refine hK.out _ _ ⟨hA2, hB2, hR2, HBel2.out⟩ (fun hHeld2 => ?_)
  clear hK K
  try simp only [Act.put, List.setIfInBounds_toArray, List.set_cons_zero, List.set_cons_succ]
  refine wpAnyH_take (i := 6) (oi := { dst := some 6, op := Op.assign (Operand.tmp 15), type := 3, pos := "arithmetic.go:37", after := #[{ on := 2, ground := Ground.data }, { on := 5, ground := Ground.chain }, { on := 0, ground := Ground.phase }, { on := 1, ground := Ground.phase }, { on := 2, ground := Ground.phase }, { on := 3, ground := Ground.textOnly Departure.lateStores }, { on := 4, ground := Ground.textOnly Departure.lateStores }, { on := 5, ground := Ground.textOnly Departure.lateStoresUnsure }], guard := none }) (v := ?_) rfl (by kernel_rfl) (by kernel_rfl) (by kernel_rfl) (fun _ _ _ h => h) (Or.inl ⟨by rfl, ?_⟩) hHeld2 ?_
  rotate_left
  · (intro W hW; clear hW; first | (go_simp; done) | (go_simp; with_reducible rfl))
  try simp only [Act.put, List.setIfInBounds_toArray, List.set_cons_zero, List.set_cons_succ]
  refine wpAnyH_take (i := 7) (oi := { dst := some 7, op := Op.assign (Operand.tmp 18), type := 3, pos := "arithmetic.go:37", after := #[{ on := 5, ground := Ground.data }, { on := 6, ground := Ground.chain }, { on := 0, ground := Ground.phase }, { on := 1, ground := Ground.phase }, { on := 2, ground := Ground.phase }, { on := 3, ground := Ground.phase }, { on := 4, ground := Ground.phase }, { on := 5, ground := Ground.phase }, { on := 6, ground := Ground.phase }], guard := none }) (v := ?_) rfl (by kernel_rfl) (by kernel_rfl) (by kernel_rfl) (fun _ _ _ h => h) (Or.inl ⟨by rfl, ?_⟩) hHeld2 ?_
  rotate_left
  · (intro W hW; clear hW; first | (go_simp; done) | (go_simp; with_reducible rfl))
  try simp only [Act.put, List.setIfInBounds_toArray, List.set_cons_zero, List.set_cons_succ]
  refine wpAnyH_done (by kernel_rfl) ?_ _
  refine NoPanic.normal ?_
  go_wp2_with fail
  have hlA := rowN_lt hA2
  have hlB := rowN_lt hB2
  have hlR := rowN_lt hR2
  obtain ⟨G, hG⟩ : ∃ G, w2.heap.size = G := ⟨_, rfl⟩
  have hG0 : w.heap.size + 1 + 1 < G := by omega
  have hA3 : rowN (w2.alloc (.cells (wdA 17 0) 98)) w.heap.size = some (natA v) := by rw [rowN_alloc, if_neg (by omega)]; exact hA2
  have hB3 : rowN (w2.alloc (.cells (wdA 17 0) 98)) (w.heap.size + 1) = some (natA u) := by rw [rowN_alloc, if_neg (by omega)]; exact hB2
  have hR3 : rowN (w2.alloc (.cells (wdA 17 0) 98)) (w.heap.size + 1 + 1) = some (natA 0) := by rw [rowN_alloc, if_neg (by omega)]; exact hR2
  have hG3 : rowN (w2.alloc (.cells (wdA 17 0) 98)) G = some (wdA 17 0) := by rw [rowN_alloc, if_pos hG.symm]
  have hbel3 : Below w.heap.size w (w2.alloc (.cells (wdA 17 0) 98)) := HBel2.out.alloc HBel2.out.size _
  have HA3 := Lib.hid hA3
  have HB3 := Lib.hid hB3
  have HR3 := Lib.hid hR3
  have HG3 := Lib.hid hG3
  have HBel3 := Lib.hid hbel3
  rw [hG]
  clear hA hB hR hA1 hB1 hR1 hA2 hB2 hR2 hlA hlB hlR hA3 hB3 hR3 hG3 hbel3 hG HBel HBel1 HBel2
  go_loopw [28] (fun s wr => ∃ i : Nat, i ≤ n ∧ s = .int .i64 (i : Nat) ∧ rowN wr w.heap.size = some (natA v) ∧ rowN wr (w.heap.size + 1) = some (natA u) ∧ rowN wr (w.heap.size + 1 + 1) = some (natA 0) ∧ rowN wr G = some (wdA 17 (v % P64 ^ i * u)) ∧ Below w.heap.size w wr)
    (fun s _ => n - (intOf s).toNat)
  case atStart => exact ⟨0, by omega, rfl, HA3.out, HB3.out, HR3.out, by rw [Nat.pow_zero, Nat.mod_one, Nat.zero_mul]; exact HG3.out, HBel3.out⟩
  case round =>
    obtain ⟨i, hin, rfl, hA, hB, hR, hGr, hbel⟩ := hrel
    have hlG := rowN_lt hGr
    have HBel := Lib.hid hbel
    have HA := Lib.hid hA
    have HB := Lib.hid hB
    have HR := Lib.hid hR
    have HG := Lib.hid hGr
    by_cases hlt : i < n
    · have hca := (rowN_cell hA).1 i
      rw [natA_get v i (by omega)] at hca
      obtain ⟨a, ha⟩ : ∃ a, dgt P64 v i = a := ⟨_, rfl⟩
      have hal : a < P64 := by rw [← ha]; exact dgt_lt P64_pos
      rw [ha] at hca
      have HDA := Lib.hid ha
      obtain ⟨P, hP⟩ : ∃ P, v % P64 ^ i * u = P := ⟨_, rfl⟩
      rw [hP] at hGr
      have HP := Lib.hid hP
      have hs3 : ∀ g W, (Instr.sliceAt 98 (.pointer (some ⟨g, 0, none⟩)) (some (.int .i64 (i : Nat))) (some (.int .i64 ((i : Int) + (m : Int)))) none).run Try.prog W = .ok (.slice (some ⟨g, i, none⟩) m (17 - i)) W := fun g W => by
        have h5 := run_slice84_lh g i (i + m) (by omega) (by omega) (by omega) W
        rwa [Int.natCast_add, Nat.add_sub_cancel_left] at h5
      have e1 : IntKind.i64.wrap ((i : Int) + (m : Int)) = (i : Int) + (m : Int) := IntWalk.i64_in _ (by omega)
      obtain ⟨Wd, hWd⟩ : ∃ Wd, ((wr.alloc (.cells #[.int .u64 (a : Nat)] 24)).alloc (.cells #[.int .u64 0] 24)).drew = Wd := ⟨_, rfl⟩
      have hbd : Below wr.heap.size wr Wd := by rw [← hWd]; exact (((Below.refl _ _).alloc (Nat.le_refl _) _).alloc (by simp) _).drew
      have hAd := kept2 hbd hA
      have hBd := kept2 hbd hB
      have hRd := kept2 hbd hR
      have hGd := kept2 hbd hGr
      have hFd : rowN Wd wr.heap.size = some #[.int .u64 (a : Nat)] := by
        rw [← hWd]; simp only [rowN_drew, rowN_alloc, World.size_alloc, if_true] <;> (repeat rw [if_neg (by omega)])
      have hCd : rowN Wd (wr.heap.size + 1) = some #[.int .u64 0] := by
        rw [← hWd]; simp only [rowN_drew, rowN_alloc, World.size_alloc, if_true] <;> (repeat rw [if_neg (by omega)])
      have hCar : Carry2 wr.heap.size (wr.heap.size + 1) a (fun k => (mrow P64 a u P i k).2) 0 Wd := ⟨by rw [(rowN_cell hFd).1]; rfl, by rw [(rowN_cell hCd).1]; rfl, (rowN_cell hCd).2 0⟩
      have HBd := Lib.hid (hbel.trans (hbd.mono hbel.size))
      have hCM := combine_mul a u P i m (17 - i) 16 G (w.heap.size + 1) wr.heap.size (wr.heap.size + 1) hal (by omega) hm (by omega) (by omega) (by omega) (by omega) (by omega) Wd hGd hBd hCar
      have HCM := Lib.hid hCM
      have HAd := Lib.hid hAd
      have HBB := Lib.hid hBd
      have HRd := Lib.hid hRd
      have HGd := Lib.hid hGd
      have lA := rowN_lt hAd
      have lB := rowN_lt hBd
      have lR := rowN_lt hRd
      have hmc := mrow_carry (u := u) (P := P) (i := i) P64_pos hal m
      have HEND := Lib.hid (mrow_end (v := v) (i := i) P64_pos HNU.out)
      rw [HDA.out, HP.out] at HEND
      have HMC := Lib.hid hmc
      have hWl : Wd.heap.size ≤ Wd.heap.size := Nat.le_refl _
      clear ha hA hB hR hGr hbel hP hbd hAd hBd hRd hGd hFd hCd hCar hCM hmc HBel HA HB HR HG hWl
      go_wp2_with fail
      clear hHeld0 hHeld1 hHeld2
      go_region_with ((go_at_call 74; refine HCM.out.mono ?_; rintro e w5 ⟨rfl, hG5, hC5, hch5⟩; have hc5 := hC5.2.1; have hf5 := hC5.2.2; have HG5 := Lib.hid hG5; have HCH := Lib.hid hch5; clear hC5 hch5))
      all_goals
        clear hWd
        have hch := HCH.out
        have hG6 : rowN w5 G = some (wdA 17 (mrow P64 a u P i m).1) := HG5.out
        have hA6 := (hch.row lA (by omega)).trans HAd.out
        have hB6 := (hch.row lB (by omega)).trans HBB.out
        have hR6 := (hch.row lR (by omega)).trans HRd.out
        have hb6 := HBd.out.trans (hch.below w.heap.size HBd.out.size (by rintro k (h | h) <;> omega))
        have hcg := (rowN_cell hG6).1 (i + m)
        rw [wdA_get _ _ _ (by omega)] at hcg
        have hfg := (rowN_cell hG6).2 (i + m)
        have HB7 := Lib.hid hb6
        have HA7 := Lib.hid hA6
        have HB8 := Lib.hid hB6
        have HR7 := Lib.hid hR6
        have HG7 := Lib.hid hG6
        clear hch hA6 hB6 hR6 hb6 hG6
        obtain ⟨c, hc⟩ : ∃ c, (mrow P64 a u P i m).2 = c := ⟨_, rfl⟩
        rw [hc] at hc5
        have HC := Lib.hid hc
        clear hc
        go_wp2_with fail
        refine ⟨⟨i + 1, by omega, rfl, ?_, ?_, ?_, ?_, HB7.out.setCell (by show w.heap.size ≤ G; omega) _⟩, by simp [intOf]; omega⟩
        · rw [rowN_setCell, if_neg (by show ¬ w.heap.size = G; omega)]; exact HA7.out
        · rw [rowN_setCell, if_neg (by show ¬ w.heap.size + 1 = G; omega)]; exact HB8.out
        · rw [rowN_setCell, if_neg (by show ¬ w.heap.size + 1 + 1 = G; omega)]; exact HR7.out
        · rw [rowN_setCell, if_pos rfl, HG7.out, ← HEND.out, HC.out, ← wdA_setD 17 _ (i + m) c (by rw [← HC.out]; exact HMC.out)]; rfl
    · obtain rfl : i = n := by omega
      rw [Nat.mod_eq_of_lt HNV.out] at HG
      have hc16 := (rowN_cell HG.out).1 16
      rw [wdA_get _ _ _ (by omega)] at hc16
      obtain ⟨d, hd⟩ : ∃ d, dgt P64 (v * u) 16 = d := ⟨_, rfl⟩
      rw [hd] at hc16
      have HD := Lib.hid hd
      have hX17 : v * u < P64 ^ 17 := by
        have h6 : v * u < P64 ^ i * P64 ^ m := Nat.mul_lt_mul'' HNV.out HNU.out
        rw [← Nat.pow_add] at h6
        exact Nat.lt_of_lt_of_le h6 (Nat.pow_le_pow_right P64_pos h)
      have hdd : d = v * u / P64 ^ 16 := by
        rw [← hd]; unfold dgt
        exact Nat.mod_eq_of_lt (by rw [Nat.div_lt_iff_lt_mul (Nat.pow_pos P64_pos), show P64 * P64 ^ 16 = P64 ^ 17 by rw [Nat.mul_comm, ← Nat.pow_succ]]; exact hX17)
      clear hd hX17 hA hB hR hGr hbel
      by_cases hf : v * u < P64 ^ 16
      · rw [Nat.div_eq_of_lt hf] at hdd
        subst hdd
        have hmV : mulV v u = v * u := by unfold mulV; rw [if_pos hf]
        have hmE : mulE v u = 0 := by unfold mulE; rw [if_pos hf]
        have HMV := Lib.hid hmV
        have HME := Lib.hid hmE
        clear hmV hmE hf hHeld0 hHeld1 hHeld2
        go_wp2_with fail
        have hsa := run_slice26_all wr.heap.size
        have hsb := run_slice84_16 G
        have hG8 : rowN (wr.alloc (.cells (natA 0) 28)).drew G = some (wdA 17 (v * u)) := by rw [rowN_drew, rowN_alloc, if_neg (by omega)]; exact HG.out
        have hR8 : rowN (wr.alloc (.cells (natA 0) 28)).drew wr.heap.size = some (natA 0) := by rw [rowN_drew, rowN_alloc, if_pos rfl]
        have hcopy := copy_nat (wr.alloc (.cells (natA 0) 28)).drew wr.heap.size G (v * u) 0 hR8 hG8
        have hRR : rowN (wr.alloc (.cells (natA 0) 28)).drew (w.heap.size + 1 + 1) = some (natA 0) := by rw [rowN_drew, rowN_alloc, if_neg (by have := rowN_lt HR.out; omega)]; exact HR.out
        have hneR : ¬ w.heap.size + 1 + 1 = wr.heap.size := by have := rowN_lt HR.out; omega
        have hbel8 : Below w.heap.size w (wr.alloc (.cells (natA 0) 28)).drew := (HBel.out.alloc HBel.out.size _).drew
        have HB8 := Lib.hid hbel8
        have hsz8 : w.heap.size ≤ wr.heap.size := HBel.out.size
        clear hG8 hbel8
        go_region
        all_goals
          have hX : rowN ((wr.alloc (.cells (natA 0) 28)).drew.setRow wr.heap.size (natA (v * u))) wr.heap.size = some (natA (v * u)) := by rw [rowN_setRow, if_pos rfl, hR8]; rfl
          have hY : rowN ((wr.alloc (.cells (natA 0) 28)).drew.setRow wr.heap.size (natA (v * u))) (w.heap.size + 1 + 1) = some (natA 0) := by rw [rowN_setRow, if_neg hneR]; exact hRR
          have HB9 := Lib.hid (below_setRow' HB8.out hsz8 (natA (v * u)))
          clear hcopy hRR hR8
          generalize (wr.alloc (.cells (natA 0) 28)).drew.setRow wr.heap.size (natA (v * u)) = W9 at *
          go_wp2_with fail
          exact ret_nat_tmp _ (natA (v * u)) rfl rfl rfl (by simp [rowN_setRow, hY]) (natA_size _) ⟨by rw [HMV.out, HME.out]; rfl, below_setRow' HB9.out (by omega) _⟩
      · have hd0 : d ≠ 0 := by
          rw [hdd]
          exact Nat.ne_of_gt (Nat.div_pos (by omega) (Nat.pow_pos P64_pos))
        have hdn : ((d : Int) != 0) = true := by simp; omega
        have hmV : mulV v u = 0 := by unfold mulV; rw [if_neg hf]
        have hmE : mulE v u = 7 := by unfold mulE; rw [if_neg hf]
        have HMV := Lib.hid hmV
        have HME := Lib.hid hmE
        have hR := HR.out
        clear hmV hmE hf hdd hd0 hHeld0 hHeld1 hHeld2
        go_wp2_with fail
        exact ret_nat_tmp _ (natA 0) rfl rfl rfl (by simp [rowN_setRow, hR]) (natA_size _) ⟨by rw [HMV.out, HME.out]; rfl, below_setRow' HBel.out (by omega) _⟩

theorem mul_fits (v u : Nat) (hv : v < P64 ^ 16) (hu : u < P64 ^ 16) (h : v * u < P64 ^ 16) (w : World) : Calls Try.prog 66 #[.agg (natA v), .agg (natA u)] w fun e w' =>
    e = .returned (.tuple #[.agg (natA (v * u)), .int .i64 0]) ∧ Below w.heap.size w w' := by
  have hs : natLen v + natLen u ≤ 17 := by
    have h3 := natLen_le hv
    have h4 := natLen_le hu
    rcases Nat.lt_or_ge 17 (natLen v + natLen u) with h2 | h2
    · exact absurd h (mul_wide h2 h3 h4)
    · exact h2
  have := mul_any_short v u hv hu hs w
  unfold mulV mulE at this
  rwa [if_pos h, if_pos h] at this
theorem mul_full (v u : Nat) (hv : v < P64 ^ 16) (hu : u < P64 ^ 16) (h : ¬ v * u < P64 ^ 16) (w : World) : Calls Try.prog 66 #[.agg (natA v), .agg (natA u)] w fun e w' =>
    e = .returned (.tuple #[.agg (natA 0), .int .i64 7]) ∧ Below w.heap.size w w' := by
  rcases Nat.lt_or_ge 17 (natLen v + natLen u) with h2 | h2
  · exact mul_any_wide v u hv hu h2 w
  · have := mul_any_short v u hv hu h2 w
    unfold mulV mulE at this
    rwa [if_neg h, if_neg h] at this
end Go.Proofs.Ytlmfiggmjpjpiaa
