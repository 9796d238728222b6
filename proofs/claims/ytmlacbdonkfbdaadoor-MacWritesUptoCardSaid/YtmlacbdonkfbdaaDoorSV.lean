/- Copy of a Hash. -/
import Derived.Test.YtmlacbdonkfbdaaDoorSU
namespace Go.Proofs.YtmlacbdonkfbdaaDoor
open Go.RowKit

theorem hashA_size {st tl : List Nat} (hs : st.length = 8) (ht : tl.length = 64) (n : Nat) : (hashA st tl n).size = 73 := by
  unfold hashA; rw [stA_size hs, Array.size_append, arr_size, ht]; rfl
theorem hashA_oneCell (st tl : List Nat) (n : Nat) : ∀ x ∈ (hashA st tl n).toList, x.oneCell' = true := by
  intro x hx
  unfold hashA stA at hx
  rw [Array.toList_append, Array.toList_append] at hx
  rcases List.mem_append.1 hx with hx | hx
  · exact arr_oneCell _ _ x hx
  · rcases List.mem_append.1 hx with hx | hx
    · exact arr_oneCell _ _ x hx
    · have : x = .int .i64 (n : Nat) := by simpa using hx
      rw [this]; rfl
theorem run_loadVar38 (W : World) (g : Nat) : (loadVar 54 ⟨g, 0, none⟩).run Tryd.prog W = rowLoad 73 54 W g (rowN W g) := run_loadVar_rowLoad 73 54 _ rfl Tryd.underlying54 (by kernel_rfl) W g
theorem run_storeVar38 (W : World) (g : Nat) (st tl : List Nat) (n : Nat) (hs : st.length = 8) (ht : tl.length = 64) : (storeVar 54 ⟨g, 0, none⟩ (.agg (hashA st tl n))).run Tryd.prog W = rowStore 73 54 W g (hashA st tl n) (rowN W g) := run_storeVar_rowStore 73 54 (by kernel_rfl) W g _ (hashA_size hs ht n) (hashA_oneCell _ _ _)
section
variable (ρ : Operand → Value) (dst : Option Tmp) (x y : Operand) (ty : TypeId) (pos : String) (after : Array Edge) (guard : Option (Nat × Bool))
@[go_sem ↓] theorem execOp_load38 : execOp ρ { dst, op := .load 54 x, type := ty, pos, after, guard } = arLoad 54 (ρ x) := rfl
@[go_sem ↓] theorem execOp_store38 : execOp ρ { dst, op := .store 54 x y, type := ty, pos, after, guard } = arStore 54 (ρ x) (ρ y) := rfl
end
@[go_sem] theorem run_arLoad38 (W : World) (g : Nat) : (arLoad 54 (.pointer (some ⟨g, 0, none⟩))).run Tryd.prog W = (rowLoad 73 54 W g (rowN W g)).andThen fun v w => .ok (.value v) w := run_arLoad run_loadVar38 W g
@[go_sem] theorem run_arStore38 (W : World) (g : Nat) (st tl : List Nat) (n : Nat) (hs : st.length = 8) (ht : tl.length = 64) : (arStore 54 (.pointer (some ⟨g, 0, none⟩)) (.agg (hashA st tl n))).run Tryd.prog W = (rowStore 73 54 W g (hashA st tl n) (rowN W g)).andThen fun _ w => .ok .skip w := run_arStore (run_storeVar38 W g st tl n hs ht)
theorem run_zero38 (W : World) : (zeroValue 54).run Tryd.prog W = .ok (.agg (hashA zero8 z64 0)) W := by unfold hashA stA; kernel_rfl
attribute [go_sem ↓] run_zero38

set_option maxRecDepth 100000 in
theorem copy_nil (w : World) : Calls Tryd.prog 26 #[.pointer none] w fun e w' => e = .returned (.pointer none) ∧ w = w' := by
  have hq : ∀ w, (binOp BinOp.eql 64 (.pointer none) (.pointer none)).run Tryd.prog w = .ok (.bool true) w := fun w => by kernel_rfl
  go_enter Tryd.func26, Tryd.ntmps26
  go_wp2_with fail
  go_ret
  exact ⟨rfl, rfl⟩
set_option maxRecDepth 100000 in
theorem copy_any (g n : Nat) (st tl : List Nat) (hs : st.length = 8) (ht : tl.length = 64) (w : World) (hr : rowN w g = some (hashA st tl n)) :
    Calls Tryd.prog 26 #[.pointer (some ⟨g, 0, none⟩)] w fun e w' => e = .returned (.pointer (some ⟨w.heap.size, 0, none⟩)) ∧ rowN w' w.heap.size = some (hashA st tl n) ∧ Below w.heap.size w w' := by
  have sz := hashA_size hs ht n
  have sz0 : (hashA zero8 z64 0).size = 73 := hashA_size rfl z64_len 0
  have hg := rowN_lt hr
  go_enter Tryd.func26, Tryd.ntmps26
  go_wp2_with fail
  go_ret
  refine ⟨rfl, ?_, ?_⟩
  · first | (rw [rowN_alloc, if_pos rfl]) | (exact row_new (by rw [rowN_alloc, if_pos rfl]))
  · first | exact (Below.refl _ w).alloc (Nat.le_refl _) _ | exact below_setRow' ((Below.refl _ w).alloc (Nat.le_refl _) _) (Nat.le_refl _) _
end Go.Proofs.YtmlacbdonkfbdaaDoor
