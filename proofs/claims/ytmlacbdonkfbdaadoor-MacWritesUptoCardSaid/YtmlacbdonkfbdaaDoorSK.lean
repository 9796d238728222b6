/- The walk's rules for rows: a block of cells that nothing has frozen, read and written whole or cell by cell. -/
import Derived.Test.YtmlacbdonkfbdaaDoorRows
import Derived.WalkKit
import Derived.WalkSpells
import Derived.WalkLawsBesides
import Derived.Lib.Hide
import Derived.Handy
import Derived.LaidEql
import Derived.ChangeKeysEq
import Derived.IntWalk
import Derived.Test.YtmlacbdonkfbdaaDoorSA
namespace Go.Proofs.YtmlacbdonkfbdaaDoor
open Go.RowKit

/-- The cells of a block that nothing has frozen. -/
def rowN (w : World) (g : Nat) : Option (Array Value) := match w.heap[g]? with
  | some (.cells cs _ fr) => if fr = (0, 0) then some cs else none
  | _ => none

theorem rowN_some {w : World} {g : Nat} {cs : Array Value} (h : rowN w g = some cs) : ∃ t, w.heap[g]? = some (.cells cs t (0, 0)) := by
  unfold rowN at h
  split at h
  · rename_i c t fr e
    split at h
    · rename_i hf; subst hf; cases h; exact ⟨t, e⟩
    · cases h
  · cases h

@[go_sem] theorem rowN_alloc (w : World) (cs : Array Value) (t : TypeId) (g : Nat) : rowN (w.alloc (.cells cs t)) g = if g = w.heap.size then some cs else rowN w g := by
  unfold rowN
  by_cases h : g = w.heap.size
  · subst h
    rw [heap_alloc_new, if_pos rfl]; simp
  · rw [if_neg h]
    by_cases hl : g < w.heap.size
    · rw [heap_alloc_old _ _ hl]
    · have h1 : w.heap[g]? = none := by simp; omega
      have h2 : (w.alloc (.cells cs t)).heap[g]? = none := by
        rw [Array.getElem?_eq_none_iff]
        have : (w.alloc (.cells cs t)).heap.size = w.heap.size + 1 := by simp
        omega
      rw [h1, h2]

@[go_sem] theorem rowN_drew (w : World) (g : Nat) : rowN w.drew g = rowN w g := rfl

@[go_sem] theorem rowN_setCell (w : World) (a : Addr) (v : Value) (g : Nat) : rowN (w.setCell a v) g = if g = a.block then (rowN w g).map (fun c => if a.spot.isSome then c else c.setIfInBounds a.off v) else rowN w g := by
  unfold rowN World.setCell
  simp only [Array.getElem?_modify]
  by_cases h : g = a.block
  · subst h
    simp only [if_true]
    cases w.heap[a.block]? with
    | none => rfl
    | some o =>
      cases o <;> simp
  · rw [if_neg h, if_neg (fun e => h e.symm)]

@[go_sem] theorem rowN_setRow (w : World) (b : Nat) (cs : Array Value) (g : Nat) : rowN (w.setRow b cs) g = if g = b then (rowN w g).map (fun _ => cs) else rowN w g := by
  unfold rowN World.setRow
  simp only [Array.getElem?_modify]
  by_cases h : g = b
  · subst h
    simp only [if_true]
    cases w.heap[g]? with
    | none => rfl
    | some o =>
      cases o <;> simp
  · rw [if_neg h, if_neg (fun e => h e.symm)]

/-- What a row of n cells is read as. -/
noncomputable def rowLoad (n : Nat) (t : TypeId) (W : World) (g : Nat) : Option (Array Value) → Result Value
  | some cs => if cs.size = n then .ok (.agg cs) W else (loadVar t ⟨g, 0, none⟩).run Tryd.prog W
  | none => (loadVar t ⟨g, 0, none⟩).run Tryd.prog W

@[go_sem] theorem rowLoad_some (n : Nat) (t : TypeId) (W : World) (g : Nat) (cs : Array Value) (h : cs.size = n) : rowLoad n t W g (some cs) = .ok (.agg cs) W := by
  simp [rowLoad, h]

theorem run_loadVar_rowLoad (n : Nat) (t : TypeId) (d : TypeDesc) (hd : (match d with | .struct _ | .array _ _ => true | _ => false) = true) (hu : Tryd.prog.underlying t = some d) (hi : (Tryd.prog.info? t).map (·.size) = some n) (W : World) (g : Nat) :
    (loadVar t ⟨g, 0, none⟩).run Tryd.prog W = rowLoad n t W g (rowN W g) := by
  cases h : rowN W g with
  | none => rfl
  | some cs =>
    by_cases hs : cs.size = n
    · simp only [rowLoad, if_pos hs]
      obtain ⟨t', hg⟩ := rowN_some h
      exact run_loadVar_row W g t' t cs (0, 0) d hg hu (by cases d <;> first | rfl | exact hd) (by rw [hi, hs])
    · simp only [rowLoad, if_neg hs]

/-- An array of numbers of one kind. -/
@[irreducible] def arr (k : IntKind) (l : List Nat) : Array Value := (l.map fun x => Value.int k (x : Nat)).toArray
theorem arr_size (k : IntKind) (l : List Nat) : (arr k l).size = l.length := by unfold arr; simp
theorem arr_get? (k : IntKind) (l : List Nat) (i : Nat) : (arr k l)[i]? = (l[i]?).map fun x => Value.int k (x : Nat) := by unfold arr; simp
theorem arr_get (k : IntKind) (l : List Nat) (i : Nat) (h : i < l.length) : (arr k l)[i]? = some (.int k (l.getD i 0 : Nat)) := by
  rw [arr_get?, List.getElem?_eq_getElem h]; simp [List.getD, h]
theorem arr_set (k : IntKind) (l : List Nat) (i x : Nat) : (arr k l).setIfInBounds i (.int k (x : Nat)) = arr k (l.set i x) := by
  unfold arr; simp
theorem arr_toList (k : IntKind) (l : List Nat) : (arr k l).toList = l.map fun x => Value.int k (x : Nat) := by unfold arr; simp
theorem arr_lit (k : IntKind) (l : List Nat) : arr k l = (l.map fun x => Value.int k (x : Nat)).toArray := by unfold arr; rfl
theorem arr_oneCell (k : IntKind) (l : List Nat) : ∀ x ∈ (arr k l).toList, x.oneCell' = true := by
  intro x hx
  rw [arr_toList] at hx
  obtain ⟨i, _, rfl⟩ := List.mem_map.1 hx
  rfl

/-- Storing a row of n cells. -/
noncomputable def rowStore (n : Nat) (t : TypeId) (W : World) (g : Nat) (cs : Array Value) : Option (Array Value) → Result Unit
  | some old => if old.size = n then .ok () (W.setRow g cs) else (storeVar t ⟨g, 0, none⟩ (.agg cs)).run Tryd.prog W
  | none => (storeVar t ⟨g, 0, none⟩ (.agg cs)).run Tryd.prog W

@[go_sem] theorem rowStore_some (n : Nat) (t : TypeId) (W : World) (g : Nat) (cs old : Array Value) (h : old.size = n) : rowStore n t W g cs (some old) = .ok () (W.setRow g cs) := by
  simp [rowStore, h]

theorem run_storeVar_rowStore (n : Nat) (t : TypeId) (hi : (Tryd.prog.info? t).map (·.size) = some n) (W : World) (g : Nat) (cs : Array Value) (hcs : cs.size = n) (h1 : ∀ x ∈ cs.toList, x.oneCell' = true) :
    (storeVar t ⟨g, 0, none⟩ (.agg cs)).run Tryd.prog W = rowStore n t W g cs (rowN W g) := by
  obtain ⟨i, hi, hs⟩ : ∃ i, Tryd.prog.info? t = some i ∧ i.size = n := by
    cases e : Tryd.prog.info? t with
    | none => rw [e] at hi; cases hi
    | some i => exact ⟨i, rfl, by rw [e] at hi; simpa using hi⟩
  cases h : rowN W g with
  | none => rfl
  | some old =>
    by_cases ho : old.size = n
    · simp only [rowStore, if_pos ho]
      obtain ⟨t', hg⟩ := rowN_some h
      have hst := run_storeCells_at (P := Tryd.prog) g 0 t' cs.toList 0 old W hg (by simp [hcs, ho]) h1
      have hsz : (sizeOf t).run Tryd.prog W = .ok n W := by simp [sizeOf, typeInfo, hi, hs]
      have e : (old.toList.take (0 + 0) ++ cs.toList ++ old.toList.drop (0 + 0 + cs.toList.length)).toArray = cs := by
        simp [hcs, List.drop_eq_nil_of_le, ho]
      rw [e] at hst
      simp only [storeVar, Sem.run_bind, hsz, Result.andThen_ok, Value.cells, hcs, ne_eq, not_true_eq_false, if_false]
      exact hst
    · simp only [rowStore, if_neg ho]

theorem run_loadVar34 (W : World) (g : Nat) : (loadVar 51 ⟨g, 0, none⟩).run Tryd.prog W = rowLoad 8 51 W g (rowN W g) := run_loadVar_rowLoad 8 51 _ rfl Tryd.underlying51 (by kernel_rfl) W g
theorem run_loadVar35 (W : World) (g : Nat) : (loadVar 52 ⟨g, 0, none⟩).run Tryd.prog W = rowLoad 8 52 W g (rowN W g) := run_loadVar_rowLoad 8 52 _ rfl Tryd.underlying52 (by kernel_rfl) W g
theorem run_loadVar65 (W : World) (g : Nat) : (loadVar 89 ⟨g, 0, none⟩).run Tryd.prog W = rowLoad 64 89 W g (rowN W g) := run_loadVar_rowLoad 64 89 _ rfl Tryd.underlying89 (by kernel_rfl) W g
theorem run_loadVar24 (W : World) (g : Nat) : (loadVar 27 ⟨g, 0, none⟩).run Tryd.prog W = rowLoad 32 27 W g (rowN W g) := run_loadVar_rowLoad 32 27 _ rfl Tryd.underlying27 (by kernel_rfl) W g
theorem run_loadVar50 (W : World) (g : Nat) : (loadVar 68 ⟨g, 0, none⟩).run Tryd.prog W = rowLoad 8 68 W g (rowN W g) := run_loadVar_rowLoad 8 68 _ rfl Tryd.underlying68 (by kernel_rfl) W g
theorem run_storeVar34 (W : World) (g : Nat) (l : List Nat) (h : l.length = 8) : (storeVar 51 ⟨g, 0, none⟩ (.agg (arr .u32 l))).run Tryd.prog W = rowStore 8 51 W g (arr .u32 l) (rowN W g) := run_storeVar_rowStore 8 51 (by kernel_rfl) W g _ (by rw [arr_size, h]) (arr_oneCell _ _)
theorem run_storeVar35 (W : World) (g : Nat) (l : List Nat) (h : l.length = 8) : (storeVar 52 ⟨g, 0, none⟩ (.agg (arr .u32 l))).run Tryd.prog W = rowStore 8 52 W g (arr .u32 l) (rowN W g) := run_storeVar_rowStore 8 52 (by kernel_rfl) W g _ (by rw [arr_size, h]) (arr_oneCell _ _)
theorem run_storeVar65 (W : World) (g : Nat) (l : List Nat) (h : l.length = 64) : (storeVar 89 ⟨g, 0, none⟩ (.agg (arr .u32 l))).run Tryd.prog W = rowStore 64 89 W g (arr .u32 l) (rowN W g) := run_storeVar_rowStore 64 89 (by kernel_rfl) W g _ (by rw [arr_size, h]) (arr_oneCell _ _)
theorem run_storeVar24 (W : World) (g : Nat) (l : List Nat) (h : l.length = 32) : (storeVar 27 ⟨g, 0, none⟩ (.agg (arr .u8 l))).run Tryd.prog W = rowStore 32 27 W g (arr .u8 l) (rowN W g) := run_storeVar_rowStore 32 27 (by kernel_rfl) W g _ (by rw [arr_size, h]) (arr_oneCell _ _)
theorem run_storeVar50 (W : World) (g : Nat) (l : List Nat) (h : l.length = 8) : (storeVar 68 ⟨g, 0, none⟩ (.agg (arr .i64 l))).run Tryd.prog W = rowStore 8 68 W g (arr .i64 l) (rowN W g) := run_storeVar_rowStore 8 68 (by kernel_rfl) W g _ (by rw [arr_size, h]) (arr_oneCell _ _)

/-! The operations on arrays, taken whole. -/
def arLoad (t : TypeId) (x : Value) : Sem Next := do pure (.value (← Instr.loadAt t x))
def arStore (t : TypeId) (a x : Value) : Sem Next := do Instr.storeAt t a x; pure .skip
section
variable (ρ : Operand → Value) (dst : Option Tmp) (x y : Operand) (ty : TypeId) (pos : String) (after : Array Edge) (guard : Option (Nat × Bool))
@[go_sem ↓] theorem execOp_load34 : execOp ρ { dst, op := .load 51 x, type := ty, pos, after, guard } = arLoad 51 (ρ x) := rfl
@[go_sem ↓] theorem execOp_load35 : execOp ρ { dst, op := .load 52 x, type := ty, pos, after, guard } = arLoad 52 (ρ x) := rfl
@[go_sem ↓] theorem execOp_load65 : execOp ρ { dst, op := .load 89 x, type := ty, pos, after, guard } = arLoad 89 (ρ x) := rfl
@[go_sem ↓] theorem execOp_load24 : execOp ρ { dst, op := .load 27 x, type := ty, pos, after, guard } = arLoad 27 (ρ x) := rfl
@[go_sem ↓] theorem execOp_load50 : execOp ρ { dst, op := .load 68 x, type := ty, pos, after, guard } = arLoad 68 (ρ x) := rfl
@[go_sem ↓] theorem execOp_store34 : execOp ρ { dst, op := .store 51 x y, type := ty, pos, after, guard } = arStore 51 (ρ x) (ρ y) := rfl
@[go_sem ↓] theorem execOp_store35 : execOp ρ { dst, op := .store 52 x y, type := ty, pos, after, guard } = arStore 52 (ρ x) (ρ y) := rfl
@[go_sem ↓] theorem execOp_store65 : execOp ρ { dst, op := .store 89 x y, type := ty, pos, after, guard } = arStore 89 (ρ x) (ρ y) := rfl
@[go_sem ↓] theorem execOp_store24 : execOp ρ { dst, op := .store 27 x y, type := ty, pos, after, guard } = arStore 27 (ρ x) (ρ y) := rfl
@[go_sem ↓] theorem execOp_store50 : execOp ρ { dst, op := .store 68 x y, type := ty, pos, after, guard } = arStore 68 (ρ x) (ρ y) := rfl
end
theorem run_arLoad {t n : Nat} (hl : ∀ (W : World) (g : Nat), (loadVar t ⟨g, 0, none⟩).run Tryd.prog W = rowLoad n t W g (rowN W g)) (W : World) (g : Nat) :
    (arLoad t (.pointer (some ⟨g, 0, none⟩))).run Tryd.prog W = (rowLoad n t W g (rowN W g)).andThen fun v w => .ok (.value v) w := by
  rw [← hl]
  simp [arLoad, Instr.loadAt, Instr.sureAddr]
@[go_sem] theorem run_arLoad34 (W : World) (g : Nat) : (arLoad 51 (.pointer (some ⟨g, 0, none⟩))).run Tryd.prog W = (rowLoad 8 51 W g (rowN W g)).andThen fun v w => .ok (.value v) w := run_arLoad run_loadVar34 W g
@[go_sem] theorem run_arLoad35 (W : World) (g : Nat) : (arLoad 52 (.pointer (some ⟨g, 0, none⟩))).run Tryd.prog W = (rowLoad 8 52 W g (rowN W g)).andThen fun v w => .ok (.value v) w := run_arLoad run_loadVar35 W g
@[go_sem] theorem run_arLoad65 (W : World) (g : Nat) : (arLoad 89 (.pointer (some ⟨g, 0, none⟩))).run Tryd.prog W = (rowLoad 64 89 W g (rowN W g)).andThen fun v w => .ok (.value v) w := run_arLoad run_loadVar65 W g
@[go_sem] theorem run_arLoad24 (W : World) (g : Nat) : (arLoad 27 (.pointer (some ⟨g, 0, none⟩))).run Tryd.prog W = (rowLoad 32 27 W g (rowN W g)).andThen fun v w => .ok (.value v) w := run_arLoad run_loadVar24 W g
@[go_sem] theorem run_arLoad50 (W : World) (g : Nat) : (arLoad 68 (.pointer (some ⟨g, 0, none⟩))).run Tryd.prog W = (rowLoad 8 68 W g (rowN W g)).andThen fun v w => .ok (.value v) w := run_arLoad run_loadVar50 W g
theorem run_arStore {t n : Nat} {W : World} {g : Nat} {cs : Array Value} (hl : (storeVar t ⟨g, 0, none⟩ (.agg cs)).run Tryd.prog W = rowStore n t W g cs (rowN W g)) :
    (arStore t (.pointer (some ⟨g, 0, none⟩)) (.agg cs)).run Tryd.prog W = (rowStore n t W g cs (rowN W g)).andThen fun _ w => .ok .skip w := by
  rw [← hl]
  simp [arStore, Instr.storeAt, Instr.sureAddr]
@[go_sem] theorem run_arStore34 (W : World) (g : Nat) (l : List Nat) (h : l.length = 8) : (arStore 51 (.pointer (some ⟨g, 0, none⟩)) (.agg (arr .u32 l))).run Tryd.prog W = (rowStore 8 51 W g (arr .u32 l) (rowN W g)).andThen fun _ w => .ok .skip w := run_arStore (run_storeVar34 W g l h)
@[go_sem] theorem run_arStore35 (W : World) (g : Nat) (l : List Nat) (h : l.length = 8) : (arStore 52 (.pointer (some ⟨g, 0, none⟩)) (.agg (arr .u32 l))).run Tryd.prog W = (rowStore 8 52 W g (arr .u32 l) (rowN W g)).andThen fun _ w => .ok .skip w := run_arStore (run_storeVar35 W g l h)
@[go_sem] theorem run_arStore65 (W : World) (g : Nat) (l : List Nat) (h : l.length = 64) : (arStore 89 (.pointer (some ⟨g, 0, none⟩)) (.agg (arr .u32 l))).run Tryd.prog W = (rowStore 64 89 W g (arr .u32 l) (rowN W g)).andThen fun _ w => .ok .skip w := run_arStore (run_storeVar65 W g l h)
@[go_sem] theorem run_arStore24 (W : World) (g : Nat) (l : List Nat) (h : l.length = 32) : (arStore 27 (.pointer (some ⟨g, 0, none⟩)) (.agg (arr .u8 l))).run Tryd.prog W = (rowStore 32 27 W g (arr .u8 l) (rowN W g)).andThen fun _ w => .ok .skip w := run_arStore (run_storeVar24 W g l h)
@[go_sem] theorem run_arStore50 (W : World) (g : Nat) (l : List Nat) (h : l.length = 8) : (arStore 68 (.pointer (some ⟨g, 0, none⟩)) (.agg (arr .i64 l))).run Tryd.prog W = (rowStore 8 68 W g (arr .i64 l) (rowN W g)).andThen fun _ w => .ok .skip w := run_arStore (run_storeVar50 W g l h)

/-! What a world made of new blocks alone keeps. -/
theorem below_setRow' {B g : Nat} {w0 w : World} (hb : Below B w0 w) (hBg : B ≤ g) (cs : Array Value) : Below B w0 (w.setRow g cs) :=
  hb.trans ⟨rfl, rfl, rfl, by simp [World.setRow], fun k hk => setRow_other w g k cs (by omega)⟩
theorem brow {W w1 : World} (hb : Below W.heap.size W w1) : ∀ g, g < W.heap.size → rowN w1 g = rowN W g := fun g h => by
  unfold rowN; rw [hb.block g h]
theorem rowN_cell {w : World} {g : Nat} {cs : Array Value} (h : rowN w g = some cs) : (∀ o, w.cell? ⟨g, o, none⟩ = cs[o]?) ∧ (∀ o, w.frozen? ⟨g, o, none⟩ = false) := by
  obtain ⟨t, hg⟩ := rowN_some h
  exact ⟨fun o => cell_of_row w g o cs t (0, 0) hg, fun o => by simp [World.frozen?, hg]⟩
theorem rowN_lt {w : World} {g : Nat} {cs : Array Value} (h : rowN w g = some cs) : g < w.heap.size := by
  obtain ⟨t, hg⟩ := rowN_some h
  exact (Array.getElem?_eq_some_iff.1 hg).1
theorem grownBy_rowN {w w' : World} {row : Option Nat} (h : w.grownBy w' row) {g : Nat} (hl : g < w.heap.size) (hne : some g ≠ row) : rowN w' g = rowN w g := by
  unfold rowN; rw [h.block g hl hne]
theorem keptW {W w1 : World} (hb : Below W.heap.size W w1) {g : Nat} {cs : Array Value} (h : rowN W g = some cs) : rowN w1 g = some cs := by
  rw [brow hb _ (rowN_lt h)]; exact h
theorem row_cell0 {W : World} {b c o : Nat} {cs : Array Value} {x : Value} (h : rowN W b = some cs) (hne : b ≠ c) : rowN (W.setCell ⟨c, o, none⟩ x) b = some cs := by
  rw [rowN_setCell, if_neg hne]; exact h
theorem row_set0 {W : World} {b : Nat} {y x : Value} (h : rowN W b = some #[y]) : rowN (W.setCell ⟨b, 0, none⟩ x) b = some #[x] := by
  rw [rowN_setCell, if_pos rfl, h]; rfl
theorem row_arr {W : World} {b i x : Nat} {k : IntKind} {l : List Nat} (h : rowN W b = some (arr k l)) : rowN (W.setCell ⟨b, i, none⟩ (.int k (x : Nat))) b = some (arr k (l.set i x)) := by
  rw [rowN_setCell, if_pos rfl, h]; simp [arr_set]
theorem row_other {W : World} {b c : Nat} {cs ds : Array Value} (h : rowN W b = some cs) (hne : b ≠ c) : rowN (W.setRow c ds) b = some cs := by
  rw [rowN_setRow, if_neg hne]; exact h
theorem row_new {W : World} {b : Nat} {cs ds : Array Value} (h : rowN W b = some cs) : rowN (W.setRow b ds) b = some ds := by
  rw [rowN_setRow, if_pos rfl, h]; rfl
theorem cell_arr {W : World} {b i : Nat} {k : IntKind} {l : List Nat} (h : rowN W b = some (arr k l)) (hi : i < l.length) : W.cell? ⟨b, i, none⟩ = some (.int k (l.getD i 0 : Nat)) := by
  rw [(rowN_cell h).1]; exact arr_get k l i hi
theorem grownBy_refl (w : World) (r : Option Nat) : w.grownBy w r := ⟨rfl, rfl, rfl, Nat.le_refl _, fun _ _ _ => rfl⟩
theorem grownBy_trans {a b c : World} {r : Option Nat} (h : a.grownBy b r) (k : b.grownBy c r) : a.grownBy c r :=
  ⟨k.os.trans h.os, k.tape.trans h.tape, k.output.trans h.output, Nat.le_trans h.size k.size, fun i hi hr => (k.block i (Nat.lt_of_lt_of_le hi h.size) hr).trans (h.block i hi hr)⟩

/-! Results that lie in a block. -/
theorem ret_arr {fn : Func} {p : Tmp} {T n : Nat} {R : Ending → World → Prop} {a : Act} {w : World} (g : Nat) (cs : Array Value) (hl : ∀ (W : World) (g : Nat), (loadVar T ⟨g, 0, none⟩).run Tryd.prog W = rowLoad n T W g (rowN W g)) (h : fn.results = #[.cell p T])
    (hp : a.tmps.getD p undef = .pointer (some ⟨g, 0, none⟩)) (hd : a.defers = []) (hr : rowN w g = some cs) (hs : cs.size = n) (hR : R (.returned (.agg cs)) w) : bodyPost Tryd.prog fn R .ret a w := by
  refine bodyPost_ret (v := .agg cs) ?_ hd hR
  have hp' : a.tmps[p]?.getD undef = .pointer (some ⟨g, 0, none⟩) := by simpa using hp
  have hl' : (loadVar T ⟨g, 0, none⟩).run Tryd.prog w = .ok (.agg cs) w := by rw [hl, hr, rowLoad_some _ _ _ _ _ hs]
  simp [results, h, hp', asAddr, hl']
theorem ret_eq {v u : Value} (h : v = u) : Ending.returned v = .returned u := by rw [h]
end Go.Proofs.YtmlacbdonkfbdaaDoor
