/- The walk's rules for rows: a block of cells that nothing has frozen, read and written whole or cell by cell. -/
import Derived.Test.YtjcdbjapadgdfaaDoorRows
import Derived.WalkKit
import Derived.WalkSpells
import Derived.WalkLawsBesides
import Derived.Lib.Hide
import Derived.Handy
import Derived.LaidEql
import Derived.ChangeKeysEq
import Derived.IntWalk
import Derived.Deep.MidRow
import Derived.Test.YtjcdbjapadgdfaaDoorAA
namespace Go.Proofs.YtjcdbjapadgdfaaDoor
open Go.RowKit

/-- The cells of a block that nothing has frozen. -/
def rowN (w : World) (g : Nat) : Option (Array Value) := match w.heap[g]? with
  | some (.cells cs _ fr) => if fr = (0, 0) then some cs else none
  | _ => none

theorem rowN_some {w : World} {g : Nat} {cs : Array Value} (h : rowN w g = some cs) : ∃ t, w.heap[g]? = some (.cells cs t (0, 0)) := by
  unfold rowN at h
  split at h
  · rename_i c t fr e
    split at h
    · rename_i hf; subst hf; cases h; exact ⟨t, e⟩
    · cases h
  · cases h

@[go_sem] theorem rowN_alloc (w : World) (cs : Array Value) (t : TypeId) (g : Nat) : rowN (w.alloc (.cells cs t)) g = if g = w.heap.size then some cs else rowN w g := by
  unfold rowN
  by_cases h : g = w.heap.size
  · subst h
    rw [heap_alloc_new, if_pos rfl]; simp
  · rw [if_neg h]
    by_cases hl : g < w.heap.size
    · rw [heap_alloc_old _ _ hl]
    · have h1 : w.heap[g]? = none := by simp; omega
      have h2 : (w.alloc (.cells cs t)).heap[g]? = none := by
        rw [Array.getElem?_eq_none_iff]
        have : (w.alloc (.cells cs t)).heap.size = w.heap.size + 1 := by simp
        omega
      rw [h1, h2]

@[go_sem] theorem rowN_drew (w : World) (g : Nat) : rowN w.drew g = rowN w g := rfl

@[go_sem] theorem rowN_setCell (w : World) (a : Addr) (v : Value) (g : Nat) : rowN (w.setCell a v) g = if g = a.block then (rowN w g).map (fun c => if a.spot.isSome then c else c.setIfInBounds a.off v) else rowN w g := by
  unfold rowN World.setCell
  simp only [Array.getElem?_modify]
  by_cases h : g = a.block
  · subst h
    simp only [if_true]
    cases w.heap[a.block]? with
    | none => rfl
    | some o =>
      cases o <;> simp
  · rw [if_neg h, if_neg (fun e => h e.symm)]

@[go_sem] theorem rowN_setRow (w : World) (b : Nat) (cs : Array Value) (g : Nat) : rowN (w.setRow b cs) g = if g = b then (rowN w g).map (fun _ => cs) else rowN w g := by
  unfold rowN World.setRow
  simp only [Array.getElem?_modify]
  by_cases h : g = b
  · subst h
    simp only [if_true]
    cases w.heap[g]? with
    | none => rfl
    | some o =>
      cases o <;> simp
  · rw [if_neg h, if_neg (fun e => h e.symm)]

/-- What a row of n cells is read as. -/
noncomputable def rowLoad (n : Nat) (t : TypeId) (W : World) (g : Nat) : Option (Array Value) → Result Value
  | some cs => if cs.size = n then .ok (.agg cs) W else (loadVar t ⟨g, 0, none⟩).run Tryd.prog W
  | none => (loadVar t ⟨g, 0, none⟩).run Tryd.prog W

@[go_sem] theorem rowLoad_some (n : Nat) (t : TypeId) (W : World) (g : Nat) (cs : Array Value) (h : cs.size = n) : rowLoad n t W g (some cs) = .ok (.agg cs) W := by
  simp [rowLoad, h]

theorem run_loadVar_rowLoad (n : Nat) (t : TypeId) (d : TypeDesc) (hd : (match d with | .struct _ | .array _ _ => true | _ => false) = true) (hu : Tryd.prog.underlying t = some d) (hi : (Tryd.prog.info? t).map (·.size) = some n) (W : World) (g : Nat) :
    (loadVar t ⟨g, 0, none⟩).run Tryd.prog W = rowLoad n t W g (rowN W g) := by
  cases h : rowN W g with
  | none => rfl
  | some cs =>
    by_cases hs : cs.size = n
    · simp only [rowLoad, if_pos hs]
      obtain ⟨t', hg⟩ := rowN_some h
      exact run_loadVar_row W g t' t cs (0, 0) d hg hu (by cases d <;> first | rfl | exact hd) (by rw [hi, hs])
    · simp only [rowLoad, if_neg hs]

/-- An array of numbers of one kind. -/
@[irreducible] def arr (k : IntKind) (l : List Nat) : Array Value := (l.map fun x => Value.int k (x : Nat)).toArray
theorem arr_size (k : IntKind) (l : List Nat) : (arr k l).size = l.length := by unfold arr; simp
theorem arr_get? (k : IntKind) (l : List Nat) (i : Nat) : (arr k l)[i]? = (l[i]?).map fun x => Value.int k (x : Nat) := by unfold arr; simp
theorem arr_get (k : IntKind) (l : List Nat) (i : Nat) (h : i < l.length) : (arr k l)[i]? = some (.int k (l.getD i 0 : Nat)) := by
  rw [arr_get?, List.getElem?_eq_getElem h]; simp [List.getD, h]
theorem arr_set (k : IntKind) (l : List Nat) (i x : Nat) : (arr k l).setIfInBounds i (.int k (x : Nat)) = arr k (l.set i x) := by
  unfold arr; simp
theorem arr_toList (k : IntKind) (l : List Nat) : (arr k l).toList = l.map fun x => Value.int k (x : Nat) := by unfold arr; simp
theorem arr_lit (k : IntKind) (l : List Nat) : arr k l = (l.map fun x => Value.int k (x : Nat)).toArray := by unfold arr; rfl
theorem arr_oneCell (k : IntKind) (l : List Nat) : ∀ x ∈ (arr k l).toList, x.oneCell' = true := by
  intro x hx
  rw [arr_toList] at hx
  obtain ⟨i, _, rfl⟩ := List.mem_map.1 hx
  rfl

/-- Storing a row of n cells. -/
noncomputable def rowStore (n : Nat) (t : TypeId) (W : World) (g : Nat) (cs : Array Value) : Option (Array Value) → Result Unit
  | some old => if old.size = n then .ok () (W.setRow g cs) else (storeVar t ⟨g, 0, none⟩ (.agg cs)).run Tryd.prog W
  | none => (storeVar t ⟨g, 0, none⟩ (.agg cs)).run Tryd.prog W

@[go_sem] theorem rowStore_some (n : Nat) (t : TypeId) (W : World) (g : Nat) (cs old : Array Value) (h : old.size = n) : rowStore n t W g cs (some old) = .ok () (W.setRow g cs) := by
  simp [rowStore, h]

theorem run_storeVar_rowStore (n : Nat) (t : TypeId) (hi : (Tryd.prog.info? t).map (·.size) = some n) (W : World) (g : Nat) (cs : Array Value) (hcs : cs.size = n) (h1 : ∀ x ∈ cs.toList, x.oneCell' = true) :
    (storeVar t ⟨g, 0, none⟩ (.agg cs)).run Tryd.prog W = rowStore n t W g cs (rowN W g) := by
  obtain ⟨i, hi, hs⟩ : ∃ i, Tryd.prog.info? t = some i ∧ i.size = n := by
    cases e : Tryd.prog.info? t with
    | none => rw [e] at hi; cases hi
    | some i => exact ⟨i, rfl, by rw [e] at hi; simpa using hi⟩
  cases h : rowN W g with
  | none => rfl
  | some old =>
    by_cases ho : old.size = n
    · simp only [rowStore, if_pos ho]
      obtain ⟨t', hg⟩ := rowN_some h
      have hst := run_storeCells_at (P := Tryd.prog) g 0 t' cs.toList 0 old W hg (by simp [hcs, ho]) h1
      have hsz : (sizeOf t).run Tryd.prog W = .ok n W := by simp [sizeOf, typeInfo, hi, hs]
      have e : (old.toList.take (0 + 0) ++ cs.toList ++ old.toList.drop (0 + 0 + cs.toList.length)).toArray = cs := by
        simp [hcs, List.drop_eq_nil_of_le, ho]
      rw [e] at hst
      simp only [storeVar, Sem.run_bind, hsz, Result.andThen_ok, Value.cells, hcs, ne_eq, not_true_eq_false, if_false]
      exact hst
    · simp only [rowStore, if_neg ho]

theorem run_loadVar37 (W : World) (g : Nat) : (loadVar 72 ⟨g, 0, none⟩).run Tryd.prog W = rowLoad 4 72 W g (rowN W g) := run_loadVar_rowLoad 4 72 _ rfl Tryd.underlying72 (by kernel_rfl) W g
theorem run_loadVar34 (W : World) (g : Nat) : (loadVar 75 ⟨g, 0, none⟩).run Tryd.prog W = rowLoad 512 75 W g (rowN W g) := run_loadVar_rowLoad 512 75 _ rfl Tryd.underlying75 (by kernel_rfl) W g
theorem run_storeVar37 (W : World) (g : Nat) (l : List Nat) (h : l.length = 4) : (storeVar 72 ⟨g, 0, none⟩ (.agg (arr .u32 l))).run Tryd.prog W = rowStore 4 72 W g (arr .u32 l) (rowN W g) := run_storeVar_rowStore 4 72 (by kernel_rfl) W g _ (by rw [arr_size, h]) (arr_oneCell _ _)
theorem run_storeVar34 (W : World) (g : Nat) (l : List Nat) (h : l.length = 512) : (storeVar 75 ⟨g, 0, none⟩ (.agg (arr .u8 l))).run Tryd.prog W = rowStore 512 75 W g (arr .u8 l) (rowN W g) := run_storeVar_rowStore 512 75 (by kernel_rfl) W g _ (by rw [arr_size, h]) (arr_oneCell _ _)

/-! The operations on arrays, taken whole. -/
def arLoad (t : TypeId) (x : Value) : Sem Next := do pure (.value (← Instr.loadAt t x))
def arStore (t : TypeId) (a x : Value) : Sem Next := do Instr.storeAt t a x; pure .skip
section
variable (ρ : Operand → Value) (dst : Option Tmp) (x y : Operand) (ty : TypeId) (pos : String) (after : Array Edge) (guard : Option (Nat × Bool))
@[go_sem ↓] theorem execOp_load37 : execOp ρ { dst, op := .load 72 x, type := ty, pos, after, guard } = arLoad 72 (ρ x) := rfl
@[go_sem ↓] theorem execOp_store37 : execOp ρ { dst, op := .store 72 x y, type := ty, pos, after, guard } = arStore 72 (ρ x) (ρ y) := rfl
@[go_sem ↓] theorem execOp_load34 : execOp ρ { dst, op := .load 75 x, type := ty, pos, after, guard } = arLoad 75 (ρ x) := rfl
@[go_sem ↓] theorem execOp_store34 : execOp ρ { dst, op := .store 75 x y, type := ty, pos, after, guard } = arStore 75 (ρ x) (ρ y) := rfl
end
theorem run_arLoad {t n : Nat} (hl : ∀ (W : World) (g : Nat), (loadVar t ⟨g, 0, none⟩).run Tryd.prog W = rowLoad n t W g (rowN W g)) (W : World) (g : Nat) :
    (arLoad t (.pointer (some ⟨g, 0, none⟩))).run Tryd.prog W = (rowLoad n t W g (rowN W g)).andThen fun v w => .ok (.value v) w := by
  rw [← hl]
  simp [arLoad, Instr.loadAt, Instr.sureAddr]
@[go_sem] theorem run_arLoad37 (W : World) (g : Nat) : (arLoad 72 (.pointer (some ⟨g, 0, none⟩))).run Tryd.prog W = (rowLoad 4 72 W g (rowN W g)).andThen fun v w => .ok (.value v) w := run_arLoad run_loadVar37 W g
@[go_sem] theorem run_arLoad34 (W : World) (g : Nat) : (arLoad 75 (.pointer (some ⟨g, 0, none⟩))).run Tryd.prog W = (rowLoad 512 75 W g (rowN W g)).andThen fun v w => .ok (.value v) w := run_arLoad run_loadVar34 W g
theorem run_arStore {t n : Nat} {W : World} {g : Nat} {cs : Array Value} (hl : (storeVar t ⟨g, 0, none⟩ (.agg cs)).run Tryd.prog W = rowStore n t W g cs (rowN W g)) :
    (arStore t (.pointer (some ⟨g, 0, none⟩)) (.agg cs)).run Tryd.prog W = (rowStore n t W g cs (rowN W g)).andThen fun _ w => .ok .skip w := by
  rw [← hl]
  simp [arStore, Instr.storeAt, Instr.sureAddr]
@[go_sem] theorem run_arStore37 (W : World) (g : Nat) (l : List Nat) (h : l.length = 4) : (arStore 72 (.pointer (some ⟨g, 0, none⟩)) (.agg (arr .u32 l))).run Tryd.prog W = (rowStore 4 72 W g (arr .u32 l) (rowN W g)).andThen fun _ w => .ok .skip w := run_arStore (run_storeVar37 W g l h)
@[go_sem] theorem run_arStore34 (W : World) (g : Nat) (l : List Nat) (h : l.length = 512) : (arStore 75 (.pointer (some ⟨g, 0, none⟩)) (.agg (arr .u8 l))).run Tryd.prog W = (rowStore 512 75 W g (arr .u8 l) (rowN W g)).andThen fun _ w => .ok .skip w := run_arStore (run_storeVar34 W g l h)

/-! What a world made of new blocks alone keeps. -/
theorem below_setRow' {B g : Nat} {w0 w : World} (hb : Below B w0 w) (hBg : B ≤ g) (cs : Array Value) : Below B w0 (w.setRow g cs) :=
  hb.trans ⟨rfl, rfl, rfl, by simp [World.setRow], fun k hk => setRow_other w g k cs (by omega)⟩
theorem brow {W w1 : World} (hb : Below W.heap.size W w1) : ∀ g, g < W.heap.size → rowN w1 g = rowN W g := fun g h => by
  unfold rowN; rw [hb.block g h]
theorem rowN_cell {w : World} {g : Nat} {cs : Array Value} (h : rowN w g = some cs) : (∀ o, w.cell? ⟨g, o, none⟩ = cs[o]?) ∧ (∀ o, w.frozen? ⟨g, o, none⟩ = false) := by
  obtain ⟨t, hg⟩ := rowN_some h
  exact ⟨fun o => cell_of_row w g o cs t (0, 0) hg, fun o => by simp [World.frozen?, hg]⟩
theorem rowN_lt {w : World} {g : Nat} {cs : Array Value} (h : rowN w g = some cs) : g < w.heap.size := by
  obtain ⟨t, hg⟩ := rowN_some h
  exact (Array.getElem?_eq_some_iff.1 hg).1
theorem grownBy_rowN {w w' : World} {row : Option Nat} (h : w.grownBy w' row) {g : Nat} (hl : g < w.heap.size) (hne : some g ≠ row) : rowN w' g = rowN w g := by
  unfold rowN; rw [h.block g hl hne]
theorem keptW {W w1 : World} (hb : Below W.heap.size W w1) {g : Nat} {cs : Array Value} (h : rowN W g = some cs) : rowN w1 g = some cs := by
  rw [brow hb _ (rowN_lt h)]; exact h
theorem row_cell0 {W : World} {b c o : Nat} {cs : Array Value} {x : Value} (h : rowN W b = some cs) (hne : b ≠ c) : rowN (W.setCell ⟨c, o, none⟩ x) b = some cs := by
  rw [rowN_setCell, if_neg hne]; exact h
theorem row_set0 {W : World} {b : Nat} {y x : Value} (h : rowN W b = some #[y]) : rowN (W.setCell ⟨b, 0, none⟩ x) b = some #[x] := by
  rw [rowN_setCell, if_pos rfl, h]; rfl
theorem row_arr {W : World} {b i x : Nat} {k : IntKind} {l : List Nat} (h : rowN W b = some (arr k l)) : rowN (W.setCell ⟨b, i, none⟩ (.int k (x : Nat))) b = some (arr k (l.set i x)) := by
  rw [rowN_setCell, if_pos rfl, h]; simp [arr_set]
theorem row_other {W : World} {b c : Nat} {cs ds : Array Value} (h : rowN W b = some cs) (hne : b ≠ c) : rowN (W.setRow c ds) b = some cs := by
  rw [rowN_setRow, if_neg hne]; exact h
theorem row_new {W : World} {b : Nat} {cs ds : Array Value} (h : rowN W b = some cs) : rowN (W.setRow b ds) b = some ds := by
  rw [rowN_setRow, if_pos rfl, h]; rfl
theorem cell_arr {W : World} {b i : Nat} {k : IntKind} {l : List Nat} (h : rowN W b = some (arr k l)) (hi : i < l.length) : W.cell? ⟨b, i, none⟩ = some (.int k (l.getD i 0 : Nat)) := by
  rw [(rowN_cell h).1]; exact arr_get k l i hi
theorem grownBy_refl (w : World) (r : Option Nat) : w.grownBy w r := ⟨rfl, rfl, rfl, Nat.le_refl _, fun _ _ _ => rfl⟩
theorem grownBy_trans {a b c : World} {r : Option Nat} (h : a.grownBy b r) (k : b.grownBy c r) : a.grownBy c r :=
  ⟨k.os.trans h.os, k.tape.trans h.tape, k.output.trans h.output, Nat.le_trans h.size k.size, fun i hi hr => (k.block i (Nat.lt_of_lt_of_le hi h.size) hr).trans (h.block i hi hr)⟩

/-! Results that lie in a block. -/
theorem ret_arr {fn : Func} {p : Tmp} {T n : Nat} {R : Ending → World → Prop} {a : Act} {w : World} (g : Nat) (cs : Array Value) (hl : ∀ (W : World) (g : Nat), (loadVar T ⟨g, 0, none⟩).run Tryd.prog W = rowLoad n T W g (rowN W g)) (h : fn.results = #[.cell p T])
    (hp : a.tmps.getD p undef = .pointer (some ⟨g, 0, none⟩)) (hd : a.defers = []) (hr : rowN w g = some cs) (hs : cs.size = n) (hR : R (.returned (.agg cs)) w) : bodyPost Tryd.prog fn R .ret a w := by
  refine bodyPost_ret (v := .agg cs) ?_ hd hR
  have hp' : a.tmps[p]?.getD undef = .pointer (some ⟨g, 0, none⟩) := by simpa using hp
  have hl' : (loadVar T ⟨g, 0, none⟩).run Tryd.prog w = .ok (.agg cs) w := by rw [hl, hr, rowLoad_some _ _ _ _ _ hs]
  simp [results, h, hp', asAddr, hl']
theorem ret_eq {v u : Value} (h : v = u) : Ending.returned v = .returned u := by rw [h]
theorem run_arLoad_of {t : TypeId} {W : World} {a : Addr} {v : Value} (hl : (loadVar t a).run Tryd.prog W = .ok v W) : (arLoad t (.pointer (some a))).run Tryd.prog W = .ok (.value v) W := by
  simp [arLoad, Instr.loadAt, Instr.sureAddr, hl]
theorem run_arStore_of {t : TypeId} {W W' : World} {a : Addr} {v : Value} (hl : (storeVar t a v).run Tryd.prog W = .ok () W') : (arStore t (.pointer (some a)) v).run Tryd.prog W = .ok .skip W' := by
  simp [arStore, Instr.storeAt, Instr.sureAddr, hl]
theorem load_mid {W : World} {g o n : Nat} {ty : TypeId} {d : TypeDesc} {cs sub : Array Value} (hu : Tryd.prog.underlying ty = some d) (hd : d.isRow = true) (hi : (Tryd.prog.info? ty).map (·.size) = some n) (h : rowN W g = some cs) (hs : sub.size = n)
    (hg : ∀ i, i < n → cs[o + i]? = sub[i]?) : (arLoad ty (.pointer (some ⟨g, o, none⟩))).run Tryd.prog W = .ok (.value (.agg sub)) W := by
  have hr : W.rangeAt g o sub.toList := by
    intro j v hv
    have hj : j < n := by
      have := (List.getElem?_eq_some_iff.1 hv).1
      rw [Array.length_toList, hs] at this; exact this
    rw [(rowN_cell h).1, hg j hj, ← Array.getElem?_toList]; exact hv
  have hl := run_loadVar_mid (P := Tryd.prog) W g o ty sub.toList _ hr hu hd (by rw [hi, Array.length_toList, hs])
  rw [Array.toArray_toList] at hl
  exact run_arLoad_of hl


/-! Zero values. -/
@[irreducible] def zr (n : Nat) : List Nat := List.replicate n 0
theorem zr_eq (n : Nat) : zr n = List.replicate n 0 := by unfold zr; rfl
theorem zr_len (n : Nat) : (zr n).length = n := by rw [zr_eq, List.length_replicate]
theorem run_zero37 (W : World) : (zeroValue 72).run Tryd.prog W = .ok (.agg (List.replicate 4 (Value.int .u32 ((0 : Nat) : Int))).toArray) W := by kernel_rfl
@[go_sem ↓] theorem run_zeroValue37 (W : World) : (zeroValue 72).run Tryd.prog W = .ok (.agg (arr .u32 (zr 4))) W := by
  rw [run_zero37, arr_lit, zr_eq, List.map_replicate]
theorem run_zero34 (W : World) : (zeroValue 75).run Tryd.prog W = .ok (.agg (List.replicate 512 (Value.int .u8 ((0 : Nat) : Int))).toArray) W := by kernel_rfl
@[go_sem ↓] theorem run_zeroValue34 (W : World) : (zeroValue 75).run Tryd.prog W = .ok (.agg (arr .u8 (zr 512))) W := by
  rw [run_zero34, arr_lit, zr_eq, List.map_replicate]

/-! A block of four words that lies at the head of a row. -/
@[irreducible] def blA (s : List Nat) (rest : Array Value) : Array Value := arr .u32 s ++ rest
theorem blA_nil (s : List Nat) : blA s #[] = arr .u32 s := by unfold blA; simp
theorem blA_size {s : List Nat} (h : s.length = 4) (rest : Array Value) : (blA s rest).size = 4 + rest.size := by unfold blA; rw [Array.size_append, arr_size, h]
theorem blA_low {s : List Nat} (h : s.length = 4) (rest : Array Value) (i : Nat) (hi : i < 4) : (blA s rest)[i]? = (arr .u32 s)[i]? := by
  unfold blA; rw [Array.getElem?_append, if_pos (by rw [arr_size, h]; exact hi)]
theorem blA_high {s : List Nat} (h : s.length = 4) (rest : Array Value) (i : Nat) : (blA s rest)[4 + i]? = rest[i]? := by
  unfold blA; rw [Array.getElem?_append, if_neg (by rw [arr_size, h]; omega), arr_size, h]; congr 1; omega
theorem blA_set {s : List Nat} (h : s.length = 4) (rest : Array Value) (i x : Nat) (hi : i < 4) : (blA s rest).setIfInBounds i (.int .u32 (x : Nat)) = blA (s.set i x) rest := by
  unfold blA
  rw [Array.setIfInBounds_append_left (by rw [arr_size, h]; exact hi), arr_set]
theorem cell_bl {W : World} {g i : Nat} {s : List Nat} {rest : Array Value} (hs : s.length = 4) (h : rowN W g = some (blA s rest)) (hi : i < 4) : W.cell? ⟨g, i, none⟩ = some (.int .u32 (s.getD i 0 : Nat)) := by
  rw [(rowN_cell h).1, blA_low hs rest i hi]; exact arr_get .u32 s i (by omega)
theorem row_bl {W : World} {g i x : Nat} {s : List Nat} {rest : Array Value} (hs : s.length = 4) (h : rowN W g = some (blA s rest)) (hi : i < 4) : rowN (W.setCell ⟨g, i, none⟩ (.int .u32 (x : Nat))) g = some (blA (s.set i x) rest) := by
  rw [rowN_setCell, if_pos rfl, h]; simp [blA_set hs rest i x hi]
theorem load_bl {W : World} {g : Nat} {s : List Nat} {rest : Array Value} (hs : s.length = 4) (h : rowN W g = some (blA s rest)) : (arLoad 72 (.pointer (some ⟨g, 0, none⟩))).run Tryd.prog W = .ok (.value (.agg (arr .u32 s))) W :=
  load_mid (n := 4) Tryd.underlying72 rfl (by kernel_rfl) h (by rw [arr_size, hs]) (fun i hi => by rw [Nat.zero_add]; exact blA_low hs rest i hi)

/-! The bits of words. -/
theorem u32_nat (a : Nat) (h : a < 4294967296) : (BitVec.ofInt 32 (a : Int)).toNat = a := by
  rw [BitVec.ofInt_natCast, BitVec.toNat_ofNat]; exact Nat.mod_eq_of_lt (by omega)
theorem u8_nat (a : Nat) (h : a < 256) : (BitVec.ofInt 8 (a : Int)).toNat = a := by
  rw [BitVec.ofInt_natCast, BitVec.toNat_ofNat]; exact Nat.mod_eq_of_lt (by omega)
theorem and32 (a b : Nat) (hb : b < 4294967296) : a &&& b < 4294967296 := Nat.and_lt_two_pow (n := 32) _ (by omega)
theorem or32 {a b : Nat} (ha : a < 4294967296) (hb : b < 4294967296) : a ||| b < 4294967296 := Nat.or_lt_two_pow (n := 32) (by omega) (by omega)
theorem bits_and32 (a b : Nat) (ha : a < 4294967296) (hb : b < 4294967296) : bits .and .u32 (a : Int) (b : Int) = ((a &&& b : Nat) : Int) := by
  show IntKind.u32.wrap ((BitVec.ofInt 32 (a : Int) &&& BitVec.ofInt 32 (b : Int)).toNat : Int) = _
  have := and32 a b hb
  rw [BitVec.toNat_and, u32_nat a ha, u32_nat b hb, IntKind.wrap_u32]
  omega
theorem bits_or32 (a b : Nat) (ha : a < 4294967296) (hb : b < 4294967296) : bits .or .u32 (a : Int) (b : Int) = ((a ||| b : Nat) : Int) := by
  show IntKind.u32.wrap ((BitVec.ofInt 32 (a : Int) ||| BitVec.ofInt 32 (b : Int)).toNat : Int) = _
  have := or32 ha hb
  rw [BitVec.toNat_or, u32_nat a ha, u32_nat b hb, IntKind.wrap_u32]
  omega
theorem bits_xor32 (a b : Nat) (ha : a < 4294967296) (hb : b < 4294967296) : bits .xor .u32 (a : Int) (b : Int) = ((a ^^^ b : Nat) : Int) := by
  show IntKind.u32.wrap ((BitVec.ofInt 32 (a : Int) ^^^ BitVec.ofInt 32 (b : Int)).toNat : Int) = _
  have := xor32 ha hb
  rw [BitVec.toNat_xor, u32_nat a ha, u32_nat b hb, IntKind.wrap_u32]
  omega
theorem bthen {A X Y : World} (h : Below A.heap.size A X) (hb : Below X.heap.size X Y) : Below A.heap.size A Y := h.trans (hb.mono h.size)
end Go.Proofs.YtjcdbjapadgdfaaDoor
