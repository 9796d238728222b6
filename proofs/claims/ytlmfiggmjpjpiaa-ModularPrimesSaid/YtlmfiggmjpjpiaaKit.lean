/- The walk's rules for numbers: a number's block is a row of sixteen cells that is read and written whole. -/
import Derived.Test.YtlmfiggmjpjpiaaBase
import Derived.Handy
import Derived.LaidEql
import Derived.ChangeKeysEq
namespace Go.Proofs.Ytlmfiggmjpjpiaa
open Go.RowKit

attribute [go_sem] natA_size natA_getElem

/-- The cells of a block that nothing has frozen. -/
def rowN (w : World) (g : Nat) : Option (Array Value) := match w.heap[g]? with
  | some (.cells cs _ fr) => if fr = (0, 0) then some cs else none
  | _ => none

theorem rowN_some {w : World} {g : Nat} {cs : Array Value} (h : rowN w g = some cs) : ∃ t, w.heap[g]? = some (.cells cs t (0, 0)) := by
  unfold rowN at h
  split at h
  · rename_i c t fr e
    split at h
    · rename_i hf; subst hf; cases h; exact ⟨t, e⟩
    · cases h
  · cases h

@[go_sem] theorem rowN_alloc (w : World) (cs : Array Value) (t : TypeId) (g : Nat) : rowN (w.alloc (.cells cs t)) g = if g = w.heap.size then some cs else rowN w g := by
  unfold rowN
  by_cases h : g = w.heap.size
  · subst h
    rw [heap_alloc_new, if_pos rfl]; simp
  · rw [if_neg h]
    by_cases hl : g < w.heap.size
    · rw [heap_alloc_old _ _ hl]
    · have h1 : w.heap[g]? = none := by simp; omega
      have h2 : (w.alloc (.cells cs t)).heap[g]? = none := by
        rw [Array.getElem?_eq_none_iff]
        have : (w.alloc (.cells cs t)).heap.size = w.heap.size + 1 := by simp
        omega
      rw [h1, h2]

@[go_sem] theorem rowN_drew (w : World) (g : Nat) : rowN w.drew g = rowN w g := rfl

@[go_sem] theorem rowN_setCell (w : World) (a : Addr) (v : Value) (g : Nat) : rowN (w.setCell a v) g = if g = a.block then (rowN w g).map (fun c => if a.spot.isSome then c else c.setIfInBounds a.off v) else rowN w g := by
  unfold rowN World.setCell
  simp only [Array.getElem?_modify]
  by_cases h : g = a.block
  · subst h
    simp only [if_true]
    cases w.heap[a.block]? with
    | none => rfl
    | some o =>
      cases o <;> simp
  · rw [if_neg h, if_neg (fun e => h e.symm)]

@[go_sem] theorem rowN_setRow (w : World) (b : Nat) (cs : Array Value) (g : Nat) : rowN (w.setRow b cs) g = if g = b then (rowN w g).map (fun _ => cs) else rowN w g := by
  unfold rowN World.setRow
  simp only [Array.getElem?_modify]
  by_cases h : g = b
  · subst h
    simp only [if_true]
    cases w.heap[g]? with
    | none => rfl
    | some o =>
      cases o <;> simp
  · rw [if_neg h, if_neg (fun e => h e.symm)]

/-- What a row of sixteen cells is read as. -/
noncomputable def rowLoad (t : TypeId) (W : World) (g : Nat) : Option (Array Value) → Result Value
  | some cs => if cs.size = 16 then .ok (.agg cs) W else (loadVar t ⟨g, 0, none⟩).run Try.prog W
  | none => (loadVar t ⟨g, 0, none⟩).run Try.prog W

@[go_sem] theorem rowLoad_some (t : TypeId) (W : World) (g : Nat) (cs : Array Value) (h : cs.size = 16) : rowLoad t W g (some cs) = .ok (.agg cs) W := by
  simp [rowLoad, h]

theorem run_loadVar_rowLoad (t : TypeId) (d : TypeDesc) (hd : (match d with | .struct _ | .array _ _ => true | _ => false) = true) (hu : Try.prog.underlying t = some d) (hi : (Try.prog.info? t).map (·.size) = some 16) (W : World) (g : Nat) :
    (loadVar t ⟨g, 0, none⟩).run Try.prog W = rowLoad t W g (rowN W g) := by
  cases h : rowN W g with
  | none => rfl
  | some cs =>
    by_cases hs : cs.size = 16
    · simp only [rowLoad, if_pos hs]
      obtain ⟨t', hg⟩ := rowN_some h
      exact run_loadVar_row W g t' t cs (0, 0) d hg hu (by cases d <;> first | rfl | exact hd) (by rw [hi, hs])
    · simp only [rowLoad, if_neg hs]

theorem run_loadVar28 (W : World) (g : Nat) : (loadVar 28 ⟨g, 0, none⟩).run Try.prog W = rowLoad 28 W g (rowN W g) :=
  run_loadVar_rowLoad 28 _ rfl Try.underlying28 (by kernel_rfl) W g
theorem run_loadVar26 (W : World) (g : Nat) : (loadVar 26 ⟨g, 0, none⟩).run Try.prog W = rowLoad 26 W g (rowN W g) :=
  run_loadVar_rowLoad 26 _ rfl Try.underlying26 (by kernel_rfl) W g

theorem natA_oneCell (v : Nat) : ∀ x ∈ (natA v).toList, x.oneCell' = true := by
  intro x hx
  unfold natA at hx
  simp at hx
  obtain ⟨i, _, rfl⟩ := hx
  rfl

/-- Storing a row of sixteen cells. -/
noncomputable def rowStore (t : TypeId) (W : World) (g : Nat) (cs : Array Value) : Option (Array Value) → Result Unit
  | some old => if old.size = 16 then .ok () (W.setRow g cs) else (storeVar t ⟨g, 0, none⟩ (.agg cs)).run Try.prog W
  | none => (storeVar t ⟨g, 0, none⟩ (.agg cs)).run Try.prog W

@[go_sem] theorem rowStore_some (t : TypeId) (W : World) (g : Nat) (cs old : Array Value) (h : old.size = 16) : rowStore t W g cs (some old) = .ok () (W.setRow g cs) := by
  simp [rowStore, h]

theorem run_storeVar_rowStore (t : TypeId) (i : TypeInfo) (hi : Try.prog.info? t = some i) (hs : i.size = 16) (W : World) (g v : Nat) :
    (storeVar t ⟨g, 0, none⟩ (.agg (natA v))).run Try.prog W = rowStore t W g (natA v) (rowN W g) := by
  cases h : rowN W g with
  | none => rfl
  | some old =>
    by_cases ho : old.size = 16
    · simp only [rowStore, if_pos ho]
      obtain ⟨t', hg⟩ := rowN_some h
      have hst := run_storeCells_at (P := Try.prog) g 0 t' (natA v).toList 0 old W hg (by simp [natA_size, ho]) (natA_oneCell v)
      have hsz : (sizeOf t).run Try.prog W = .ok 16 W := by simp [sizeOf, typeInfo, hi, hs]
      have e : (old.toList.take (0 + 0) ++ (natA v).toList ++ old.toList.drop (0 + 0 + (natA v).toList.length)).toArray = natA v := by
        simp [natA_size, List.drop_eq_nil_of_le, ho]
      rw [e] at hst
      simp only [storeVar, Sem.run_bind, hsz, Result.andThen_ok, Value.cells, natA_size, ne_eq, not_true_eq_false, if_false]
      exact hst
    · simp only [rowStore, if_neg ho]

theorem run_storeVar28 (W : World) (g v : Nat) : (storeVar 28 ⟨g, 0, none⟩ (.agg (natA v))).run Try.prog W = rowStore 28 W g (natA v) (rowN W g) := by
  obtain ⟨i, hi, hs⟩ : ∃ i, Try.prog.info? 28 = some i ∧ i.size = 16 := by
    have h : (Try.prog.info? 28).map (·.size) = some 16 := by kernel_rfl
    cases e : Try.prog.info? 28 with
    | none => rw [e] at h; cases h
    | some i => exact ⟨i, rfl, by rw [e] at h; simpa using h⟩
  exact run_storeVar_rowStore 28 i hi hs W g v

theorem natA_zero_lit : natA 0 = #[.int .u64 0, .int .u64 0, .int .u64 0, .int .u64 0, .int .u64 0, .int .u64 0, .int .u64 0, .int .u64 0, .int .u64 0, .int .u64 0, .int .u64 0, .int .u64 0, .int .u64 0, .int .u64 0, .int .u64 0, .int .u64 0] := by
  rw [natA_zero]; rfl

@[go_sem ↓] theorem run_build28 (W : World) : (Instr.build 28 #[]).run Try.prog W = .ok (.agg (natA 0)) W := by
  rw [natA_zero_lit]; kernel_rfl
@[go_sem ↓] theorem run_zeroValue28 (W : World) : (zeroValue 28).run Try.prog W = .ok (.agg (natA 0)) W := by
  rw [natA_zero_lit]; kernel_rfl

/-! The operations on numbers, taken whole. -/
def natLoad (t : TypeId) (x : Value) : Sem Next := do pure (.value (← Instr.loadAt t x))
def natStore (t : TypeId) (a x : Value) : Sem Next := do Instr.storeAt t a x; pure .skip
def natEql (x y : Operand) (a b : Value) : Sem Next := do pure (.value (← (do eqGuard .eql 28 x y a b; binOp .eql 28 a b)))

section
variable (ρ : Operand → Value) (dst : Option Tmp) (x y : Operand) (ty yt : TypeId) (pos : String) (after : Array Edge) (guard : Option (Nat × Bool))
@[go_sem ↓] theorem execOp_load28 : execOp ρ { dst, op := .load 28 x, type := ty, pos, after, guard } = natLoad 28 (ρ x) := rfl
@[go_sem ↓] theorem execOp_load26 : execOp ρ { dst, op := .load 26 x, type := ty, pos, after, guard } = natLoad 26 (ρ x) := rfl
@[go_sem ↓] theorem execOp_store28 : execOp ρ { dst, op := .store 28 x y, type := ty, pos, after, guard } = natStore 28 (ρ x) (ρ y) := rfl
@[go_sem ↓] theorem execOp_eql28 : execOp ρ { dst, op := .binOp .eql 28 x y yt, type := ty, pos, after, guard } = natEql x y (ρ x) (ρ y) := rfl
end

@[go_sem] theorem run_natLoad28 (W : World) (g : Nat) : (natLoad 28 (.pointer (some ⟨g, 0, none⟩))).run Try.prog W = (rowLoad 28 W g (rowN W g)).andThen fun v w => .ok (.value v) w := by
  rw [← run_loadVar28]
  simp [natLoad, Instr.loadAt, Instr.sureAddr]
@[go_sem] theorem run_natLoad26 (W : World) (g : Nat) : (natLoad 26 (.pointer (some ⟨g, 0, none⟩))).run Try.prog W = (rowLoad 26 W g (rowN W g)).andThen fun v w => .ok (.value v) w := by
  rw [← run_loadVar26]
  simp [natLoad, Instr.loadAt, Instr.sureAddr]
@[go_sem] theorem run_natStore28 (W : World) (g v : Nat) : (natStore 28 (.pointer (some ⟨g, 0, none⟩)) (.agg (natA v))).run Try.prog W = (rowStore 28 W g (natA v) (rowN W g)).andThen fun _ w => .ok .skip w := by
  rw [← run_storeVar28]
  simp [natStore, Instr.storeAt, Instr.sureAddr]

/-- Are two numbers the same value? -/
def natEq (v u : Nat) : Bool := (List.range 16).all fun i => dgt P64 v i == dgt P64 u i

theorem natEq_iff {v u : Nat} (hv : v < P64 ^ 16) (hu : u < P64 ^ 16) : natEq v u = decide (v = u) := by
  rw [Bool.eq_iff_iff, decide_eq_true_iff]
  constructor
  · intro h
    refine dgt_ext P64_pos 16 hv hu fun i hi => ?_
    unfold natEq at h
    rw [List.all_eq_true] at h
    simpa using h i (by simpa using hi)
  · rintro rfl
    simp [natEq]

theorem eqItems_nat (d v u : Nat) (w : World) : ∀ is : List Nat, (∀ i ∈ is, i < 16) →
    (Op.eqItems (d + 1) 24 1 (natA v) (natA u) is).run Try.prog w = .ok (is.all fun i => dgt P64 v i == dgt P64 u i) w := by
  have hp : Try.prog.plainKey 24 = true := by kernel_rfl
  intro is
  induction is with
  | nil => intro _; rfl
  | cons i is ih =>
    intro h
    have hi : i < 16 := h i (by simp)
    have e : (((dgt P64 v i : Nat) : Int) == ((dgt P64 u i : Nat) : Int)) = (dgt P64 v i == dgt P64 u i) := by
      rw [Bool.eq_iff_iff]; simp; omega
    simp only [Op.eqItems, Sem.run_bind, Nat.mul_one, run_part_plain w hp (natA_get v i hi), run_part_plain w hp (natA_get u i hi), Result.andThen_ok, run_equalIn_int (P := Try.prog) w d 24 .u64 .u64 _ _ Try.underlying24, e]
    cases hb : (dgt P64 v i == dgt P64 u i) with
    | false => simp [hb]
    | true =>
      simp only [Bool.not_true, Bool.false_eq_true, if_false, List.all_cons, hb, Bool.true_and]
      exact ih fun j hj => h j (by simp [hj])

theorem run_eq26 (d v u : Nat) (w : World) : (Op.equalIn (d + 2) 26 (.agg (natA v)) (.agg (natA u))).run Try.prog w = .ok (natEq v u) w := by
  obtain ⟨i, hi⟩ : ∃ i, Try.prog.info? 24 = some i := by
    have h : (Try.prog.info? 24).isSome = true := by kernel_rfl
    exact Option.isSome_iff_exists.1 h
  have hc : Try.prog.cellsOf 24 = 1 := by kernel_rfl
  rw [run_equalIn_array (P := Try.prog) w (d + 1) (natA v) (natA u) Try.underlying26 hi, hc]
  exact eqItems_nat d v u w _ (fun j hj => by simpa using hj)

theorem run_part26 (x : Nat) (w : World) : (part 26 (natA x) 0).run Try.prog w = .ok (.agg (natA x)) w := by
  have ha : (isAgg 26).run Try.prog w = .ok true w := by rw [isAgg, Sem.run_bind, run_underlying Try.underlying26]; rfl
  have hx : (natA x).extract 0 16 = natA x := by rw [Array.extract_eq_self_of_le]; rw [natA_size]; exact Nat.le_refl _
  simp [part, ha, hx]

theorem fields28 : ∃ f, (Try.prog.fieldsOf 28).toList = [f] ∧ f.name = "digits" ∧ f.type = 26 ∧ f.offset = 0 := by
  have hf : (Try.prog.fieldsOf 28).toList.map (fun f => (f.name, f.type, f.offset)) = [("digits", 26, 0)] := by kernel_rfl
  cases e : (Try.prog.fieldsOf 28).toList with
  | nil => rw [e] at hf; simp at hf
  | cons f fs =>
    rw [e] at hf
    simp only [List.map_cons, List.cons.injEq, Prod.mk.injEq, List.map_eq_nil_iff] at hf
    obtain ⟨⟨h1, h2, h3⟩, rfl⟩ := hf
    exact ⟨f, rfl, h1, h2, h3⟩

theorem run_eq28 (d v u : Nat) (w : World) : (Op.equalIn (d + 2 + 1) 28 (.agg (natA v)) (.agg (natA u))).run Try.prog w = .ok (natEq v u) w := by
  have hu : Try.prog.underlying 28 = some (.struct (Try.prog.fieldsOf 28)) := by kernel_rfl
  have hs : Try.prog.stoodInHeld 28 = false := by kernel_rfl
  obtain ⟨f, hl, hn, ht, ho⟩ := fields28
  rw [run_equalIn_struct (P := Try.prog) w (d + 2) 28 (natA v) (natA u) hu hs, hl]
  simp only [Op.eqFields, hn, ht, ho]
  simp only [ne_eq, String.reduceEq, not_false_eq_true, if_true, Sem.run_bind, run_part26, Result.andThen_ok, run_eq26 d v u w]
  cases natEq v u <;> simp

@[go_sem] theorem run_natEql (x y : Operand) (v u : Nat) (w : World) : (natEql x y (.agg (natA v)) (.agg (natA u))).run Try.prog w = .ok (.value (.bool (natEq v u))) w := by
  have h0 : Try.prog.eqGuardType Try.prog.depth 28 = false := by kernel_rfl
  have hg := run_eqGuard_agg (P := Try.prog) w .eql 28 x y (natA v) (natA u) h0
  have he : ∀ n, n = 9997 + 2 + 1 → (Op.equalIn n 28 (.agg (natA v)) (.agg (natA u))).run Try.prog w = .ok (natEq v u) w := fun n hn => by rw [hn]; exact run_eq28 9997 v u w
  have he' := he 10000 (by decide)
  simp only [natEql, Sem.run_bind, hg, Result.andThen_ok, run_eql_struct, he', Sem.run_pure]

/-! Results that lie in a number's block. -/
theorem run_loadVar28_row {W : World} {g : Nat} {cs : Array Value} (hr : rowN W g = some cs) (hs : cs.size = 16) : (loadVar 28 ⟨g, 0, none⟩).run Try.prog W = .ok (.agg cs) W := by
  rw [run_loadVar28, hr, rowLoad_some _ _ _ _ hs]

theorem ret_nat {fn : Func} {p : Tmp} {R : Ending → World → Prop} {a : Act} {w : World} (g : Nat) (cs : Array Value) (h : fn.results = #[.cell p 28])
    (hp : a.tmps.getD p undef = .pointer (some ⟨g, 0, none⟩)) (hd : a.defers = []) (hr : rowN w g = some cs) (hs : cs.size = 16) (hR : R (.returned (.agg cs)) w) : bodyPost Try.prog fn R .ret a w := by
  refine bodyPost_ret (v := .agg cs) ?_ hd hR
  have hp' : a.tmps[p]?.getD undef = .pointer (some ⟨g, 0, none⟩) := by simpa using hp
  simp [results, h, hp', asAddr, run_loadVar28_row hr hs]

theorem ret_nat_tmp {fn : Func} {p q : Tmp} {R : Ending → World → Prop} {a : Act} {w : World} (g : Nat) (cs : Array Value) (h : fn.results = #[.cell p 28, .tmp q])
    (hp : a.tmps.getD p undef = .pointer (some ⟨g, 0, none⟩)) (hd : a.defers = []) (hr : rowN w g = some cs) (hs : cs.size = 16) (hR : R (.returned (.tuple #[.agg cs, a.tmps.getD q undef])) w) : bodyPost Try.prog fn R .ret a w := by
  refine bodyPost_ret (v := .tuple #[.agg cs, a.tmps.getD q undef]) ?_ hd hR
  have hp' : a.tmps[p]?.getD undef = .pointer (some ⟨g, 0, none⟩) := by simpa using hp
  simp [results, h, hp', asAddr, run_loadVar28_row hr hs]

theorem ret_nat_nat {fn : Func} {p p' : Tmp} {R : Ending → World → Prop} {a : Act} {w : World} (g g' : Nat) (cs cs' : Array Value) (h : fn.results = #[.cell p 28, .cell p' 28])
    (hp : a.tmps.getD p undef = .pointer (some ⟨g, 0, none⟩)) (hp2 : a.tmps.getD p' undef = .pointer (some ⟨g', 0, none⟩)) (hd : a.defers = []) (hr : rowN w g = some cs) (hs : cs.size = 16) (hr2 : rowN w g' = some cs') (hs2 : cs'.size = 16)
    (hR : R (.returned (.tuple #[.agg cs, .agg cs'])) w) : bodyPost Try.prog fn R .ret a w := by
  refine bodyPost_ret (v := .tuple #[.agg cs, .agg cs']) ?_ hd hR
  have e1 : a.tmps[p]?.getD undef = .pointer (some ⟨g, 0, none⟩) := by simpa using hp
  have e2 : a.tmps[p']?.getD undef = .pointer (some ⟨g', 0, none⟩) := by simpa using hp2
  simp [results, h, e1, e2, asAddr, run_loadVar28_row hr hs, run_loadVar28_row hr2 hs2]

theorem ret_nat_nat_tmp {fn : Func} {p p' q : Tmp} {R : Ending → World → Prop} {a : Act} {w : World} (g g' : Nat) (cs cs' : Array Value) (h : fn.results = #[.cell p 28, .cell p' 28, .tmp q])
    (hp : a.tmps.getD p undef = .pointer (some ⟨g, 0, none⟩)) (hp2 : a.tmps.getD p' undef = .pointer (some ⟨g', 0, none⟩)) (hd : a.defers = []) (hr : rowN w g = some cs) (hs : cs.size = 16) (hr2 : rowN w g' = some cs') (hs2 : cs'.size = 16)
    (hR : R (.returned (.tuple #[.agg cs, .agg cs', a.tmps.getD q undef])) w) : bodyPost Try.prog fn R .ret a w := by
  refine bodyPost_ret (v := .tuple #[.agg cs, .agg cs', a.tmps.getD q undef]) ?_ hd hR
  have e1 : a.tmps[p]?.getD undef = .pointer (some ⟨g, 0, none⟩) := by simpa using hp
  have e2 : a.tmps[p']?.getD undef = .pointer (some ⟨g', 0, none⟩) := by simpa using hp2
  simp [results, h, e1, e2, asAddr, run_loadVar28_row hr hs, run_loadVar28_row hr2 hs2]

theorem ret_nat_tmp_tmp {fn : Func} {p q q' : Tmp} {R : Ending → World → Prop} {a : Act} {w : World} (g : Nat) (cs : Array Value) (h : fn.results = #[.cell p 28, .tmp q, .tmp q'])
    (hp : a.tmps.getD p undef = .pointer (some ⟨g, 0, none⟩)) (hd : a.defers = []) (hr : rowN w g = some cs) (hs : cs.size = 16) (hR : R (.returned (.tuple #[.agg cs, a.tmps.getD q undef, a.tmps.getD q' undef])) w) : bodyPost Try.prog fn R .ret a w := by
  refine bodyPost_ret (v := .tuple #[.agg cs, a.tmps.getD q undef, a.tmps.getD q' undef]) ?_ hd hR
  have hp' : a.tmps[p]?.getD undef = .pointer (some ⟨g, 0, none⟩) := by simpa using hp
  simp [results, h, hp', asAddr, run_loadVar28_row hr hs]

theorem below_setRow' {B g : Nat} {w0 w : World} (hb : Below B w0 w) (hBg : B ≤ g) (cs : Array Value) : Below B w0 (w.setRow g cs) :=
  hb.trans ⟨rfl, rfl, rfl, by simp [World.setRow], fun k hk => setRow_other w g k cs (by omega)⟩

/-! A number of one digit, written as a composite. -/
theorem dgt_small {n i : Nat} (h : n < P64) : dgt P64 n i = if i = 0 then n else 0 := by
  unfold dgt
  split
  · rename_i e; subst e; simp [Nat.mod_eq_of_lt h]
  · rename_i e
    obtain ⟨k, rfl⟩ : ∃ k, i = k + 1 := ⟨i - 1, by omega⟩
    have : n / P64 ^ (k + 1) = 0 := by
      refine Nat.div_eq_of_lt (Nat.lt_of_lt_of_le h ?_)
      rw [Nat.pow_succ]
      exact Nat.le_mul_of_pos_left _ (Nat.pow_pos P64_pos)
    rw [this, Nat.zero_mod]

theorem natA_small {n : Nat} (h : n < P64) : natA n = #[.int .u64 n, .int .u64 0, .int .u64 0, .int .u64 0, .int .u64 0, .int .u64 0, .int .u64 0, .int .u64 0, .int .u64 0, .int .u64 0, .int .u64 0, .int .u64 0, .int .u64 0, .int .u64 0, .int .u64 0, .int .u64 0] := by
  have e : natA n = (natA 0).setIfInBounds 0 (.int .u64 n) := by
    have := natA_set 0 n 0 (by omega) (fun j _ hj => by rw [dgt_small h, if_neg hj, dgt_zero])
    rw [dgt_small h, if_pos rfl] at this
    exact this.symm
  rw [e, natA_zero_lit]; rfl

theorem run_build26_any (W : World) (x : Int) : (Instr.build 26 #[(0, .int .u64 x)]).run Try.prog W = .ok (.agg #[.int .u64 x, .int .u64 0, .int .u64 0, .int .u64 0, .int .u64 0, .int .u64 0, .int .u64 0, .int .u64 0, .int .u64 0, .int .u64 0, .int .u64 0, .int .u64 0, .int .u64 0, .int .u64 0, .int .u64 0, .int .u64 0]) W := by
  kernel_rfl
theorem run_build26 (W : World) (n : Nat) (h : n < P64) : (Instr.build 26 #[(0, .int .u64 n)]).run Try.prog W = .ok (.agg (natA n)) W := by
  rw [run_build26_any, natA_small h]

theorem run_build28_any (W : World) (x0 x1 x2 x3 x4 x5 x6 x7 x8 x9 xa xb xc xd xe xf : Value) :
    (Instr.build 28 #[(0, .agg #[x0, x1, x2, x3, x4, x5, x6, x7, x8, x9, xa, xb, xc, xd, xe, xf])]).run Try.prog W = .ok (.agg #[x0, x1, x2, x3, x4, x5, x6, x7, x8, x9, xa, xb, xc, xd, xe, xf]) W := by
  kernel_rfl
theorem run_build28_one (W : World) (v : Nat) : (Instr.build 28 #[(0, .agg (natA v))]).run Try.prog W = .ok (.agg (natA v)) W := by
  obtain ⟨l, hl⟩ : ∃ l, natA v = l := ⟨_, rfl⟩
  have hs := natA_size v
  rw [hl] at hs ⊢
  obtain ⟨l⟩ := l
  match l, hs with
  | [x0, x1, x2, x3, x4, x5, x6, x7, x8, x9, xa, xb, xc, xd, xe, xf], _ => exact run_build28_any W x0 x1 x2 x3 x4 x5 x6 x7 x8 x9 xa xb xc xd xe xf

def natOne (x : Value) : Sem Next := do pure (.value (← Instr.build 26 #[(0, x)]))
def natWrap (x : Value) : Sem Next := do pure (.value (← Instr.build 28 #[(0, x)]))
section
variable (ρ : Operand → Value) (dst : Option Tmp) (x : Operand) (ty : TypeId) (pos : String) (after : Array Edge) (guard : Option (Nat × Bool))
@[go_sem ↓] theorem execOp_build26 : execOp ρ { dst, op := .build 26 #[(0, x)], type := ty, pos, after, guard } = natOne (ρ x) := by simp [execOp, natOne]
@[go_sem ↓] theorem execOp_build28 : execOp ρ { dst, op := .build 28 #[(0, x)], type := ty, pos, after, guard } = natWrap (ρ x) := by simp [execOp, natWrap]
end
@[go_sem] theorem run_natOne (W : World) (x : Int) (h0 : 0 ≤ x) (h1 : x ≤ 18446744073709551615) : (natOne (.int .u64 x)).run Try.prog W = .ok (.value (.agg (natA x.toNat))) W := by
  have h : x.toNat < P64 := by rw [P64_eq]; omega
  have e : ((x.toNat : Nat) : Int) = x := by omega
  have := run_build26 W x.toNat h
  rw [e] at this
  simp [natOne, this]
@[go_sem] theorem run_natWrap (W : World) (v : Nat) : (natWrap (.agg (natA v))).run Try.prog W = .ok (.value (.agg (natA v))) W := by
  simp [natWrap, run_build28_one]

theorem bits_and_u8_nat (a b : Nat) (ha : a < 256) (hb : b < 256) : bits .and .u8 (a : Int) (b : Int) = ((a &&& b : Nat) : Int) := by
  have hx : a &&& b < 2 ^ 8 := Nat.and_lt_two_pow _ (by omega)
  have h1 : (BitVec.ofInt 8 (a : Int)).toNat = a := by
    rw [BitVec.ofInt_natCast, BitVec.toNat_ofNat]; exact Nat.mod_eq_of_lt (by omega)
  have h2 : (BitVec.ofInt 8 (b : Int)).toNat = b := by
    rw [BitVec.ofInt_natCast, BitVec.toNat_ofNat]; exact Nat.mod_eq_of_lt (by omega)
  show IntKind.u8.wrap ((BitVec.ofInt 8 (a : Int) &&& BitVec.ofInt 8 (b : Int)).toNat : Int) = _
  rw [BitVec.toNat_and, h1, h2, IntKind.wrap_u8]
  omega

/-! What a world made of new blocks alone keeps. -/
theorem bcell {W w1 : World} (hb : Below W.heap.size W w1) : (∀ b o, b < W.heap.size → w1.cell? ⟨b, o, none⟩ = W.cell? ⟨b, o, none⟩) ∧ (∀ b o, b < W.heap.size → w1.frozen? ⟨b, o, none⟩ = W.frozen? ⟨b, o, none⟩) :=
  ⟨fun b o h => hb.cell (p := ⟨b, o, none⟩) h, fun b o h => hb.frozen (p := ⟨b, o, none⟩) h⟩
theorem brow {W w1 : World} (hb : Below W.heap.size W w1) : ∀ g, g < W.heap.size → rowN w1 g = rowN W g := fun g h => by
  unfold rowN; rw [hb.block g h]
theorem rowN_cell {w : World} {g : Nat} {cs : Array Value} (h : rowN w g = some cs) : (∀ o, w.cell? ⟨g, o, none⟩ = cs[o]?) ∧ (∀ o, w.frozen? ⟨g, o, none⟩ = false) := by
  obtain ⟨t, hg⟩ := rowN_some h
  exact ⟨fun o => cell_of_row w g o cs t (0, 0) hg, fun o => by simp [World.frozen?, hg]⟩
theorem rowN_lt {w : World} {g : Nat} {cs : Array Value} (h : rowN w g = some cs) : g < w.heap.size := by
  obtain ⟨t, hg⟩ := rowN_some h
  exact (Array.getElem?_eq_some_iff.1 hg).1
theorem grownBy_rowN {w w' : World} {row : Option Nat} (h : w.grownBy w' row) {g : Nat} (hl : g < w.heap.size) (hne : some g ≠ row) : rowN w' g = rowN w g := by
  unfold rowN; rw [h.block g hl hne]
end Go.Proofs.Ytlmfiggmjpjpiaa
