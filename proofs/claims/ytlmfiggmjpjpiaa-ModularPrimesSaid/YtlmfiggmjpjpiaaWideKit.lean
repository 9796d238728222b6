/- The walk's rules for seventeen digits. -/
import Derived.Test.YtlmfiggmjpjpiaaG3
import Derived.Test.YtlmfiggmjpjpiaaZMath
namespace Go.Proofs.Ytlmfiggmjpjpiaa
open Go.RowKit

theorem wdA_oneCell (N v : Nat) : ∀ x ∈ (wdA N v).toList, x.oneCell' = true := by
  intro x hx
  unfold wdA at hx
  simp at hx
  obtain ⟨i, _, rfl⟩ := hx
  rfl

/-- What a row of seventeen cells is read as. -/
noncomputable def wideLoadR (W : World) (g : Nat) : Option (Array Value) → Result Value
  | some cs => if cs.size = 17 then .ok (.agg cs) W else (loadVar 104 ⟨g, 0, none⟩).run Try.prog W
  | none => (loadVar 104 ⟨g, 0, none⟩).run Try.prog W
@[go_sem] theorem wideLoadR_some (W : World) (g : Nat) (cs : Array Value) (h : cs.size = 17) : wideLoadR W g (some cs) = .ok (.agg cs) W := by simp [wideLoadR, h]
theorem run_loadVar95 (W : World) (g : Nat) : (loadVar 104 ⟨g, 0, none⟩).run Try.prog W = wideLoadR W g (rowN W g) := by
  cases h : rowN W g with
  | none => rfl
  | some cs =>
    by_cases hs : cs.size = 17
    · simp only [wideLoadR, if_pos hs]
      obtain ⟨t', hg⟩ := rowN_some h
      have hi : (Try.prog.info? 104).map (·.size) = some 17 := by kernel_rfl
      obtain ⟨d, hd1, hd2⟩ : ∃ d, Try.prog.underlying 104 = some d ∧ (match d with | .struct _ | .array _ _ => true | _ => false) = true := ⟨_, Try.underlying104, rfl⟩
      exact run_loadVar_row W g t' 104 cs (0, 0) d hg hd1 (by cases d <;> first | rfl | exact hd2) (by rw [hi, hs])
    · simp only [wideLoadR, if_neg hs]
noncomputable def wideStoreR (W : World) (g : Nat) (cs : Array Value) : Option (Array Value) → Result Unit
  | some old => if old.size = 17 then .ok () (W.setRow g cs) else (storeVar 104 ⟨g, 0, none⟩ (.agg cs)).run Try.prog W
  | none => (storeVar 104 ⟨g, 0, none⟩ (.agg cs)).run Try.prog W
@[go_sem] theorem wideStoreR_some (W : World) (g : Nat) (cs old : Array Value) (h : old.size = 17) : wideStoreR W g cs (some old) = .ok () (W.setRow g cs) := by simp [wideStoreR, h]
theorem run_storeVar95 (W : World) (g v : Nat) : (storeVar 104 ⟨g, 0, none⟩ (.agg (wdA 17 v))).run Try.prog W = wideStoreR W g (wdA 17 v) (rowN W g) := by
  cases h : rowN W g with
  | none => rfl
  | some old =>
    by_cases ho : old.size = 17
    · simp only [wideStoreR, if_pos ho]
      obtain ⟨t', hg⟩ := rowN_some h
      have hst := run_storeCells_at (P := Try.prog) g 0 t' (wdA 17 v).toList 0 old W hg (by simp [wdA_size, ho]) (wdA_oneCell 17 v)
      obtain ⟨i, hi, hs⟩ : ∃ i, Try.prog.info? 104 = some i ∧ i.size = 17 := by
        have h : (Try.prog.info? 104).map (·.size) = some 17 := by kernel_rfl
        cases e : Try.prog.info? 104 with
        | none => rw [e] at h; cases h
        | some i => exact ⟨i, rfl, by rw [e] at h; simpa using h⟩
      have hsz : (sizeOf 104).run Try.prog W = .ok 17 W := by simp [sizeOf, typeInfo, hi, hs]
      have e : (old.toList.take (0 + 0) ++ (wdA 17 v).toList ++ old.toList.drop (0 + 0 + (wdA 17 v).toList.length)).toArray = wdA 17 v := by
        simp [wdA_size, List.drop_eq_nil_of_le, ho]
      rw [e] at hst
      simp only [storeVar, Sem.run_bind, hsz, Result.andThen_ok, Value.cells, wdA_size, ne_eq, not_true_eq_false, if_false]
      exact hst
    · simp only [wideStoreR, if_neg ho]

def wideLoad (x : Value) : Sem Next := do pure (.value (← Instr.loadAt 104 x))
def wideStore (a x : Value) : Sem Next := do Instr.storeAt 104 a x; pure .skip
section
variable (ρ : Operand → Value) (dst : Option Tmp) (x y : Operand) (ty : TypeId) (pos : String) (after : Array Edge) (guard : Option (Nat × Bool))
@[go_sem ↓] theorem execOp_load95 : execOp ρ { dst, op := .load 104 x, type := ty, pos, after, guard } = wideLoad (ρ x) := rfl
@[go_sem ↓] theorem execOp_store95 : execOp ρ { dst, op := .store 104 x y, type := ty, pos, after, guard } = wideStore (ρ x) (ρ y) := rfl
end
@[go_sem] theorem run_wideLoad (W : World) (g : Nat) : (wideLoad (.pointer (some ⟨g, 0, none⟩))).run Try.prog W = (wideLoadR W g (rowN W g)).andThen fun v w => .ok (.value v) w := by
  rw [← run_loadVar95]
  simp [wideLoad, Instr.loadAt, Instr.sureAddr]
@[go_sem] theorem run_wideStore (W : World) (g v : Nat) : (wideStore (.pointer (some ⟨g, 0, none⟩)) (.agg (wdA 17 v))).run Try.prog W = (wideStoreR W g (wdA 17 v) (rowN W g)).andThen fun _ w => .ok .skip w := by
  rw [← run_storeVar95]
  simp [wideStore, Instr.storeAt, Instr.sureAddr]
theorem ret_wide {fn : Func} {p : Tmp} {R : Ending → World → Prop} {a : Act} {w : World} (g : Nat) (cs : Array Value) (h : fn.results = #[.cell p 104])
    (hp : a.tmps.getD p undef = .pointer (some ⟨g, 0, none⟩)) (hd : a.defers = []) (hr : rowN w g = some cs) (hs : cs.size = 17) (hR : R (.returned (.agg cs)) w) : bodyPost Try.prog fn R .ret a w := by
  refine bodyPost_ret (v := .agg cs) ?_ hd hR
  have hp' : a.tmps[p]?.getD undef = .pointer (some ⟨g, 0, none⟩) := by simpa using hp
  have hl : (loadVar 104 ⟨g, 0, none⟩).run Try.prog w = .ok (.agg cs) w := by rw [run_loadVar95, hr, wideLoadR_some _ _ _ hs]
  simp [results, h, hp', asAddr, hl]

theorem run_index26 (v i : Nat) (hi : i < 16) (W : World) : (Instr.index 26 (.agg (natA v)) (.int .i64 (i : Nat))).run Try.prog W = .ok (.int .u64 (dgt P64 v i : Nat)) W := by
  have hp : Try.prog.plainKey 24 = true := by kernel_rfl
  have h1 : (i : Int) < 16 := by omega
  simp only [Instr.index, Sem.run_bind, run_underlying Try.underlying26, Result.andThen_ok]
  simp [asIntOf, h1, run_part_plain W hp (natA_get v i hi)]

theorem or_u64 {a b : Nat} (ha : a < 18446744073709551616) (hb : b < 18446744073709551616) : bits .or .u64 (a : Int) (b : Int) = ((a ||| b : Nat) : Int) := by
  have ha' : a < 2 ^ 64 := ha
  have hb' : b < 2 ^ 64 := hb
  have hx : a ||| b < 2 ^ 64 := Nat.or_lt_two_pow ha' hb'
  have h1 : (BitVec.ofInt 64 (a : Int)).toNat = a := by
    rw [BitVec.ofInt_natCast, BitVec.toNat_ofNat]; exact Nat.mod_eq_of_lt ha'
  have h2 : (BitVec.ofInt 64 (b : Int)).toNat = b := by
    rw [BitVec.ofInt_natCast, BitVec.toNat_ofNat]; exact Nat.mod_eq_of_lt hb'
  show IntKind.u64.wrap ((BitVec.ofInt 64 (a : Int) ||| BitVec.ofInt 64 (b : Int)).toNat : Int) = _
  rw [BitVec.toNat_or, h1, h2, IntKind.wrap_u64]
  omega

/-- One round of widened, in the walk's words. -/
theorem up_step {v s i : Nat} (hs : s < 64) :
    bits .or .u64 (IntKind.u64.wrap (((dgt P64 v i : Nat) : Int) * 2 ^ s)) ((mulC P64 v (2 ^ s) i : Nat) : Int) = ((dgt P64 (v * 2 ^ s) i : Nat) : Int) ∧ ((dgt P64 v i : Nat) : Int) / 2 ^ (64 - s) = ((mulC P64 v (2 ^ s) (i + 1) : Nat) : Int) := by
  have hl : mulC P64 v (2 ^ s) i < 2 ^ s := mulC_lt P64_pos (Nat.two_pow_pos s)
  have hm := mulC_step P64_pos v (2 ^ s) i
  have hd : dgt P64 (v * 2 ^ s) i < P64 := dgt_lt P64_pos
  generalize dgt P64 v i = x at *
  generalize mulC P64 v (2 ^ s) i = l at *
  generalize mulC P64 v (2 ^ s) (i + 1) = l2 at *
  generalize dgt P64 (v * 2 ^ s) i = d at *
  rw [P64_eq] at hm hd
  have hl64 : l < 18446744073709551616 := by
    have : 2 ^ s < 2 ^ 64 := Nat.pow_lt_pow_right (by omega) hs
    omega
  have e64 : (2 : Nat) ^ 64 = 18446744073709551616 := by decide
  have h1 := up_or (x := x) (Nat.le_of_lt hs) hl
  have h2 := up_lost (x := x) (Nat.le_of_lt hs) hl
  rw [e64] at h1 h2
  have c1 : ((x : Int) * 2 ^ s) = ((x * 2 ^ s : Nat) : Int) := by rw [Int.natCast_mul, Int.natCast_pow]; rfl
  have c2 : ((x : Int) / 2 ^ (64 - s)) = ((x / 2 ^ (64 - s) : Nat) : Int) := by rw [Int.natCast_ediv, Int.natCast_pow]; rfl
  have c3 : IntKind.u64.wrap ((x * 2 ^ s : Nat) : Int) = ((x * 2 ^ s % 18446744073709551616 : Nat) : Int) := by rw [IntKind.wrap_u64]; omega
  rw [c1, c2, c3, or_u64 (Nat.mod_lt _ (by omega)) hl64, h1, ← h2]
  constructor <;> omega
end Go.Proofs.Ytlmfiggmjpjpiaa
