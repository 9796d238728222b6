/- The walk's rules for a modulus: a struct of one number, kept as the number's sixteen cells. -/
import Derived.Test.YtlmfiggmjpjpiaaKit
namespace Go.Proofs.Ytlmfiggmjpjpiaa
open Go.RowKit

theorem run_loadVar58 (W : World) (g : Nat) : (loadVar 58 ⟨g, 0, none⟩).run Try.prog W = rowLoad 58 W g (rowN W g) :=
  run_loadVar_rowLoad 58 _ rfl Try.underlying58 (by kernel_rfl) W g
theorem run_storeVar58 (W : World) (g v : Nat) : (storeVar 58 ⟨g, 0, none⟩ (.agg (natA v))).run Try.prog W = rowStore 58 W g (natA v) (rowN W g) := by
  obtain ⟨i, hi, hs⟩ : ∃ i, Try.prog.info? 58 = some i ∧ i.size = 16 := by
    have h : (Try.prog.info? 58).map (·.size) = some 16 := by kernel_rfl
    cases e : Try.prog.info? 58 with
    | none => rw [e] at h; cases h
    | some i => exact ⟨i, rfl, by rw [e] at h; simpa using h⟩
  exact run_storeVar_rowStore 58 i hi hs W g v
@[go_sem ↓] theorem run_build58 (W : World) : (Instr.build 58 #[]).run Try.prog W = .ok (.agg (natA 0)) W := by
  rw [natA_zero_lit]; kernel_rfl
@[go_sem ↓] theorem run_zeroValue58 (W : World) : (zeroValue 58).run Try.prog W = .ok (.agg (natA 0)) W := by
  rw [natA_zero_lit]; kernel_rfl
theorem run_build58_any (W : World) (x0 x1 x2 x3 x4 x5 x6 x7 x8 x9 xa xb xc xd xe xf : Value) :
    (Instr.build 58 #[(0, .agg #[x0, x1, x2, x3, x4, x5, x6, x7, x8, x9, xa, xb, xc, xd, xe, xf])]).run Try.prog W = .ok (.agg #[x0, x1, x2, x3, x4, x5, x6, x7, x8, x9, xa, xb, xc, xd, xe, xf]) W := by
  kernel_rfl
theorem run_build58_one (W : World) (v : Nat) : (Instr.build 58 #[(0, .agg (natA v))]).run Try.prog W = .ok (.agg (natA v)) W := by
  obtain ⟨l, hl⟩ : ∃ l, natA v = l := ⟨_, rfl⟩
  have hs := natA_size v
  rw [hl] at hs ⊢
  obtain ⟨l⟩ := l
  match l, hs with
  | [x0, x1, x2, x3, x4, x5, x6, x7, x8, x9, xa, xb, xc, xd, xe, xf], _ => exact run_build58_any W x0 x1 x2 x3 x4 x5 x6 x7 x8 x9 xa xb xc xd xe xf

def modWrap (x : Value) : Sem Next := do pure (.value (← Instr.build 58 #[(0, x)]))
section
variable (ρ : Operand → Value) (dst : Option Tmp) (x y : Operand) (ty yt : TypeId) (pos : String) (after : Array Edge) (guard : Option (Nat × Bool))
@[go_sem ↓] theorem execOp_load58 : execOp ρ { dst, op := .load 58 x, type := ty, pos, after, guard } = natLoad 58 (ρ x) := rfl
@[go_sem ↓] theorem execOp_store58 : execOp ρ { dst, op := .store 58 x y, type := ty, pos, after, guard } = natStore 58 (ρ x) (ρ y) := rfl
@[go_sem ↓] theorem execOp_wrap58 : execOp ρ { dst, op := .build 58 #[(0, x)], type := ty, pos, after, guard } = modWrap (ρ x) := by simp [execOp, modWrap]
end
@[go_sem] theorem run_natLoad58 (W : World) (g : Nat) : (natLoad 58 (.pointer (some ⟨g, 0, none⟩))).run Try.prog W = (rowLoad 58 W g (rowN W g)).andThen fun v w => .ok (.value v) w := by
  rw [← run_loadVar58]
  simp [natLoad, Instr.loadAt, Instr.sureAddr]
@[go_sem] theorem run_natStore58 (W : World) (g v : Nat) : (natStore 58 (.pointer (some ⟨g, 0, none⟩)) (.agg (natA v))).run Try.prog W = (rowStore 58 W g (natA v) (rowN W g)).andThen fun _ w => .ok .skip w := by
  rw [← run_storeVar58]
  simp [natStore, Instr.storeAt, Instr.sureAddr]
@[go_sem] theorem run_modWrap (W : World) (v : Nat) : (modWrap (.agg (natA v))).run Try.prog W = .ok (.value (.agg (natA v))) W := by
  simp [modWrap, run_build58_one]
theorem run_loadVar58_row {W : World} {g : Nat} {cs : Array Value} (hr : rowN W g = some cs) (hs : cs.size = 16) : (loadVar 58 ⟨g, 0, none⟩).run Try.prog W = .ok (.agg cs) W := by
  rw [run_loadVar58, hr, rowLoad_some _ _ _ _ hs]
theorem ret_mod_tmp {fn : Func} {p q : Tmp} {R : Ending → World → Prop} {a : Act} {w : World} (g : Nat) (cs : Array Value) (h : fn.results = #[.cell p 58, .tmp q])
    (hp : a.tmps.getD p undef = .pointer (some ⟨g, 0, none⟩)) (hd : a.defers = []) (hr : rowN w g = some cs) (hs : cs.size = 16) (hR : R (.returned (.tuple #[.agg cs, a.tmps.getD q undef])) w) : bodyPost Try.prog fn R .ret a w := by
  refine bodyPost_ret (v := .tuple #[.agg cs, a.tmps.getD q undef]) ?_ hd hR
  have hp' : a.tmps[p]?.getD undef = .pointer (some ⟨g, 0, none⟩) := by simpa using hp
  simp [results, h, hp', asAddr, run_loadVar58_row hr hs]
end Go.Proofs.Ytlmfiggmjpjpiaa
