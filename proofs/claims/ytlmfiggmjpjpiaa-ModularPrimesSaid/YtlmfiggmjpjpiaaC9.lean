/- What Add and Sub come to. -/
import Derived.Test.YtlmfiggmjpjpiaaC8
import Derived.Shelf.Spec.BitsCarry
namespace Go.Proofs.Ytlmfiggmjpjpiaa
open Go.RowKit

theorem run_add64_call (x y c : Nat) (hc : c ≤ 1) (w : World) : (callFunc 78 #[.int .u64 x, .int .u64 y, .int .u64 c]).run Try.prog w =
    .ok (.value (.tuple #[.int .u64 (((x + y + c) % P64 : Nat) : Int), .int .u64 (((x + y + c) / P64 : Nat) : Int)])) w := by
  rw [run_callFunc_extern Try.func78 (by kernel_rfl) (by kernel_rfl) (by kernel_rfl) (e := add64Entry) (by kernel_rfl), run_add64 x y c (by omega) (by omega) (by omega) (by omega), P64_eq]
  simp only [Result.andThen]
  congr 5 <;> omega

theorem run_sub64_call (x y b : Nat) (hb : b ≤ 1) (w : World) : (callFunc 76 #[.int .u64 x, .int .u64 y, .int .u64 b]).run Try.prog w =
    .ok (.value (.tuple #[.int .u64 (((x + P64 - y - b) % P64 : Nat) : Int), .int .u64 ((if x < y + b then 1 else 0 : Nat) : Int)])) w := by
  rw [run_callFunc_extern Try.func76 (by kernel_rfl) (by kernel_rfl) (by kernel_rfl) (e := sub64Entry) (by kernel_rfl), run_sub64 x y b hb, P64_eq]
  rfl

set_option maxRecDepth 100000 in
theorem add1_any (x y c C : Nat) (hc : c ≤ 1) (w : World) (hC : w.cell? ⟨C, 0, none⟩ = some (.int .u64 (c : Nat))) (hf : w.frozen? ⟨C, 0, none⟩ = false) :
    Calls Try.prog 77 #[.int .u64 x, .int .u64 y, .pointer (some ⟨C, 0, none⟩)] w fun e w' => e = .returned (.int .u64 ((x + y + c) % P64 : Nat)) ∧ w' = w.setCell ⟨C, 0, none⟩ (.int .u64 ((x + y + c) / P64 : Nat)) := by
  have hcall := run_add64_call x y c hc
  go_enter Try.func77, Try.ntmps77
  go_wp2
  go_ret
  exact ⟨rfl, rfl⟩

set_option maxRecDepth 100000 in
theorem sub1_any (x y c C : Nat) (hc : c ≤ 1) (w : World) (hC : w.cell? ⟨C, 0, none⟩ = some (.int .u64 (c : Nat))) (hf : w.frozen? ⟨C, 0, none⟩ = false) :
    Calls Try.prog 75 #[.int .u64 x, .int .u64 y, .pointer (some ⟨C, 0, none⟩)] w fun e w' => e = .returned (.int .u64 ((x + P64 - y - c) % P64 : Nat)) ∧ w' = w.setCell ⟨C, 0, none⟩ (.int .u64 (if x < y + c then 1 else 0 : Nat)) := by
  have hcall := run_sub64_call x y c hc
  generalize (x + P64 - y - c) % P64 = a at *
  generalize (if x < y + c then 1 else 0 : Nat) = b at *
  go_enter Try.func75, Try.ntmps75
  go_wp2
  go_ret
  exact ⟨rfl, rfl⟩

/-- A cell that holds a carry. -/
def Carry (C : Nat) (c : Nat → Nat) (k : Nat) (W : World) : Prop := W.cell? ⟨C, 0, none⟩ = some (.int .u64 (c k : Nat)) ∧ W.frozen? ⟨C, 0, none⟩ = false

theorem Carry.kept {C : Nat} {c : Nat → Nat} {k bx : Nat} {W₁ W₂ : World} (h : Carry C c k W₁) (hch : Ch (fun b => b = bx) W₁ W₂) (hne : C ≠ bx) : Carry C c k W₂ := by
  have hl : C < W₁.heap.size := block_lt_of_cell h.1
  exact ⟨by rw [hch.cell hl hne]; exact h.1, by rw [hch.frozen hl hne]; exact h.2⟩

theorem Carry.set {C : Nat} {c : Nat → Nat} {k n : Nat} {W : World} (h : Carry C c k W) (hn : c (k + 1) = n) : Carry C c (k + 1) (W.setCell ⟨C, 0, none⟩ (.int .u64 (n : Nat))) := by
  subst hn
  exact ⟨World.cell?_setCell_same _ _ _ h.1, by rw [World.frozen?_setCell]; exact h.2⟩

theorem enter60 (args : Array Value) (w : World) : (callFunc 77 args).run Try.prog w = .ok (.enter 77 args) w := by
  simp [callFunc, Try.func77, Try.f77, mark]

theorem row_of_digits (v r : Nat) (out : Nat → Int) (h : ∀ k, k < 16 → out k = (dgt P64 r k : Nat)) : combRow (natA v) 0 out 16 = natA r := by
  refine Array.ext_getElem? fun j => ?_
  by_cases hj : j < 16
  · rw [combRow_get _ _ _ _ _ (by rw [natA_size]; exact hj), if_pos (by omega), natA_get _ _ hj, Nat.sub_zero, h j hj]
  · rw [Array.getElem?_eq_none_iff.2 (by rw [combRow_size, natA_size]; omega), Array.getElem?_eq_none_iff.2 (by rw [natA_size]; omega)]

theorem add_round (v u k C : Nat) (W₁ : World) (hi : Carry C (addC P64 v u) k W₁) :
    Calls Try.prog 77 (#[.int .u64 (dgt P64 v k : Nat), .int .u64 (dgt P64 u k : Nat)] ++ #[.pointer (some ⟨C, 0, none⟩)]) W₁ fun e W₂ =>
      e = .returned (.int .u64 (dgt P64 (v + u) k : Nat)) ∧ Carry C (addC P64 v u) (k + 1) W₂ ∧ Ch (fun b => b = C) W₁ W₂ := by
  have hs := addC_step P64_pos v u k
  have hl : dgt P64 (v + u) k < P64 := dgt_lt P64_pos
  have e1 : (dgt P64 v k + dgt P64 u k + addC P64 v u k) % P64 = dgt P64 (v + u) k := by rw [hs, Nat.add_mul_mod_self_left, Nat.mod_eq_of_lt hl]
  have e2 : (dgt P64 v k + dgt P64 u k + addC P64 v u k) / P64 = addC P64 v u (k + 1) := by rw [hs, Nat.add_mul_div_left _ _ P64_pos, Nat.div_eq_of_lt hl, Nat.zero_add]
  have h := add1_any (dgt P64 v k) (dgt P64 u k) (addC P64 v u k) C (addC_le P64_pos _ _ _) W₁ hi.1 hi.2
  rw [e1, e2] at h
  have hcat : (#[.int .u64 (dgt P64 v k : Nat), .int .u64 (dgt P64 u k : Nat)] ++ #[.pointer (some ⟨C, 0, none⟩)] : Array Value) = #[.int .u64 (dgt P64 v k : Nat), .int .u64 (dgt P64 u k : Nat), .pointer (some ⟨C, 0, none⟩)] := by simp
  rw [hcat]
  refine h.mono ?_
  rintro e W₂ ⟨rfl, rfl⟩
  exact ⟨rfl, hi.set rfl, Ch.setCell _ _ _ _ rfl⟩

theorem combine_add (v u A B C : Nat) (hAB : B ≠ A) (hCA : C ≠ A) (hBC : B ≠ C) (W : World) (hA : rowN W A = some (natA v)) (hB : rowN W B = some (natA u)) (hC : Carry C (addC P64 v u) 0 W) :
    Calls Try.prog 74 #[.slice (some ⟨A, 0, none⟩) 16 16, .slice (some ⟨B, 0, none⟩) 16 16, .func (.func 77) #[] #[.pointer (some ⟨C, 0, none⟩)]] W fun e W' =>
      e = .returned (.tuple #[]) ∧ rowN W' A = some (natA (v + u)) ∧ Carry C (addC P64 v u) 16 W' ∧ Ch (fun b => b = C ∨ b = A) W W' := by
  have h := combine_any 16 A 0 16 B 0 16 16 77 #[.pointer (some ⟨C, 0, none⟩)] (natA v) (fun k => (dgt P64 v k : Nat)) (fun k => (dgt P64 u k : Nat)) (fun k => (dgt P64 (v + u) k : Nat)) (Carry C (addC P64 v u)) (fun b => b = C)
    enter60 (by omega) (by omega) W hA (fun e => hCA e.symm) hAB (rowN_lt hB) hBC (fun k hk => by rw [Nat.zero_add]; exact natA_get v k hk) (fun k hk => by rw [Nat.zero_add, (rowN_cell hB).1]; exact natA_get u k hk)
    hC (fun k W₁ W₂ hi hch => hi.kept hch hCA) (fun k W₁ _ hi => add_round v u k C W₁ hi)
  refine h.mono ?_
  rintro e W' ⟨rfl, hr, hi, hch⟩
  exact ⟨rfl, by rw [hr, row_of_digits v (v + u) _ (fun k _ => rfl)], hi, hch⟩

theorem enter62 (args : Array Value) (w : World) : (callFunc 75 args).run Try.prog w = .ok (.enter 75 args) w := by
  simp [callFunc, Try.func75, Try.f75, mark]

/-- The difference of two numbers, modulo 2^1024. -/
def subN (v u : Nat) : Nat := subW P64 16 v u

theorem sub_round (v u k C : Nat) (hu : u < P64 ^ 16) (hk : k < 16) (W₁ : World) (hi : Carry C (addC P64 (subN v u) u) k W₁) :
    Calls Try.prog 75 (#[.int .u64 (dgt P64 v k : Nat), .int .u64 (dgt P64 u k : Nat)] ++ #[.pointer (some ⟨C, 0, none⟩)]) W₁ fun e W₂ =>
      e = .returned (.int .u64 (dgt P64 (subN v u) k : Nat)) ∧ Carry C (addC P64 (subN v u) u) (k + 1) W₂ ∧ Ch (fun b => b = C) W₁ W₂ := by
  obtain ⟨e1, e2⟩ := sub_digit (v := v) P64_pos hu hk
  have h := sub1_any (dgt P64 v k) (dgt P64 u k) (addC P64 (subN v u) u k) C (addC_le P64_pos _ _ _) W₁ hi.1 hi.2
  unfold subN at *
  rw [e1, e2] at h
  have hcat : (#[.int .u64 (dgt P64 v k : Nat), .int .u64 (dgt P64 u k : Nat)] ++ #[.pointer (some ⟨C, 0, none⟩)] : Array Value) = #[.int .u64 (dgt P64 v k : Nat), .int .u64 (dgt P64 u k : Nat), .pointer (some ⟨C, 0, none⟩)] := by simp
  rw [hcat]
  refine h.mono ?_
  rintro e W₂ ⟨rfl, rfl⟩
  exact ⟨rfl, hi.set rfl, Ch.setCell _ _ _ _ rfl⟩

theorem combine_sub (v u A B C : Nat) (hu : u < P64 ^ 16) (hAB : B ≠ A) (hCA : C ≠ A) (hBC : B ≠ C) (W : World) (hA : rowN W A = some (natA v)) (hB : rowN W B = some (natA u)) (hC : Carry C (addC P64 (subN v u) u) 0 W) :
    Calls Try.prog 74 #[.slice (some ⟨A, 0, none⟩) 16 16, .slice (some ⟨B, 0, none⟩) 16 16, .func (.func 75) #[] #[.pointer (some ⟨C, 0, none⟩)]] W fun e W' =>
      e = .returned (.tuple #[]) ∧ rowN W' A = some (natA (subN v u)) ∧ Carry C (addC P64 (subN v u) u) 16 W' ∧ Ch (fun b => b = C ∨ b = A) W W' := by
  have h := combine_any 16 A 0 16 B 0 16 16 75 #[.pointer (some ⟨C, 0, none⟩)] (natA v) (fun k => (dgt P64 v k : Nat)) (fun k => (dgt P64 u k : Nat)) (fun k => (dgt P64 (subN v u) k : Nat)) (Carry C (addC P64 (subN v u) u)) (fun b => b = C)
    enter62 (by omega) (by omega) W hA (fun e => hCA e.symm) hAB (rowN_lt hB) hBC (fun k hk => by rw [Nat.zero_add]; exact natA_get v k hk) (fun k hk => by rw [Nat.zero_add, (rowN_cell hB).1]; exact natA_get u k hk)
    hC (fun k W₁ W₂ hi hch => hi.kept hch hCA) (fun k W₁ hk hi => sub_round v u k C hu hk W₁ hi)
  refine h.mono ?_
  rintro e W' ⟨rfl, hr, hi, hch⟩
  exact ⟨rfl, by rw [hr, row_of_digits v (subN v u) _ (fun k _ => rfl)], hi, hch⟩


set_option maxRecDepth 100000 in
theorem add_fits (v u : Nat) (hv : v < P64 ^ 16) (hu : u < P64 ^ 16) (h : v + u < P64 ^ 16) (w : World) : Calls Try.prog 61 #[.agg (natA v), .agg (natA u)] w fun e w' =>
    e = .returned (.tuple #[.agg (natA (v + u)), .int .i64 0]) ∧ Below w.heap.size w w' := by
  have hmf : ∀ (fn : Fn) (first cap : Array Value) (w : World), (Instr.makeFunc fn first cap).run Try.prog w = .ok (.func fn first cap) w := fun _ _ _ _ => rfl
  have HT := Lib.hid (show addC P64 v u 16 = 0 by rw [addC_top hv hu]; exact Nat.div_eq_of_lt h)
  clear h
  have HV := Lib.hid hv
  have HU := Lib.hid hu
  clear hv hu
  have hA : rowN ((((w.alloc (.cells (natA v) 28)).alloc (.cells (natA u) 28)).alloc (.cells (natA 0) 28)).alloc (.cells #[.int .u64 0] 24)).drew w.heap.size = some (natA v) := by
    simp only [rowN_drew, rowN_alloc, World.size_alloc, if_true] <;> (repeat rw [if_neg (by omega)])
  have hB : rowN ((((w.alloc (.cells (natA v) 28)).alloc (.cells (natA u) 28)).alloc (.cells (natA 0) 28)).alloc (.cells #[.int .u64 0] 24)).drew (w.heap.size + 1) = some (natA u) := by
    simp only [rowN_drew, rowN_alloc, World.size_alloc, if_true] <;> (repeat rw [if_neg (by omega)])
  have hR : rowN ((((w.alloc (.cells (natA v) 28)).alloc (.cells (natA u) 28)).alloc (.cells (natA 0) 28)).alloc (.cells #[.int .u64 0] 24)).drew (w.heap.size + 1 + 1) = some (natA 0) := by
    simp only [rowN_drew, rowN_alloc, World.size_alloc, if_true] <;> (repeat rw [if_neg (by omega)])
  have hCr : rowN ((((w.alloc (.cells (natA v) 28)).alloc (.cells (natA u) 28)).alloc (.cells (natA 0) 28)).alloc (.cells #[.int .u64 0] 24)).drew (w.heap.size + 1 + 1 + 1) = some #[.int .u64 0] := by
    simp only [rowN_drew, rowN_alloc, World.size_alloc, if_true] <;> (repeat rw [if_neg (by omega)])
  have hC : Carry (w.heap.size + 1 + 1 + 1) (addC P64 v u) 0 ((((w.alloc (.cells (natA v) 28)).alloc (.cells (natA u) 28)).alloc (.cells (natA 0) 28)).alloc (.cells #[.int .u64 0] 24)).drew := ⟨by rw [(rowN_cell hCr).1, addC_zero]; rfl, (rowN_cell hCr).2 0⟩
  have hbel : Below w.heap.size w ((((w.alloc (.cells (natA v) 28)).alloc (.cells (natA u) 28)).alloc (.cells (natA 0) 28)).alloc (.cells #[.int .u64 0] 24)).drew := (((((Below.refl _ _).alloc (Nat.le_refl _) _).alloc (by simp) _).alloc (by simp; omega) _).alloc (by simp; omega) _).drew
  have HA := Lib.hid hA
  have HB := Lib.hid hB
  have HR := Lib.hid hR
  have HC := Lib.hid hC
  have HBel := Lib.hid hbel
  clear hA hB hR hC hCr hbel
  go_enter Try.func61, Try.ntmps61
  go_wp2_with fail
  go_region_with ((go_at_call 74; refine (combine_add v u w.heap.size (w.heap.size + 1) (w.heap.size + 1 + 1 + 1) (by omega) (by omega) (by omega) _ HA.out HB.out HC.out).mono ?_; rintro e w5 ⟨rfl, hA5, hC5, hch5⟩; have hR5 := (hch5.row (rowN_lt HR.out) (by omega)).trans HR.out; have hc5 := hC5.1; have hf5 := hC5.2; have hb5 := HBel.out.trans (hch5.below w.heap.size HBel.out.size (by rintro k (h | h) <;> omega)); have HB5 := Lib.hid hb5; clear hC5 hch5 hb5))
  all_goals
    rw [HT.out] at hc5
    go_wp2_with fail
    exact ret_nat_tmp _ (natA (v + u)) rfl rfl rfl (by simp [rowN_setRow, hR5]) (natA_size _) ⟨rfl, below_setRow' HB5.out (by omega) _⟩

set_option maxRecDepth 100000 in
theorem add_full (v u : Nat) (hv : v < P64 ^ 16) (hu : u < P64 ^ 16) (h : ¬ v + u < P64 ^ 16) (w : World) : Calls Try.prog 61 #[.agg (natA v), .agg (natA u)] w fun e w' =>
    e = .returned (.tuple #[.agg (natA 0), .int .i64 7]) ∧ Below w.heap.size w w' := by
  have hmf : ∀ (fn : Fn) (first cap : Array Value) (w : World), (Instr.makeFunc fn first cap).run Try.prog w = .ok (.func fn first cap) w := fun _ _ _ _ => rfl
  have h1 := addC_le P64_pos v u 16
  have HT := Lib.hid (show addC P64 v u 16 = 1 by
    have h2 : addC P64 v u 16 ≠ 0 := by
      rw [addC_top hv hu]
      intro e
      rcases Nat.div_eq_zero_iff.1 e with e | e
      · exact absurd e (Nat.ne_of_gt (Nat.pow_pos P64_pos))
      · exact h e
    omega)
  clear h h1
  have HV := Lib.hid hv
  have HU := Lib.hid hu
  clear hv hu
  have hA : rowN ((((w.alloc (.cells (natA v) 28)).alloc (.cells (natA u) 28)).alloc (.cells (natA 0) 28)).alloc (.cells #[.int .u64 0] 24)).drew w.heap.size = some (natA v) := by
    simp only [rowN_drew, rowN_alloc, World.size_alloc, if_true] <;> (repeat rw [if_neg (by omega)])
  have hB : rowN ((((w.alloc (.cells (natA v) 28)).alloc (.cells (natA u) 28)).alloc (.cells (natA 0) 28)).alloc (.cells #[.int .u64 0] 24)).drew (w.heap.size + 1) = some (natA u) := by
    simp only [rowN_drew, rowN_alloc, World.size_alloc, if_true] <;> (repeat rw [if_neg (by omega)])
  have hR : rowN ((((w.alloc (.cells (natA v) 28)).alloc (.cells (natA u) 28)).alloc (.cells (natA 0) 28)).alloc (.cells #[.int .u64 0] 24)).drew (w.heap.size + 1 + 1) = some (natA 0) := by
    simp only [rowN_drew, rowN_alloc, World.size_alloc, if_true] <;> (repeat rw [if_neg (by omega)])
  have hCr : rowN ((((w.alloc (.cells (natA v) 28)).alloc (.cells (natA u) 28)).alloc (.cells (natA 0) 28)).alloc (.cells #[.int .u64 0] 24)).drew (w.heap.size + 1 + 1 + 1) = some #[.int .u64 0] := by
    simp only [rowN_drew, rowN_alloc, World.size_alloc, if_true] <;> (repeat rw [if_neg (by omega)])
  have hC : Carry (w.heap.size + 1 + 1 + 1) (addC P64 v u) 0 ((((w.alloc (.cells (natA v) 28)).alloc (.cells (natA u) 28)).alloc (.cells (natA 0) 28)).alloc (.cells #[.int .u64 0] 24)).drew := ⟨by rw [(rowN_cell hCr).1, addC_zero]; rfl, (rowN_cell hCr).2 0⟩
  have hbel : Below w.heap.size w ((((w.alloc (.cells (natA v) 28)).alloc (.cells (natA u) 28)).alloc (.cells (natA 0) 28)).alloc (.cells #[.int .u64 0] 24)).drew := (((((Below.refl _ _).alloc (Nat.le_refl _) _).alloc (by simp) _).alloc (by simp; omega) _).alloc (by simp; omega) _).drew
  have HA := Lib.hid hA
  have HB := Lib.hid hB
  have HR := Lib.hid hR
  have HC := Lib.hid hC
  have HBel := Lib.hid hbel
  clear hA hB hR hC hCr hbel
  go_enter Try.func61, Try.ntmps61
  go_wp2_with fail
  go_region_with ((go_at_call 74; refine (combine_add v u w.heap.size (w.heap.size + 1) (w.heap.size + 1 + 1 + 1) (by omega) (by omega) (by omega) _ HA.out HB.out HC.out).mono ?_; rintro e w5 ⟨rfl, hA5, hC5, hch5⟩; have hR5 := (hch5.row (rowN_lt HR.out) (by omega)).trans HR.out; have hc5 := hC5.1; have hf5 := hC5.2; have hb5 := HBel.out.trans (hch5.below w.heap.size HBel.out.size (by rintro k (h | h) <;> omega)); have HB5 := Lib.hid hb5; clear hC5 hch5 hb5))
  all_goals
    rw [HT.out] at hc5
    go_wp2_with fail
    exact ret_nat_tmp _ (natA 0) rfl rfl rfl (by simp [rowN_setRow, hR5]) (natA_size _) ⟨rfl, below_setRow' HB5.out (by omega) _⟩

set_option maxRecDepth 100000 in
theorem sub_fits (v u : Nat) (hv : v < P64 ^ 16) (hu : u < P64 ^ 16) (h : u ≤ v) (w : World) : Calls Try.prog 60 #[.agg (natA v), .agg (natA u)] w fun e w' =>
    e = .returned (.tuple #[.agg (natA (v - u)), .int .i64 0]) ∧ Below w.heap.size w w' := by
  have hmf : ∀ (fn : Fn) (first cap : Array Value) (w : World), (Instr.makeFunc fn first cap).run Try.prog w = .ok (.func fn first cap) w := fun _ _ _ _ => rfl
  have hs : subN v u = v - u := by unfold subN subW; rw [if_neg (by omega)]
  have HT := Lib.hid (show addC P64 (subN v u) u 16 = 0 by rw [addC_top (show subN v u < P64 ^ 16 from subW_lt hv) hu]; exact Nat.div_eq_of_lt (by rw [hs]; omega))
  have HS := Lib.hid hs
  clear h hs
  have HV := Lib.hid hv
  have HU := Lib.hid hu
  clear hv hu
  have hA : rowN ((((w.alloc (.cells (natA v) 28)).alloc (.cells (natA u) 28)).alloc (.cells (natA 0) 28)).alloc (.cells #[.int .u64 0] 24)).drew w.heap.size = some (natA v) := by
    simp only [rowN_drew, rowN_alloc, World.size_alloc, if_true] <;> (repeat rw [if_neg (by omega)])
  have hB : rowN ((((w.alloc (.cells (natA v) 28)).alloc (.cells (natA u) 28)).alloc (.cells (natA 0) 28)).alloc (.cells #[.int .u64 0] 24)).drew (w.heap.size + 1) = some (natA u) := by
    simp only [rowN_drew, rowN_alloc, World.size_alloc, if_true] <;> (repeat rw [if_neg (by omega)])
  have hR : rowN ((((w.alloc (.cells (natA v) 28)).alloc (.cells (natA u) 28)).alloc (.cells (natA 0) 28)).alloc (.cells #[.int .u64 0] 24)).drew (w.heap.size + 1 + 1) = some (natA 0) := by
    simp only [rowN_drew, rowN_alloc, World.size_alloc, if_true] <;> (repeat rw [if_neg (by omega)])
  have hCr : rowN ((((w.alloc (.cells (natA v) 28)).alloc (.cells (natA u) 28)).alloc (.cells (natA 0) 28)).alloc (.cells #[.int .u64 0] 24)).drew (w.heap.size + 1 + 1 + 1) = some #[.int .u64 0] := by
    simp only [rowN_drew, rowN_alloc, World.size_alloc, if_true] <;> (repeat rw [if_neg (by omega)])
  have hC : Carry (w.heap.size + 1 + 1 + 1) (addC P64 (subN v u) u) 0 ((((w.alloc (.cells (natA v) 28)).alloc (.cells (natA u) 28)).alloc (.cells (natA 0) 28)).alloc (.cells #[.int .u64 0] 24)).drew := ⟨by rw [(rowN_cell hCr).1, addC_zero]; rfl, (rowN_cell hCr).2 0⟩
  have hbel : Below w.heap.size w ((((w.alloc (.cells (natA v) 28)).alloc (.cells (natA u) 28)).alloc (.cells (natA 0) 28)).alloc (.cells #[.int .u64 0] 24)).drew := (((((Below.refl _ _).alloc (Nat.le_refl _) _).alloc (by simp) _).alloc (by simp; omega) _).alloc (by simp; omega) _).drew
  have HA := Lib.hid hA
  have HB := Lib.hid hB
  have HR := Lib.hid hR
  have HC := Lib.hid hC
  have HBel := Lib.hid hbel
  clear hA hB hR hC hCr hbel
  go_enter Try.func60, Try.ntmps60
  go_wp2_with fail
  go_region_with ((go_at_call 74; refine (combine_sub v u w.heap.size (w.heap.size + 1) (w.heap.size + 1 + 1 + 1) HU.out (by omega) (by omega) (by omega) _ HA.out HB.out HC.out).mono ?_; rintro e w5 ⟨rfl, hA5, hC5, hch5⟩; have hR5 := (hch5.row (rowN_lt HR.out) (by omega)).trans HR.out; have hc5 := hC5.1; have hf5 := hC5.2; have hb5 := HBel.out.trans (hch5.below w.heap.size HBel.out.size (by rintro k (h | h) <;> omega)); have HB5 := Lib.hid hb5; clear hC5 hch5 hb5))
  all_goals
    rw [HT.out] at hc5
    rw [HS.out] at hA5
    go_wp2_with fail
    exact ret_nat_tmp _ (natA (v - u)) rfl rfl rfl (by simp [rowN_setRow, hR5]) (natA_size _) ⟨rfl, below_setRow' HB5.out (by omega) _⟩

set_option maxRecDepth 100000 in
theorem sub_less (v u : Nat) (hv : v < P64 ^ 16) (hu : u < P64 ^ 16) (h : v < u) (w : World) : Calls Try.prog 60 #[.agg (natA v), .agg (natA u)] w fun e w' =>
    e = .returned (.tuple #[.agg (natA 0), .int .i64 3]) ∧ Below w.heap.size w w' := by
  have hmf : ∀ (fn : Fn) (first cap : Array Value) (w : World), (Instr.makeFunc fn first cap).run Try.prog w = .ok (.func fn first cap) w := fun _ _ _ _ => rfl
  have hs : subN v u = v + P64 ^ 16 - u := by unfold subN subW; rw [if_pos h]
  have HT := Lib.hid (show addC P64 (subN v u) u 16 = 1 by
    have hle := addC_le P64_pos (subN v u) u 16
    have h2 : addC P64 (subN v u) u 16 ≠ 0 := by
      rw [addC_top (show subN v u < P64 ^ 16 from subW_lt hv) hu]
      intro e
      rcases Nat.div_eq_zero_iff.1 e with e | e
      · exact absurd e (Nat.ne_of_gt (Nat.pow_pos P64_pos))
      · rw [hs] at e; omega
    omega)
  clear h hs
  have HV := Lib.hid hv
  have HU := Lib.hid hu
  clear hv hu
  have hA : rowN ((((w.alloc (.cells (natA v) 28)).alloc (.cells (natA u) 28)).alloc (.cells (natA 0) 28)).alloc (.cells #[.int .u64 0] 24)).drew w.heap.size = some (natA v) := by
    simp only [rowN_drew, rowN_alloc, World.size_alloc, if_true] <;> (repeat rw [if_neg (by omega)])
  have hB : rowN ((((w.alloc (.cells (natA v) 28)).alloc (.cells (natA u) 28)).alloc (.cells (natA 0) 28)).alloc (.cells #[.int .u64 0] 24)).drew (w.heap.size + 1) = some (natA u) := by
    simp only [rowN_drew, rowN_alloc, World.size_alloc, if_true] <;> (repeat rw [if_neg (by omega)])
  have hR : rowN ((((w.alloc (.cells (natA v) 28)).alloc (.cells (natA u) 28)).alloc (.cells (natA 0) 28)).alloc (.cells #[.int .u64 0] 24)).drew (w.heap.size + 1 + 1) = some (natA 0) := by
    simp only [rowN_drew, rowN_alloc, World.size_alloc, if_true] <;> (repeat rw [if_neg (by omega)])
  have hCr : rowN ((((w.alloc (.cells (natA v) 28)).alloc (.cells (natA u) 28)).alloc (.cells (natA 0) 28)).alloc (.cells #[.int .u64 0] 24)).drew (w.heap.size + 1 + 1 + 1) = some #[.int .u64 0] := by
    simp only [rowN_drew, rowN_alloc, World.size_alloc, if_true] <;> (repeat rw [if_neg (by omega)])
  have hC : Carry (w.heap.size + 1 + 1 + 1) (addC P64 (subN v u) u) 0 ((((w.alloc (.cells (natA v) 28)).alloc (.cells (natA u) 28)).alloc (.cells (natA 0) 28)).alloc (.cells #[.int .u64 0] 24)).drew := ⟨by rw [(rowN_cell hCr).1, addC_zero]; rfl, (rowN_cell hCr).2 0⟩
  have hbel : Below w.heap.size w ((((w.alloc (.cells (natA v) 28)).alloc (.cells (natA u) 28)).alloc (.cells (natA 0) 28)).alloc (.cells #[.int .u64 0] 24)).drew := (((((Below.refl _ _).alloc (Nat.le_refl _) _).alloc (by simp) _).alloc (by simp; omega) _).alloc (by simp; omega) _).drew
  have HA := Lib.hid hA
  have HB := Lib.hid hB
  have HR := Lib.hid hR
  have HC := Lib.hid hC
  have HBel := Lib.hid hbel
  clear hA hB hR hC hCr hbel
  go_enter Try.func60, Try.ntmps60
  go_wp2_with fail
  go_region_with ((go_at_call 74; refine (combine_sub v u w.heap.size (w.heap.size + 1) (w.heap.size + 1 + 1 + 1) HU.out (by omega) (by omega) (by omega) _ HA.out HB.out HC.out).mono ?_; rintro e w5 ⟨rfl, hA5, hC5, hch5⟩; have hR5 := (hch5.row (rowN_lt HR.out) (by omega)).trans HR.out; have hc5 := hC5.1; have hf5 := hC5.2; have hb5 := HBel.out.trans (hch5.below w.heap.size HBel.out.size (by rintro k (h | h) <;> omega)); have HB5 := Lib.hid hb5; clear hC5 hch5 hb5))
  all_goals
    rw [HT.out] at hc5
    go_wp2_with fail
    exact ret_nat_tmp _ (natA 0) rfl rfl rfl (by simp [rowN_setRow, hR5]) (natA_size _) ⟨rfl, below_setRow' HB5.out (by omega) _⟩
end Go.Proofs.Ytlmfiggmjpjpiaa
