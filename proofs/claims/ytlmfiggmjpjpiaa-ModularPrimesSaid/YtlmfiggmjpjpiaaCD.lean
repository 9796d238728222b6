/- known. -/
import Derived.Test.YtlmfiggmjpjpiaaZK
namespace Go.Proofs.Ytlmfiggmjpjpiaa
open Go.RowKit Go.Shelf

attribute [local go_sem] Oper.semAt_some

theorem run_seq2_nil (f : Fn) (x y : Array Value) (W : World) : (binOp BinOp.eql 46 (Value.func f x y) Value.nilFunc).run Try.prog W = .ok (.bool false) W := by
  kernel_rfl
attribute [local go_sem] run_seq2_nil

/-- What holds between two rounds of the range over Factors(12). -/
def KnI (w : World) (bU : Nat) (pre : List (FP 12)) (W : World) : Prop :=
  (∃ u : Int, rowN W bU = some #[.int .i64 u] ∧ (vals pre = [] → u = 0) ∧ (vals pre = [(2, 2)] → u = 22) ∧ (vals pre = [(2, 2), (3, 1)] → u = 2231)) ∧ Below w.heap.size w W
def KnX (_ : Code) (_ : List (FP 12)) (_ : World) : Prop := False
theorem knI_own (w : World) (bU : Nat) {B : Nat} (h : w.heap.size ≤ B) : OwnFrom B (KnI w bU) :=
  OwnFrom.and (Own.from (fun _ _ _ _ hs hg hr => by obtain ⟨u, e1, e2⟩ := hs; exact ⟨u, row_kept e1 hg hr, e2⟩) _) (ownFrom_below (Nat.le_refl _) h)

set_option maxRecDepth 100000 in
set_option maxHeartbeats 20000000 in
theorem known_any (w : World) : Calls Try.prog 10 #[] w fun e w' => e = .returned (.bool true) ∧ Below w.heap.size w w' := by
  refine (callsIn_wide (n := 5)).1 ?_
  refine callsIn_of_wp_marks Try.func10 rfl trivial ?_ rfl
  simp only [Try.ntmps10, List.size_toArray, List.length_nil, Nat.reduceSub, Array.replicate_succ, Array.replicate_zero, List.push_toArray, List.append_toArray, List.nil_append, List.cons_append]
  refine wpIn_wide.2 ?_
  have HB := Lib.hid (Below.refl w.heap.size w)
  go_wp2_with fail
  refine (k_num 5 5 (by omega) (by omega) _).mono ?_
  rintro e w1 ⟨rfl, hb⟩
  have hk := kept hb
  have hBel := hb
  replace HB := Lib.hid (HB.out.trans (hBel.mono (by first | exact HB.out.size | (have := HB.out.size; omega))))
  clear hb hBel hk
  go_wp2_with fail
  refine (k_num 6 6 (by omega) (by omega) _).mono ?_
  rintro e w2 ⟨rfl, hb⟩
  have hk := kept hb
  have hBel := hb
  replace HB := Lib.hid (HB.out.trans (hBel.mono (by first | exact HB.out.size | (have := HB.out.size; omega))))
  clear hb hBel hk
  go_wp2_with fail
  refine (k_num 7 7 (by omega) (by omega) _).mono ?_
  rintro e w3 ⟨rfl, hb⟩
  have hk := kept hb
  have hBel := hb
  replace HB := Lib.hid (HB.out.trans (hBel.mono (by first | exact HB.out.size | (have := HB.out.size; omega))))
  clear hb hBel hk
  go_wp2_with fail
  refine (k_add _).mono ?_
  rintro e w4 ⟨rfl, hb⟩
  have hk := kept hb
  have hBel := hb
  replace HB := Lib.hid (HB.out.trans (hBel.mono (by first | exact HB.out.size | (have := HB.out.size; omega))))
  clear hb hBel hk
  go_wp2_with fail
  refine (k_num 5 5 (by omega) (by omega) _).mono ?_
  rintro e w5 ⟨rfl, hb⟩
  obtain ⟨hN, hk, hBel⟩ := stored hb
  replace HB := Lib.hid (HB.out.trans (hBel.mono (by first | exact HB.out.size | (have := HB.out.size; omega))))
  clear hb hBel hk
  have hA := hN
  have lA := rowN_lt hA
  clear hN
  generalize w4.heap.size = b4 at *
  go_wp2_with fail
  refine (k_num 6 6 (by omega) (by omega) _).mono ?_
  rintro e w6 ⟨rfl, hb⟩
  have hk := kept hb
  have hBel := hb
  replace hA := hk _ _ hA
  have lA := rowN_lt hA
  replace HB := Lib.hid (HB.out.trans (hBel.mono (by first | exact HB.out.size | (have := HB.out.size; omega))))
  clear hb hBel hk
  go_wp2_with fail
  refine (k_num 7 7 (by omega) (by omega) _).mono ?_
  rintro e w7 ⟨rfl, hb⟩
  have hk := kept hb
  have hBel := hb
  replace hA := hk _ _ hA
  have lA := rowN_lt hA
  replace HB := Lib.hid (HB.out.trans (hBel.mono (by first | exact HB.out.size | (have := HB.out.size; omega))))
  clear hb hBel hk
  go_wp2_with fail
  refine (k_sub _).mono ?_
  rintro e w8 ⟨rfl, hb⟩
  have hk := kept hb
  have hBel := hb
  replace hA := hk _ _ hA
  have lA := rowN_lt hA
  replace HB := Lib.hid (HB.out.trans (hBel.mono (by first | exact HB.out.size | (have := HB.out.size; omega))))
  clear hb hBel hk
  go_wp2_with fail
  refine (k_num 5 5 (by omega) (by omega) _).mono ?_
  rintro e w9 ⟨rfl, hb⟩
  obtain ⟨hN, hk, hBel⟩ := stored hb
  replace hA := hk _ _ hA
  have lA := rowN_lt hA
  replace HB := Lib.hid (HB.out.trans (hBel.mono (by first | exact HB.out.size | (have := HB.out.size; omega))))
  clear hb hBel hk
  have hB := hN
  have lB := rowN_lt hB
  clear hN
  generalize w8.heap.size = b8 at *
  go_wp2_with fail
  refine (k_num 6 6 (by omega) (by omega) _).mono ?_
  rintro e w10 ⟨rfl, hb⟩
  have hk := kept hb
  have hBel := hb
  replace hA := hk _ _ hA
  have lA := rowN_lt hA
  replace hB := hk _ _ hB
  have lB := rowN_lt hB
  replace HB := Lib.hid (HB.out.trans (hBel.mono (by first | exact HB.out.size | (have := HB.out.size; omega))))
  clear hb hBel hk
  go_wp2_with fail
  refine (k_num 7 7 (by omega) (by omega) _).mono ?_
  rintro e w11 ⟨rfl, hb⟩
  have hk := kept hb
  have hBel := hb
  replace hA := hk _ _ hA
  have lA := rowN_lt hA
  replace hB := hk _ _ hB
  have lB := rowN_lt hB
  replace HB := Lib.hid (HB.out.trans (hBel.mono (by first | exact HB.out.size | (have := HB.out.size; omega))))
  clear hb hBel hk
  go_wp2_with fail
  refine (k_mul _).mono ?_
  rintro e w12 ⟨rfl, hb⟩
  have hk := kept hb
  have hBel := hb
  replace hA := hk _ _ hA
  have lA := rowN_lt hA
  replace hB := hk _ _ hB
  have lB := rowN_lt hB
  replace HB := Lib.hid (HB.out.trans (hBel.mono (by first | exact HB.out.size | (have := HB.out.size; omega))))
  clear hb hBel hk
  go_wp2_with fail
  refine (k_num 3 3 (by omega) (by omega) _).mono ?_
  rintro e w13 ⟨rfl, hb⟩
  obtain ⟨hN, hk, hBel⟩ := stored hb
  replace hA := hk _ _ hA
  have lA := rowN_lt hA
  replace hB := hk _ _ hB
  have lB := rowN_lt hB
  replace HB := Lib.hid (HB.out.trans (hBel.mono (by first | exact HB.out.size | (have := HB.out.size; omega))))
  clear hb hBel hk
  have hC := hN
  have lC := rowN_lt hC
  clear hN
  generalize w12.heap.size = b12 at *
  go_wp2_with fail
  refine (k_num 4 4 (by omega) (by omega) _).mono ?_
  rintro e w14 ⟨rfl, hb⟩
  have hk := kept hb
  have hBel := hb
  replace hA := hk _ _ hA
  have lA := rowN_lt hA
  replace hB := hk _ _ hB
  have lB := rowN_lt hB
  replace hC := hk _ _ hC
  have lC := rowN_lt hC
  replace HB := Lib.hid (HB.out.trans (hBel.mono (by first | exact HB.out.size | (have := HB.out.size; omega))))
  clear hb hBel hk
  go_wp2_with fail
  refine (k_num 7 7 (by omega) (by omega) _).mono ?_
  rintro e w15 ⟨rfl, hb⟩
  have hk := kept hb
  have hBel := hb
  replace hA := hk _ _ hA
  have lA := rowN_lt hA
  replace hB := hk _ _ hB
  have lB := rowN_lt hB
  replace hC := hk _ _ hC
  have lC := rowN_lt hC
  replace HB := Lib.hid (HB.out.trans (hBel.mono (by first | exact HB.out.size | (have := HB.out.size; omega))))
  clear hb hBel hk
  go_wp2_with fail
  refine (k_exp _).mono ?_
  rintro e w16 ⟨rfl, hb⟩
  have hk := kept hb
  have hBel := hb
  replace hA := hk _ _ hA
  have lA := rowN_lt hA
  replace hB := hk _ _ hB
  have lB := rowN_lt hB
  replace hC := hk _ _ hC
  have lC := rowN_lt hC
  replace HB := Lib.hid (HB.out.trans (hBel.mono (by first | exact HB.out.size | (have := HB.out.size; omega))))
  clear hb hBel hk
  go_wp2_with fail
  refine (k_num 3 3 (by omega) (by omega) _).mono ?_
  rintro e w17 ⟨rfl, hb⟩
  obtain ⟨hN, hk, hBel⟩ := stored hb
  replace hA := hk _ _ hA
  have lA := rowN_lt hA
  replace hB := hk _ _ hB
  have lB := rowN_lt hB
  replace hC := hk _ _ hC
  have lC := rowN_lt hC
  replace HB := Lib.hid (HB.out.trans (hBel.mono (by first | exact HB.out.size | (have := HB.out.size; omega))))
  clear hb hBel hk
  have hD := hN
  have lD := rowN_lt hD
  clear hN
  generalize w16.heap.size = b16 at *
  go_wp2_with fail
  refine (k_num 1 1 (by omega) (by omega) _).mono ?_
  rintro e w18 ⟨rfl, hb⟩
  have hk := kept hb
  have hBel := hb
  replace hA := hk _ _ hA
  have lA := rowN_lt hA
  replace hB := hk _ _ hB
  have lB := rowN_lt hB
  replace hC := hk _ _ hC
  have lC := rowN_lt hC
  replace hD := hk _ _ hD
  have lD := rowN_lt hD
  replace HB := Lib.hid (HB.out.trans (hBel.mono (by first | exact HB.out.size | (have := HB.out.size; omega))))
  clear hb hBel hk
  go_wp2_with fail
  refine (k_exp0 _).mono ?_
  rintro e w19 ⟨rfl, hb⟩
  have hk := kept hb
  have hBel := hb
  replace hA := hk _ _ hA
  have lA := rowN_lt hA
  replace hB := hk _ _ hB
  have lB := rowN_lt hB
  replace hC := hk _ _ hC
  have lC := rowN_lt hC
  replace hD := hk _ _ hD
  have lD := rowN_lt hD
  replace HB := Lib.hid (HB.out.trans (hBel.mono (by first | exact HB.out.size | (have := HB.out.size; omega))))
  clear hb hBel hk
  go_wp2_with fail
  refine (k_res 4 4 (by omega) (by omega) _).mono ?_
  rintro e w20 ⟨rfl, hb⟩
  obtain ⟨hN, hk, hBel⟩ := stored hb
  replace hA := hk _ _ hA
  have lA := rowN_lt hA
  replace hB := hk _ _ hB
  have lB := rowN_lt hB
  replace hC := hk _ _ hC
  have lC := rowN_lt hC
  replace hD := hk _ _ hD
  have lD := rowN_lt hD
  replace HB := Lib.hid (HB.out.trans (hBel.mono (by first | exact HB.out.size | (have := HB.out.size; omega))))
  clear hb hBel hk
  have hE := hN
  have lE := rowN_lt hE
  clear hN
  generalize w19.heap.size = b19 at *
  go_wp2_with fail
  refine (k_res 6 6 (by omega) (by omega) _).mono ?_
  rintro e w21 ⟨rfl, hb⟩
  have hk := kept hb
  have hBel := hb
  replace hA := hk _ _ hA
  have lA := rowN_lt hA
  replace hB := hk _ _ hB
  have lB := rowN_lt hB
  replace hC := hk _ _ hC
  have lC := rowN_lt hC
  replace hD := hk _ _ hD
  have lD := rowN_lt hD
  replace hE := hk _ _ hE
  have lE := rowN_lt hE
  replace HB := Lib.hid (HB.out.trans (hBel.mono (by first | exact HB.out.size | (have := HB.out.size; omega))))
  clear hb hBel hk
  go_wp2_with fail
  refine (k_res 2 2 (by omega) (by omega) _).mono ?_
  rintro e w22 ⟨rfl, hb⟩
  have hk := kept hb
  have hBel := hb
  replace hA := hk _ _ hA
  have lA := rowN_lt hA
  replace hB := hk _ _ hB
  have lB := rowN_lt hB
  replace hC := hk _ _ hC
  have lC := rowN_lt hC
  replace hD := hk _ _ hD
  have lD := rowN_lt hD
  replace hE := hk _ _ hE
  have lE := rowN_lt hE
  replace HB := Lib.hid (HB.out.trans (hBel.mono (by first | exact HB.out.size | (have := HB.out.size; omega))))
  clear hb hBel hk
  go_wp2_with fail
  refine (k_res 4 4 (by omega) (by omega) _).mono ?_
  rintro e w23 ⟨rfl, hb⟩
  have hk := kept hb
  have hBel := hb
  replace hA := hk _ _ hA
  have lA := rowN_lt hA
  replace hB := hk _ _ hB
  have lB := rowN_lt hB
  replace hC := hk _ _ hC
  have lC := rowN_lt hC
  replace hD := hk _ _ hD
  have lD := rowN_lt hD
  replace hE := hk _ _ hE
  have lE := rowN_lt hE
  replace HB := Lib.hid (HB.out.trans (hBel.mono (by first | exact HB.out.size | (have := HB.out.size; omega))))
  clear hb hBel hk
  go_wp2_with fail
  refine (k_res 0 0 (by omega) (by omega) _).mono ?_
  rintro e w24 ⟨rfl, hb⟩
  have hk := kept hb
  have hBel := hb
  replace hA := hk _ _ hA
  have lA := rowN_lt hA
  replace hB := hk _ _ hB
  have lB := rowN_lt hB
  replace hC := hk _ _ hC
  have lC := rowN_lt hC
  replace hD := hk _ _ hD
  have lD := rowN_lt hD
  replace hE := hk _ _ hE
  have lE := rowN_lt hE
  replace HB := Lib.hid (HB.out.trans (hBel.mono (by first | exact HB.out.size | (have := HB.out.size; omega))))
  clear hb hBel hk
  clear hA lA
  clear hB lB
  clear hC lC
  clear hD lD
  clear hE lE
  go_wp2_with fail
  refine (k_num 3 3 (by omega) (by omega) _).mono ?_
  rintro e w25 ⟨rfl, hb⟩
  have hk := kept hb
  have hBel := hb
  replace HB := Lib.hid (HB.out.trans (hBel.mono (by first | exact HB.out.size | (have := HB.out.size; omega))))
  clear hb hBel hk
  go_wp2_with fail
  refine (k_num 7 7 (by omega) (by omega) _).mono ?_
  rintro e w26 ⟨rfl, hb⟩
  have hk := kept hb
  have hBel := hb
  replace HB := Lib.hid (HB.out.trans (hBel.mono (by first | exact HB.out.size | (have := HB.out.size; omega))))
  clear hb hBel hk
  go_wp2_with fail
  refine (k_inv _).mono ?_
  rintro e w27 ⟨rfl, hb⟩
  have hk := kept hb
  have hBel := hb
  replace HB := Lib.hid (HB.out.trans (hBel.mono (by first | exact HB.out.size | (have := HB.out.size; omega))))
  clear hb hBel hk
  go_wp2_with fail
  refine (k_num 2 2 (by omega) (by omega) _).mono ?_
  rintro e w28 ⟨rfl, hb⟩
  obtain ⟨hN, hk, hBel⟩ := stored hb
  replace HB := Lib.hid (HB.out.trans (hBel.mono (by first | exact HB.out.size | (have := HB.out.size; omega))))
  clear hb hBel hk
  have hF := hN
  have lF := rowN_lt hF
  clear hN
  generalize w27.heap.size = b27 at *
  go_wp2_with fail
  refine (k_num 4 4 (by omega) (by omega) _).mono ?_
  rintro e w29 ⟨rfl, hb⟩
  have hk := kept hb
  have hBel := hb
  replace hF := hk _ _ hF
  have lF := rowN_lt hF
  replace HB := Lib.hid (HB.out.trans (hBel.mono (by first | exact HB.out.size | (have := HB.out.size; omega))))
  clear hb hBel hk
  go_wp2_with fail
  refine (k_inv4 _).mono ?_
  rintro e w30 ⟨rfl, hb⟩
  have hk := kept hb
  have hBel := hb
  replace hF := hk _ _ hF
  have lF := rowN_lt hF
  replace HB := Lib.hid (HB.out.trans (hBel.mono (by first | exact HB.out.size | (have := HB.out.size; omega))))
  clear hb hBel hk
  go_wp2_with fail
  refine (k_num 1 1 (by omega) (by omega) _).mono ?_
  rintro e w31 ⟨rfl, hb⟩
  obtain ⟨hN, hk, hBel⟩ := stored hb
  replace hF := hk _ _ hF
  have lF := rowN_lt hF
  replace HB := Lib.hid (HB.out.trans (hBel.mono (by first | exact HB.out.size | (have := HB.out.size; omega))))
  clear hb hBel hk
  clear hN
  generalize w30.heap.size = b30 at *
  go_wp2_with fail
  refine (k_inv1 _).mono ?_
  rintro e w32 ⟨rfl, hb⟩
  have hk := kept hb
  have hBel := hb
  replace hF := hk _ _ hF
  have lF := rowN_lt hF
  replace HB := Lib.hid (HB.out.trans (hBel.mono (by first | exact HB.out.size | (have := HB.out.size; omega))))
  clear hb hBel hk
  go_wp2_with fail
  refine (k_num 5 5 (by omega) (by omega) _).mono ?_
  rintro e w33 ⟨rfl, hb⟩
  obtain ⟨hN, hk, hBel⟩ := stored hb
  replace hF := hk _ _ hF
  have lF := rowN_lt hF
  replace HB := Lib.hid (HB.out.trans (hBel.mono (by first | exact HB.out.size | (have := HB.out.size; omega))))
  clear hb hBel hk
  have hG := hN
  have lG := rowN_lt hG
  clear hN
  generalize w32.heap.size = b32 at *
  go_wp2_with fail
  refine (k_inv0 _).mono ?_
  rintro e w34 ⟨rfl, hb⟩
  have hk := kept hb
  have hBel := hb
  replace hF := hk _ _ hF
  have lF := rowN_lt hF
  replace hG := hk _ _ hG
  have lG := rowN_lt hG
  replace HB := Lib.hid (HB.out.trans (hBel.mono (by first | exact HB.out.size | (have := HB.out.size; omega))))
  clear hb hBel hk
  go_wp2_with fail
  refine (k_res 5 5 (by omega) (by omega) _).mono ?_
  rintro e w35 ⟨rfl, hb⟩
  obtain ⟨hN, hk, hBel⟩ := stored hb
  replace hF := hk _ _ hF
  have lF := rowN_lt hF
  replace hG := hk _ _ hG
  have lG := rowN_lt hG
  replace HB := Lib.hid (HB.out.trans (hBel.mono (by first | exact HB.out.size | (have := HB.out.size; omega))))
  clear hb hBel hk
  clear hN
  generalize w34.heap.size = b34 at *
  go_wp2_with fail
  refine (k_res 0 0 (by omega) (by omega) _).mono ?_
  rintro e w36 ⟨rfl, hb⟩
  have hk := kept hb
  have hBel := hb
  replace hF := hk _ _ hF
  have lF := rowN_lt hF
  replace hG := hk _ _ hG
  have lG := rowN_lt hG
  replace HB := Lib.hid (HB.out.trans (hBel.mono (by first | exact HB.out.size | (have := HB.out.size; omega))))
  clear hb hBel hk
  clear hF lF
  clear hG lG
  go_wp2_with fail
  refine (k_p1 _).mono ?_
  rintro e w37 ⟨rfl, hb⟩
  have hk := kept hb
  have hBel := hb
  replace HB := Lib.hid (HB.out.trans (hBel.mono (by first | exact HB.out.size | (have := HB.out.size; omega))))
  clear hb hBel hk
  go_wp2_with fail
  refine (k_p2 _).mono ?_
  rintro e w38 ⟨rfl, hb⟩
  have hk := kept hb
  have hBel := hb
  replace HB := Lib.hid (HB.out.trans (hBel.mono (by first | exact HB.out.size | (have := HB.out.size; omega))))
  clear hb hBel hk
  go_wp2_with fail
  refine (k_p2879 _).mono ?_
  rintro e w39 ⟨rfl, hb⟩
  have hk := kept hb
  have hBel := hb
  replace HB := Lib.hid (HB.out.trans (hBel.mono (by first | exact HB.out.size | (have := HB.out.size; omega))))
  clear hb hBel hk
  go_wp2_with fail
  refine (k_pneg _).mono ?_
  rintro e w40 ⟨rfl, hb⟩
  have hk := kept hb
  have hBel := hb
  replace HB := Lib.hid (HB.out.trans (hBel.mono (by first | exact HB.out.size | (have := HB.out.size; omega))))
  clear hb hBel hk
  go_wp2_with fail
  refine (factors_any 12 _).mono ?_
  rintro e wf ⟨rfl, rfl⟩
  go_wp2_with fail
  have hb9 : Below w40.heap.size w40 ((w40.alloc (.cells #[.int .i64 12] 3)).alloc (.cells #[.int .i64 0] 3)) := ((Below.refl _ _).alloc (Nat.le_refl _) _).alloc (by simp) _
  have r1 : rowN ((w40.alloc (.cells #[.int .i64 12] 3)).alloc (.cells #[.int .i64 0] 3)) w40.heap.size = some #[.int .i64 ((12 : Nat) : Int)] := by
    rw [rowN_alloc, if_neg (by simp), rowN_alloc, if_pos rfl]; rfl
  have r2 : rowN ((w40.alloc (.cells #[.int .i64 12] 3)).alloc (.cells #[.int .i64 0] 3)) (w40.heap.size + 1) = some #[.int .i64 0] := by
    rw [rowN_alloc, if_pos (by simp)]
  have lw : w.heap.size ≤ w40.heap.size := HB.out.size
  have hs : ((w40.alloc (.cells #[.int .i64 12] 3)).alloc (.cells #[.int .i64 0] 3)).heap.size = w40.heap.size + 1 + 1 := by simp
  have HB9 := Lib.hid (HB.out.trans (hb9.mono HB.out.size))
  generalize (w40.alloc (.cells #[.int .i64 12] 3)).alloc (.cells #[.int .i64 0] 3) = W0 at *
  generalize w40.heap.size = bS at *
  have HI0 := Lib.hid (show KnI w (bS + 1) [] W0 from ⟨⟨0, r2, fun _ => rfl, fun h => by simp [vals] at h, fun h => by simp [vals] at h⟩, HB9.out⟩)
  clear hb9 r2 HB HB9
  refine (wpIn_wide (n := 5)).1 ?_
  refine wpIn_rangeFunc_ownF rfl (by omega) (gf := 53) (lb := #[.pointer (some ⟨bS, 0, none⟩)]) rfl trivial (enters_of Try.func53 (by kernel_rfl) rfl)
    (factors1_stops (5 - 1) bS 12 (by omega) (by omega) _ r1) (fun {A B C} _ _ => trivial) (fun _ _ _ _ _ _ _ _ => trivial) (Below.refl _ _) (fun _ => rfl)
    (KnI w (bS + 1)) KnX (knI_own w (bS + 1) (by omega)) (fun _ _ _ _ _ h _ _ => h.elim) HI0.out ?a1 ?assign ?body ?done ?stop
  case assign =>
    intro l x W K hK
    gi_wp2
    exact hK
  case body =>
    rintro l pre x W ⟨⟨u, hu, h0, h1, h2⟩, hB⟩ _
    have c0 := (rowN_cell hu).1 0
    have f0 := (rowN_cell hu).2 0
    have hx := fp12 x
    obtain ⟨xp, hxp⟩ : ∃ xp, x.1.1 = xp := ⟨_, rfl⟩
    obtain ⟨xe, hxe⟩ : ∃ xe, x.1.2 = xe := ⟨_, rfl⟩
    have b1 : xp ≤ 3 := by rcases hx with e | e <;> rw [e] at hxp <;> simp at hxp <;> omega
    have b2 : xe ≤ 2 := by rcases hx with e | e <;> rw [e] at hxe <;> simp at hxe <;> omega
    have HB := Lib.hid hB
    have HU := Lib.hid hu
    have HX := Lib.hid hxp
    have HE := Lib.hid hxe
    have H0 := Lib.hid h0
    have H1 := Lib.hid h1
    have HFX := Lib.hid hx
    simp only [encF, hxp, hxe]
    clear hB hu hxp hxe h0 h1 h2 hx HI0 r1
    gi_wp2_with fail
    refine ⟨KeepsOthers.setCell _ _ _, trivial, ⟨_, row_set0 HU.out, ?_, ?_, ?_⟩, HB.out.setCell (p := ⟨bS + 1, 0, none⟩) (by show w.heap.size ≤ bS + 1; omega) _⟩
    · intro h; rw [vals_snoc] at h; simp at h
    · intro h
      rw [vals_snoc] at h
      have hp : vals pre = [] := by rcases hvp : vals pre with _ | ⟨y, ys⟩ <;> rw [hvp] at h <;> simp at h ⊢
      rw [hp] at h
      have hx2 : x.1 = (2, 2) := by simpa using h
      have hu0 := H0.out hp
      have e1 := HX.out
      have e2 := HE.out
      rw [hx2] at e1 e2
      subst e1 e2 hu0
      first | decide | simp [wrap64]
    · intro h
      rw [vals_snoc] at h
      have hl : vals pre = [(2, 2)] := by
        have := List.append_inj_left' (t₁ := [x.1]) (s₂ := [(2, 2)]) (t₂ := [(3, 1)]) h rfl
        exact this
      rw [hl] at h
      have hx2 : x.1 = (3, 1) := by simpa using h
      have hu0 := H1.out hl
      have e1 := HX.out
      have e2 := HE.out
      rw [hx2] at e1 e2
      subst e1 e2 hu0
      first | decide | simp [wrap64]
  case done =>
    rintro D xs W hD hS ⟨⟨u, hu, _, _, h2⟩, hB⟩ hK
    have hu2 := h2 (all12 xs hS)
    subst hu2
    have c0 := (rowN_cell hu).1 0
    have HK := Lib.hid hK
    have HBB := Lib.hid hB
    clear hK hB h2 hu HI0 r1
    go_wp2_with fail
    refine ⟨by simp, .inl ⟨_, _, rfl, run_takeDeferred HK.out, ?_⟩⟩
    exact ⟨_, results_tmp rfl _ _ _, rfl, HBB.out.grown (grownBy_putObj' _ D (.deferred none)) HBB.out.size (fun k e => by cases e; omega)⟩
  case stop =>
    rintro D c pre W _ _ h _
    exact h.elim
end Go.Proofs.Ytlmfiggmjpjpiaa
