/- Two numbers in one block. The residues of two numbers. -/
import Derived.Test.YtlmfiggmjpjpiaaA1
import Derived.Test.YtlmfiggmjpjpiaaA3
import Derived.Test.YtlmfiggmjpjpiaaZR
import Derived.Deep.MidRow
namespace Go.Proofs.Ytlmfiggmjpjpiaa
open Go.RowKit

@[irreducible] def pairA (a b : Nat) : Array Value := natA a ++ natA b
theorem pairA_size (a b : Nat) : (pairA a b).size = 32 := by unfold pairA; rw [Array.size_append, natA_size, natA_size]
theorem pairA_fst (a b j : Nat) (h : j < 16) : (pairA a b)[j]? = (natA a)[j]? := by
  unfold pairA; rw [Array.getElem?_append, if_pos (by rw [natA_size]; exact h)]
theorem pairA_snd (a b j : Nat) : (pairA a b)[16 + j]? = (natA b)[j]? := by
  unfold pairA; rw [Array.getElem?_append, if_neg (by rw [natA_size]; omega), natA_size]
  congr 1; omega

theorem info28 : (Try.prog.info? 28).map (·.size) = some 16 := by kernel_rfl

theorem load_fst {W : World} {g a b : Nat} (h : rowN W g = some (pairA a b)) : (natLoad 28 (.pointer (some ⟨g, 0, none⟩))).run Try.prog W = .ok (.value (.agg (natA a))) W := by
  have hr : W.rangeAt g 0 (natA a).toList := by
    intro j v hv
    have hj : j < 16 := by
      have := (List.getElem?_eq_some_iff.1 hv).1
      rw [Array.length_toList, natA_size] at this; exact this
    rw [Nat.zero_add, (rowN_cell h).1, pairA_fst _ _ _ hj, ← Array.getElem?_toList]; exact hv
  have hl := run_loadVar_mid (P := Try.prog) W g 0 28 (natA a).toList _ hr Try.underlying28 rfl (by rw [info28, Array.length_toList, natA_size])
  rw [Array.toArray_toList] at hl
  simp [natLoad, Instr.loadAt, Instr.sureAddr, hl]
theorem load_snd {W : World} {g a b : Nat} (h : rowN W g = some (pairA a b)) : (natLoad 28 (.pointer (some ⟨g, 16, none⟩))).run Try.prog W = .ok (.value (.agg (natA b))) W := by
  have hr : W.rangeAt g 16 (natA b).toList := by
    intro j v hv
    rw [(rowN_cell h).1, pairA_snd, ← Array.getElem?_toList]; exact hv
  have hl := run_loadVar_mid (P := Try.prog) W g 16 28 (natA b).toList _ hr Try.underlying28 rfl (by rw [info28, Array.length_toList, natA_size])
  rw [Array.toArray_toList] at hl
  simp [natLoad, Instr.loadAt, Instr.sureAddr, hl]

theorem store_part {W : World} {g o x : Nat} {cs : Array Value} (h : rowN W g = some cs) (ho : o + 16 ≤ cs.size) :
    (natStore 28 (.pointer (some ⟨g, o, none⟩)) (.agg (natA x))).run Try.prog W = .ok .skip (W.setRow g (cs.toList.take o ++ (natA x).toList ++ cs.toList.drop (o + 16)).toArray) := by
  obtain ⟨t', hg⟩ := rowN_some h
  obtain ⟨i, hi, hs⟩ : ∃ i, Try.prog.info? 28 = some i ∧ i.size = 16 := by
    have h := info28
    cases e : Try.prog.info? 28 with
    | none => rw [e] at h; cases h
    | some i => exact ⟨i, rfl, by rw [e] at h; simpa using h⟩
  have hst := run_storeCells_at (P := Try.prog) g o t' (natA x).toList 0 cs W hg (by simp [natA_size]; omega) (natA_oneCell x)
  have hsz : (sizeOf 28).run Try.prog W = .ok 16 W := by simp [sizeOf, typeInfo, hi, hs]
  simp only [Nat.add_zero, Array.length_toList, natA_size] at hst
  simp only [natStore, Instr.storeAt, Instr.sureAddr, storeVar, Sem.run_bind, Sem.run_pure, hsz, Result.andThen_ok, Value.cells, natA_size, ne_eq, not_true_eq_false, if_false]
  rw [hst]
  rfl
theorem pair_fst (a b x : Nat) : ((pairA a b).toList.take 0 ++ (natA x).toList ++ (pairA a b).toList.drop (0 + 16)).toArray = pairA x b := by
  unfold pairA
  apply Array.ext'
  simp [natA_size]
theorem pair_snd (a b x : Nat) : ((pairA a b).toList.take 16 ++ (natA x).toList ++ (pairA a b).toList.drop (16 + 16)).toArray = pairA a x := by
  unfold pairA
  apply Array.ext'
  simp [natA_size, List.drop_eq_nil_of_le]
theorem store_fst {W : World} {g a b x : Nat} (h : rowN W g = some (pairA a b)) : (natStore 28 (.pointer (some ⟨g, 0, none⟩)) (.agg (natA x))).run Try.prog W = .ok .skip (W.setRow g (pairA x b)) := by
  rw [store_part h (by rw [pairA_size]; omega), pair_fst]
theorem store_snd {W : World} {g a b x : Nat} (h : rowN W g = some (pairA a b)) : (natStore 28 (.pointer (some ⟨g, 16, none⟩)) (.agg (natA x))).run Try.prog W = .ok .skip (W.setRow g (pairA a x)) := by
  rw [store_part h (by rw [pairA_size]; omega), pair_snd]
theorem rowLoad_fst {W : World} {g a b : Nat} (h : rowN W g = some (pairA a b)) : rowLoad 28 W g (some (pairA a b)) = .ok (.agg (natA a)) W := by
  have hr : W.rangeAt g 0 (natA a).toList := by
    intro j v hv
    have hj : j < 16 := by
      have := (List.getElem?_eq_some_iff.1 hv).1
      rw [Array.length_toList, natA_size] at this; exact this
    rw [Nat.zero_add, (rowN_cell h).1, pairA_fst _ _ _ hj, ← Array.getElem?_toList]; exact hv
  have hl := run_loadVar_mid (P := Try.prog) W g 0 28 (natA a).toList _ hr Try.underlying28 rfl (by rw [info28, Array.length_toList, natA_size])
  rw [Array.toArray_toList] at hl
  rw [← h, ← run_loadVar28, hl]
theorem rowStore_fst {W : World} {g a b x : Nat} (h : rowN W g = some (pairA a b)) : rowStore 28 W g (natA x) (some (pairA a b)) = .ok () (W.setRow g (pairA x b)) := by
  have hs := store_fst (x := x) h
  rw [run_natStore28, h] at hs
  cases hr : rowStore 28 W g (natA x) (some (pairA a b)) with
  | ok u w' =>
    rw [hr] at hs
    have : w' = W.setRow g (pairA x b) := by simpa [Result.andThen] using hs
    rw [this]
  | halt h' w' => rw [hr] at hs; simp [Result.andThen] at hs
theorem run_pair_any (W : World) (x0 x1 x2 x3 x4 x5 x6 x7 x8 x9 x10 x11 x12 x13 x14 x15 y0 y1 y2 y3 y4 y5 y6 y7 y8 y9 y10 y11 y12 y13 y14 y15 : Value) :
    (Instr.buildSlice 80 2 #[(0, .agg #[x0, x1, x2, x3, x4, x5, x6, x7, x8, x9, x10, x11, x12, x13, x14, x15]), (1, .agg #[y0, y1, y2, y3, y4, y5, y6, y7, y8, y9, y10, y11, y12, y13, y14, y15])]).run Try.prog W = .ok (.slice (some ⟨W.heap.size, 0, none⟩) 2 2) (W.alloc (.cells (#[x0, x1, x2, x3, x4, x5, x6, x7, x8, x9, x10, x11, x12, x13, x14, x15] ++ #[y0, y1, y2, y3, y4, y5, y6, y7, y8, y9, y10, y11, y12, y13, y14, y15]) 28)) := by
  kernel_rfl
theorem run_pair (W : World) (a b : Nat) : (Instr.buildSlice 80 2 #[(0, .agg (natA a)), (1, .agg (natA b))]).run Try.prog W = .ok (.slice (some ⟨W.heap.size, 0, none⟩) 2 2) (W.alloc (.cells (pairA a b) 28)) := by
  unfold pairA
  rw [← natA_lit a, ← natA_lit b]
  exact run_pair_any W (.int .u64 (dgt P64 a 0 : Nat)) (.int .u64 (dgt P64 a 1 : Nat)) (.int .u64 (dgt P64 a 2 : Nat)) (.int .u64 (dgt P64 a 3 : Nat)) (.int .u64 (dgt P64 a 4 : Nat)) (.int .u64 (dgt P64 a 5 : Nat)) (.int .u64 (dgt P64 a 6 : Nat)) (.int .u64 (dgt P64 a 7 : Nat)) (.int .u64 (dgt P64 a 8 : Nat)) (.int .u64 (dgt P64 a 9 : Nat)) (.int .u64 (dgt P64 a 10 : Nat)) (.int .u64 (dgt P64 a 11 : Nat)) (.int .u64 (dgt P64 a 12 : Nat)) (.int .u64 (dgt P64 a 13 : Nat)) (.int .u64 (dgt P64 a 14 : Nat)) (.int .u64 (dgt P64 a 15 : Nat)) (.int .u64 (dgt P64 b 0 : Nat)) (.int .u64 (dgt P64 b 1 : Nat)) (.int .u64 (dgt P64 b 2 : Nat)) (.int .u64 (dgt P64 b 3 : Nat)) (.int .u64 (dgt P64 b 4 : Nat)) (.int .u64 (dgt P64 b 5 : Nat)) (.int .u64 (dgt P64 b 6 : Nat)) (.int .u64 (dgt P64 b 7 : Nat)) (.int .u64 (dgt P64 b 8 : Nat)) (.int .u64 (dgt P64 b 9 : Nat)) (.int .u64 (dgt P64 b 10 : Nat)) (.int .u64 (dgt P64 b 11 : Nat)) (.int .u64 (dgt P64 b 12 : Nat)) (.int .u64 (dgt P64 b 13 : Nat)) (.int .u64 (dgt P64 b 14 : Nat)) (.int .u64 (dgt P64 b 15 : Nat))
theorem run_make2 (W : World) : (Instr.makeSlice 80 (.int .i64 2) (.int .i64 2)).run Try.prog W = .ok (.slice (some ⟨W.heap.size, 0, none⟩) 2 2) (W.alloc (.cells (pairA 0 0) 28)) := by
  unfold pairA
  rw [natA_zero_lit]
  kernel_rfl
end Go.Proofs.Ytlmfiggmjpjpiaa

namespace Go.Proofs.Ytlmfiggmjpjpiaa
open Go.RowKit

attribute [local go_sem ↓] run_make2 run_pair

set_option maxRecDepth 100000 in
set_option maxHeartbeats 800000 in
theorem residues_any (m a b : Nat) (hm : m < P64 ^ 16) (h0 : 0 < m) (ha : a < P64 ^ 16) (hb : b < P64 ^ 16) (g : Nat) (W : World) (hg : rowN W g = some (pairA a b)) :
    Calls Try.prog 59 #[.agg (natA m), .slice (some ⟨g, 0, none⟩) 2 2] W fun e w' => ∃ g', e = .returned (.slice (some ⟨g', 0, none⟩) 2 2) ∧ rowN w' g' = some (pairA (a % m) (b % m)) ∧ Below W.heap.size W w' := by
  have HA := Lib.hid (fun W => residue_any m a hm h0 ha W)
  have HBR := Lib.hid (fun W => residue_any m b hm h0 hb W)
  clear hm h0 ha hb
  generalize a % m = ra at *
  generalize b % m = rb at *
  have hb1 : Below W.heap.size W ((W.alloc (.cells (natA m) 58)).alloc (.cells (pairA 0 0) 28)) := ((Below.refl _ W).alloc (Nat.le_refl _) _).alloc (by simp) _
  have hM1 : rowN ((W.alloc (.cells (natA m) 58)).alloc (.cells (pairA 0 0) 28)) W.heap.size = some (natA m) := by rw [rowN_alloc, if_neg (by simp), rowN_alloc, if_pos rfl]
  have hO1 : rowN ((W.alloc (.cells (natA m) 58)).alloc (.cells (pairA 0 0) 28)) (W.heap.size + 1) = some (pairA 0 0) := by rw [rowN_alloc, if_pos (by simp)]
  have hG1 := kept hb1 _ _ hg
  have lg := rowN_lt hg
  have HB1 := Lib.hid hb1
  have HM1 := Lib.hid hM1
  have HO1 := Lib.hid hO1
  have HG1 := Lib.hid hG1
  clear hb1 hM1 hO1 hG1 hg
  go_enter Try.func59, Try.ntmps59
  go_wp2_with fail
  have hM := HM1.out
  have hO := HO1.out
  have hG := HG1.out
  have HB := HB1
  clear HM1 HO1 HG1 HB1
  generalize (W.alloc (.cells (natA m) 58)).alloc (.cells (pairA 0 0) 28) = W1 at *
  refine wp_loop_rounds 3 ?_
  rw [rounds_succ]
  have L0 := rowLoad_fst hG
  have lW := rowN_lt hO
  go_wp2_with fail
  refine (HA.out _).mono ?_
  rintro e w2 ⟨rfl, hb⟩
  obtain ⟨h7, hk, hBel⟩ := stored hb
  replace hM := hk _ _ hM
  replace hO := hk _ _ hO
  replace hG := hk _ _ hG
  replace HB := Lib.hid (HB.out.trans (hBel.mono HB.out.size))
  clear hb hk hBel L0 h7 HA
  have S0 := rowStore_fst (x := ra) hO
  go_wp2_with fail
  clear S0
  replace hM := row_other (c := W.heap.size + 1) (ds := pairA ra 0) hM (by omega)
  replace hG := row_other (c := W.heap.size + 1) (ds := pairA ra 0) hG (by omega)
  replace hO := row_new (ds := pairA ra 0) hO
  replace HB := Lib.hid (below_setRow' HB.out (show W.heap.size ≤ W.heap.size + 1 by omega) (pairA ra 0))
  generalize w2.setRow (W.heap.size + 1) (pairA ra 0) = w3 at *
  rw [rounds_succ]
  have L1 := load_snd hG
  have lW3 := rowN_lt hO
  go_wp2_with fail
  refine (HBR.out _).mono ?_
  rintro e w4 ⟨rfl, hb⟩
  obtain ⟨h7, hk, hBel⟩ := stored hb
  replace hO := hk _ _ hO
  replace HB := Lib.hid (HB.out.trans (hBel.mono HB.out.size))
  clear hb hk hBel L1 h7 HBR hM hG
  have S1 := store_snd (x := rb) hO
  go_wp2_with fail
  clear S1
  rw [rounds_succ]
  go_wp2_with fail
  go_ret
  exact ⟨_, rfl, row_new hO, below_setRow' HB.out (by omega) _⟩
end Go.Proofs.Ytlmfiggmjpjpiaa
