/- append of zeros to bytes that are owned. -/
import Derived.Lib.AppendZerosOnto
import Derived.Test.YtmlacbdonkfbdaaDoorWK
namespace Go.Proofs.YtmlacbdonkfbdaaDoor
open Go.RowKit Go.Shelf

theorem cl_zl (n : Nat) : cl (zl n) = List.replicate n (Value.int .u8 0) := by
  unfold cl; rw [zl_eq, List.map_replicate]; rfl
theorem zeroCells_cl (n : Nat) : Builtin.zeroCells (Value.int .u8 0).cells n = (cl (zl n)).toArray := by
  rw [cl_zl]
  unfold Builtin.zeroCells
  have h1 : (Value.int .u8 0).cells = #[Value.int .u8 0] := rfl
  rw [h1]
  refine Array.ext (by simp) fun i h1 h2 => ?_
  simp [Nat.mod_one]
theorem run_app0 {w : World} (ty : TypeId) (base : Nat) {l : List Nat} {v : Value} {n : Nat} (hown : w.ownsRow base 5 1 v l.length (cl l)) (hL : l.length + n ≤ 1000000) (hbase : base ≤ w.heap.size) :
    ∃ v' w', (Builtin.append_ #[22, 3] ty #[v, .int .i64 (n : Nat)]).run Tryd.prog w = .ok v' w' ∧ w'.ownsRow base 5 1 v' (l ++ zl n).length (cl (l ++ zl n)) ∧ w.grownBy w' v.ownBlock := by
  obtain ⟨i0, hi, hz0, hz1, hz2⟩ := info_parts Tryd.info5
  have ht := Tryd.underlying22
  have htn := Tryd.underlying3
  have hlen : (cl (l ++ zl n)).length = (l ++ zl n).length * 1 := by rw [cl_len, Nat.mul_one]
  have hll : (l ++ zl n).length = l.length + n := by rw [List.length_append, zl_len]
  have hw : IntKind.i64.wrap (n : Int) = n := by rw [IntKind.wrap_i64]; omega
  have hneg : ¬ ((n : Int) < 0) := by omega
  have h48i : ¬ (281474976710656 < (n : Int)) := by omega
  by_cases hn : n = 0
  · subst hn
    have hw0 : IntKind.i64.wrap 0 = 0 := by kernel_rfl
    have e : l ++ zl 0 = l := by rw [zl_eq]; simp
    rw [e]
    refine ⟨v, w, ?_, hown, grownBy_refl _ _⟩
    rcases hown.2 with ⟨rfl, _⟩ | ⟨g, cap, cur, rfl, hbg, hg, hnc, hcm, hcs, htake⟩
    · simp [Builtin.append_, run_underlying ht, run_underlying htn, sizeOf, typeInfo, zeroValue, hi, hz0, hz2, asInt, asIntOf, hw0]
    · simp [Builtin.append_, run_underlying ht, run_underlying htn, sizeOf, typeInfo, zeroValue, hi, hz0, hz2, asInt, asIntOf, hw0, hnc, storeCells]
  · have grown : ∀ (old : Nat), old < l.length + n → ∀ (row : Option Nat),
        (w.drew.alloc (.cells ((cl l).toArray ++ Builtin.zeroCells (Value.int .u8 0).cells n ++ Builtin.zeroCells (Value.int .u8 0).cells (grownCap w (l.length + n) old 5 - (l.length + n))) 5)).ownsRow base 5 1
          (.slice (some ⟨w.heap.size, 0, none⟩) (l.length + n) (grownCap w (l.length + n) old 5)) (l ++ zl n).length (cl (l ++ zl n)) ∧
        w.grownBy (w.drew.alloc (.cells ((cl l).toArray ++ Builtin.zeroCells (Value.int .u8 0).cells n ++ Builtin.zeroCells (Value.int .u8 0).cells (grownCap w (l.length + n) old 5 - (l.length + n))) 5)) row := by
      intro old ho row
      have hge := grownCap_ge w (l.length + n) old 5
      have hcm : grownCap w (l.length + n) old 5 ≤ maxLen := grownCap_le_maxLen w (l.length + n) old 5 (by unfold maxLen; omega)
      rw [hll]
      refine ⟨⟨by rw [cl_len, hll, Nat.mul_one], .inr ⟨w.heap.size, _, _, rfl, hbase, heap_alloc_new w.drew _, hge, hcm, ?_, ?_⟩⟩, ⟨rfl, rfl, rfl, by simp, fun k hk _ => by first | exact heap_alloc_old w.drew _ hk | exact Go.heap_alloc_old w.drew _ k hk⟩⟩
      · simp only [zeroCells_cl, Array.size_append, List.size_toArray, cl_len, zl_len]
        omega
      · simp only [zeroCells_cl, Array.toList_append, cl_app]
        rw [← hll, Nat.mul_one, ← cl_len (l ++ zl n), cl_app]
        exact List.take_left
    rcases hown.2 with ⟨rfl, h0⟩ | ⟨g, cap, cur, rfl, hbg, hg, hnc, hcm, hcs, htake⟩
    · have hl0 : l = [] := List.eq_nil_of_length_eq_zero h0
      subst hl0
      have hr := Lib.run_append_grow_zeros (P := Tryd.prog) w 22 3 ty 5 i0 (.int .u8 0) .i64 .i64 ht htn hi hz0 none 0 0 [] (by simp [Builtin.firstCells]) n (by omega) (by omega) (by omega) (by omega) (by rw [hz2]; omega) (by
        rw [hz2]; simp only [Builtin.nextslicecap, Nat.zero_add, List.length_nil] at hL ⊢; rw [if_pos (by omega)]; omega)
      have hgr := grown 0 (by simp; omega) (Value.ownBlock (.slice none 0 0))
      simp only [List.length_nil] at hgr
      exact ⟨_, _, hr, hgr.1, hgr.2⟩
    · by_cases hroom : l.length + n ≤ cap
      · have hst := run_storeCells_at Tryd.prog g l.length 5 (List.replicate n (Value.int .u8 0)) 0 cur w hg (by rw [List.length_replicate]; omega) (fun x hx => by rw [List.eq_of_mem_replicate hx]; rfl)
        simp only [Nat.add_zero, List.length_replicate] at hst
        have hzc := zeroCells_cl n
        rw [cl_zl] at hzc
        have hr : (Builtin.append_ #[22, 3] ty #[.slice (some ⟨g, 0, none⟩) l.length cap, .int .i64 (n : Nat)]).run Tryd.prog w = .ok (.slice (some ⟨g, 0, none⟩) (l.length + n) cap) (w.setRow g (cur.toList.take l.length ++ List.replicate n (Value.int .u8 0) ++ cur.toList.drop (l.length + n)).toArray) := by
          simp [Builtin.append_, run_underlying ht, run_underlying htn, sizeOf, typeInfo, zeroValue, hi, hz0, hz1, hz2, asInt, asIntOf, hw, hneg, h48i, hroom, hn, hzc, Addr.add_lit, hst]
        refine ⟨_, _, hr, ⟨hlen, .inr ⟨g, cap, _, by rw [hll], hbg, setRow_heap w g cur _ 5 _ hg, by rw [hll]; exact hroom, hcm, ?_, ?_⟩⟩, ⟨rfl, rfl, rfl, by simp, fun k _ hk => setRow_other w g k _ (fun e => hk (by simp [Value.ownBlock, e]))⟩⟩
        · simp only [List.size_toArray, List.length_append, List.length_take, List.length_drop, Array.length_toList, List.length_replicate]
          omega
        · rw [Nat.mul_one] at htake ⊢
          rw [htake, ← cl_zl, ← cl_app, ← cl_len (l ++ zl n)]
          exact List.take_left
      · have holds : ∀ j u, (cl l)[j]? = some u → w.cell? ((⟨g, 0, none⟩ : Addr).add j) = some u := hown.cells (g := g) rfl
        have hold : (Builtin.firstCells i0.size l.length (.slice (some ⟨g, 0, none⟩) l.length cap)).run Tryd.prog w.drew = .ok (cl l).toArray w.drew := by
          have h := run_firstCells_some (P := Tryd.prog) w.drew i0.size l.length ⟨g, 0, none⟩ l.length cap (cl l) (by rw [cl_len, hz1, Nat.mul_one]) holds
          exact h
        have hr := Lib.run_append_grow_zeros (P := Tryd.prog) w 22 3 ty 5 i0 (.int .u8 0) .i64 .i64 ht htn hi hz0 (some ⟨g, 0, none⟩) l.length cap (cl l) hold n (by omega) (by omega) (by omega) (by omega) (by rw [hz2]; omega) (growslice_fits (by omega) (by rw [hz2]; omega))
        have hgr := grown cap (by omega) (Value.ownBlock (.slice (some ⟨g, 0, none⟩) l.length cap))
        exact ⟨_, _, hr, hgr.1, hgr.2⟩
theorem wpList_app0 {w : World} {ops : Array Oper} {rest : List Oper} {o : Oper} {a : Act} {Q : Exit → Act → World → Prop} (hgd : o.guard = none) (s x : Operand)
    (ho : o.op = .call { callee := .builtin .append, args := #[s, x], argTypes := #[22, 3] }) (base : Nat) {l : List Nat} {v : Value} {n : Nat} (hs : a.eval s = v) (hx : a.eval x = .int .i64 (n : Nat))
    (hown : w.ownsRow base 5 1 v l.length (cl l)) (hL : l.length + n ≤ 1000000) (hbase : base ≤ w.heap.size)
    (h : ∀ v' w', w'.ownsRow base 5 1 v' (l ++ zl n).length (cl (l ++ zl n)) → w.grownBy w' v.ownBlock → wpList Tryd.prog ops Q rest (a.put o.dst v') w') : wpList Tryd.prog ops Q (o :: rest) a w := by
  obtain ⟨v', w', hr, h1, h2⟩ := run_app0 (w := w) o.type base hown hL hbase
  exact Lib.wpList_append_run w hgd s x 22 3 ho _ _ hs hx v' w' hr (h v' w' h1 h2)
end Go.Proofs.YtmlacbdonkfbdaaDoor
