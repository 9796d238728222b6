/- AES: known. -/
import Derived.Test.YtjcdbjapadgdfaaDoorAP
namespace Go.Proofs.YtjcdbjapadgdfaaDoor
open Go.RowKit Go.Shelf

attribute [local go_sem] Oper.semAt_some
theorem run_made16 (W : World) : (Instr.makeSlice 22 (.int .i64 16) (.int .i64 16)).run Tryd.prog W = .ok (.slice (some ⟨W.heap.size, 0, none⟩) 16 16) (W.alloc (.cells (arr .u8 (zr 16)) 5)) := by
  obtain ⟨i0, hi, hz0, hz1, hz2⟩ := info_parts Tryd.info5
  rw [run_makeSlice W 22 5 i0 (.int .u8 0) Tryd.underlying22 hi hz0 .i64 .i64 16 16 (by omega) (by omega) (by rw [hz1]; omega) (by rw [hz2]; decide) (by omega), hz1, arr_lit, zr_eq, List.map_replicate]
  kernel_rfl
/-- The first n bytes are m·i. -/
def kfl (n m : Nat) : List Nat := (List.range 16).map fun i => if i < n then m * i else 0
theorem kfl_len (n m : Nat) : (kfl n m).length = 16 := by simp [kfl]
theorem kfl_zero (m : Nat) : kfl 0 m = zr 16 := by rw [zr_eq]; rfl
theorem kfl_set {n m : Nat} (h : n < 16) : (kfl n m).set n (m * n) = kfl (n + 1) m := by
  refine List.ext_getElem (by simp [kfl]) fun i h1 h2 => ?_
  have hi : i < 16 := by rw [kfl_len] at h2; exact h2
  rw [List.getElem_set]
  simp only [kfl, List.getElem_map, List.getElem_range]
  split
  · subst_vars; rw [if_pos (by omega)]
  · rename_i hne
    by_cases hlt : i < n
    · rw [if_pos hlt, if_pos (by omega)]
    · rw [if_neg hlt, if_neg (by omega)]
theorem kfl_256 {m : Nat} (hm : m ≤ 17) (n : Nat) : ∀ x ∈ kfl n m, x < 256 := by
  intro x hx
  simp only [kfl, List.mem_map, List.mem_range] at hx
  obtain ⟨i, hi, rfl⟩ := hx
  split
  · have : m * i ≤ 17 * i := Nat.mul_le_mul_right _ hm
    omega
  · omega
attribute [irreducible] kfl
def ans : List Nat := [105, 196, 224, 216, 106, 123, 4, 48, 216, 205, 183, 128, 112, 180, 197, 90]
theorem ans16 : bytesL (encS (wordsL (kfl 16 1)) (wordsL (kfl 16 17)) 11) = ans := by decide +kernel
/-- A block of bytes that nothing has frozen, with its type. -/
def RowT (W : World) (g : Nat) (l : List Nat) : Prop := W.heap[g]? = some (.cells (arr .u8 l) 5 (0, 0))
theorem RowT.row {W : World} {g : Nat} {l : List Nat} (h : RowT W g l) : rowN W g = some (arr .u8 l) := by
  unfold rowN; rw [show W.heap[g]? = _ from h]; simp
theorem RowT.set {W : World} {g : Nat} {l : List Nat} (h : RowT W g l) (i x : Nat) : RowT (W.setCell ⟨g, i, none⟩ (.int .u8 (x : Nat))) g (l.set i x) := by
  have := heap_setCell_same W g i (arr .u8 l) 5 (.int .u8 (x : Nat)) h
  rw [arr_set] at this; exact this
theorem RowT.other {W : World} {g g' : Nat} {l : List Nat} (h : RowT W g l) (i : Nat) (u : Value) (hne : g ≠ g') : RowT (W.setCell ⟨g', i, none⟩ u) g l :=
  (heap_setCell_other W ⟨g', i, none⟩ g u hne).trans h
theorem RowT.lt {W : World} {g : Nat} {l : List Nat} (h : RowT W g l) : g < W.heap.size := (Array.getElem?_eq_some_iff.1 h).1
theorem RowT.kept {n : Nat} {W V : World} {g : Nat} {l : List Nat} (h : RowT W g l) (hb : Below n W V) (hn : g < n) : RowT V g l := (hb.block g hn).trans h
theorem RowT.owns {W : World} {g base : Nat} {l : List Nat} (h : RowT W g l) (hb : base ≤ g) (n : Nat) (hl : l.length = n) (hn : n ≤ 1000) : W.ownsRow base 5 1 (.slice (some ⟨g, 0, none⟩) n n) l.length (cl l) :=
  ⟨by rw [cl_len, Nat.mul_one], .inr ⟨g, n, arr .u8 l, by rw [hl], hb, h, by omega, by unfold maxLen; omega, by rw [arr_size, hl, Nat.mul_one], by rw [arr_toList, Nat.mul_one, List.take_of_length_le (by simp)]; rfl⟩⟩
def KnR (gk gb : Nat) (w0 : World) (i : Value) (wr : World) : Prop :=
  ∃ k : Nat, k ≤ 16 ∧ i = .int .i64 (k : Nat) ∧ RowT wr gk (kfl k 1) ∧ RowT wr gb (kfl k 17) ∧ Below w0.heap.size w0 wr
theorem str_ans : strOf ans = { data := #[105, 196, 224, 216, 106, 123, 4, 48, 216, 205, 183, 128, 112, 180, 197, 90] } := by rfl
theorem run_eqp24 (g : Nat) (W : World) : (binOp BinOp.eql 51 (.pointer (some ⟨g, 0, none⟩)) (.pointer none)).run Tryd.prog W = .ok (.bool false) W := by kernel_rfl
end Go.Proofs.YtjcdbjapadgdfaaDoor
