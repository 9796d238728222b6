/- known. -/
import Derived.StillTailTactics
import Derived.Lib.SlBytesConst
import Derived.Test.YtmlacbdonkfbdaaDoorTE
namespace Go.Proofs.YtmlacbdonkfbdaaDoor
open Go.RowKit Go.Shelf

attribute [local go_sem] Oper.semAt_some

/-- The string of bytes. -/
def strOf (l : List Nat) : ByteArray := ⟨(l.map UInt8.ofNat).toArray⟩
theorem foldl_push (ns : List Nat) : ∀ s : ByteArray, (ns.map fun n => ((n : Nat) : Int)).foldl (fun r n => r.push (UInt8.ofNat n.toNat)) s = ⟨s.data ++ (ns.map UInt8.ofNat).toArray⟩ := by
  induction ns with
  | nil => intro s; simp
  | cons n ns ih =>
    intro s
    rw [List.map_cons, List.foldl_cons, ih]
    simp [ByteArray.push]
theorem run_str (W : World) (g off n cap : Nat) (l : List Nat) (hl : l.length = n) (h : ∀ j, j < n → W.cell? ⟨g, off + j, none⟩ = some (.int .u8 (l.getD j 0 : Nat))) :
    (convert 22 9 (.slice (some ⟨g, off, none⟩) n cap)).run Tryd.prog W = .ok (.string (strOf l)) W := by
  rw [run_convert_bytes_string (P := Tryd.prog) W 22 9 5 _ _ _ Tryd.underlying22 Tryd.underlying5 Tryd.underlying9]
  have hld := run_loadCells_list (P := Tryd.prog) W ⟨g, off, none⟩ (l.map fun x => Value.int .u8 (x : Nat)) (fun j v hv => by
    have hj : j < l.length := by
      by_cases hj : j < l.length
      · exact hj
      · rw [List.getElem?_eq_none (by simp; omega)] at hv; cases hv
    have hadd : (⟨g, off, none⟩ : Addr).add j = ⟨g, off + j, none⟩ := by unfold Addr.add; split <;> simp_all
    rw [hadd, h j (by omega), ← hv]
    simp [List.getD, hj])
  rw [List.length_map, hl] at hld
  have := run_bytesToString (P := Tryd.prog) W ⟨g, off, none⟩ n cap (l.map fun n => ((n : Nat) : Int)) (by rw [hld, List.map_map]; rfl)
  have he : ByteArray.empty.data = #[] := rfl
  rw [this, foldl_push, he, Array.empty_append]
  rfl
theorem str_arr {W : World} {g : Nat} {l : List Nat} {n : Nat} (h : rowN W g = some (arr .u8 l)) (hl : l.length = n) : (convert 22 9 (.slice (some ⟨g, 0, none⟩) n n)).run Tryd.prog W = .ok (.string (strOf l)) W :=
  run_str W g 0 n n l hl (fun j hj => by rw [Nat.zero_add]; exact cell_arr h (by omega))
theorem str_nil : strOf (shaL []) = { data := #[227, 176, 196, 66, 152, 252, 28, 20, 154, 251, 244, 200, 153, 111, 185, 36, 39, 174, 65, 228, 100, 155, 147, 76, 164, 149, 153, 27, 120, 82, 184, 85] } := by rw [sha_nil]; rfl
theorem str_abc : strOf (shaL [97, 98, 99]) = { data := #[186, 120, 22, 191, 143, 1, 207, 234, 65, 65, 64, 222, 93, 174, 34, 35, 176, 3, 97, 163, 150, 23, 122, 156, 180, 16, 255, 97, 242, 0, 21, 173] } := by rw [sha_abc]; rfl
theorem arr24 : Tryd.prog.arrayLen 27 = 32 ∧ Tryd.prog.elem 27 = 5 ∧ Tryd.prog.underlying 27 = some (.array (Tryd.prog.arrayLen 27) (Tryd.prog.elem 27)) := ⟨by kernel_rfl, by kernel_rfl, by kernel_rfl⟩
theorem run_slice24_all (g : Nat) (W : World) : (Instr.sliceAt 27 (.pointer (some ⟨g, 0, none⟩)) none none none).run Tryd.prog W = .ok (.slice (some ⟨g, 0, none⟩) 32 32) W := by
  obtain ⟨h1, h2, h3⟩ := arr24
  rw [run_sliceAt_array_all W 27 _ h3, h2, h1, Tryd.sizeOf5]
  simp [slicedAt, Addr.add]
@[irreducible] def zl (n : Nat) : List Nat := List.replicate n 0
theorem zl_eq (n : Nat) : zl n = List.replicate n 0 := by unfold zl; rfl
theorem zl_len (n : Nat) : (zl n).length = n := by rw [zl_eq, List.length_replicate]
theorem run_make22 (n : Nat) (hn : n ≤ 1000) (W : World) : (Instr.makeSlice 22 (.int .i64 (n : Nat)) (.int .i64 (n : Nat))).run Tryd.prog W = .ok (.slice (some ⟨W.heap.size, 0, none⟩) n n) (W.alloc (.cells (arr .u8 (zl n)) 5)) := by
  rw [zl_eq]
  obtain ⟨i0, hi, hz0, hz1, hz2⟩ := info_parts Tryd.info5
  rw [run_makeSlice W 22 5 i0 (.int .u8 0) Tryd.underlying22 hi hz0 .i64 .i64 n n (by omega) (Int.le_refl _) (by rw [hz1]; omega) (by rw [hz2]; omega) (by omega)]
  rw [hz1, arr_lit]
  simp only [madeCells, Value.cells, List.map_replicate, Int.toNat_natCast, Nat.mul_one]
  congr 3
  refine Array.ext (by simp) fun i h1 h2 => ?_
  simp [Nat.mod_one]
theorem run_conv22 (W : World) : (convert 22 22 (.slice (some ⟨W.heap.size, 0, none⟩) 3 3)).run Tryd.prog (W.alloc (.cells #[.int .u8 97, .int .u8 98, .int .u8 99] 5)) = .ok (.slice (some ⟨W.heap.size, 0, none⟩) 3 3) (W.alloc (.cells #[.int .u8 97, .int .u8 98, .int .u8 99] 5 (3, 4))) :=
  Lib.run_convert_bytes_const W 22 5 #[.int .u8 97, .int .u8 98, .int .u8 99] 3 3 Tryd.underlying22 Tryd.underlying5
theorem bytes_abc (W : World) : BytesAt [97, 98, 99] (.slice (some ⟨W.heap.size, 0, none⟩) 3 3) (W.alloc (.cells #[.int .u8 97, .int .u8 98, .int .u8 99] 5 (3, 4))) := by
  refine ⟨fun x hx => by simp at hx; omega, _, 3, rfl, Nat.le_refl _, .inr ⟨W.heap.size, 0, rfl, by simp, fun j hj => ?_⟩⟩
  have hj3 : j < 3 := hj
  have hh : (W.alloc (.cells #[.int .u8 97, .int .u8 98, .int .u8 99] 5 (3, 4))).heap[W.heap.size]? = some (.cells #[.int .u8 97, .int .u8 98, .int .u8 99] 5 (3, 4)) := World.alloc_heap_new _ _
  unfold World.cell?
  simp only [hh]
  rcases (by omega : j = 0 ∨ j = 1 ∨ j = 2) with rfl | rfl | rfl <;> rfl
theorem bytes_row {W : World} {g : Nat} {l : List Nat} (h256 : ∀ x ∈ l, x < 256) (h : rowN W g = some (arr .u8 l)) (n : Nat) (hn : l.length = n) : BytesAt l (.slice (some ⟨g, 0, none⟩) n n) W :=
  ⟨h256, _, n, by rw [hn], by omega, .inr ⟨g, 0, rfl, rowN_lt h, fun j hj => by rw [Nat.zero_add]; exact cell_arr h hj⟩⟩

def KnI (gn B : Nat) (Ds : List Nat) (w : World) (k : Nat) (V : World) : Prop :=
  (rowN V gn = some #[.int .i64 (k : Nat)] ∧ ∀ D ∈ Ds, D < B ∧ V.heap[D]? = some (.deferred (some []))) ∧ Below w.heap.size w V
theorem knI_own (gn B : Nat) (Ds : List Nat) (w : World) (hB : w.heap.size ≤ B) : OwnFrom B (KnI gn B Ds w) := by
  rintro k X Y row ⟨⟨h, h'⟩, hb⟩ hg hr
  exact ⟨⟨row_grown hg (fun r e => (hr r e).2) h, fun D hD => ⟨(h' D hD).1, (hg.block D (Array.getElem?_eq_some_iff.1 (h' D hD).2).1 (fun e => by have := (hr D e.symm).1; have := (h' D hD).1; omega)).trans (h' D hD).2⟩⟩,
    hb.grown hg hb.size (fun r e => Nat.le_trans hB (hr r e).1)⟩
theorem n55 : (padL (zl 55)).length / 64 = 1 := by rw [padL_len, zl_len]; rfl
theorem n56 : (padL (zl 56)).length / 64 = 2 := by rw [padL_len, zl_len]; rfl
theorem n0 : (padL (zl 0)).length / 64 = 1 := by rw [padL_len, zl_len]; rfl
theorem rep256 (n : Nat) : ∀ x ∈ zl n, x < 256 := fun x hx => by rw [zl_eq] at hx; have := List.eq_of_mem_replicate hx; omega

end Go.Proofs.YtmlacbdonkfbdaaDoor
