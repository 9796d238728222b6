/- known. -/
import Derived.StillTailTactics
import Derived.Lib.SlBytesConst
import Derived.Test.YtjpieoepokakgaaDoorTE
namespace Go.Proofs.YtjpieoepokakgaaDoor
open Go.RowKit Go.Shelf

attribute [local go_sem] Oper.semAt_some

/-- The string of bytes. -/
def strOf (l : List Nat) : ByteArray := ⟨(l.map UInt8.ofNat).toArray⟩
theorem foldl_push (ns : List Nat) : ∀ s : ByteArray, (ns.map fun n => ((n : Nat) : Int)).foldl (fun r n => r.push (UInt8.ofNat n.toNat)) s = ⟨s.data ++ (ns.map UInt8.ofNat).toArray⟩ := by
  induction ns with
  | nil => intro s; simp
  | cons n ns ih =>
    intro s
    rw [List.map_cons, List.foldl_cons, ih]
    simp [ByteArray.push]
theorem run_str (W : World) (g off n cap : Nat) (l : List Nat) (hl : l.length = n) (h : ∀ j, j < n → W.cell? ⟨g, off + j, none⟩ = some (.int .u8 (l.getD j 0 : Nat))) :
    (convert 22 9 (.slice (some ⟨g, off, none⟩) n cap)).run Tryd.prog W = .ok (.string (strOf l)) W := by
  rw [run_convert_bytes_string (P := Tryd.prog) W 22 9 5 _ _ _ Tryd.underlying22 Tryd.underlying5 Tryd.underlying9]
  have hld := run_loadCells_list (P := Tryd.prog) W ⟨g, off, none⟩ (l.map fun x => Value.int .u8 (x : Nat)) (fun j v hv => by
    have hj : j < l.length := by
      by_cases hj : j < l.length
      · exact hj
      · rw [List.getElem?_eq_none (by simp; omega)] at hv; cases hv
    have hadd : (⟨g, off, none⟩ : Addr).add j = ⟨g, off + j, none⟩ := by unfold Addr.add; split <;> simp_all
    rw [hadd, h j (by omega), ← hv]
    simp [List.getD, hj])
  rw [List.length_map, hl] at hld
  have := run_bytesToString (P := Tryd.prog) W ⟨g, off, none⟩ n cap (l.map fun n => ((n : Nat) : Int)) (by rw [hld, List.map_map]; rfl)
  have he : ByteArray.empty.data = #[] := rfl
  rw [this, foldl_push, he, Array.empty_append]
  rfl
theorem str_arr {W : World} {g : Nat} {l : List Nat} {n : Nat} (h : rowN W g = some (arr .u8 l)) (hl : l.length = n) : (convert 22 9 (.slice (some ⟨g, 0, none⟩) n n)).run Tryd.prog W = .ok (.string (strOf l)) W :=
  run_str W g 0 n n l hl (fun j hj => by rw [Nat.zero_add]; exact cell_arr h (by omega))
theorem str_nil : strOf (shaL []) = { data := #[227, 176, 196, 66, 152, 252, 28, 20, 154, 251, 244, 200, 153, 111, 185, 36, 39, 174, 65, 228, 100, 155, 147, 76, 164, 149, 153, 27, 120, 82, 184, 85] } := by rw [sha_nil]; rfl
theorem str_abc : strOf (shaL [97, 98, 99]) = { data := #[186, 120, 22, 191, 143, 1, 207, 234, 65, 65, 64, 222, 93, 174, 34, 35, 176, 3, 97, 163, 150, 23, 122, 156, 180, 16, 255, 97, 242, 0, 21, 173] } := by rw [sha_abc]; rfl
theorem arr24 : Tryd.prog.arrayLen 24 = 32 ∧ Tryd.prog.elem 24 = 5 ∧ Tryd.prog.underlying 24 = some (.array (Tryd.prog.arrayLen 24) (Tryd.prog.elem 24)) := ⟨by kernel_rfl, by kernel_rfl, by kernel_rfl⟩
theorem run_slice24_all (g : Nat) (W : World) : (Instr.sliceAt 24 (.pointer (some ⟨g, 0, none⟩)) none none none).run Tryd.prog W = .ok (.slice (some ⟨g, 0, none⟩) 32 32) W := by
  obtain ⟨h1, h2, h3⟩ := arr24
  rw [run_sliceAt_array_all W 24 _ h3, h2, h1, Tryd.sizeOf5]
  simp [slicedAt, Addr.add]
@[irreducible] def zl (n : Nat) : List Nat := List.replicate n 0
theorem zl_eq (n : Nat) : zl n = List.replicate n 0 := by unfold zl; rfl
theorem zl_len (n : Nat) : (zl n).length = n := by rw [zl_eq, List.length_replicate]
theorem run_make22 (n : Nat) (hn : n ≤ 1000) (W : World) : (Instr.makeSlice 22 (.int .i64 (n : Nat)) (.int .i64 (n : Nat))).run Tryd.prog W = .ok (.slice (some ⟨W.heap.size, 0, none⟩) n n) (W.alloc (.cells (arr .u8 (zl n)) 5)) := by
  rw [zl_eq]
  obtain ⟨i0, hi, hz0, hz1, hz2⟩ := info_parts Tryd.info5
  rw [run_makeSlice W 22 5 i0 (.int .u8 0) Tryd.underlying22 hi hz0 .i64 .i64 n n (by omega) (Int.le_refl _) (by rw [hz1]; omega) (by rw [hz2]; omega) (by omega)]
  rw [hz1, arr_lit]
  simp only [madeCells, Value.cells, List.map_replicate, Int.toNat_natCast, Nat.mul_one]
  congr 3
  refine Array.ext (by simp) fun i h1 h2 => ?_
  simp [Nat.mod_one]
theorem run_conv22 (W : World) : (convert 22 22 (.slice (some ⟨W.heap.size, 0, none⟩) 3 3)).run Tryd.prog (W.alloc (.cells #[.int .u8 97, .int .u8 98, .int .u8 99] 5)) = .ok (.slice (some ⟨W.heap.size, 0, none⟩) 3 3) (W.alloc (.cells #[.int .u8 97, .int .u8 98, .int .u8 99] 5 (3, 4))) :=
  Lib.run_convert_bytes_const W 22 5 #[.int .u8 97, .int .u8 98, .int .u8 99] 3 3 Tryd.underlying22 Tryd.underlying5
theorem bytes_abc (W : World) : BytesAt [97, 98, 99] (.slice (some ⟨W.heap.size, 0, none⟩) 3 3) (W.alloc (.cells #[.int .u8 97, .int .u8 98, .int .u8 99] 5 (3, 4))) := by
  refine ⟨fun x hx => by simp at hx; omega, _, 3, rfl, Nat.le_refl _, .inr ⟨W.heap.size, 0, rfl, by simp, fun j hj => ?_⟩⟩
  have hj3 : j < 3 := hj
  have hh : (W.alloc (.cells #[.int .u8 97, .int .u8 98, .int .u8 99] 5 (3, 4))).heap[W.heap.size]? = some (.cells #[.int .u8 97, .int .u8 98, .int .u8 99] 5 (3, 4)) := World.alloc_heap_new _ _
  unfold World.cell?
  simp only [hh]
  rcases (by omega : j = 0 ∨ j = 1 ∨ j = 2) with rfl | rfl | rfl <;> rfl
theorem bytes_row {W : World} {g : Nat} {l : List Nat} (h256 : ∀ x ∈ l, x < 256) (h : rowN W g = some (arr .u8 l)) (n : Nat) (hn : l.length = n) : BytesAt l (.slice (some ⟨g, 0, none⟩) n n) W :=
  ⟨h256, _, n, by rw [hn], by omega, .inr ⟨g, 0, rfl, rowN_lt h, fun j hj => by rw [Nat.zero_add]; exact cell_arr h hj⟩⟩

theorem run_eqnil28 (W : World) (gb : Nat) : (binOp .eql 28 (.func (.func 20) #[] #[.pointer (some ⟨gb, 0, none⟩)]) Value.nilFunc).run Tryd.prog W = .ok (.bool false) W := by kernel_rfl
def KnI (gn B : Nat) (Ds : List Nat) (w : World) (k : Nat) (V : World) : Prop :=
  (rowN V gn = some #[.int .i64 (k : Nat)] ∧ ∀ D ∈ Ds, D < B ∧ V.heap[D]? = some (.deferred (some []))) ∧ Below w.heap.size w V
theorem knI_own (gn B : Nat) (Ds : List Nat) (w : World) (hB : w.heap.size ≤ B) : OwnFrom B (KnI gn B Ds w) := by
  rintro k X Y row ⟨⟨h, h'⟩, hb⟩ hg hr
  exact ⟨⟨row_grown hg (fun r e => (hr r e).2) h, fun D hD => ⟨(h' D hD).1, (hg.block D (Array.getElem?_eq_some_iff.1 (h' D hD).2).1 (fun e => by have := (hr D e.symm).1; have := (h' D hD).1; omega)).trans (h' D hD).2⟩⟩,
    hb.grown hg hb.size (fun r e => Nat.le_trans hB (hr r e).1)⟩
theorem n55 : (padL (zl 55)).length / 64 = 1 := by rw [padL_len, zl_len]; rfl
theorem n56 : (padL (zl 56)).length / 64 = 2 := by rw [padL_len, zl_len]; rfl
theorem n0 : (padL (zl 0)).length / 64 = 1 := by rw [padL_len, zl_len]; rfl
theorem rep256 (n : Nat) : ∀ x ∈ zl n, x < 256 := fun x hx => by rw [zl_eq] at hx; have := List.eq_of_mem_replicate hx; omega

set_option maxRecDepth 100000 in
set_option maxHeartbeats 8000000 in
theorem known_any (w : World) (hK : KG w) : Calls Tryd.prog 8 #[] w fun e w' => e = .returned (.bool true) ∧ Below w.heap.size w w' := by
  have HS0 := Lib.hid (fun W (h : KG W) => sum_any [] (.slice none 0 0) (by decide) W h ⟨fun x hx => (by cases hx), none, 0, rfl, by decide, .inl rfl⟩ (fun L c e => by cases e; rfl))
  have HS1 := Lib.hid (fun s W (h : KG W) (hb : BytesAt [97, 98, 99] s W) (hn : Nil0 s) => sum_any [97, 98, 99] s (by decide) W h hb hn)
  have l0 : (shaL []).length = 32 := outB_len (absB_len rfl _ _)
  have l1 : (shaL [97, 98, 99]).length = 32 := outB_len (absB_len rfl _ _)
  have HSTR0 := Lib.hid str_nil
  have HSTR1 := Lib.hid str_abc
  obtain ⟨O0, hO0⟩ : ∃ O, shaL [] = O := ⟨_, rfl⟩
  obtain ⟨O1, hO1⟩ : ∃ O, shaL [97, 98, 99] = O := ⟨_, rfl⟩
  rw [hO0] at HS0 l0 HSTR0
  rw [hO1] at HS1 l1 HSTR1
  have HK := Lib.hid hK
  have hcv := run_conv22
  have hnf := run_eqnil28
  have hmf : ∀ (fn : Fn) (first cap : Array Value) (w : World), (Instr.makeFunc fn first cap).run Tryd.prog w = .ok (.func fn first cap) w := fun _ _ _ _ => rfl
  have hm0 : ∀ W, (Instr.makeSlice 22 (.int .i64 55) (.int .i64 55)).run Tryd.prog W = .ok (.slice (some ⟨W.heap.size, 0, none⟩) 55 55) (W.alloc (.cells (arr .u8 (zl 55)) 5)) := fun W => run_make22 55 (by omega) W
  have hm1 : ∀ W, (Instr.makeSlice 22 (.int .i64 56) (.int .i64 56)).run Tryd.prog W = .ok (.slice (some ⟨W.heap.size, 0, none⟩) 56 56) (W.alloc (.cells (arr .u8 (zl 56)) 5)) := fun W => run_make22 56 (by omega) W
  have hm2 : ∀ W, (Instr.makeSlice 22 (.int .i64 0) (.int .i64 0)).run Tryd.prog W = .ok (.slice (some ⟨W.heap.size, 0, none⟩) 0 0) (W.alloc (.cells (arr .u8 (zl 0)) 5)) := fun W => run_make22 0 (by omega) W
  have hs24 := run_slice24_all
  have hz32 := z32_lit
  have sz0 : (arr .u8 O0).size = 32 := by rw [arr_size, l0]
  have sz1 : (arr .u8 O1).size = 32 := by rw [arr_size, l1]
  have sz2 : (arr .u8 z32).size = 32 := by rw [arr_size]; rfl
  clear hO0 hO1 hK
  refine (callsIn_wide (n := 6)).1 ?_
  refine callsIn_of_wp_marks Tryd.func8 rfl trivial ?_ rfl
  simp only [Tryd.ntmps8, List.size_toArray, List.length_nil, Nat.reduceSub, Array.replicate_succ, Array.replicate_zero, List.push_toArray, List.append_toArray, List.nil_append]
  refine wpIn_wide.2 ?_
  go_wp2_with fail
  refine (HS0.out _ HK.out).mono ?_
  rintro e w1 ⟨rfl, hb1⟩
  have HB1 := Lib.hid hb1
  clear hb1
  go_wp2_with fail
  have hbV : Below w1.heap.size w1 (w1.alloc (.cells #[.int .u8 97, .int .u8 98, .int .u8 99] 5 (3, 4))) := (Below.refl _ _).alloc (Nat.le_refl _) _
  have HB2 := Lib.hid (HB1.out.trans (hbV.mono HB1.out.size))
  refine (HS1.out _ _ (HK.out.kept HB2.out) (bytes_abc w1) (fun L c e => by cases e)).mono ?_
  rintro e w2 ⟨rfl, hb2⟩
  have HB3 := Lib.hid (HB2.out.trans (hb2.mono HB2.out.size))
  clear hb2 hbV HB1 HB2
  go_upto_region 2 with fail
  obtain ⟨V, hV⟩ : ∃ V, (((w2.alloc (.cells (arr .u8 z32) 24)).alloc (.cells (arr .u8 z32) 24)).setRow w2.heap.size (arr .u8 O0)).setRow (w2.heap.size + 1) (arr .u8 O1) = V := ⟨_, rfl⟩
  have hbV : Below w2.heap.size w2 V := by rw [← hV]; exact below_setRow' (below_setRow' (((Below.refl _ w2).alloc (Nat.le_refl _) _).alloc (by simp) _) (Nat.le_refl _) _) (by omega) _
  have hr0 : rowN V w2.heap.size = some (arr .u8 O0) := by
    rw [← hV]; refine row_other (row_new (cs := arr .u8 z32) ?_) (by omega)
    rw [rowN_alloc, if_neg (by simp), rowN_alloc, if_pos rfl]
  have hr1 : rowN V (w2.heap.size + 1) = some (arr .u8 O1) := by
    rw [← hV]; refine row_new (cs := arr .u8 z32) (row_other ?_ (by omega))
    rw [rowN_alloc, if_pos (by simp)]
  rw [hV]
  have hst0 := str_arr hr0 l0
  have hst1 := str_arr hr1 l1
  rw [HSTR0.out] at hst0
  rw [HSTR1.out] at hst1
  have HB4 := Lib.hid (HB3.out.trans (hbV.mono HB3.out.size))
  clear hV hbV hr0 hr1 HB3 sz0 sz1 sz2 hz32
  go_wp2_with fail
  refine wp_loop_rounds 5 ?_
  obtain ⟨X0, hX0⟩ : ∃ X, V = X := ⟨_, rfl⟩
  rw [hX0] at HB4 ⊢
  clear hst0 hst1 hX0
  have HBX0 := HB4
  have HD0 := Lib.hid (show ∀ D ∈ ([] : List Nat), D < X0.heap.size ∧ X0.heap[D]? = some (.deferred (some [])) from fun D h => by cases h)
  clear HB4
  rw [rounds_succ]
  go_wp2_with fail
  obtain ⟨A, hA⟩ : ∃ A, (X0.alloc (.cells #[.int .i64 55, .int .i64 56, .int .i64 0] 3)).alloc (.cells (arr .u8 (zl 55)) 5) = A := ⟨_, rfl⟩
  have hbA : Below X0.heap.size X0 A := by rw [← hA]; exact ((Below.refl _ _).alloc (Nat.le_refl _) _).alloc (by simp) _
  have hrA : rowN A (X0.heap.size + 1) = some (arr .u8 (zl 55)) := by rw [← hA, rowN_alloc, if_pos (by simp)]
  rw [hA]
  have HBL := Lib.hid (blocks_any (zl 55) (.slice (some ⟨X0.heap.size + 1, 0, none⟩) 55 55) (by rw [zl_len]; omega) A (bytes_row (rep256 _) hrA 55 (zl_len _)) (fun L c e => by cases e))
  have HBA := Lib.hid (HBX0.out.trans (hbA.mono HBX0.out.size))
  have HDA := Lib.hid (show ∀ D ∈ ([] : List Nat), D < A.heap.size ∧ A.heap[D]? = some (.deferred (some [])) from fun D h => ⟨by have := (HD0.out D h).1; have := hbA.size; omega, (hbA.block D (HD0.out D h).1).trans (HD0.out D h).2⟩)
  clear hA hbA hrA HBX0 HD0
  refine HBL.out.mono ?_
  rintro e B ⟨gb, s', rfl, hgb, hrs, hbs, hfs, hns, hbB⟩
  have hsl : ∃ a c, s' = .slice a 55 c := by obtain ⟨_, a, c, e, _⟩ := hbs; exact ⟨a, c, by rw [e, zl_len]⟩
  have HBB := Lib.hid (HBA.out.trans (hbB.mono HBA.out.size))
  have HDB := Lib.hid (show ∀ D ∈ ([] : List Nat), D < B.heap.size ∧ B.heap[D]? = some (.deferred (some [])) from fun D h => ⟨by have := (HDA.out D h).1; have := hbB.size; omega, (hbB.block D (HDA.out D h).1).trans (HDA.out D h).2⟩)
  have HRS := Lib.hid hrs
  have HBS := Lib.hid hbs
  have HNS := Lib.hid hns
  have hgbB := rowN_lt hrs
  clear HBL HBA HDA hrs hbs hns hbB hfs hsl
  go_wp2_with fail
  obtain ⟨U, hU⟩ : ∃ U, (B.alloc (.cells #[.int .i64 0] 3)) = U := ⟨_, rfl⟩
  have hbU : Below B.heap.size B U := by rw [← hU]; exact (Below.refl _ _).alloc (Nat.le_refl _) _
  have hrU : rowN U B.heap.size = some #[.int .i64 0] := by rw [← hU, rowN_alloc, if_pos rfl]
  have hUs : B.heap.size < U.heap.size := rowN_lt hrU
  try rw [hU]
  have HI0 := Lib.hid (show KnI B.heap.size U.heap.size [] w 0 U from ⟨⟨hrU, fun D h => ⟨by have := (HDB.out D h).1; omega, (hbU.block D (HDB.out D h).1).trans (HDB.out D h).2⟩⟩, HBB.out.trans (hbU.mono HBB.out.size)⟩)
  have HBS2 := Lib.hid (HBS.out.kept hbU)
  have HYL := Lib.hid (blocks1_yields (6 - 1) gb (zl 55) s' (by rw [zl_len]; omega) U (keptW hbU HRS.out) HBS2.out HNS.out)
  rw [n55] at HYL
  have HGE := Lib.hid (show w.heap.size ≤ B.heap.size from HBB.out.size)
  have HNE := Lib.hid (show ∀ D ∈ ([] : List Nat), D < B.heap.size from fun D h => (HDB.out D h).1)
  clear hU hbU hrU HBB HDB HRS
  refine (wpIn_wide (n := 6)).1 ?_
  refine range_yields (by omega) (gf := 20) (lb := #[.pointer (some ⟨gb, 0, none⟩)]) rfl (enters_of Tryd.func20 (by kernel_rfl) rfl) HYL.out
    (fun j => j = B.heap.size) (fun j e => by
      subst e
      refine ⟨hUs, fun h => ?_⟩
      rcases h with h | ⟨h0, h⟩
      · omega
      · have := HBS.out.lt h0 h; omega)
    (fun j h => by
      rcases h with h | ⟨h0, h⟩
      · omega
      · exact HBS2.out.lt h0 h) (fun k v V l o o' h hl ho => ⟨h.1.putObj o' hl ho, fun j hj => by have := h.2 j hj; simp; exact this⟩) (Below.refl _ _)
    (KnI B.heap.size U.heap.size [] w) (fun _ _ _ => False) (knI_own _ _ _ w (by have := HI0.out.2.size; omega)) (fun _ _ _ _ _ hs _ _ => hs) HI0.out ?a1_0 ?assign_0 ?body_0 ?done_0 ?stop_0
  case assign_0 =>
    intro l2 v V k hk
    gi_wp2
    exact hk
  case stop_0 =>
    rintro D k c V hD hk hx hK
    exact hx.elim
  case body_0 => as_aux_lemma =>
    rintro l2 k v V hk ⟨⟨hr, hd⟩, hb⟩ hphi
    have hc := (rowN_cell hr).1 0
    have hf := (rowN_cell hr).2 0
    have e1 : IntKind.i64.wrap (((k : Nat) : Int) + 1) = ((k : Nat) : Int) + 1 := IntWalk.i64_in _ (by omega)
    have HR := Lib.hid hr
    have HDD := Lib.hid hd
    have HB := Lib.hid hb
    have HPV := Lib.hid HGE.out
    clear hr hd hb hphi
    gi_wp2_with fail
    have hKP : Keeps (fun j => j = B.heap.size) V (V.setCell ⟨B.heap.size, 0, none⟩ (.int .i64 (((k : Nat) : Int) + 1))) := Keeps.of_grownBy (setCell_grown _ _ _) (fun r e => by cases e; rfl)
    exact ⟨hKP.from (fun j hj h => by omega), hKP.weaken (fun j _ h => .inl h), .inl ⟨rfl, ⟨⟨row_set0 HR.out, fun D h => ⟨(HDD.out D h).1, (Below.heap_setCell _ _ _ D (by show D ≠ B.heap.size; have := HNE.out D h; omega)).trans (HDD.out D h).2⟩⟩, HB.out.setCell (p := ⟨B.heap.size, 0, none⟩) HPV.out _⟩⟩⟩
  case done_0 => as_aux_lemma =>
    rintro D0 V hD ⟨⟨hr, hd⟩, hb⟩ hKd
    have hc := (rowN_cell hr).1 0
    have hlB := rowN_lt hr
    have HDD := Lib.hid hd
    have HB := Lib.hid hb
    have HKD := Lib.hid hKd
    clear hr hd hb hKd
    go_upto_region 13 with fail
    go_region
    obtain ⟨X1, hX⟩ : ∃ X, (V.alloc (.cells #[.int .i64 1, .int .i64 2, .int .i64 1] 3)).drew = X := ⟨_, rfl⟩
    have hbX : Below V.heap.size V X1 := by rw [← hX]; exact ((Below.refl _ _).alloc (Nat.le_refl _) _).drew
    rw [hX]
    have HBX1 := Lib.hid (HB.out.trans (hbX.mono HB.out.size))
    have HD1 := Lib.hid (show ∀ D ∈ ([D0] : List Nat), D < X1.heap.size ∧ X1.heap[D]? = some (.deferred (some [])) from fun D h => by
      have hlt : ∀ {D : Nat}, V.heap[D]? = some (.deferred (some [])) → D < X1.heap.size ∧ X1.heap[D]? = some (.deferred (some [])) := fun {D} h => by
        have h2 := (Array.getElem?_eq_some_iff.1 h).1
        exact ⟨Nat.lt_of_lt_of_le h2 hbX.size, (hbX.block D h2).trans h⟩
      rcases List.mem_cons.1 h with rfl | h
      · exact hlt HKD.out
      · exact hlt (HDD.out D h).2)
    have HDN0 := Lib.hid (show ∀ D ∈ ([] : List Nat), D < D0 from fun D h => by have := (HDD.out D h).1; omega)
    have HDW0 := Lib.hid (show w.heap.size ≤ D0 by have := HI0.out.2.size; omega)
    clear hX hbX HB HDD HKD hc hlB HI0 HYL HBS HBS2 HNS HGE HNE hgb hgbB hUs hD
    go_wp2_with fail
    rw [rounds_succ]
    go_wp2_with fail
    obtain ⟨A, hA⟩ : ∃ A, (X1.alloc (.cells #[.int .i64 55, .int .i64 56, .int .i64 0] 3)).alloc (.cells (arr .u8 (zl 56)) 5) = A := ⟨_, rfl⟩
    have hbA : Below X1.heap.size X1 A := by rw [← hA]; exact ((Below.refl _ _).alloc (Nat.le_refl _) _).alloc (by simp) _
    have hrA : rowN A (X1.heap.size + 1) = some (arr .u8 (zl 56)) := by rw [← hA, rowN_alloc, if_pos (by simp)]
    rw [hA]
    have HBL := Lib.hid (blocks_any (zl 56) (.slice (some ⟨X1.heap.size + 1, 0, none⟩) 56 56) (by rw [zl_len]; omega) A (bytes_row (rep256 _) hrA 56 (zl_len _)) (fun L c e => by cases e))
    have HBA := Lib.hid (HBX1.out.trans (hbA.mono HBX1.out.size))
    have HDA := Lib.hid (show ∀ D ∈ ([D0] : List Nat), D < A.heap.size ∧ A.heap[D]? = some (.deferred (some [])) from fun D h => ⟨by have := (HD1.out D h).1; have := hbA.size; omega, (hbA.block D (HD1.out D h).1).trans (HD1.out D h).2⟩)
    clear hA hbA hrA HBX1 HD1
    refine HBL.out.mono ?_
    rintro e B ⟨gb, s', rfl, hgb, hrs, hbs, hfs, hns, hbB⟩
    have hsl : ∃ a c, s' = .slice a 56 c := by obtain ⟨_, a, c, e, _⟩ := hbs; exact ⟨a, c, by rw [e, zl_len]⟩
    have HBB := Lib.hid (HBA.out.trans (hbB.mono HBA.out.size))
    have HDB := Lib.hid (show ∀ D ∈ ([D0] : List Nat), D < B.heap.size ∧ B.heap[D]? = some (.deferred (some [])) from fun D h => ⟨by have := (HDA.out D h).1; have := hbB.size; omega, (hbB.block D (HDA.out D h).1).trans (HDA.out D h).2⟩)
    have HRS := Lib.hid hrs
    have HBS := Lib.hid hbs
    have HNS := Lib.hid hns
    have hgbB := rowN_lt hrs
    clear HBL HBA HDA hrs hbs hns hbB hfs hsl
    go_wp2_with fail
    obtain ⟨U, hU⟩ : ∃ U, (B.alloc (.cells #[.int .i64 0] 3)) = U := ⟨_, rfl⟩
    have hbU : Below B.heap.size B U := by rw [← hU]; exact (Below.refl _ _).alloc (Nat.le_refl _) _
    have hrU : rowN U B.heap.size = some #[.int .i64 0] := by rw [← hU, rowN_alloc, if_pos rfl]
    have hUs : B.heap.size < U.heap.size := rowN_lt hrU
    try rw [hU]
    have HI0 := Lib.hid (show KnI B.heap.size U.heap.size [D0] w 0 U from ⟨⟨hrU, fun D h => ⟨by have := (HDB.out D h).1; omega, (hbU.block D (HDB.out D h).1).trans (HDB.out D h).2⟩⟩, HBB.out.trans (hbU.mono HBB.out.size)⟩)
    have HBS2 := Lib.hid (HBS.out.kept hbU)
    have HYL := Lib.hid (blocks1_yields (6 - 1) gb (zl 56) s' (by rw [zl_len]; omega) U (keptW hbU HRS.out) HBS2.out HNS.out)
    rw [n56] at HYL
    have HGE := Lib.hid (show w.heap.size ≤ B.heap.size from HBB.out.size)
    have HNE := Lib.hid (show ∀ D ∈ ([D0] : List Nat), D < B.heap.size from fun D h => (HDB.out D h).1)
    clear hU hbU hrU HBB HDB HRS
    refine (wpIn_wide (n := 6)).1 ?_
    refine range_yields (by omega) (gf := 20) (lb := #[.pointer (some ⟨gb, 0, none⟩)]) rfl (enters_of Tryd.func20 (by kernel_rfl) rfl) HYL.out
      (fun j => j = B.heap.size) (fun j e => by
        subst e
        refine ⟨hUs, fun h => ?_⟩
        rcases h with h | ⟨h0, h⟩
        · omega
        · have := HBS.out.lt h0 h; omega)
      (fun j h => by
        rcases h with h | ⟨h0, h⟩
        · omega
        · exact HBS2.out.lt h0 h) (fun k v V l o o' h hl ho => ⟨h.1.putObj o' hl ho, fun j hj => by have := h.2 j hj; simp; exact this⟩) (Below.refl _ _)
      (KnI B.heap.size U.heap.size [D0] w) (fun _ _ _ => False) (knI_own _ _ _ w (by have := HI0.out.2.size; omega)) (fun _ _ _ _ _ hs _ _ => hs) HI0.out ?a1_1 ?assign_1 ?body_1 ?done_1 ?stop_1
    case assign_1 =>
      intro l2 v V k hk
      gi_wp2
      exact hk
    case stop_1 =>
      rintro D k c V hD hk hx hK
      exact hx.elim
    case body_1 => as_aux_lemma =>
      rintro l2 k v V hk ⟨⟨hr, hd⟩, hb⟩ hphi
      have hc := (rowN_cell hr).1 0
      have hf := (rowN_cell hr).2 0
      have e1 : IntKind.i64.wrap (((k : Nat) : Int) + 1) = ((k : Nat) : Int) + 1 := IntWalk.i64_in _ (by omega)
      have HR := Lib.hid hr
      have HDD := Lib.hid hd
      have HB := Lib.hid hb
      have HPV := Lib.hid HGE.out
      clear hr hd hb hphi
      gi_wp2_with fail
      have hKP : Keeps (fun j => j = B.heap.size) V (V.setCell ⟨B.heap.size, 0, none⟩ (.int .i64 (((k : Nat) : Int) + 1))) := Keeps.of_grownBy (setCell_grown _ _ _) (fun r e => by cases e; rfl)
      exact ⟨hKP.from (fun j hj h => by omega), hKP.weaken (fun j _ h => .inl h), .inl ⟨rfl, ⟨⟨row_set0 HR.out, fun D h => ⟨(HDD.out D h).1, (Below.heap_setCell _ _ _ D (by show D ≠ B.heap.size; have := HNE.out D h; omega)).trans (HDD.out D h).2⟩⟩, HB.out.setCell (p := ⟨B.heap.size, 0, none⟩) HPV.out _⟩⟩⟩
    case done_1 => as_aux_lemma =>
      rintro D1 V hD ⟨⟨hr, hd⟩, hb⟩ hKd
      have hc := (rowN_cell hr).1 0
      have hlB := rowN_lt hr
      have HDD := Lib.hid hd
      have HB := Lib.hid hb
      have HKD := Lib.hid hKd
      clear hr hd hb hKd
      go_upto_region 13 with fail
      go_region
      obtain ⟨X2, hX⟩ : ∃ X, (V.alloc (.cells #[.int .i64 1, .int .i64 2, .int .i64 1] 3)).drew = X := ⟨_, rfl⟩
      have hbX : Below V.heap.size V X2 := by rw [← hX]; exact ((Below.refl _ _).alloc (Nat.le_refl _) _).drew
      rw [hX]
      have HBX2 := Lib.hid (HB.out.trans (hbX.mono HB.out.size))
      have HD2 := Lib.hid (show ∀ D ∈ ([D1, D0] : List Nat), D < X2.heap.size ∧ X2.heap[D]? = some (.deferred (some [])) from fun D h => by
        have hlt : ∀ {D : Nat}, V.heap[D]? = some (.deferred (some [])) → D < X2.heap.size ∧ X2.heap[D]? = some (.deferred (some [])) := fun {D} h => by
          have h2 := (Array.getElem?_eq_some_iff.1 h).1
          exact ⟨Nat.lt_of_lt_of_le h2 hbX.size, (hbX.block D h2).trans h⟩
        rcases List.mem_cons.1 h with rfl | h
        · exact hlt HKD.out
        · exact hlt (HDD.out D h).2)
      have HDN1 := Lib.hid (show ∀ D ∈ ([D0] : List Nat), D < D1 from fun D h => by have := (HDD.out D h).1; omega)
      have HDW1 := Lib.hid (show w.heap.size ≤ D1 by have := HI0.out.2.size; omega)
      clear hX hbX HB HDD HKD hc hlB HI0 HYL HBS HBS2 HNS HGE HNE hgb hgbB hUs hD
      go_wp2_with fail
      rw [rounds_succ]
      go_wp2_with fail
      obtain ⟨A, hA⟩ : ∃ A, (X2.alloc (.cells #[.int .i64 55, .int .i64 56, .int .i64 0] 3)).alloc (.cells (arr .u8 (zl 0)) 5) = A := ⟨_, rfl⟩
      have hbA : Below X2.heap.size X2 A := by rw [← hA]; exact ((Below.refl _ _).alloc (Nat.le_refl _) _).alloc (by simp) _
      have hrA : rowN A (X2.heap.size + 1) = some (arr .u8 (zl 0)) := by rw [← hA, rowN_alloc, if_pos (by simp)]
      rw [hA]
      have HBL := Lib.hid (blocks_any (zl 0) (.slice (some ⟨X2.heap.size + 1, 0, none⟩) 0 0) (by rw [zl_len]; omega) A (bytes_row (rep256 _) hrA 0 (zl_len _)) (fun L c e => by cases e))
      have HBA := Lib.hid (HBX2.out.trans (hbA.mono HBX2.out.size))
      have HDA := Lib.hid (show ∀ D ∈ ([D1, D0] : List Nat), D < A.heap.size ∧ A.heap[D]? = some (.deferred (some [])) from fun D h => ⟨by have := (HD2.out D h).1; have := hbA.size; omega, (hbA.block D (HD2.out D h).1).trans (HD2.out D h).2⟩)
      clear hA hbA hrA HBX2 HD2
      refine HBL.out.mono ?_
      rintro e B ⟨gb, s', rfl, hgb, hrs, hbs, hfs, hns, hbB⟩
      have hsl : ∃ a c, s' = .slice a 0 c := by obtain ⟨_, a, c, e, _⟩ := hbs; exact ⟨a, c, by rw [e, zl_len]⟩
      have HBB := Lib.hid (HBA.out.trans (hbB.mono HBA.out.size))
      have HDB := Lib.hid (show ∀ D ∈ ([D1, D0] : List Nat), D < B.heap.size ∧ B.heap[D]? = some (.deferred (some [])) from fun D h => ⟨by have := (HDA.out D h).1; have := hbB.size; omega, (hbB.block D (HDA.out D h).1).trans (HDA.out D h).2⟩)
      have HRS := Lib.hid hrs
      have HBS := Lib.hid hbs
      have HNS := Lib.hid hns
      have hgbB := rowN_lt hrs
      clear HBL HBA HDA hrs hbs hns hbB hfs hsl
      go_wp2_with fail
      obtain ⟨U, hU⟩ : ∃ U, (B.alloc (.cells #[.int .i64 0] 3)) = U := ⟨_, rfl⟩
      have hbU : Below B.heap.size B U := by rw [← hU]; exact (Below.refl _ _).alloc (Nat.le_refl _) _
      have hrU : rowN U B.heap.size = some #[.int .i64 0] := by rw [← hU, rowN_alloc, if_pos rfl]
      have hUs : B.heap.size < U.heap.size := rowN_lt hrU
      try rw [hU]
      have HI0 := Lib.hid (show KnI B.heap.size U.heap.size [D1, D0] w 0 U from ⟨⟨hrU, fun D h => ⟨by have := (HDB.out D h).1; omega, (hbU.block D (HDB.out D h).1).trans (HDB.out D h).2⟩⟩, HBB.out.trans (hbU.mono HBB.out.size)⟩)
      have HBS2 := Lib.hid (HBS.out.kept hbU)
      have HYL := Lib.hid (blocks1_yields (6 - 1) gb (zl 0) s' (by rw [zl_len]; omega) U (keptW hbU HRS.out) HBS2.out HNS.out)
      rw [n0] at HYL
      have HGE := Lib.hid (show w.heap.size ≤ B.heap.size from HBB.out.size)
      have HNE := Lib.hid (show ∀ D ∈ ([D1, D0] : List Nat), D < B.heap.size from fun D h => (HDB.out D h).1)
      clear hU hbU hrU HBB HDB HRS
      refine (wpIn_wide (n := 6)).1 ?_
      refine range_yields (by omega) (gf := 20) (lb := #[.pointer (some ⟨gb, 0, none⟩)]) rfl (enters_of Tryd.func20 (by kernel_rfl) rfl) HYL.out
        (fun j => j = B.heap.size) (fun j e => by
          subst e
          refine ⟨hUs, fun h => ?_⟩
          rcases h with h | ⟨h0, h⟩
          · omega
          · have := HBS.out.lt h0 h; omega)
        (fun j h => by
          rcases h with h | ⟨h0, h⟩
          · omega
          · exact HBS2.out.lt h0 h) (fun k v V l o o' h hl ho => ⟨h.1.putObj o' hl ho, fun j hj => by have := h.2 j hj; simp; exact this⟩) (Below.refl _ _)
        (KnI B.heap.size U.heap.size [D1, D0] w) (fun _ _ _ => False) (knI_own _ _ _ w (by have := HI0.out.2.size; omega)) (fun _ _ _ _ _ hs _ _ => hs) HI0.out ?a1_2 ?assign_2 ?body_2 ?done_2 ?stop_2
      case assign_2 =>
        intro l2 v V k hk
        gi_wp2
        exact hk
      case stop_2 =>
        rintro D k c V hD hk hx hK
        exact hx.elim
      case body_2 => as_aux_lemma =>
        rintro l2 k v V hk ⟨⟨hr, hd⟩, hb⟩ hphi
        have hc := (rowN_cell hr).1 0
        have hf := (rowN_cell hr).2 0
        have e1 : IntKind.i64.wrap (((k : Nat) : Int) + 1) = ((k : Nat) : Int) + 1 := IntWalk.i64_in _ (by omega)
        have HR := Lib.hid hr
        have HDD := Lib.hid hd
        have HB := Lib.hid hb
        have HPV := Lib.hid HGE.out
        clear hr hd hb hphi
        gi_wp2_with fail
        have hKP : Keeps (fun j => j = B.heap.size) V (V.setCell ⟨B.heap.size, 0, none⟩ (.int .i64 (((k : Nat) : Int) + 1))) := Keeps.of_grownBy (setCell_grown _ _ _) (fun r e => by cases e; rfl)
        exact ⟨hKP.from (fun j hj h => by omega), hKP.weaken (fun j _ h => .inl h), .inl ⟨rfl, ⟨⟨row_set0 HR.out, fun D h => ⟨(HDD.out D h).1, (Below.heap_setCell _ _ _ D (by show D ≠ B.heap.size; have := HNE.out D h; omega)).trans (HDD.out D h).2⟩⟩, HB.out.setCell (p := ⟨B.heap.size, 0, none⟩) HPV.out _⟩⟩⟩
      case done_2 => as_aux_lemma =>
        rintro D2 V hD ⟨⟨hr, hd⟩, hb⟩ hKd
        have hc := (rowN_cell hr).1 0
        have hlB := rowN_lt hr
        have HDD := Lib.hid hd
        have HB := Lib.hid hb
        have HKD := Lib.hid hKd
        clear hr hd hb hKd
        go_upto_region 13 with fail
        go_region
        obtain ⟨X3, hX⟩ : ∃ X, (V.alloc (.cells #[.int .i64 1, .int .i64 2, .int .i64 1] 3)).drew = X := ⟨_, rfl⟩
        have hbX : Below V.heap.size V X3 := by rw [← hX]; exact ((Below.refl _ _).alloc (Nat.le_refl _) _).drew
        rw [hX]
        have HBX3 := Lib.hid (HB.out.trans (hbX.mono HB.out.size))
        have HD3 := Lib.hid (show ∀ D ∈ ([D2, D1, D0] : List Nat), D < X3.heap.size ∧ X3.heap[D]? = some (.deferred (some [])) from fun D h => by
          have hlt : ∀ {D : Nat}, V.heap[D]? = some (.deferred (some [])) → D < X3.heap.size ∧ X3.heap[D]? = some (.deferred (some [])) := fun {D} h => by
            have h2 := (Array.getElem?_eq_some_iff.1 h).1
            exact ⟨Nat.lt_of_lt_of_le h2 hbX.size, (hbX.block D h2).trans h⟩
          rcases List.mem_cons.1 h with rfl | h
          · exact hlt HKD.out
          · exact hlt (HDD.out D h).2)
        have HDN2 := Lib.hid (show ∀ D ∈ ([D1, D0] : List Nat), D < D2 from fun D h => by have := (HDD.out D h).1; omega)
        have HDW2 := Lib.hid (show w.heap.size ≤ D2 by have := HI0.out.2.size; omega)
        clear hX hbX HB HDD HKD hc hlB HI0 HYL HBS HBS2 HNS HGE HNE hgb hgbB hUs hD
        go_wp2_with fail
        rw [rounds_succ]
        go_wp2_with fail
        have n21 : D1 ≠ D2 := by have := HDN2.out D1 (by simp); omega
        have n20 : D0 ≠ D2 := by have := HDN2.out D0 (by simp); omega
        have n10 : D0 ≠ D1 := by have := HDN1.out D0 (by simp); omega
        refine ⟨by simp, .inl ⟨_, _, rfl, run_takeDeferred (HD3.out D2 (by simp)).2, ?_⟩⟩
        refine ⟨by simp, .inl ⟨_, _, rfl, run_takeDeferred ((World.putObj_heap_other n21).trans (HD3.out D1 (by simp)).2), ?_⟩⟩
        refine ⟨by simp, .inl ⟨_, _, rfl, run_takeDeferred ((World.putObj_heap_other n10).trans ((World.putObj_heap_other n20).trans (HD3.out D0 (by simp)).2)), ?_⟩⟩
        refine ⟨_, results_slot rfl rfl, rfl, ?_⟩
        have h3 := HBX3.out
        exact ((h3.grown (grownBy_putObj' _ D2 _) h3.size (fun r e => by cases e; exact HDW2.out)).grown (grownBy_putObj' _ D1 _) (by simp; exact h3.size) (fun r e => by cases e; exact HDW1.out)).grown (grownBy_putObj' _ D0 _) (by simp; exact h3.size) (fun r e => by cases e; exact HDW0.out)
end Go.Proofs.YtjpieoepokakgaaDoor
