/- blocksOf. -/
import Derived.Test.YtmlacbdonkfbdaaDoorWB
namespace Go.Proofs.YtmlacbdonkfbdaaDoor
open Go.RowKit Go.Shelf

/-! ### pairs of key blocks -/
@[irreducible] def kbA (a b : List Nat) : Array Value := arr .u8 a ++ arr .u8 b
theorem kbA_size {a b : List Nat} (ha : a.length = 64) (hb : b.length = 64) : (kbA a b).size = 128 := by unfold kbA; rw [Array.size_append, arr_size, arr_size, ha, hb]
theorem kbA_oneCell (a b : List Nat) : ∀ x ∈ (kbA a b).toList, x.oneCell' = true := by
  intro x hx
  unfold kbA at hx
  rw [Array.toList_append] at hx
  rcases List.mem_append.1 hx with hx | hx
  · exact arr_oneCell _ _ x hx
  · exact arr_oneCell _ _ x hx
theorem run_zero49 (W : World) : (zeroValue 49).run Tryd.prog W = .ok (.agg (List.replicate 128 (Value.int .u8 ((0 : Nat) : Int))).toArray) W := by kernel_rfl
theorem zero128 : (List.replicate 128 (Value.int .u8 ((0 : Nat) : Int))).toArray = kbA z64 z64 := by
  unfold kbA
  apply Array.ext'
  rw [Array.toList_append, arr_toList, z64_eq, List.map_replicate, List.replicate_append_replicate]
@[go_sem ↓] theorem run_zeroValue49 (W : World) : (zeroValue 49).run Tryd.prog W = .ok (.agg (kbA z64 z64)) W := by rw [run_zero49, zero128]
theorem run_loadVar49 (W : World) (g : Nat) : (loadVar 49 ⟨g, 0, none⟩).run Tryd.prog W = rowLoad 128 49 W g (rowN W g) := run_loadVar_rowLoad 128 49 _ rfl Tryd.underlying49 (by kernel_rfl) W g
theorem run_storeVar49 (W : World) (g : Nat) (a b : List Nat) (ha : a.length = 64) (hb : b.length = 64) : (storeVar 49 ⟨g, 0, none⟩ (.agg (kbA a b))).run Tryd.prog W = rowStore 128 49 W g (kbA a b) (rowN W g) := run_storeVar_rowStore 128 49 (by kernel_rfl) W g _ (kbA_size ha hb) (kbA_oneCell _ _)
theorem run_arStore49 (W : World) (g : Nat) (a b : List Nat) (ha : a.length = 64) (hb : b.length = 64) : (arStore 49 (.pointer (some ⟨g, 0, none⟩)) (.agg (kbA a b))).run Tryd.prog W = (rowStore 128 49 W g (kbA a b) (rowN W g)).andThen fun _ w => .ok .skip w := run_arStore (run_storeVar49 W g a b ha hb)
def kbBuild (x y : Value) : Sem Next := do pure (.value (← Instr.build 49 #[(0, x), (1, y)]))
@[go_sem ↓] theorem execOp_build49 (ρ : Operand → Value) (dst : Option Tmp) (x y : Operand) (ty : TypeId) (pos : String) (after : Array Edge) (guard : Option (Nat × Bool)) :
    execOp ρ { dst, op := .build 49 #[(0, x), (1, y)], type := ty, pos, after, guard } = kbBuild (ρ x) (ρ y) := by simp [execOp, kbBuild]
theorem built49 (parts : List (Nat × Value)) : Tryd.prog.built 49 parts = Instr.fill (fun i => [(0, 64), (64, 64)].toArray[i]?) (List.replicate 128 (Value.int .u8 ((0 : Nat) : Int))).toArray parts := by kernel_rfl
theorem run_kbBuild (a b : List Nat) (ha : a.length = 64) (hb : b.length = 64) (W : World) : (kbBuild (.agg (arr .u8 a)) (.agg (arr .u8 b))).run Tryd.prog W = .ok (.value (.agg (kbA a b))) W := by
  have h : Tryd.prog.built 49 [(0, .agg (arr .u8 a)), (1, .agg (arr .u8 b))] = some (kbA a b) := by
    rw [built49, fill_step (off := 0) (size := 64) rfl (by show (arr .u8 a).size = 64; rw [arr_size, ha]) (by simp), fill_step (off := 64) (size := 64) rfl (by show (arr .u8 b).size = 64; rw [arr_size, hb]) (by
      show 64 + 64 ≤ (List.take 0 _ ++ (arr .u8 a).toList ++ _).toArray.size
      simp [arr_size, ha])]
    show some _ = some _
    refine congrArg some ?_
    unfold kbA
    apply Array.ext'
    show (List.take 64 (List.take 0 _ ++ (arr .u8 a).toList ++ _) ++ (arr .u8 b).toList ++ List.drop (64 + 64) (List.take 0 _ ++ (arr .u8 a).toList ++ _)) = _
    have hl : (arr .u8 a).toList.length = 64 := by rw [Array.length_toList, arr_size, ha]
    rw [Array.toList_append, List.take_zero, List.nil_append, List.take_append_of_le_length (by omega), List.take_of_length_le (by omega), List.drop_eq_nil_of_le (by simp [arr_size, ha]), List.append_nil]
  have hr := run_build (P := Tryd.prog) W 49 #[(0, .agg (arr .u8 a)), (1, .agg (arr .u8 b))] _ h
  simp only [kbBuild, Sem.run_bind, hr, Result.andThen_ok, Sem.run_pure]

theorem ob_256 (l : List Nat) : ∀ x ∈ ob l, x < 256 := by
  intro x hx
  obtain ⟨y, _, hy⟩ := List.mem_flatMap.1 hx
  simp only [List.mem_cons, List.not_mem_nil, or_false] at hy
  omega
theorem shaL_256 (zs : List Nat) : ∀ x ∈ shaL zs, x < 256 := ob_256 _

set_option maxRecDepth 100000 in
set_option maxHeartbeats 1000000 in
theorem blocksOf_any (key : List Nat) (s : Value) (hL : key.length ≤ 140737488355328) (w : World) (hK : KG w) (hB : BytesAt key s w) (hnil : Nil0 s) :
    Calls Tryd.prog 23 #[s] w fun e w' => e = .returned (.agg (kbA (blkL 92 key) (blkL 54 key))) ∧ Below w.heap.size w w' := by
  have hmf : ∀ (fn : Fn) (first cap : Array Value) (w : World), (Instr.makeFunc fn first cap).run Tryd.prog w = .ok (.func fn first cap) w := fun _ _ _ _ => rfl
  have HB := Lib.hid hB
  have HK := Lib.hid hK
  obtain ⟨W1, hW1⟩ : ∃ X, (w.alloc (.cells #[s] 22)).alloc (.cells (kbA z64 z64) 49) = X := ⟨_, rfl⟩
  have hb1 : Below w.heap.size w W1 := by rw [← hW1]; exact ((Below.refl _ w).alloc (Nat.le_refl _) _).alloc (by simp) _
  have hr0 : rowN W1 w.heap.size = some #[s] := by rw [← hW1]; simp only [rowN_alloc, World.size_alloc, if_true]; rw [if_neg (by omega)]
  have hr1 : rowN W1 (w.heap.size + 1) = some (kbA z64 z64) := by rw [← hW1]; simp only [rowN_alloc, World.size_alloc, if_true]
  have hc0 := (rowN_cell hr0).1 0
  have hc0' : W1.cell? ⟨w.heap.size, 0, none⟩ = some s := hc0
  have HB1 := Lib.hid hb1
  have HR0 := Lib.hid hr0
  have HR1 := Lib.hid hr1
  obtain ⟨_, a, c, rfl, hcc, h2⟩ := hB
  have hk256 := HB.out.1
  have sz0 := kbA_size (a := z64) (b := z64) z64_len z64_len
  have sz1 := kbA_size (blkL_len 92 key) (blkL_len 54 key)
  have hbl := fun W => run_kbBuild (blkL 92 key) (blkL 54 key) (blkL_len 92 key) (blkL_len 54 key) W
  have hst := fun (W : World) (g : Nat) => run_arStore49 W g (blkL 92 key) (blkL 54 key) (blkL_len 92 key) (blkL_len 54 key)
  have HC := Lib.hid (fun (W : World) (m : Nat) (hm : m < 256) (s' : Value) (h1 : rowN W w.heap.size = some #[s']) (h2 : BytesAt (keyL key) s' W) => show Calls Tryd.prog 33 #[.int .u8 (m : Nat), .pointer (some ⟨w.heap.size, 0, none⟩)] W (fun e w' => e = .returned (.agg (arr .u8 (blkL m key))) ∧ Below W.heap.size W w') from comb_any (keyL key) m w.heap.size s' (keyL_len key) hm W h1 h2)
  by_cases hlt : 64 < key.length
  · have hklL : keyL key = shaL key := if_pos hlt
    have hi : (64 : Int) < ((key.length : Nat) : Int) := by omega
    have HSUM := Lib.hid (fun W (h : BytesAt key (.slice a key.length c) W) (h1 : KG W) => sum_any key (.slice a key.length c) hL W h1 h hnil)
    have hlS : (shaL key).length = 32 := shaL_len key
    have HS256 := Lib.hid (shaL_256 key)
    obtain ⟨O, hO⟩ : ∃ O, shaL key = O := ⟨_, rfl⟩
    rw [hO] at hklL HSUM hlS HS256
    have HO := Lib.hid hklL
    have hs24 := fun (W : World) (g : Nat) => run_slice24_all g W
    have hz32 := z32_lit
    have sz2 : (arr .u8 O).size = 32 := by rw [arr_size, hlS]
    have sz4 : (arr .u8 z32).size = 32 := by rw [arr_size]; rfl
    obtain ⟨L, hlL⟩ : ∃ L, key.length = L := ⟨_, rfl⟩
    rw [hlL] at hi HSUM hc0 hc0' hW1 HR0 HB hL hcc h2 hlt ⊢
    clear hb1 hr0 hr1 h2 hO hklL hk256 hL hcc hnil hlL
    go_enter Tryd.func23, Tryd.ntmps23
    go_upto_region 1 with fail
    try rw [hW1]
    go_wp2_with fail
    refine (HSUM.out _ (HB.out.kept HB1.out) (HK.out.kept HB1.out)).mono ?_
    rintro e w2 ⟨rfl, hb2⟩
    have HR02 := Lib.hid (keptW hb2 HR0.out)
    have HR12 := Lib.hid (keptW hb2 HR1.out)
    have HB2 := Lib.hid (HB1.out.trans (hb2.mono HB1.out.size))
    have hw2 := rowN_lt HR02.out
    have hw3 := HB2.out.size
    clear hb2 hc0 hc0'
    go_upto_region 3 with fail
    obtain ⟨V, hV⟩ : ∃ V, (w2.alloc (.cells (arr .u8 z32) 27)).setRow w2.heap.size (arr .u8 O) = V := ⟨_, rfl⟩
    have hbV : Below w2.heap.size w2 V := by rw [← hV]; exact below_setRow' ((Below.refl _ _).alloc (Nat.le_refl _) _) (Nat.le_refl _) _
    have hrV : rowN V w2.heap.size = some (arr .u8 O) := by rw [← hV]; exact row_new (cs := arr .u8 z32) (by rw [rowN_alloc, if_pos rfl])
    rw [hV]
    have HR03 := Lib.hid (keptW hbV HR02.out)
    have hf0 := (rowN_cell HR03.out).2 0
    have hcV := (rowN_cell HR03.out).1 0
    obtain ⟨U, hU⟩ : ∃ U, V.setCell ⟨w.heap.size, 0, none⟩ (.slice (some ⟨w2.heap.size, 0, none⟩) 32 32) = U := ⟨_, rfl⟩
    have HU0 := Lib.hid (show rowN U w.heap.size = some #[.slice (some ⟨w2.heap.size, 0, none⟩) 32 32] by rw [← hU]; exact row_set0 HR03.out)
    have HU1 := Lib.hid (show rowN U (w.heap.size + 1) = some (kbA z64 z64) by rw [← hU]; exact row_cell0 (keptW hbV HR12.out) (by omega))
    have hrU : rowN U w2.heap.size = some (arr .u8 O) := by rw [← hU]; exact row_cell0 hrV (by omega)
    have HUK := Lib.hid (show BytesAt (keyL key) (.slice (some ⟨w2.heap.size, 0, none⟩) 32 32) U by rw [HO.out]; exact bytes_row HS256.out hrU 32 hlS)
    have HUB := Lib.hid (show Below w.heap.size w U by rw [← hU]; exact (HB2.out.trans (hbV.mono HB2.out.size)).setCell (p := ⟨w.heap.size, 0, none⟩) (Nat.le_refl _) _)
    clear hV hbV hrV hrU HR02 HR12 HR03 HB2
    go_upto_region 5 with fail
    try rw [hU]
    clear hU hf0 hcV
    go_wp2_with fail
    refine (HC.out _ 92 (by omega) _ HU0.out HUK.out).mono ?_
    rintro e w5 ⟨rfl, hb5⟩
    have HR05 := Lib.hid (keptW hb5 HU0.out)
    have HR15 := Lib.hid (keptW hb5 HU1.out)
    have HBK5 := Lib.hid (HUK.out.kept hb5)
    have HB5 := Lib.hid (HUB.out.trans (hb5.mono HUB.out.size))
    clear hb5
    go_wp2_with fail
    refine (HC.out _ 54 (by omega) _ HR05.out HBK5.out).mono ?_
    rintro e w6 ⟨rfl, hb6⟩
    have hr16 := keptW hb6 HR15.out
    have HB6 := Lib.hid (HB5.out.trans (hb6.mono HB5.out.size))
    clear hb6
    go_wp2_with fail
    exact ret_arr _ _ run_loadVar49 rfl rfl rfl (row_new hr16) sz1 ⟨rfl, below_setRow' HB6.out (by omega) _⟩
  · have hkl : keyL key = key := if_neg hlt
    have HBK := Lib.hid (show BytesAt (keyL key) (.slice a key.length c) W1 by rw [hkl]; exact HB.out.kept HB1.out)
    obtain ⟨L, hlL⟩ : ∃ L, key.length = L := ⟨_, rfl⟩
    rw [hlL] at hc0 hc0' hW1 HR0 HBK hlt ⊢
    have hgt : ¬ (64 : Int) < (L : Int) := by omega
    clear hb1 hr0 hr1 h2 hk256 hL hcc hnil hlL hkl HB HK
    go_enter Tryd.func23, Tryd.ntmps23
    go_upto_region 1 with fail
    try rw [hW1]
    clear hW1
    go_wp2_with fail
    refine (HC.out _ 92 (by omega) _ HR0.out HBK.out).mono ?_
    rintro e w5 ⟨rfl, hb5⟩
    have HR05 := Lib.hid (keptW hb5 HR0.out)
    have HR15 := Lib.hid (keptW hb5 HR1.out)
    have HBK5 := Lib.hid (HBK.out.kept hb5)
    have HB5 := Lib.hid (HB1.out.trans (hb5.mono HB1.out.size))
    clear hb5
    go_wp2_with fail
    refine (HC.out _ 54 (by omega) _ HR05.out HBK5.out).mono ?_
    rintro e w6 ⟨rfl, hb6⟩
    have hr16 := keptW hb6 HR15.out
    have HB6 := Lib.hid (HB5.out.trans (hb6.mono HB5.out.size))
    clear hb6
    go_wp2_with fail
    exact ret_arr _ _ run_loadVar49 rfl rfl rfl (row_new hr16) sz1 ⟨rfl, below_setRow' HB6.out (by omega) _⟩
end Go.Proofs.YtmlacbdonkfbdaaDoor
