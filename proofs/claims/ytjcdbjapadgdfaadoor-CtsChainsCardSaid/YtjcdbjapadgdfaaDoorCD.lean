/- CTS: a string completed; its last two blocks exchanged. -/
import Derived.Laws.CopyRow
import Derived.Laws.CopyOwn
import Derived.Test.YtjcdbjapadgdfaaDoorCC
namespace Go.Proofs.YtjcdbjapadgdfaaDoor
open Go.RowKit Go.Shelf

attribute [local go_sem] Oper.semAt_some
/-- A string with some of it written over. -/
def spl (l : List Nat) (o : Nat) (b : List Nat) : List Nat := l.take o ++ b ++ l.drop (o + b.length)
theorem spl_len {l b : List Nat} {o : Nat} (h : o + b.length ≤ l.length) : (spl l o b).length = l.length := by
  unfold spl; rw [List.length_append, List.length_append, List.length_take, List.length_drop]; omega
theorem setRow_row {w : World} {g : Nat} {cs : Array Value} (h : rowN w g = some cs) : w.setRow g cs = w := by
  obtain ⟨t, hg⟩ := rowN_some h
  exact setRow_self w g cs t (0, 0) hg
theorem copy_row {W : World} {g o L c m : Nat} {l bs : List Nat} {s : Value} (hr : rowN W g = some (arr .u8 l)) (hB : BytesAt bs s W) (hm : m = min bs.length L) (hf : o + m ≤ l.length) :
    (Builtin.copy_ #[22, 22] 3 #[.slice (some ⟨g, o, none⟩) L c, s]).run Tryd.prog W = .ok (.int .i64 (m : Nat)) (W.setRow g (arr .u8 (spl l o (bs.take m)))) := by
  obtain ⟨h256, a, c2, rfl, hcc, h2⟩ := hB
  have hi : (Tryd.prog.info? 5).map (·.size) = some 1 := by kernel_rfl
  have hlm : (bs.take m).length = m := by rw [List.length_take]; omega
  by_cases h0 : m = 0
  · have hn : Nat.min bs.length L = 0 := by rw [hm] at h0; exact h0
    rw [run_copy_none (P := Tryd.prog) W 22 22 3 5 _ a L c bs.length c2 Tryd.underlying22 hi hn, h0, List.take_zero]
    have : spl l o [] = l := by unfold spl; simp
    rw [this, setRow_row hr]; rfl
  · rcases h2 with h2 | ⟨b, off, rfl, _, hj⟩
    · omega
    · obtain ⟨t, hg⟩ := rowN_some hr
      have h := run_copy_row Tryd.prog W 22 22 3 5 g o L c ⟨b, off, none⟩ bs.length c2 (arr .u8 l) t ((bs.take m).map fun x => Value.int .u8 (x : Nat)) Tryd.underlying22 hi hg
        (by rw [List.length_map, hlm, hm]) (fun j v hv => by
          have hjl := (List.getElem?_eq_some_iff.1 hv).1
          rw [List.length_map, hlm] at hjl
          rw [List.getElem?_map] at hv
          have e : (⟨b, off, none⟩ : Addr).add j = ⟨b, off + j, none⟩ := by simp [Addr.add]
          rw [e, hj j (by omega), ← hv, List.getElem?_take, if_pos hjl, List.getD]
          rw [List.getElem?_eq_getElem (show j < bs.length by omega)]; first | done | rfl)
        (by rw [List.length_map, hlm, arr_size]; omega) (fun v hv => by obtain ⟨x, _, rfl⟩ := List.mem_map.1 hv; rfl)
      have e : ((arr .u8 l).toList.take o ++ (bs.take m).map (fun x => Value.int .u8 (x : Nat)) ++ (arr .u8 l).toList.drop (o + ((bs.take m).map fun x => Value.int .u8 (x : Nat)).length)).toArray = arr .u8 (spl l o (bs.take m)) := by
        apply Array.ext'
        rw [arr_toList, arr_toList, List.length_map]
        unfold spl
        simp only [List.map_append, List.map_take, List.map_drop]
      rw [h, e, List.length_map, hlm]; rfl
theorem run_mk22 (n : Nat) (hn : n ≤ 1000000) (W : World) : (Instr.makeSlice 22 (.int .i64 (n : Nat)) (.int .i64 (n : Nat))).run Tryd.prog W = .ok (.slice (some ⟨W.heap.size, 0, none⟩) n n) (W.alloc (.cells (arr .u8 (zr n)) 5)) := by
  rw [zr_eq]
  obtain ⟨i0, hi, hz0, hz1, hz2⟩ := info_parts Tryd.info5
  rw [run_makeSlice W 22 5 i0 (.int .u8 0) Tryd.underlying22 hi hz0 .i64 .i64 n n (by omega) (Int.le_refl _) (by rw [hz1]; omega) (by rw [hz2]; omega) (by omega)]
  rw [hz1, arr_lit]
  simp only [madeCells, Value.cells, List.map_replicate, Int.toNat_natCast, Nat.mul_one]
  congr 3
  refine Array.ext (by simp) fun i h1 h2 => ?_
  simp [Nat.mod_one]
/-- The number of blocks that a string takes, and the string completed. -/
def nB (n : Nat) : Nat := (n + 15) / 16
def padB (zs : List Nat) : List Nat := zs ++ List.replicate (16 * nB zs.length - zs.length) 0
theorem nB_le (n : Nat) : n ≤ 16 * nB n := by unfold nB; omega
theorem padB_len (zs : List Nat) : (padB zs).length = 16 * nB zs.length := by
  have := nB_le zs.length
  unfold padB; rw [List.length_append, List.length_replicate]; omega
theorem padB_256 {zs : List Nat} (h : ∀ x ∈ zs, x < 256) : ∀ x ∈ padB zs, x < 256 := by
  intro x hx
  rcases List.mem_append.1 hx with hx | hx
  · exact h x hx
  · rw [List.eq_of_mem_replicate hx]; omega
theorem spl_pad (zs : List Nat) : spl (zr (16 * nB zs.length)) 0 zs = padB zs := by
  unfold spl padB
  rw [zr_eq, List.take_zero, List.nil_append, Nat.zero_add, List.drop_replicate]
set_option maxRecDepth 100000 in
theorem completed_any (zs : List Nat) (s : Value) (hl : zs.length ≤ 200000) (w : World) (hB : BytesAt zs s w) :
    Calls Tryd.prog 24 #[s] w fun e w' => ∃ g, e = .returned (.slice (some ⟨g, 0, none⟩) (16 * nB zs.length) (16 * nB zs.length)) ∧ w.heap.size ≤ g ∧ rowN w' g = some (arr .u8 (padB zs)) ∧ Below w.heap.size w w' := by
  have hle := nB_le zs.length
  have hnb : nB zs.length ≤ 20000 := by unfold nB; omega
  have hdv : (((zs.length : Nat) : Int) + 16 - 1) / 16 = ((nB zs.length : Nat) : Int) := by unfold nB; omega
  have hdv2 : (((zs.length : Nat) : Int) + 16 - 1).tdiv 16 = ((nB zs.length : Nat) : Int) := by rw [Int.tdiv_eq_ediv_of_nonneg (by omega)]; exact hdv
  have i1 : IntKind.i64.wrap (((zs.length : Nat) : Int) + 16) = ((zs.length : Nat) : Int) + 16 := IntWalk.i64_in _ (by omega)
  have i2 : IntKind.i64.wrap (((zs.length : Nat) : Int) + 16 - 1) = ((zs.length : Nat) : Int) + 16 - 1 := IntWalk.i64_in _ (by omega)
  have i3 : IntKind.i64.wrap (((nB zs.length : Nat) : Int) * 16) = ((16 * nB zs.length : Nat) : Int) := by
    rw [show ((nB zs.length : Nat) : Int) * 16 = ((16 * nB zs.length : Nat) : Int) by omega]; exact IntWalk.i64_in _ (by omega)
  have i4 : IntKind.i64.wrap ((nB zs.length : Nat) : Int) = ((nB zs.length : Nat) : Int) := IntWalk.i64_in _ (by omega)
  have hmk := fun W => run_mk22 (16 * nB zs.length) (by omega) W
  have hcp := copy_row (W := w.alloc (.cells (arr .u8 (zr (16 * nB zs.length))) 5)) (g := w.heap.size) (o := 0) (L := 16 * nB zs.length) (c := 16 * nB zs.length) (m := zs.length) (by rw [rowN_alloc, if_pos rfl]) (hB.kept ((Below.refl _ w).alloc (Nat.le_refl _) _)) (by omega) (by rw [zr_len]; omega)
  rw [List.take_of_length_le (Nat.le_refl _), spl_pad] at hcp
  obtain ⟨_, a, c, rfl, _, _⟩ := hB
  obtain ⟨V, hV⟩ : ∃ q, (w.alloc (.cells (arr .u8 (zr (16 * nB zs.length))) 5)).setRow w.heap.size (arr .u8 (padB zs)) = q := ⟨_, rfl⟩
  have HV := Lib.hid (show rowN V w.heap.size = some (arr .u8 (padB zs)) ∧ Below w.heap.size w V by
    rw [← hV]
    exact ⟨row_new (cs := arr .u8 (zr (16 * nB zs.length))) (by rw [rowN_alloc, if_pos rfl]), below_setRow' ((Below.refl _ w).alloc (Nat.le_refl _) _) (Nat.le_refl _) _⟩)
  rw [hV] at hcp
  obtain ⟨B, hb⟩ : ∃ q, padB zs = q := ⟨_, rfl⟩
  rw [hb] at HV ⊢
  obtain ⟨n, hn⟩ : ∃ q, nB zs.length = q := ⟨_, rfl⟩
  rw [hn] at hdv hdv2 i3 i4 hmk hcp ⊢
  obtain ⟨L, hL⟩ : ∃ q, zs.length = q := ⟨_, rfl⟩
  rw [hL] at hdv hdv2 i1 i2 hcp ⊢
  obtain ⟨M, hM⟩ : ∃ q, 16 * n = q := ⟨_, rfl⟩
  rw [hM] at i3 hmk hcp ⊢
  clear hV hb hn hL hM hle hnb hl
  go_enter Tryd.func24, Tryd.ntmps24
  go_wp2_with fail
  go_ret
  exact ⟨_, rfl, Nat.le_refl _, HV.out.1, HV.out.2⟩
/-- The last two blocks exchanged. -/
def swp (l : List Nat) : List Nat := if 32 ≤ l.length then l.take (l.length - 32) ++ l.drop (l.length - 16) ++ (l.drop (l.length - 32)).take 16 else l
theorem swp_len (l : List Nat) : (swp l).length = l.length := by
  unfold swp
  split
  · rw [List.length_append, List.length_append, List.length_take, List.length_drop, List.length_take, List.length_drop]; omega
  · rfl
theorem put16_get (l b : List Nat) (o i : Nat) (hb : b.length = 16) (ho : o + 16 ≤ l.length) : (put16 l o b)[i]? = if i < o then l[i]? else if i < o + 16 then b[i - o]? else l[i]? := by
  unfold put16
  have h1 : (l.take o).length = o := by rw [List.length_take]; omega
  by_cases h : i < o
  · rw [if_pos h, List.append_assoc, List.getElem?_append_left (by omega), List.getElem?_take, if_pos h]
  · rw [if_neg h, List.append_assoc, List.getElem?_append_right (by omega), h1]
    by_cases h2 : i < o + 16
    · rw [if_pos h2, List.getElem?_append_left (by omega)]
    · rw [if_neg h2, List.getElem?_append_right (by omega), hb, List.getElem?_drop]
      congr 1; omega
theorem put16_comm (l a b : List Nat) (o q : Nat) (ha : a.length = 16) (hb : b.length = 16) (h : o + 16 ≤ q) (hq : q + 16 ≤ l.length) : put16 (put16 l o a) q b = put16 (put16 l q b) o a := by
  have h1 := put16_len (l := l) ha (show o + 16 ≤ l.length by omega)
  have h2 := put16_len (l := l) hb hq
  refine List.ext_getElem? fun i => ?_
  rw [put16_get _ _ _ _ hb (by omega), put16_get _ _ _ _ ha (by omega), put16_get _ _ _ _ ha (by omega), put16_get _ _ _ _ hb (by omega)]
  by_cases c1 : i < o
  · rw [if_pos (by omega), if_pos c1, if_pos c1, if_pos (by omega)]
  · by_cases c2 : i < o + 16
    · rw [if_pos (by omega), if_neg c1, if_pos c2, if_neg c1, if_pos c2]
    · by_cases c3 : i < q
      · rw [if_pos c3, if_neg c1, if_neg c2, if_neg c1, if_neg c2, if_pos c3]
      · by_cases c4 : i < q + 16
        · rw [if_neg c3, if_pos c4, if_neg c1, if_neg c2, if_neg c3, if_pos c4]
        · rw [if_neg c3, if_neg c4, if_neg c1, if_neg c2, if_neg c1, if_neg c2, if_neg c3, if_neg c4]
set_option maxRecDepth 100000 in
set_option maxHeartbeats 1000000 in
theorem swap_any (l : List Nat) (g o q : Nat) (ho : o + 16 ≤ q) (hq : q + 16 ≤ l.length) (w : World) (hr : rowN w g = some (arr .u8 l)) :
    Calls Tryd.prog 27 #[.pointer (some ⟨g, o, none⟩), .pointer (some ⟨g, q, none⟩)] w fun e w' => e = .returned (.tuple #[]) ∧ rowN w' g = some (arr .u8 (put16 (put16 l o ((l.drop q).take 16)) q ((l.drop o).take 16))) ∧ w.grownBy w' (some g) := by
  have HB1 := Lib.hid (show ((l.drop o).take 16).length = 16 by rw [List.length_take, List.length_drop]; omega)
  have HB2 := Lib.hid (show ((l.drop q).take 16).length = 16 by rw [List.length_take, List.length_drop]; omega)
  have HD1 := Lib.hid (fun (W : World) (h : rowN W g = some (arr .u8 l)) => load16_mid (o := o) h (by omega))
  have HD2 := Lib.hid (fun (W : World) (h : rowN W g = some (arr .u8 l)) => load16_mid (o := q) h (by omega))
  obtain ⟨b1, hb1⟩ : ∃ x, (l.drop o).take 16 = x := ⟨_, rfl⟩
  obtain ⟨b2, hb2⟩ : ∃ x, (l.drop q).take 16 = x := ⟨_, rfl⟩
  rw [hb1] at HB1 HD1 ⊢
  rw [hb2] at HB2 HD2 ⊢
  have HR_0 := Lib.hid (show rowN w.drew g = some (arr .u8 l) from hr)
  have HG_0 := Lib.hid (show w.grownBy w.drew (some g) from grown_of_below (Below.refl _ _).drew _)
  have HN_0 := Lib.hid (show l.length = l.length from rfl)
  have HL_0 := Lib.hid (show Below w.heap.size w w.drew from (Below.refl _ _).drew)
  clear hr hb1 hb2
  go_enter Tryd.func27, Tryd.ntmps27
  go_upto_region 0 with fail
  refine wp_region_noPanic ?_
  refine wp_region_held_drew (S := fun W => True) (by kernel_rfl) trivial (fun hHeld0 => ?_)
  obtain ⟨x0, hx0⟩ : ∃ X, w.drew = X := ⟨_, rfl⟩
  rw [hx0] at HR_0 HG_0 HL_0 ⊢
  clear hx0
  refine wpAnyH_take (i := 0) (oi := { dst := some 4, op := Op.move (Operand.tmp 0), type := 46, pos := "mode.go:64", after := #[], guard := none }) (v := ?tk0) rfl (by kernel_rfl) (by kernel_rfl) (by kernel_rfl) (fun _ _ _ h => h) (Or.inl ⟨by rfl, ?tw0⟩) hHeld0 ?_
  case tw0 => (intro W hW; clear hW; first | (go_simp; done) | (go_simp; with_reducible rfl))
  try simp only [Act.put, List.setIfInBounds_toArray, List.set_cons_zero, List.set_cons_succ]
  refine wpAnyH_take (i := 1) (oi := { dst := some 5, op := Op.move (Operand.tmp 1), type := 46, pos := "mode.go:64", after := #[{ on := 9, ground := Ground.gcOnly Departure.lateStores }], guard := none }) (v := ?tk1) rfl (by kernel_rfl) (by kernel_rfl) (by kernel_rfl) (fun _ _ _ h => h) (Or.inl ⟨by rfl, ?tw1⟩) hHeld0 ?_
  case tw1 => (intro W hW; clear hW; first | (go_simp; done) | (go_simp; with_reducible rfl))
  try simp only [Act.put, List.setIfInBounds_toArray, List.set_cons_zero, List.set_cons_succ]
  refine wpAnyH_take (i := 2) (oi := { dst := some 6, op := Op.move (Operand.tmp 1), type := 46, pos := "mode.go:64", after := #[], guard := none }) (v := ?tk2) rfl (by kernel_rfl) (by kernel_rfl) (by kernel_rfl) (fun _ _ _ h => h) (Or.inl ⟨by rfl, ?tw2⟩) hHeld0 ?_
  case tw2 => (intro W hW; clear hW; first | (go_simp; done) | (go_simp; with_reducible rfl))
  try simp only [Act.put, List.setIfInBounds_toArray, List.set_cons_zero, List.set_cons_succ]
  refine wpAnyH_take (i := 3) (oi := { dst := some 7, op := Op.nilCheck (Operand.tmp 6), type := 0, pos := "mode.go:64", after := #[{ on := 2, ground := Ground.data }], guard := none }) (v := ?tk3) rfl (by kernel_rfl) (by kernel_rfl) (by kernel_rfl) (fun _ _ _ h => h) (Or.inl ⟨by rfl, ?tw3⟩) hHeld0 ?_
  case tw3 => (intro W hW; clear hW; first | (go_simp; done) | (go_simp; with_reducible rfl))
  try simp only [Act.put, List.setIfInBounds_toArray, List.set_cons_zero, List.set_cons_succ]
  refine wpAnyH_take (i := 5) (oi := { dst := some 9, op := Op.move (Operand.tmp 0), type := 46, pos := "mode.go:64", after := #[], guard := none }) (v := ?tk4) rfl (by kernel_rfl) (by kernel_rfl) (by kernel_rfl) (fun _ _ _ h => h) (Or.inl ⟨by rfl, ?tw4⟩) hHeld0 ?_
  case tw4 => (intro W hW; clear hW; first | (go_simp; done) | (go_simp; with_reducible rfl))
  try simp only [Act.put, List.setIfInBounds_toArray, List.set_cons_zero, List.set_cons_succ]
  refine wpAnyH_take (i := 6) (oi := { dst := some 10, op := Op.nilCheck (Operand.tmp 9), type := 0, pos := "mode.go:64", after := #[{ on := 5, ground := Ground.data }], guard := none }) (v := ?tk5) rfl (by kernel_rfl) (by kernel_rfl) (by kernel_rfl) (fun _ _ _ h => h) (Or.inl ⟨by rfl, ?tw5⟩) hHeld0 ?_
  case tw5 => (intro W hW; clear hW; first | (go_simp; done) | (go_simp; with_reducible rfl))
  try simp only [Act.put, List.setIfInBounds_toArray, List.set_cons_zero, List.set_cons_succ]
  refine wpAnyH_ready (rs := [4, 7]) (by kernel_rfl) (by simp) ?_
  refine AllReadyH.cons (o := { dst := some 8, op := Op.load 48 (Operand.tmp 7), type := 48, pos := "mode.go:64", after := #[{ on := 3, ground := Ground.data }], guard := none }) rfl (fun K' hK => ?_) ?_
  · have hld := HD2.out _ HR_0.out
    go_simp
    clear hld
    obtain ⟨x1, hxx⟩ : ∃ X, X = x0 := ⟨_, rfl⟩
    subst hxx
    have HR_1 := HR_0
    have HG_1 := HG_0
    have HN_1 := HN_0
    have HL_1 := HL_0
    refine hK.out _ _ trivial (fun hHeld1 => ?_)
    clear hK K'
    try simp only [Act.put, List.setIfInBounds_toArray, List.set_cons_zero, List.set_cons_succ]
    refine wpAnyH_ready (rs := [7]) (by kernel_rfl) (by simp) ?_
    refine AllReadyH.cons (o := { dst := some 11, op := Op.load 48 (Operand.tmp 10), type := 48, pos := "mode.go:64", after := #[{ on := 6, ground := Ground.data }], guard := none }) rfl (fun K' hK => ?_) AllReadyH.nil
    have hld := HD1.out _ HR_1.out
    go_simp
    clear hld
    obtain ⟨x2, hxx⟩ : ∃ X, X = x1 := ⟨_, rfl⟩
    subst hxx
    have HR_2 := HR_1
    have HG_2 := HG_1
    have HN_2 := HN_1
    have HL_2 := HL_1
    refine hK.out _ _ trivial (fun hHeld2 => ?_)
    clear hK K'
    try simp only [Act.put, List.setIfInBounds_toArray, List.set_cons_zero, List.set_cons_succ]
    refine wpAnyH_take (i := 8) (oi := { dst := some 12, op := Op.nilCheck (Operand.tmp 4), type := 0, pos := "mode.go:64", after := #[{ on := 0, ground := Ground.data }, { on := 0, ground := Ground.phase }, { on := 1, ground := Ground.textOnly Departure.lateStores }, { on := 2, ground := Ground.phase }, { on := 3, ground := Ground.phase }, { on := 4, ground := Ground.phase }, { on := 5, ground := Ground.textOnly Departure.lateStores }, { on := 6, ground := Ground.textOnly Departure.lateStoresUnsure }, { on := 7, ground := Ground.phase }], guard := none }) (v := ?tk6) rfl (by kernel_rfl) (by kernel_rfl) (by kernel_rfl) (fun _ _ _ h => h) (Or.inl ⟨by rfl, ?tw6⟩) hHeld2 ?_
    case tw6 => (intro W hW; clear hW; first | (go_simp; done) | (go_simp; with_reducible rfl))
    try simp only [Act.put, List.setIfInBounds_toArray, List.set_cons_zero, List.set_cons_succ]
    refine wpAnyH_ready (rs := [9]) (by kernel_rfl) (by simp) ?_
    refine AllReadyH.cons (o := { dst := none, op := Op.store 48 (Operand.tmp 12) (Operand.tmp 8), type := 0, pos := "mode.go:64", after := #[{ on := 8, ground := Ground.data }, { on := 4, ground := Ground.data }, { on := 0, ground := Ground.phase }, { on := 1, ground := Ground.textOnly Departure.lateStores }, { on := 2, ground := Ground.phase }, { on := 3, ground := Ground.phase }, { on := 4, ground := Ground.phase }, { on := 5, ground := Ground.textOnly Departure.lateStores }, { on := 6, ground := Ground.textOnly Departure.lateStoresUnsure }, { on := 7, ground := Ground.phase }], guard := none }) rfl (fun K' hK => ?_) AllReadyH.nil
    have hst := store16_mid (o := o) HR_2.out HB2.out (by rw [HN_2.out]; omega)
    go_simp
    clear hst
    obtain ⟨x3, hyy⟩ : ∃ X, x2.setRow g (arr .u8 (put16 l o b2)) = X := ⟨_, rfl⟩
    obtain ⟨C3, hC3⟩ : ∃ c, put16 l o b2 = c := ⟨_, rfl⟩
    have HN_3 := Lib.hid (show C3.length = l.length from Eq.trans (by rw [← hC3, put16_len HB2.out (by rw [HN_2.out]; omega)]) HN_2.out)
    have HR_3 := Lib.hid (show rowN x3 g = some (arr .u8 C3) by rw [← hyy, ← hC3]; exact row_new HR_2.out)
    have HG_3 := Lib.hid (show w.grownBy x3 (some g) by rw [← hyy]; exact grownBy_trans HG_2.out (setRow_grown _ _ _))
    have HL_3 := HL_2
    rw [hyy]
    clear hyy
    refine hK.out _ _ trivial (fun hHeld3 => ?_)
    clear hK K'
    try simp only [Act.put, List.setIfInBounds_toArray, List.set_cons_zero, List.set_cons_succ]
    refine wpAnyH_take (i := 10) (oi := { dst := some 13, op := Op.nilCheck (Operand.tmp 5), type := 0, pos := "mode.go:64", after := #[{ on := 1, ground := Ground.data }, { on := 0, ground := Ground.phase }, { on := 1, ground := Ground.phase }, { on := 2, ground := Ground.phase }, { on := 3, ground := Ground.phase }, { on := 4, ground := Ground.phase }, { on := 5, ground := Ground.phase }, { on := 6, ground := Ground.phase }, { on := 7, ground := Ground.phase }, { on := 8, ground := Ground.phase }, { on := 9, ground := Ground.phase }], guard := none }) (v := ?tk7) rfl (by kernel_rfl) (by kernel_rfl) (by kernel_rfl) (fun _ _ _ h => h) (Or.inl ⟨by rfl, ?tw7⟩) hHeld3 ?_
    case tw7 => (intro W hW; clear hW; first | (go_simp; done) | (go_simp; with_reducible rfl))
    try simp only [Act.put, List.setIfInBounds_toArray, List.set_cons_zero, List.set_cons_succ]
    refine wpAnyH_ready (rs := [11]) (by kernel_rfl) (by simp) ?_
    refine AllReadyH.cons (o := { dst := none, op := Op.store 48 (Operand.tmp 13) (Operand.tmp 11), type := 0, pos := "mode.go:64", after := #[{ on := 10, ground := Ground.data }, { on := 7, ground := Ground.data }, { on := 9, ground := Ground.chain }, { on := 0, ground := Ground.phase }, { on := 1, ground := Ground.phase }, { on := 2, ground := Ground.phase }, { on := 3, ground := Ground.phase }, { on := 4, ground := Ground.phase }, { on := 5, ground := Ground.phase }, { on := 6, ground := Ground.phase }, { on := 7, ground := Ground.phase }, { on := 8, ground := Ground.phase }, { on := 9, ground := Ground.phase }], guard := none }) rfl (fun K' hK => ?_) AllReadyH.nil
    have hst := store16_mid (o := q) HR_3.out HB1.out (by rw [HN_3.out]; omega)
    go_simp
    clear hst
    obtain ⟨x4, hyy⟩ : ∃ X, x3.setRow g (arr .u8 (put16 C3 q b1)) = X := ⟨_, rfl⟩
    obtain ⟨C4, hC4⟩ : ∃ c, put16 C3 q b1 = c := ⟨_, rfl⟩
    have HN_4 := Lib.hid (show C4.length = l.length from Eq.trans (by rw [← hC4, put16_len HB1.out (by rw [HN_3.out]; omega)]) HN_3.out)
    have HR_4 := Lib.hid (show rowN x4 g = some (arr .u8 C4) by rw [← hyy, ← hC4]; exact row_new HR_3.out)
    have HG_4 := Lib.hid (show w.grownBy x4 (some g) by rw [← hyy]; exact grownBy_trans HG_3.out (setRow_grown _ _ _))
    have HL_4 := HL_3
    rw [hyy]
    clear hyy
    refine hK.out _ _ trivial (fun hHeld4 => ?_)
    clear hK K'
    try simp only [Act.put, List.setIfInBounds_toArray, List.set_cons_zero, List.set_cons_succ]
    refine wpAnyH_done (by kernel_rfl) ?_ _
    refine NoPanic.normal ?_
    go_wp2_with fail
    go_end0
    exact ⟨rfl, (by first | exact HR_4.out | (rw [hC3, hC4]; exact HR_4.out) | (rw [put16_comm _ _ _ _ _ HB2.out HB1.out ho hq, hC3, hC4]; exact HR_4.out)), HG_4.out⟩
  refine AllReadyH.cons (o := { dst := some 11, op := Op.load 48 (Operand.tmp 10), type := 48, pos := "mode.go:64", after := #[{ on := 6, ground := Ground.data }], guard := none }) rfl (fun K' hK => ?_) AllReadyH.nil
  have hld := HD1.out _ HR_0.out
  go_simp
  clear hld
  obtain ⟨x1, hxx⟩ : ∃ X, X = x0 := ⟨_, rfl⟩
  subst hxx
  have HR_1 := HR_0
  have HG_1 := HG_0
  have HN_1 := HN_0
  have HL_1 := HL_0
  refine hK.out _ _ trivial (fun hHeld1 => ?_)
  clear hK K'
  try simp only [Act.put, List.setIfInBounds_toArray, List.set_cons_zero, List.set_cons_succ]
  refine wpAnyH_ready (rs := [4]) (by kernel_rfl) (by simp) ?_
  refine AllReadyH.cons (o := { dst := some 8, op := Op.load 48 (Operand.tmp 7), type := 48, pos := "mode.go:64", after := #[{ on := 3, ground := Ground.data }], guard := none }) rfl (fun K' hK => ?_) AllReadyH.nil
  have hld := HD2.out _ HR_1.out
  go_simp
  clear hld
  obtain ⟨x2, hxx⟩ : ∃ X, X = x1 := ⟨_, rfl⟩
  subst hxx
  have HR_2 := HR_1
  have HG_2 := HG_1
  have HN_2 := HN_1
  have HL_2 := HL_1
  refine hK.out _ _ trivial (fun hHeld2 => ?_)
  clear hK K'
  try simp only [Act.put, List.setIfInBounds_toArray, List.set_cons_zero, List.set_cons_succ]
  refine wpAnyH_take (i := 8) (oi := { dst := some 12, op := Op.nilCheck (Operand.tmp 4), type := 0, pos := "mode.go:64", after := #[{ on := 0, ground := Ground.data }, { on := 0, ground := Ground.phase }, { on := 1, ground := Ground.textOnly Departure.lateStores }, { on := 2, ground := Ground.phase }, { on := 3, ground := Ground.phase }, { on := 4, ground := Ground.phase }, { on := 5, ground := Ground.textOnly Departure.lateStores }, { on := 6, ground := Ground.textOnly Departure.lateStoresUnsure }, { on := 7, ground := Ground.phase }], guard := none }) (v := ?tk8) rfl (by kernel_rfl) (by kernel_rfl) (by kernel_rfl) (fun _ _ _ h => h) (Or.inl ⟨by rfl, ?tw8⟩) hHeld2 ?_
  case tw8 => (intro W hW; clear hW; first | (go_simp; done) | (go_simp; with_reducible rfl))
  try simp only [Act.put, List.setIfInBounds_toArray, List.set_cons_zero, List.set_cons_succ]
  refine wpAnyH_ready (rs := [9]) (by kernel_rfl) (by simp) ?_
  refine AllReadyH.cons (o := { dst := none, op := Op.store 48 (Operand.tmp 12) (Operand.tmp 8), type := 0, pos := "mode.go:64", after := #[{ on := 8, ground := Ground.data }, { on := 4, ground := Ground.data }, { on := 0, ground := Ground.phase }, { on := 1, ground := Ground.textOnly Departure.lateStores }, { on := 2, ground := Ground.phase }, { on := 3, ground := Ground.phase }, { on := 4, ground := Ground.phase }, { on := 5, ground := Ground.textOnly Departure.lateStores }, { on := 6, ground := Ground.textOnly Departure.lateStoresUnsure }, { on := 7, ground := Ground.phase }], guard := none }) rfl (fun K' hK => ?_) AllReadyH.nil
  have hst := store16_mid (o := o) HR_2.out HB2.out (by rw [HN_2.out]; omega)
  go_simp
  clear hst
  obtain ⟨x3, hyy⟩ : ∃ X, x2.setRow g (arr .u8 (put16 l o b2)) = X := ⟨_, rfl⟩
  obtain ⟨C3, hC3⟩ : ∃ c, put16 l o b2 = c := ⟨_, rfl⟩
  have HN_3 := Lib.hid (show C3.length = l.length from Eq.trans (by rw [← hC3, put16_len HB2.out (by rw [HN_2.out]; omega)]) HN_2.out)
  have HR_3 := Lib.hid (show rowN x3 g = some (arr .u8 C3) by rw [← hyy, ← hC3]; exact row_new HR_2.out)
  have HG_3 := Lib.hid (show w.grownBy x3 (some g) by rw [← hyy]; exact grownBy_trans HG_2.out (setRow_grown _ _ _))
  have HL_3 := HL_2
  rw [hyy]
  clear hyy
  refine hK.out _ _ trivial (fun hHeld3 => ?_)
  clear hK K'
  try simp only [Act.put, List.setIfInBounds_toArray, List.set_cons_zero, List.set_cons_succ]
  refine wpAnyH_take (i := 10) (oi := { dst := some 13, op := Op.nilCheck (Operand.tmp 5), type := 0, pos := "mode.go:64", after := #[{ on := 1, ground := Ground.data }, { on := 0, ground := Ground.phase }, { on := 1, ground := Ground.phase }, { on := 2, ground := Ground.phase }, { on := 3, ground := Ground.phase }, { on := 4, ground := Ground.phase }, { on := 5, ground := Ground.phase }, { on := 6, ground := Ground.phase }, { on := 7, ground := Ground.phase }, { on := 8, ground := Ground.phase }, { on := 9, ground := Ground.phase }], guard := none }) (v := ?tk9) rfl (by kernel_rfl) (by kernel_rfl) (by kernel_rfl) (fun _ _ _ h => h) (Or.inl ⟨by rfl, ?tw9⟩) hHeld3 ?_
  case tw9 => (intro W hW; clear hW; first | (go_simp; done) | (go_simp; with_reducible rfl))
  try simp only [Act.put, List.setIfInBounds_toArray, List.set_cons_zero, List.set_cons_succ]
  refine wpAnyH_ready (rs := [11]) (by kernel_rfl) (by simp) ?_
  refine AllReadyH.cons (o := { dst := none, op := Op.store 48 (Operand.tmp 13) (Operand.tmp 11), type := 0, pos := "mode.go:64", after := #[{ on := 10, ground := Ground.data }, { on := 7, ground := Ground.data }, { on := 9, ground := Ground.chain }, { on := 0, ground := Ground.phase }, { on := 1, ground := Ground.phase }, { on := 2, ground := Ground.phase }, { on := 3, ground := Ground.phase }, { on := 4, ground := Ground.phase }, { on := 5, ground := Ground.phase }, { on := 6, ground := Ground.phase }, { on := 7, ground := Ground.phase }, { on := 8, ground := Ground.phase }, { on := 9, ground := Ground.phase }], guard := none }) rfl (fun K' hK => ?_) AllReadyH.nil
  have hst := store16_mid (o := q) HR_3.out HB1.out (by rw [HN_3.out]; omega)
  go_simp
  clear hst
  obtain ⟨x4, hyy⟩ : ∃ X, x3.setRow g (arr .u8 (put16 C3 q b1)) = X := ⟨_, rfl⟩
  obtain ⟨C4, hC4⟩ : ∃ c, put16 C3 q b1 = c := ⟨_, rfl⟩
  have HN_4 := Lib.hid (show C4.length = l.length from Eq.trans (by rw [← hC4, put16_len HB1.out (by rw [HN_3.out]; omega)]) HN_3.out)
  have HR_4 := Lib.hid (show rowN x4 g = some (arr .u8 C4) by rw [← hyy, ← hC4]; exact row_new HR_3.out)
  have HG_4 := Lib.hid (show w.grownBy x4 (some g) by rw [← hyy]; exact grownBy_trans HG_3.out (setRow_grown _ _ _))
  have HL_4 := HL_3
  rw [hyy]
  clear hyy
  refine hK.out _ _ trivial (fun hHeld4 => ?_)
  clear hK K'
  try simp only [Act.put, List.setIfInBounds_toArray, List.set_cons_zero, List.set_cons_succ]
  refine wpAnyH_done (by kernel_rfl) ?_ _
  refine NoPanic.normal ?_
  go_wp2_with fail
  go_end0
  exact ⟨rfl, (by first | exact HR_4.out | (rw [hC3, hC4]; exact HR_4.out) | (rw [put16_comm _ _ _ _ _ HB2.out HB1.out ho hq, hC3, hC4]; exact HR_4.out)), HG_4.out⟩
end Go.Proofs.YtjcdbjapadgdfaaDoor
