/- A Hash that lies behind 128 cells: waiting, Sum, Copy. -/
import Derived.Deep.RegionHeld3
import Derived.Test.YtmlacbdonkfbdaaDoorVE
import Derived.Test.YtmlacbdonkfbdaaDoorTC
namespace Go.Proofs.YtmlacbdonkfbdaaDoor
open Go.RowKit Go.Shelf

def hashB (P : Pre) (st tl : List Nat) (n : Nat) : Array Value := stB P st (arr .u8 tl ++ #[.int .i64 (n : Nat)])
theorem hashB_eq (P : Pre) (st tl : List Nat) (n : Nat) : hashB P st tl n = P.a ++ hashA st tl n := by unfold hashB hashA; rw [stB_eq]
theorem hashB_get (P : Pre) (st tl : List Nat) (n i : Nat) : (hashB P st tl n)[128 + i]? = (hashA st tl n)[i]? := by unfold hashB hashA; rw [stB_get]
theorem hashB_pre (P : Pre) (st tl : List Nat) (n i : Nat) (hi : i < 128) : (hashB P st tl n)[i]? = P.a[i]? := by unfold hashB; rw [stB_pre P _ _ _ hi]
theorem hashB_len {P : Pre} {st tl : List Nat} (hs : st.length = 8) (ht : tl.length = 64) (n : Nat) : (hashB P st tl n)[200]? = some (.int .i64 (n : Nat)) := by
  rw [show 200 = 128 + 72 from rfl, hashB_get]; exact hashA_len hs ht n
theorem hashB_tail {P : Pre} {st tl : List Nat} (hs : st.length = 8) (ht : tl.length = 64) (n : Nat) {j : Nat} (hj : j < 64) : (hashB P st tl n)[136 + j]? = some (.int .u8 (tl.getD j 0 : Nat)) := by
  rw [show 136 + j = 128 + (8 + j) by omega, hashB_get]; exact hashA_tail hs ht n hj
theorem hashB_size {P : Pre} {st tl : List Nat} (hs : st.length = 8) (ht : tl.length = 64) (n : Nat) : (hashB P st tl n).size = 201 := by
  rw [hashB_eq, Array.size_append, P.sz, hashA_size hs ht]
theorem load54_in {P : Pre} {W : World} {g n : Nat} {st tl : List Nat} (hs : st.length = 8) (ht : tl.length = 64) (h : rowN W g = some (hashB P st tl n)) : (arLoad 54 (.pointer (some ⟨g, 128, none⟩))).run Tryd.prog W = .ok (.value (.agg (hashA st tl n))) W := by
  have hr : W.rangeAt g 128 (hashA st tl n).toList := by
    intro j v hv
    rw [(rowN_cell h).1, hashB_get, ← Array.getElem?_toList]; exact hv
  have hi : (Tryd.prog.info? 54).map (·.size) = some 73 := by kernel_rfl
  have hl := run_loadVar_mid (P := Tryd.prog) W g 128 54 (hashA st tl n).toList _ hr Tryd.underlying54 rfl (by rw [hi, Array.length_toList, hashA_size hs ht])
  rw [Array.toArray_toList] at hl
  exact run_arLoad_of hl
theorem run_slice36_hmI (g k : Nat) (hk : k ≤ 64) (W : World) : (Instr.sliceAt 47 (.pointer (some ⟨g, 136, none⟩)) none (some (.int .i64 (k : Nat))) (some (.int .i64 (k : Nat)))).run Tryd.prog W = .ok (.slice (some ⟨g, 136, none⟩) k k) W := by
  obtain ⟨h1, h2, h3⟩ := arr36
  rw [run_sliceAt_array_hm W 47 _ h3 _ _ _ _ (by omega) (by omega) (by rw [h1]; omega), h2, Tryd.sizeOf5]
  simp [slicedAt, Addr.add]
set_option maxRecDepth 100000 in
theorem waiting_in (P : Pre) (g n : Nat) (st tl : List Nat) (hs : st.length = 8) (ht : tl.length = 64) (w : World) (hr : rowN w g = some (hashB P st tl n)) :
    Calls Tryd.prog 35 #[.pointer (some ⟨g, 128, none⟩)] w fun e w' => e = .returned (.slice (some ⟨g, 136, none⟩) (n % 64) (n % 64)) ∧ w = w' := by
  have hc : w.cell? ⟨g, 200, none⟩ = some (.int .i64 (n : Nat)) := ((rowN_cell hr).1 200).trans (hashB_len hs ht n)
  have hm : n % 64 < 64 := Nat.mod_lt _ (by omega)
  obtain ⟨q, hq⟩ : ∃ q, n % 64 = q := ⟨_, rfl⟩
  have hq2 : ((n : Nat) : Int) % 64 = ((q : Nat) : Int) := by omega
  rw [hq] at hm ⊢
  have hs36 := fun W => run_slice36_hmI g q (by omega) W
  clear hr hq
  go_enter Tryd.func35, Tryd.ntmps35
  go_wp2_with fail
  go_ret
  exact ⟨rfl, rfl⟩
theorem waiting_bytesI {P : Pre} {g n : Nat} {st tl : List Nat} (hs : st.length = 8) (ht : tl.length = 64) (h256 : ∀ x ∈ tl, x < 256) {w : World} (hr : rowN w g = some (hashB P st tl n)) : BytesAt (tl.take (n % 64)) (.slice (some ⟨g, 136, none⟩) (n % 64) (n % 64)) w := by
  have hl : (tl.take (n % 64)).length = n % 64 := by rw [List.length_take]; omega
  refine ⟨fun x hx => h256 x (List.mem_of_mem_take hx), _, n % 64, by rw [hl], by omega, .inr ⟨g, 136, rfl, rowN_lt hr, fun j hj => ?_⟩⟩
  rw [hl] at hj
  rw [(rowN_cell hr).1 (136 + j), hashB_tail hs ht n (by omega)]
  simp [List.getD, hj]
set_option maxRecDepth 100000 in
set_option maxHeartbeats 1000000 in
theorem hsum_in (P : Pre) (g n : Nat) (st tl : List Nat) (hs : st.length = 8) (hw : W32 st) (ht : tl.length = 64) (h256 : ∀ x ∈ tl, x < 256) (hn : n ≤ 140737488355328) (w : World) (hK : KG w) (hr : rowN w g = some (hashB P st tl n)) :
    Calls Tryd.prog 29 #[.pointer (some ⟨g, 128, none⟩)] w fun e w' => e = .returned (.agg (arr .u8 (hashOut st tl n))) ∧ Below w.heap.size w w' := by
  have HST := Lib.hid hs
  have HTL := Lib.hid ht
  have HK := Lib.hid hK
  have HWAIT := Lib.hid (fun W (h : rowN W g = some (hashB P st tl n)) => show Calls Tryd.prog 35 #[.pointer (some ⟨g, 128, none⟩)] W (fun e w' => e = .returned (.slice (some ⟨g, 136, none⟩) (n % 64) (n % 64)) ∧ Below W.heap.size W w') from
    (waiting_in P g n st tl hs ht W h).mono (fun e w' h => ⟨h.1, h.2 ▸ Below.refl _ _⟩))
  have HFIN := Lib.hid (fun W (h1 : KG W) (h : rowN W g = some (hashB P st tl n)) => show Calls Tryd.prog 39 #[.agg (arr .u32 st), .slice (some ⟨g, 136, none⟩) (n % 64) (n % 64), .int .i64 (n : Nat)] W (fun e w' => e = .returned (.agg (arr .u8 (hashOut st tl n))) ∧ Below W.heap.size W w') from
    finish_any st (tl.take (n % 64)) _ n hs hw hn (by rw [List.length_take]; omega) W h1 (waiting_bytesI hs ht h256 h) (fun L c e => by cases e))
  have hlS : (hashOut st tl n).length = 32 := outB_len (absB_len hs _ _)
  obtain ⟨O, hO⟩ : ∃ O, hashOut st tl n = O := ⟨_, rfl⟩
  rw [hO] at HFIN hlS ⊢
  have hz32 := z32_lit
  have HL_0 := Lib.hid (show Below w.heap.size w (w.alloc (.cells (arr .u8 z32) 27)).drew from ((Below.refl w.heap.size w).alloc (Nat.le_refl _) (.cells (arr .u8 z32) 27)).drew)
  have Hr_0 := Lib.hid (show rowN (w.alloc (.cells (arr .u8 z32) 27)).drew w.heap.size = some (arr .u8 z32) by rw [rowN_drew, rowN_alloc, if_pos rfl])
  have Hh_0 := Lib.hid (show rowN (w.alloc (.cells (arr .u8 z32) 27)).drew g = some (hashB P st tl n) from keptW ((Below.refl w.heap.size w).alloc (Nat.le_refl _) (.cells (arr .u8 z32) 27)) hr)
  have sz2 : (arr .u8 O).size = 32 := by rw [arr_size, hlS]
  have sz4 : (arr .u8 z32).size = 32 := by rw [arr_size]; rfl
  have hgw := rowN_lt hr
  clear hK hO hr hs hw ht h256
  go_enter Tryd.func29, Tryd.ntmps29
  go_wp2_with fail
  refine wp_region_noPanic ?_
  refine wp_region_held_drew (S := fun W => rowN W g = some (hashB P st tl n)) (by kernel_rfl) Hh_0.out (fun hHeld0 => ?_)
  obtain ⟨x0, hx0⟩ : ∃ X, (w.alloc (.cells (arr .u8 z32) 27)).drew = X := ⟨_, rfl⟩
  rw [hx0] at Hh_0 Hr_0 HL_0 hHeld0 ⊢
  clear hx0
  refine wpAnyH_take (i := 0) (oi := { dst := some 6, op := Op.move (Operand.tmp 0), type := 64, pos := "sha.go:49", after := #[], guard := none }) (v := ?tk0) rfl (by kernel_rfl) (by kernel_rfl) (by kernel_rfl) (fun _ _ _ h => h) (Or.inl ⟨by rfl, ?tw0⟩) hHeld0 ?_
  case tw0 => (intro W hW; clear hW; first | (go_simp; done) | (go_simp; with_reducible rfl))
  try simp only [Act.put, List.setIfInBounds_toArray, List.set_cons_zero, List.set_cons_succ]
  refine wpAnyH_take (i := 1) (oi := { dst := some 7, op := Op.nilCheck (Operand.tmp 6), type := 0, pos := "sha.go:49", after := #[{ on := 0, ground := Ground.data }], guard := none }) (v := ?tk1) rfl (by kernel_rfl) (by kernel_rfl) (by kernel_rfl) (fun _ _ _ h => h) (Or.inl ⟨by rfl, ?tw1⟩) hHeld0 ?_
  case tw1 => (intro W hW; clear hW; first | (go_simp; done) | (go_simp; with_reducible rfl))
  try simp only [Act.put, List.setIfInBounds_toArray, List.set_cons_zero, List.set_cons_succ]
  refine wpAnyH_take (i := 2) (oi := { dst := some 8, op := Op.fieldAddr 54 (Operand.tmp 7) 0, type := 0, pos := "sha.go:49", after := #[{ on := 1, ground := Ground.data }], guard := none }) (v := ?tk2) rfl (by kernel_rfl) (by kernel_rfl) (by kernel_rfl) (fun _ _ _ h => h) (Or.inl ⟨by rfl, ?tw2⟩) hHeld0 ?_
  case tw2 => (intro W hW; clear hW; first | (go_simp; done) | (go_simp; with_reducible rfl))
  try simp only [Act.put, List.setIfInBounds_toArray, List.set_cons_zero, List.set_cons_succ]
  refine wpAnyH_take (i := 3) (oi := { dst := some 9, op := Op.load 52 (Operand.tmp 8), type := 52, pos := "sha.go:49", after := #[{ on := 2, ground := Ground.data }], guard := none }) (v := .agg (arr .u32 st)) rfl (by kernel_rfl) (by kernel_rfl) (by kernel_rfl) (fun _ _ _ h => h) (Or.inl ⟨by rfl, fun W hW => ?_⟩) hHeld0 ?_
  · (obtain ⟨R, hR⟩ : ∃ R, arr .u8 tl ++ #[Value.int .i64 (n : Nat)] = R := ⟨_, rfl⟩; have hE : rowN W g = some (stB P st R) := (by rw [← hR]; exact hW); have hL := load_in HST.out hE; clear hW hR; go_simp)
  try simp only [Act.put, List.setIfInBounds_toArray, List.set_cons_zero, List.set_cons_succ]
  refine wpAnyH_take (i := 4) (oi := { dst := some 10, op := Op.move (Operand.tmp 0), type := 64, pos := "sha.go:49", after := #[], guard := none }) (v := ?tk3) rfl (by kernel_rfl) (by kernel_rfl) (by kernel_rfl) (fun _ _ _ h => h) (Or.inl ⟨by rfl, ?tw3⟩) hHeld0 ?_
  case tw3 => (intro W hW; clear hW; first | (go_simp; done) | (go_simp; with_reducible rfl))
  try simp only [Act.put, List.setIfInBounds_toArray, List.set_cons_zero, List.set_cons_succ]
  refine wpAnyH_take (i := 6) (oi := { dst := some 12, op := Op.move (Operand.tmp 0), type := 64, pos := "sha.go:49", after := #[], guard := none }) (v := ?tk4) rfl (by kernel_rfl) (by kernel_rfl) (by kernel_rfl) (fun _ _ _ h => h) (Or.inl ⟨by rfl, ?tw4⟩) hHeld0 ?_
  case tw4 => (intro W hW; clear hW; first | (go_simp; done) | (go_simp; with_reducible rfl))
  try simp only [Act.put, List.setIfInBounds_toArray, List.set_cons_zero, List.set_cons_succ]
  refine wpAnyH_take (i := 7) (oi := { dst := some 13, op := Op.nilCheck (Operand.tmp 12), type := 0, pos := "sha.go:49", after := #[{ on := 6, ground := Ground.data }], guard := none }) (v := ?tk5) rfl (by kernel_rfl) (by kernel_rfl) (by kernel_rfl) (fun _ _ _ h => h) (Or.inl ⟨by rfl, ?tw5⟩) hHeld0 ?_
  case tw5 => (intro W hW; clear hW; first | (go_simp; done) | (go_simp; with_reducible rfl))
  try simp only [Act.put, List.setIfInBounds_toArray, List.set_cons_zero, List.set_cons_succ]
  refine wpAnyH_take (i := 8) (oi := { dst := some 14, op := Op.fieldAddr 54 (Operand.tmp 13) 2, type := 0, pos := "sha.go:49", after := #[{ on := 7, ground := Ground.data }], guard := none }) (v := ?tk6) rfl (by kernel_rfl) (by kernel_rfl) (by kernel_rfl) (fun _ _ _ h => h) (Or.inl ⟨by rfl, ?tw6⟩) hHeld0 ?_
  case tw6 => (intro W hW; clear hW; first | (go_simp; done) | (go_simp; with_reducible rfl))
  try simp only [Act.put, List.setIfInBounds_toArray, List.set_cons_zero, List.set_cons_succ]
  refine wpAnyH_take (i := 9) (oi := { dst := some 15, op := Op.load 3 (Operand.tmp 14), type := 3, pos := "sha.go:49", after := #[{ on := 8, ground := Ground.data }], guard := none }) (v := .int .i64 (n : Nat)) rfl (by kernel_rfl) (by kernel_rfl) (by kernel_rfl) (fun _ _ _ h => h) (Or.inl ⟨by rfl, fun W hW => ?_⟩) hHeld0 ?_
  · (have hW1 := ((rowN_cell hW).1 200).trans (hashB_len HST.out HTL.out n); clear hW; go_simp)
  try simp only [Act.put, List.setIfInBounds_toArray, List.set_cons_zero, List.set_cons_succ]
  refine wpAnyH_ready (rs := [5]) (by kernel_rfl) (by simp) ?_
  refine AllReadyH.cons (o := { dst := some 11, op := Op.call { callee := Callee.value (Operand.func 35), args := #[Operand.tmp 10], argTypes := #[64] }, type := 22, pos := "sha.go:49", after := #[{ on := 4, ground := Ground.data }], guard := none }) rfl (fun K' hK => ?_) AllReadyH.nil
  go_simp
  refine ((HWAIT.out _ Hh_0.out)).mono ?_
  rintro e x1 ⟨rfl, hb⟩
  have Hh_1 := Lib.hid (keptW hb Hh_0.out)
  have Hr_1 := Lib.hid (keptW hb Hr_0.out)
  have HL_1 := Lib.hid (HL_0.out.trans (hb.mono HL_0.out.size))
  clear hb
  refine hK.out _ _ Hh_1.out (fun hHeld1 => ?_)
  clear hK K'
  try simp only [Act.put, List.setIfInBounds_toArray, List.set_cons_zero, List.set_cons_succ]
  refine wpAnyH_ready (rs := [10]) (by kernel_rfl) (by simp) ?_
  refine AllReadyH.cons (o := { dst := some 16, op := Op.call { callee := Callee.value (Operand.func 39), args := #[Operand.tmp 9, Operand.tmp 11, Operand.tmp 15], argTypes := #[52, 22, 3] }, type := 27, pos := "sha.go:49", after := #[{ on := 3, ground := Ground.data }, { on := 5, ground := Ground.data }, { on := 9, ground := Ground.data }, { on := 5, ground := Ground.chain }], guard := none }) rfl (fun K' hK => ?_) AllReadyH.nil
  go_simp
  refine ((HFIN.out _ (HK.out.kept HL_1.out) Hh_1.out)).mono ?_
  rintro e x2 ⟨rfl, hb⟩
  have Hh_2 := Lib.hid (keptW hb Hh_1.out)
  have Hr_2 := Lib.hid (keptW hb Hr_1.out)
  have HL_2 := Lib.hid (HL_1.out.trans (hb.mono HL_1.out.size))
  clear hb
  refine hK.out _ _ Hh_2.out (fun hHeld2 => ?_)
  clear hK K'
  try simp only [Act.put, List.setIfInBounds_toArray, List.set_cons_zero, List.set_cons_succ]
  refine wpAnyH_ready (rs := [11]) (by kernel_rfl) (by simp) ?_
  refine AllReadyH.cons (o := { dst := none, op := Op.store 27 (Operand.tmp 2) (Operand.tmp 16), type := 0, pos := "sha.go:49", after := #[{ on := 10, ground := Ground.data }, { on := 10, ground := Ground.chain }, { on := 0, ground := Ground.phase }, { on := 1, ground := Ground.phase }, { on := 2, ground := Ground.phase }, { on := 3, ground := Ground.phase }, { on := 4, ground := Ground.phase }, { on := 5, ground := Ground.phase }, { on := 6, ground := Ground.phase }, { on := 7, ground := Ground.phase }, { on := 8, ground := Ground.phase }, { on := 9, ground := Ground.phase }, { on := 10, ground := Ground.phase }], guard := none }) rfl (fun K' hK => ?_) AllReadyH.nil
  have hrow := Hr_2.out
  go_simp
  obtain ⟨x3, hx3⟩ : ∃ X, x2.setRow w.heap.size (arr .u8 O) = X := ⟨_, rfl⟩
  rw [hx3]
  have Hh_3 := Lib.hid (show rowN x3 g = some (hashB P st tl n) by rw [← hx3, rowN_setRow, if_neg (by omega)]; exact Hh_2.out)
  have Hr_3 := Lib.hid (show rowN x3 w.heap.size = some (arr .u8 O) by rw [← hx3, rowN_setRow, if_pos rfl, hrow]; rfl)
  have hbl : Below w.heap.size w x3 := by rw [← hx3]; exact below_setRow' HL_2.out (by omega) _
  have HL_3 := Lib.hid hbl
  clear hrow hbl hx3
  refine hK.out _ _ Hh_3.out (fun hHeld3 => ?_)
  clear hK K'
  try simp only [Act.put, List.setIfInBounds_toArray, List.set_cons_zero, List.set_cons_succ]
  refine wpAnyH_done (by kernel_rfl) ?_ _
  refine NoPanic.normal ?_
  go_wp2_with fail
  exact ret_arr _ _ run_loadVar24 rfl rfl rfl Hr_3.out sz2 ⟨rfl, HL_3.out⟩
set_option maxRecDepth 100000 in
theorem copy_in (P : Pre) (g n : Nat) (st tl : List Nat) (hs : st.length = 8) (ht : tl.length = 64) (w : World) (hr : rowN w g = some (hashB P st tl n)) :
    Calls Tryd.prog 26 #[.pointer (some ⟨g, 128, none⟩)] w fun e w' => e = .returned (.pointer (some ⟨w.heap.size, 0, none⟩)) ∧ rowN w' w.heap.size = some (hashA st tl n) ∧ Below w.heap.size w w' := by
  have sz := hashA_size hs ht n
  have hld := load54_in hs ht hr
  have sz0 : (hashA zero8 z64 0).size = 73 := hashA_size rfl z64_len 0
  have hg := rowN_lt hr
  have hst38 := fun (W : World) (g : Nat) => run_arStore38 W g st tl n hs ht
  go_enter Tryd.func26, Tryd.ntmps26
  go_wp2_with fail
  go_ret
  refine ⟨rfl, ?_, ?_⟩
  · first | (rw [rowN_alloc, if_pos rfl]) | (exact row_new (by rw [rowN_alloc, if_pos rfl]))
  · first | exact (Below.refl _ w).alloc (Nat.le_refl _) _ | exact below_setRow' ((Below.refl _ w).alloc (Nat.le_refl _) _) (Nat.le_refl _) _
end Go.Proofs.YtmlacbdonkfbdaaDoor
