/- AES: a function on each word of a block. -/
import Derived.Test.YtjcdbjapadgdfaaDoorAB
namespace Go.Proofs.YtjcdbjapadgdfaaDoor
open Go.RowKit

attribute [local go_sem] Oper.semAt_some
def W32 (l : List Nat) : Prop := ∀ x ∈ l, x < 4294967296
theorem W32.get {l : List Nat} (h : W32 l) (i : Nat) : l.getD i 0 < 4294967296 := by
  by_cases hi : i < l.length
  · rw [List.getD, List.getElem?_eq_getElem hi]; exact h _ (List.getElem_mem _)
  · rw [List.getD, List.getElem?_eq_none (by omega)]; exact (by decide : (0 : Nat) < 4294967296)
/-- The first k words are changed. -/
def chK (F : Nat → Nat) (l : List Nat) (k : Nat) : List Nat := (l.map F).take k ++ l.drop k
theorem chK_zero (F : Nat → Nat) (l : List Nat) : chK F l 0 = l := by unfold chK; simp
theorem chK_all {F : Nat → Nat} {l : List Nat} {k : Nat} (h : l.length ≤ k) : chK F l k = l.map F := by
  unfold chK; rw [List.take_of_length_le (by rw [List.length_map]; exact h), List.drop_eq_nil_of_le h, List.append_nil]
theorem chK_len (F : Nat → Nat) (l : List Nat) (k : Nat) : (chK F l k).length = l.length := by
  unfold chK; rw [List.length_append, List.length_take, List.length_drop, List.length_map]; omega
theorem chK_get {F : Nat → Nat} {l : List Nat} {k : Nat} (h : k < l.length) : (chK F l k).getD k 0 = l.getD k 0 := by
  unfold chK
  have hl : ((l.map F).take k).length = k := by rw [List.length_take, List.length_map]; omega
  rw [List.getD, List.getElem?_append_right (by omega), hl, Nat.sub_self, List.getElem?_drop]; rfl
theorem chK_set {F : Nat → Nat} {l : List Nat} {k : Nat} (h : k < l.length) : (chK F l k).set k (F (l.getD k 0)) = chK F l (k + 1) := by
  refine List.ext_getElem? fun i => ?_
  have hlt : ((l.map F).take k).length = k := by rw [List.length_take, List.length_map]; omega
  have hlt2 : ((l.map F).take (k + 1)).length = k + 1 := by rw [List.length_take, List.length_map]; omega
  rw [List.getElem?_set, chK_len]
  unfold chK
  by_cases e : k = i
  · subst e
    rw [if_pos rfl, if_pos h, List.getElem?_append_left (by omega), List.getElem?_take, if_pos (by omega), List.getElem?_map, List.getD, List.getElem?_eq_getElem h]; rfl
  · rw [if_neg e]
    by_cases hlt3 : i < k
    · rw [List.getElem?_append_left (by omega), List.getElem?_append_left (by omega), List.getElem?_take, List.getElem?_take, if_pos hlt3, if_pos (by omega)]
    · rw [List.getElem?_append_right (by omega), List.getElem?_append_right (by omega), hlt, hlt2, List.getElem?_drop, List.getElem?_drop]
      congr 1; omega
def ChRel (F : Nat → Nat) (ws : List Nat) (rest : Array Value) (g : Nat) (w : World) (i : Value) (wr : World) : Prop :=
  ∃ k : Nat, k ≤ 4 ∧ i = .int .i64 (k : Nat) ∧ rowN wr g = some (blA (chK F ws k) rest) ∧ w.grownBy wr (some g)
theorem grown_of_below {A B : World} (h : Below A.heap.size A B) (r : Option Nat) : A.grownBy B r := ⟨h.os, h.tape, h.output, h.size, fun j hj _ => h.block j hj⟩
theorem grown_setCell (w : World) (g i : Nat) (v : Value) : w.grownBy (w.setCell ⟨g, i, none⟩ v) (some g) :=
  ⟨rfl, rfl, rfl, by simp, fun k hk hne => heap_setCell_other w ⟨g, i, none⟩ k v (fun e => hne (by simp [e]))⟩

set_option maxRecDepth 100000 in
set_option maxHeartbeats 2000000 in
theorem change_sub (ws : List Nat) (rest : Array Value) (g : Nat) (t : List Nat) (gt : Nat) (hs : ws.length = 4) (hw : W32 ws) (w : World) (hrow : rowN w g = some (blA ws rest)) (hT : TabAt t gt 0 w) (hne : gt ≠ g) :
    Calls Tryd.prog 58 #[.pointer (some ⟨g, 0, none⟩), .func (.func 63) #[.pointer (some ⟨gt, 0, none⟩)] #[]] w fun e w' => e = .returned (.tuple #[]) ∧ rowN w' g = some (blA (ws.map (subW t)) rest) ∧ w.grownBy w' (some g) := by
  have HS := Lib.hid hs
  have HW := Lib.hid hw
  have HI0 := Lib.hid (show ChRel (subW t) ws rest g w (.int .i64 0) w from ⟨0, by omega, rfl, by rw [chK_zero]; exact hrow, grownBy_refl _ _⟩)
  have HF := Lib.hid (fun (k : Nat) (W : World) (hg : w.grownBy W (some g)) => sub_any t gt _ (HW.out.get k) W (hT.grown hg (fun e => hne (by injection e with e; exact e.symm))))
  have HFL := Lib.hid (fun (k : Nat) => show (subW t) (ws.getD k 0) < 4294967296 from subW_lt hT.1 _)
  clear hs hw hrow hT hne
  go_enter Tryd.func58, Tryd.ntmps58
  go_wp2_with fail
  go_loopw [7] (fun i wr => ChRel (subW t) ws rest g w i wr) (fun i _ => 4 - (intOf i).toNat)
  case atStart => exact HI0.out
  case round =>
    obtain ⟨k, hk, rfl, hr, hgr⟩ := hrel
    have HR := Lib.hid hr
    have HG := Lib.hid hgr
    by_cases hlt : k < 4
    · have hk4 : ((k : Nat) : Int) < 4 := by omega
      have hc0 : wr.drew.cell? ⟨g, k, none⟩ = some (.int .u32 (ws.getD k 0 : Nat)) := by
        have h := cell_bl (by rw [chK_len]; exact HS.out) hr hlt
        rw [chK_get (by rw [HS.out]; exact hlt)] at h; exact h
      have HFk := Lib.hid (HF.out k)
      have HSET := Lib.hid (chK_set (F := (subW t)) (l := ws) (k := k) (by rw [HS.out]; exact hlt))
      have hyl := HFL.out k
      obtain ⟨x, hx⟩ : ∃ x, ws.getD k 0 = x := ⟨_, rfl⟩
      rw [hx] at hc0 HFk HSET hyl
      obtain ⟨y, hy⟩ : ∃ y, (subW t) x = y := ⟨_, rfl⟩
      have HFY := Lib.hid (fun (W : World) (hg : w.grownBy W (some g)) => show Calls Tryd.prog 63 #[.pointer (some ⟨gt, 0, none⟩), .int .u32 (x : Nat)] W (fun e w' => e = .returned (.int .u32 (y : Nat)) ∧ Below W.heap.size W w') from by
        have h := HFk.out W hg
        rw [hy] at h; exact h)
      rw [hy] at HSET hyl
      clear hr hgr hx hy HFk HF
      go_upto_region 2 with fail
      refine wp_region_still_lit (by kernel_rfl) (by kernel_rfl) ?_
      repeat still_step
      refine wpStill_nil ?_
      change Exit.then _ _ Exit.normal _ wr.drew
      obtain ⟨V, hV⟩ : ∃ V, wr.drew = V := ⟨_, rfl⟩
      have HRV := Lib.hid (show rowN V g = some (blA (chK (subW t) ws k) rest) by rw [← hV]; exact HR.out)
      have HGV := Lib.hid (show w.grownBy V (some g) by rw [← hV]; exact grownBy_trans HG.out (grown_of_below (Below.refl _ _).drew _))
      rw [hV]
      clear hc0 hV HR HG
      go_upto_region 3 with fail
      have Hb_0 := Lib.hid (show rowN V.drew g = some (blA (chK (subW t) ws k) rest) from HRV.out)
      have HL_0 := Lib.hid (show Below V.heap.size V V.drew from (Below.refl _ _).drew)
      refine wp_region_noPanic ?_
      refine wp_region_held_drew (S := fun W => True) (by kernel_rfl) trivial (fun hHeld0 => ?_)
      obtain ⟨x0, hx0⟩ : ∃ X, V.drew = X := ⟨_, rfl⟩
      rw [hx0] at Hb_0 HL_0 ⊢
      clear hx0
      refine wpAnyH_take (i := 0) (oi := { dst := some 13, op := Op.move (Operand.tmp 0), type := 91, pos := "block.go:36", after := #[], guard := none }) (v := ?tk0) rfl (by kernel_rfl) (by kernel_rfl) (by kernel_rfl) (fun _ _ _ h => h) (Or.inl ⟨by rfl, ?tw0⟩) hHeld0 ?_
      case tw0 => (intro W hW; clear hW; first | (go_simp; done) | (go_simp; with_reducible rfl))
      try simp only [Act.put, List.setIfInBounds_toArray, List.set_cons_zero, List.set_cons_succ]
      refine wpAnyH_take (i := 1) (oi := { dst := some 14, op := Op.move (Operand.tmp 4), type := 3, pos := "block.go:36", after := #[], guard := none }) (v := ?tk1) rfl (by kernel_rfl) (by kernel_rfl) (by kernel_rfl) (fun _ _ _ h => h) (Or.inl ⟨by rfl, ?tw1⟩) hHeld0 ?_
      case tw1 => (intro W hW; clear hW; first | (go_simp; done) | (go_simp; with_reducible rfl))
      try simp only [Act.put, List.setIfInBounds_toArray, List.set_cons_zero, List.set_cons_succ]
      refine wpAnyH_take (i := 2) (oi := { dst := some 15, op := Op.move (Operand.tmp 1), type := 95, pos := "block.go:36", after := #[], guard := none }) (v := ?tk2) rfl (by kernel_rfl) (by kernel_rfl) (by kernel_rfl) (fun _ _ _ h => h) (Or.inl ⟨by rfl, ?tw2⟩) hHeld0 ?_
      case tw2 => (intro W hW; clear hW; first | (go_simp; done) | (go_simp; with_reducible rfl))
      try simp only [Act.put, List.setIfInBounds_toArray, List.set_cons_zero, List.set_cons_succ]
      refine wpAnyH_take (i := 3) (oi := { dst := some 16, op := Op.move (Operand.tmp 5), type := 70, pos := "block.go:36", after := #[], guard := none }) (v := ?tk3) rfl (by kernel_rfl) (by kernel_rfl) (by kernel_rfl) (fun _ _ _ h => h) (Or.inl ⟨by rfl, ?tw3⟩) hHeld0 ?_
      case tw3 => (intro W hW; clear hW; first | (go_simp; done) | (go_simp; with_reducible rfl))
      try simp only [Act.put, List.setIfInBounds_toArray, List.set_cons_zero, List.set_cons_succ]
      refine wpAnyH_take (i := 5) (oi := { dst := some 18, op := Op.nilCheck (Operand.tmp 13), type := 0, pos := "block.go:36", after := #[{ on := 0, ground := Ground.data }], guard := none }) (v := ?tk4) rfl (by kernel_rfl) (by kernel_rfl) (by kernel_rfl) (fun _ _ _ h => h) (Or.inl ⟨by rfl, ?tw4⟩) hHeld0 ?_
      case tw4 => (intro W hW; clear hW; first | (go_simp; done) | (go_simp; with_reducible rfl))
      try simp only [Act.put, List.setIfInBounds_toArray, List.set_cons_zero, List.set_cons_succ]
      refine wpAnyH_ready (rs := [4]) (by kernel_rfl) (by simp) ?_
      refine AllReadyH.cons (o := { dst := some 17, op := Op.call { callee := Callee.value (Operand.tmp 15), args := #[Operand.tmp 16], argTypes := #[70] }, type := 70, pos := "block.go:36", after := #[{ on := 2, ground := Ground.data }, { on := 3, ground := Ground.data }], guard := none }) rfl (fun K' hK => ?_) AllReadyH.nil
      go_simp
      refine ((HFY.out _ (grownBy_trans HGV.out (grown_of_below HL_0.out _)))).mono ?_
      rintro e x1 ⟨rfl, hb⟩
      have Hb_1 := Lib.hid (keptW hb Hb_0.out)
      have HL_1 := Lib.hid (HL_0.out.trans (hb.mono HL_0.out.size))
      clear hb
      refine hK.out _ _ trivial (fun hHeld1 => ?_)
      clear hK K'
      try simp only [Act.put, List.setIfInBounds_toArray, List.set_cons_zero, List.set_cons_succ]
      refine wpAnyH_take (i := 6) (oi := { dst := some 19, op := Op.indexAddr 72 (Operand.tmp 18) (Operand.tmp 14), type := 0, pos := "block.go:36", after := #[{ on := 5, ground := Ground.data }, { on := 1, ground := Ground.data }, { on := 0, ground := Ground.phase }, { on := 1, ground := Ground.phase }, { on := 2, ground := Ground.phase }, { on := 3, ground := Ground.phase }, { on := 4, ground := Ground.phase }], guard := none }) (v := ?tk5) rfl (by kernel_rfl) (by kernel_rfl) (by kernel_rfl) (fun _ _ _ h => h) (Or.inl ⟨by rfl, ?tw5⟩) hHeld1 ?_
      case tw5 => (intro W hW; clear hW; first | (go_simp; done) | (go_simp; with_reducible rfl))
      try simp only [Act.put, List.setIfInBounds_toArray, List.set_cons_zero, List.set_cons_succ]
      refine wpAnyH_ready (rs := [7]) (by kernel_rfl) (by simp) ?_
      refine AllReadyH.cons (o := { dst := none, op := Op.store 70 (Operand.tmp 19) (Operand.tmp 17), type := 0, pos := "block.go:36", after := #[{ on := 6, ground := Ground.data }, { on := 4, ground := Ground.data }, { on := 4, ground := Ground.chain }, { on := 0, ground := Ground.phase }, { on := 1, ground := Ground.phase }, { on := 2, ground := Ground.phase }, { on := 3, ground := Ground.phase }, { on := 4, ground := Ground.phase }], guard := none }) rfl (fun K' hK => ?_) AllReadyH.nil
      have hc1 := cell_bl (by rw [chK_len]; exact HS.out) Hb_1.out hlt
      have hf1 := (rowN_cell Hb_1.out).2 k
      go_simp
      obtain ⟨x2, hx2⟩ : ∃ X, x1.setCell ⟨g, k, none⟩ (.int .u32 (y : Nat)) = X := ⟨_, rfl⟩
      rw [hx2]
      have Hb_2 := Lib.hid (show rowN x2 g = some (blA (chK (subW t) ws (k + 1)) rest) by rw [← hx2, ← HSET.out]; exact row_bl (by rw [chK_len]; exact HS.out) Hb_1.out hlt)
      have HZ := Lib.hid (show w.grownBy x2 (some g) by rw [← hx2]; exact grownBy_trans (grownBy_trans HGV.out (grown_of_below HL_1.out _)) (grown_setCell _ _ _ _))
      clear hc1 hf1 hx2
      refine hK.out _ _ trivial (fun hHeld2 => ?_)
      clear hK K'
      try simp only [Act.put, List.setIfInBounds_toArray, List.set_cons_zero, List.set_cons_succ]
      refine wpAnyH_done (by kernel_rfl) ?_ _
      refine NoPanic.normal ?_
      skip
      go_wp2_with fail
      exact ⟨⟨k + 1, by omega, rfl, Hb_2.out, HZ.out⟩, by simp [intOf]; omega⟩
    · obtain rfl : k = 4 := by omega
      rw [chK_all (by rw [HS.out]; exact Nat.le_refl _)] at hr
      have HR2 := Lib.hid hr
      clear hr hgr
      go_wp2_with fail
      go_end0
      exact ⟨rfl, HR2.out, HG.out⟩
set_option maxRecDepth 100000 in
set_option maxHeartbeats 2000000 in
theorem change_org (ws : List Nat) (rest : Array Value) (g : Nat) (t : List Nat) (gt : Nat) (hs : ws.length = 4) (hw : W32 ws) (w : World) (hrow : rowN w g = some (blA ws rest)) (hT : TabAt t gt 256 w) (hne : gt ≠ g) :
    Calls Tryd.prog 58 #[.pointer (some ⟨g, 0, none⟩), .func (.func 59) #[.pointer (some ⟨gt, 0, none⟩)] #[]] w fun e w' => e = .returned (.tuple #[]) ∧ rowN w' g = some (blA (ws.map (subW t)) rest) ∧ w.grownBy w' (some g) := by
  have HS := Lib.hid hs
  have HW := Lib.hid hw
  have HI0 := Lib.hid (show ChRel (subW t) ws rest g w (.int .i64 0) w from ⟨0, by omega, rfl, by rw [chK_zero]; exact hrow, grownBy_refl _ _⟩)
  have HF := Lib.hid (fun (k : Nat) (W : World) (hg : w.grownBy W (some g)) => org_any t gt _ (HW.out.get k) W (hT.grown hg (fun e => hne (by injection e with e; exact e.symm))))
  have HFL := Lib.hid (fun (k : Nat) => show (subW t) (ws.getD k 0) < 4294967296 from subW_lt hT.1 _)
  clear hs hw hrow hT hne
  go_enter Tryd.func58, Tryd.ntmps58
  go_wp2_with fail
  go_loopw [7] (fun i wr => ChRel (subW t) ws rest g w i wr) (fun i _ => 4 - (intOf i).toNat)
  case atStart => exact HI0.out
  case round =>
    obtain ⟨k, hk, rfl, hr, hgr⟩ := hrel
    have HR := Lib.hid hr
    have HG := Lib.hid hgr
    by_cases hlt : k < 4
    · have hk4 : ((k : Nat) : Int) < 4 := by omega
      have hc0 : wr.drew.cell? ⟨g, k, none⟩ = some (.int .u32 (ws.getD k 0 : Nat)) := by
        have h := cell_bl (by rw [chK_len]; exact HS.out) hr hlt
        rw [chK_get (by rw [HS.out]; exact hlt)] at h; exact h
      have HFk := Lib.hid (HF.out k)
      have HSET := Lib.hid (chK_set (F := (subW t)) (l := ws) (k := k) (by rw [HS.out]; exact hlt))
      have hyl := HFL.out k
      obtain ⟨x, hx⟩ : ∃ x, ws.getD k 0 = x := ⟨_, rfl⟩
      rw [hx] at hc0 HFk HSET hyl
      obtain ⟨y, hy⟩ : ∃ y, (subW t) x = y := ⟨_, rfl⟩
      have HFY := Lib.hid (fun (W : World) (hg : w.grownBy W (some g)) => show Calls Tryd.prog 59 #[.pointer (some ⟨gt, 0, none⟩), .int .u32 (x : Nat)] W (fun e w' => e = .returned (.int .u32 (y : Nat)) ∧ Below W.heap.size W w') from by
        have h := HFk.out W hg
        rw [hy] at h; exact h)
      rw [hy] at HSET hyl
      clear hr hgr hx hy HFk HF
      go_upto_region 2 with fail
      refine wp_region_still_lit (by kernel_rfl) (by kernel_rfl) ?_
      repeat still_step
      refine wpStill_nil ?_
      change Exit.then _ _ Exit.normal _ wr.drew
      obtain ⟨V, hV⟩ : ∃ V, wr.drew = V := ⟨_, rfl⟩
      have HRV := Lib.hid (show rowN V g = some (blA (chK (subW t) ws k) rest) by rw [← hV]; exact HR.out)
      have HGV := Lib.hid (show w.grownBy V (some g) by rw [← hV]; exact grownBy_trans HG.out (grown_of_below (Below.refl _ _).drew _))
      rw [hV]
      clear hc0 hV HR HG
      go_upto_region 3 with fail
      have Hb_0 := Lib.hid (show rowN V.drew g = some (blA (chK (subW t) ws k) rest) from HRV.out)
      have HL_0 := Lib.hid (show Below V.heap.size V V.drew from (Below.refl _ _).drew)
      refine wp_region_noPanic ?_
      refine wp_region_held_drew (S := fun W => True) (by kernel_rfl) trivial (fun hHeld0 => ?_)
      obtain ⟨x0, hx0⟩ : ∃ X, V.drew = X := ⟨_, rfl⟩
      rw [hx0] at Hb_0 HL_0 ⊢
      clear hx0
      refine wpAnyH_take (i := 0) (oi := { dst := some 13, op := Op.move (Operand.tmp 0), type := 91, pos := "block.go:36", after := #[], guard := none }) (v := ?tk6) rfl (by kernel_rfl) (by kernel_rfl) (by kernel_rfl) (fun _ _ _ h => h) (Or.inl ⟨by rfl, ?tw6⟩) hHeld0 ?_
      case tw6 => (intro W hW; clear hW; first | (go_simp; done) | (go_simp; with_reducible rfl))
      try simp only [Act.put, List.setIfInBounds_toArray, List.set_cons_zero, List.set_cons_succ]
      refine wpAnyH_take (i := 1) (oi := { dst := some 14, op := Op.move (Operand.tmp 4), type := 3, pos := "block.go:36", after := #[], guard := none }) (v := ?tk7) rfl (by kernel_rfl) (by kernel_rfl) (by kernel_rfl) (fun _ _ _ h => h) (Or.inl ⟨by rfl, ?tw7⟩) hHeld0 ?_
      case tw7 => (intro W hW; clear hW; first | (go_simp; done) | (go_simp; with_reducible rfl))
      try simp only [Act.put, List.setIfInBounds_toArray, List.set_cons_zero, List.set_cons_succ]
      refine wpAnyH_take (i := 2) (oi := { dst := some 15, op := Op.move (Operand.tmp 1), type := 95, pos := "block.go:36", after := #[], guard := none }) (v := ?tk8) rfl (by kernel_rfl) (by kernel_rfl) (by kernel_rfl) (fun _ _ _ h => h) (Or.inl ⟨by rfl, ?tw8⟩) hHeld0 ?_
      case tw8 => (intro W hW; clear hW; first | (go_simp; done) | (go_simp; with_reducible rfl))
      try simp only [Act.put, List.setIfInBounds_toArray, List.set_cons_zero, List.set_cons_succ]
      refine wpAnyH_take (i := 3) (oi := { dst := some 16, op := Op.move (Operand.tmp 5), type := 70, pos := "block.go:36", after := #[], guard := none }) (v := ?tk9) rfl (by kernel_rfl) (by kernel_rfl) (by kernel_rfl) (fun _ _ _ h => h) (Or.inl ⟨by rfl, ?tw9⟩) hHeld0 ?_
      case tw9 => (intro W hW; clear hW; first | (go_simp; done) | (go_simp; with_reducible rfl))
      try simp only [Act.put, List.setIfInBounds_toArray, List.set_cons_zero, List.set_cons_succ]
      refine wpAnyH_take (i := 5) (oi := { dst := some 18, op := Op.nilCheck (Operand.tmp 13), type := 0, pos := "block.go:36", after := #[{ on := 0, ground := Ground.data }], guard := none }) (v := ?tk10) rfl (by kernel_rfl) (by kernel_rfl) (by kernel_rfl) (fun _ _ _ h => h) (Or.inl ⟨by rfl, ?tw10⟩) hHeld0 ?_
      case tw10 => (intro W hW; clear hW; first | (go_simp; done) | (go_simp; with_reducible rfl))
      try simp only [Act.put, List.setIfInBounds_toArray, List.set_cons_zero, List.set_cons_succ]
      refine wpAnyH_ready (rs := [4]) (by kernel_rfl) (by simp) ?_
      refine AllReadyH.cons (o := { dst := some 17, op := Op.call { callee := Callee.value (Operand.tmp 15), args := #[Operand.tmp 16], argTypes := #[70] }, type := 70, pos := "block.go:36", after := #[{ on := 2, ground := Ground.data }, { on := 3, ground := Ground.data }], guard := none }) rfl (fun K' hK => ?_) AllReadyH.nil
      go_simp
      refine ((HFY.out _ (grownBy_trans HGV.out (grown_of_below HL_0.out _)))).mono ?_
      rintro e x1 ⟨rfl, hb⟩
      have Hb_1 := Lib.hid (keptW hb Hb_0.out)
      have HL_1 := Lib.hid (HL_0.out.trans (hb.mono HL_0.out.size))
      clear hb
      refine hK.out _ _ trivial (fun hHeld1 => ?_)
      clear hK K'
      try simp only [Act.put, List.setIfInBounds_toArray, List.set_cons_zero, List.set_cons_succ]
      refine wpAnyH_take (i := 6) (oi := { dst := some 19, op := Op.indexAddr 72 (Operand.tmp 18) (Operand.tmp 14), type := 0, pos := "block.go:36", after := #[{ on := 5, ground := Ground.data }, { on := 1, ground := Ground.data }, { on := 0, ground := Ground.phase }, { on := 1, ground := Ground.phase }, { on := 2, ground := Ground.phase }, { on := 3, ground := Ground.phase }, { on := 4, ground := Ground.phase }], guard := none }) (v := ?tk11) rfl (by kernel_rfl) (by kernel_rfl) (by kernel_rfl) (fun _ _ _ h => h) (Or.inl ⟨by rfl, ?tw11⟩) hHeld1 ?_
      case tw11 => (intro W hW; clear hW; first | (go_simp; done) | (go_simp; with_reducible rfl))
      try simp only [Act.put, List.setIfInBounds_toArray, List.set_cons_zero, List.set_cons_succ]
      refine wpAnyH_ready (rs := [7]) (by kernel_rfl) (by simp) ?_
      refine AllReadyH.cons (o := { dst := none, op := Op.store 70 (Operand.tmp 19) (Operand.tmp 17), type := 0, pos := "block.go:36", after := #[{ on := 6, ground := Ground.data }, { on := 4, ground := Ground.data }, { on := 4, ground := Ground.chain }, { on := 0, ground := Ground.phase }, { on := 1, ground := Ground.phase }, { on := 2, ground := Ground.phase }, { on := 3, ground := Ground.phase }, { on := 4, ground := Ground.phase }], guard := none }) rfl (fun K' hK => ?_) AllReadyH.nil
      have hc1 := cell_bl (by rw [chK_len]; exact HS.out) Hb_1.out hlt
      have hf1 := (rowN_cell Hb_1.out).2 k
      go_simp
      obtain ⟨x2, hx2⟩ : ∃ X, x1.setCell ⟨g, k, none⟩ (.int .u32 (y : Nat)) = X := ⟨_, rfl⟩
      rw [hx2]
      have Hb_2 := Lib.hid (show rowN x2 g = some (blA (chK (subW t) ws (k + 1)) rest) by rw [← hx2, ← HSET.out]; exact row_bl (by rw [chK_len]; exact HS.out) Hb_1.out hlt)
      have HZ := Lib.hid (show w.grownBy x2 (some g) by rw [← hx2]; exact grownBy_trans (grownBy_trans HGV.out (grown_of_below HL_1.out _)) (grown_setCell _ _ _ _))
      clear hc1 hf1 hx2
      refine hK.out _ _ trivial (fun hHeld2 => ?_)
      clear hK K'
      try simp only [Act.put, List.setIfInBounds_toArray, List.set_cons_zero, List.set_cons_succ]
      refine wpAnyH_done (by kernel_rfl) ?_ _
      refine NoPanic.normal ?_
      skip
      go_wp2_with fail
      exact ⟨⟨k + 1, by omega, rfl, Hb_2.out, HZ.out⟩, by simp [intOf]; omega⟩
    · obtain rfl : k = 4 := by omega
      rw [chK_all (by rw [HS.out]; exact Nat.le_refl _)] at hr
      have HR2 := Lib.hid hr
      clear hr hgr
      go_wp2_with fail
      go_end0
      exact ⟨rfl, HR2.out, HG.out⟩
set_option maxRecDepth 100000 in
set_option maxHeartbeats 2000000 in
theorem change_mix (ws : List Nat) (rest : Array Value) (g : Nat) (hs : ws.length = 4) (hw : W32 ws) (w : World) (hrow : rowN w g = some (blA ws rest)) :
    Calls Tryd.prog 58 #[.pointer (some ⟨g, 0, none⟩), .func (.func 65) #[] #[]] w fun e w' => e = .returned (.tuple #[]) ∧ rowN w' g = some (blA (ws.map mixW) rest) ∧ w.grownBy w' (some g) := by
  have HS := Lib.hid hs
  have HW := Lib.hid hw
  have HI0 := Lib.hid (show ChRel mixW ws rest g w (.int .i64 0) w from ⟨0, by omega, rfl, by rw [chK_zero]; exact hrow, grownBy_refl _ _⟩)
  have HF := Lib.hid (fun (k : Nat) (W : World) (hg : w.grownBy W (some g)) => mix1_any _ (HW.out.get k) W)
  have HFL := Lib.hid (fun (k : Nat) => show mixW (ws.getD k 0) < 4294967296 from mixW_lt (HW.out.get k))
  clear hs hw hrow
  go_enter Tryd.func58, Tryd.ntmps58
  go_wp2_with fail
  go_loopw [7] (fun i wr => ChRel mixW ws rest g w i wr) (fun i _ => 4 - (intOf i).toNat)
  case atStart => exact HI0.out
  case round =>
    obtain ⟨k, hk, rfl, hr, hgr⟩ := hrel
    have HR := Lib.hid hr
    have HG := Lib.hid hgr
    by_cases hlt : k < 4
    · have hk4 : ((k : Nat) : Int) < 4 := by omega
      have hc0 : wr.drew.cell? ⟨g, k, none⟩ = some (.int .u32 (ws.getD k 0 : Nat)) := by
        have h := cell_bl (by rw [chK_len]; exact HS.out) hr hlt
        rw [chK_get (by rw [HS.out]; exact hlt)] at h; exact h
      have HFk := Lib.hid (HF.out k)
      have HSET := Lib.hid (chK_set (F := mixW) (l := ws) (k := k) (by rw [HS.out]; exact hlt))
      have hyl := HFL.out k
      obtain ⟨x, hx⟩ : ∃ x, ws.getD k 0 = x := ⟨_, rfl⟩
      rw [hx] at hc0 HFk HSET hyl
      obtain ⟨y, hy⟩ : ∃ y, mixW x = y := ⟨_, rfl⟩
      have HFY := Lib.hid (fun (W : World) (hg : w.grownBy W (some g)) => show Calls Tryd.prog 65 #[.int .u32 (x : Nat)] W (fun e w' => e = .returned (.int .u32 (y : Nat)) ∧ Below W.heap.size W w') from by
        have h := HFk.out W hg
        rw [hy] at h; exact h)
      rw [hy] at HSET hyl
      clear hr hgr hx hy HFk HF
      go_upto_region 2 with fail
      refine wp_region_still_lit (by kernel_rfl) (by kernel_rfl) ?_
      repeat still_step
      refine wpStill_nil ?_
      change Exit.then _ _ Exit.normal _ wr.drew
      obtain ⟨V, hV⟩ : ∃ V, wr.drew = V := ⟨_, rfl⟩
      have HRV := Lib.hid (show rowN V g = some (blA (chK mixW ws k) rest) by rw [← hV]; exact HR.out)
      have HGV := Lib.hid (show w.grownBy V (some g) by rw [← hV]; exact grownBy_trans HG.out (grown_of_below (Below.refl _ _).drew _))
      rw [hV]
      clear hc0 hV HR HG
      go_upto_region 3 with fail
      have Hb_0 := Lib.hid (show rowN V.drew g = some (blA (chK mixW ws k) rest) from HRV.out)
      have HL_0 := Lib.hid (show Below V.heap.size V V.drew from (Below.refl _ _).drew)
      refine wp_region_noPanic ?_
      refine wp_region_held_drew (S := fun W => True) (by kernel_rfl) trivial (fun hHeld0 => ?_)
      obtain ⟨x0, hx0⟩ : ∃ X, V.drew = X := ⟨_, rfl⟩
      rw [hx0] at Hb_0 HL_0 ⊢
      clear hx0
      refine wpAnyH_take (i := 0) (oi := { dst := some 13, op := Op.move (Operand.tmp 0), type := 91, pos := "block.go:36", after := #[], guard := none }) (v := ?tk12) rfl (by kernel_rfl) (by kernel_rfl) (by kernel_rfl) (fun _ _ _ h => h) (Or.inl ⟨by rfl, ?tw12⟩) hHeld0 ?_
      case tw12 => (intro W hW; clear hW; first | (go_simp; done) | (go_simp; with_reducible rfl))
      try simp only [Act.put, List.setIfInBounds_toArray, List.set_cons_zero, List.set_cons_succ]
      refine wpAnyH_take (i := 1) (oi := { dst := some 14, op := Op.move (Operand.tmp 4), type := 3, pos := "block.go:36", after := #[], guard := none }) (v := ?tk13) rfl (by kernel_rfl) (by kernel_rfl) (by kernel_rfl) (fun _ _ _ h => h) (Or.inl ⟨by rfl, ?tw13⟩) hHeld0 ?_
      case tw13 => (intro W hW; clear hW; first | (go_simp; done) | (go_simp; with_reducible rfl))
      try simp only [Act.put, List.setIfInBounds_toArray, List.set_cons_zero, List.set_cons_succ]
      refine wpAnyH_take (i := 2) (oi := { dst := some 15, op := Op.move (Operand.tmp 1), type := 95, pos := "block.go:36", after := #[], guard := none }) (v := ?tk14) rfl (by kernel_rfl) (by kernel_rfl) (by kernel_rfl) (fun _ _ _ h => h) (Or.inl ⟨by rfl, ?tw14⟩) hHeld0 ?_
      case tw14 => (intro W hW; clear hW; first | (go_simp; done) | (go_simp; with_reducible rfl))
      try simp only [Act.put, List.setIfInBounds_toArray, List.set_cons_zero, List.set_cons_succ]
      refine wpAnyH_take (i := 3) (oi := { dst := some 16, op := Op.move (Operand.tmp 5), type := 70, pos := "block.go:36", after := #[], guard := none }) (v := ?tk15) rfl (by kernel_rfl) (by kernel_rfl) (by kernel_rfl) (fun _ _ _ h => h) (Or.inl ⟨by rfl, ?tw15⟩) hHeld0 ?_
      case tw15 => (intro W hW; clear hW; first | (go_simp; done) | (go_simp; with_reducible rfl))
      try simp only [Act.put, List.setIfInBounds_toArray, List.set_cons_zero, List.set_cons_succ]
      refine wpAnyH_take (i := 5) (oi := { dst := some 18, op := Op.nilCheck (Operand.tmp 13), type := 0, pos := "block.go:36", after := #[{ on := 0, ground := Ground.data }], guard := none }) (v := ?tk16) rfl (by kernel_rfl) (by kernel_rfl) (by kernel_rfl) (fun _ _ _ h => h) (Or.inl ⟨by rfl, ?tw16⟩) hHeld0 ?_
      case tw16 => (intro W hW; clear hW; first | (go_simp; done) | (go_simp; with_reducible rfl))
      try simp only [Act.put, List.setIfInBounds_toArray, List.set_cons_zero, List.set_cons_succ]
      refine wpAnyH_ready (rs := [4]) (by kernel_rfl) (by simp) ?_
      refine AllReadyH.cons (o := { dst := some 17, op := Op.call { callee := Callee.value (Operand.tmp 15), args := #[Operand.tmp 16], argTypes := #[70] }, type := 70, pos := "block.go:36", after := #[{ on := 2, ground := Ground.data }, { on := 3, ground := Ground.data }], guard := none }) rfl (fun K' hK => ?_) AllReadyH.nil
      go_simp
      refine ((HFY.out _ (grownBy_trans HGV.out (grown_of_below HL_0.out _)))).mono ?_
      rintro e x1 ⟨rfl, hb⟩
      have Hb_1 := Lib.hid (keptW hb Hb_0.out)
      have HL_1 := Lib.hid (HL_0.out.trans (hb.mono HL_0.out.size))
      clear hb
      refine hK.out _ _ trivial (fun hHeld1 => ?_)
      clear hK K'
      try simp only [Act.put, List.setIfInBounds_toArray, List.set_cons_zero, List.set_cons_succ]
      refine wpAnyH_take (i := 6) (oi := { dst := some 19, op := Op.indexAddr 72 (Operand.tmp 18) (Operand.tmp 14), type := 0, pos := "block.go:36", after := #[{ on := 5, ground := Ground.data }, { on := 1, ground := Ground.data }, { on := 0, ground := Ground.phase }, { on := 1, ground := Ground.phase }, { on := 2, ground := Ground.phase }, { on := 3, ground := Ground.phase }, { on := 4, ground := Ground.phase }], guard := none }) (v := ?tk17) rfl (by kernel_rfl) (by kernel_rfl) (by kernel_rfl) (fun _ _ _ h => h) (Or.inl ⟨by rfl, ?tw17⟩) hHeld1 ?_
      case tw17 => (intro W hW; clear hW; first | (go_simp; done) | (go_simp; with_reducible rfl))
      try simp only [Act.put, List.setIfInBounds_toArray, List.set_cons_zero, List.set_cons_succ]
      refine wpAnyH_ready (rs := [7]) (by kernel_rfl) (by simp) ?_
      refine AllReadyH.cons (o := { dst := none, op := Op.store 70 (Operand.tmp 19) (Operand.tmp 17), type := 0, pos := "block.go:36", after := #[{ on := 6, ground := Ground.data }, { on := 4, ground := Ground.data }, { on := 4, ground := Ground.chain }, { on := 0, ground := Ground.phase }, { on := 1, ground := Ground.phase }, { on := 2, ground := Ground.phase }, { on := 3, ground := Ground.phase }, { on := 4, ground := Ground.phase }], guard := none }) rfl (fun K' hK => ?_) AllReadyH.nil
      have hc1 := cell_bl (by rw [chK_len]; exact HS.out) Hb_1.out hlt
      have hf1 := (rowN_cell Hb_1.out).2 k
      go_simp
      obtain ⟨x2, hx2⟩ : ∃ X, x1.setCell ⟨g, k, none⟩ (.int .u32 (y : Nat)) = X := ⟨_, rfl⟩
      rw [hx2]
      have Hb_2 := Lib.hid (show rowN x2 g = some (blA (chK mixW ws (k + 1)) rest) by rw [← hx2, ← HSET.out]; exact row_bl (by rw [chK_len]; exact HS.out) Hb_1.out hlt)
      have HZ := Lib.hid (show w.grownBy x2 (some g) by rw [← hx2]; exact grownBy_trans (grownBy_trans HGV.out (grown_of_below HL_1.out _)) (grown_setCell _ _ _ _))
      clear hc1 hf1 hx2
      refine hK.out _ _ trivial (fun hHeld2 => ?_)
      clear hK K'
      try simp only [Act.put, List.setIfInBounds_toArray, List.set_cons_zero, List.set_cons_succ]
      refine wpAnyH_done (by kernel_rfl) ?_ _
      refine NoPanic.normal ?_
      skip
      go_wp2_with fail
      exact ⟨⟨k + 1, by omega, rfl, Hb_2.out, HZ.out⟩, by simp [intOf]; omega⟩
    · obtain rfl : k = 4 := by omega
      rw [chK_all (by rw [HS.out]; exact Nat.le_refl _)] at hr
      have HR2 := Lib.hid hr
      clear hr hgr
      go_wp2_with fail
      go_end0
      exact ⟨rfl, HR2.out, HG.out⟩
set_option maxRecDepth 100000 in
set_option maxHeartbeats 2000000 in
theorem change_um (ws : List Nat) (rest : Array Value) (g : Nat) (hs : ws.length = 4) (hw : W32 ws) (w : World) (hrow : rowN w g = some (blA ws rest)) :
    Calls Tryd.prog 58 #[.pointer (some ⟨g, 0, none⟩), .func (.func 60) #[] #[]] w fun e w' => e = .returned (.tuple #[]) ∧ rowN w' g = some (blA (ws.map umW) rest) ∧ w.grownBy w' (some g) := by
  have HS := Lib.hid hs
  have HW := Lib.hid hw
  have HI0 := Lib.hid (show ChRel umW ws rest g w (.int .i64 0) w from ⟨0, by omega, rfl, by rw [chK_zero]; exact hrow, grownBy_refl _ _⟩)
  have HF := Lib.hid (fun (k : Nat) (W : World) (hg : w.grownBy W (some g)) => um1_any _ (HW.out.get k) W)
  have HFL := Lib.hid (fun (k : Nat) => show umW (ws.getD k 0) < 4294967296 from umW_lt (HW.out.get k))
  clear hs hw hrow
  go_enter Tryd.func58, Tryd.ntmps58
  go_wp2_with fail
  go_loopw [7] (fun i wr => ChRel umW ws rest g w i wr) (fun i _ => 4 - (intOf i).toNat)
  case atStart => exact HI0.out
  case round =>
    obtain ⟨k, hk, rfl, hr, hgr⟩ := hrel
    have HR := Lib.hid hr
    have HG := Lib.hid hgr
    by_cases hlt : k < 4
    · have hk4 : ((k : Nat) : Int) < 4 := by omega
      have hc0 : wr.drew.cell? ⟨g, k, none⟩ = some (.int .u32 (ws.getD k 0 : Nat)) := by
        have h := cell_bl (by rw [chK_len]; exact HS.out) hr hlt
        rw [chK_get (by rw [HS.out]; exact hlt)] at h; exact h
      have HFk := Lib.hid (HF.out k)
      have HSET := Lib.hid (chK_set (F := umW) (l := ws) (k := k) (by rw [HS.out]; exact hlt))
      have hyl := HFL.out k
      obtain ⟨x, hx⟩ : ∃ x, ws.getD k 0 = x := ⟨_, rfl⟩
      rw [hx] at hc0 HFk HSET hyl
      obtain ⟨y, hy⟩ : ∃ y, umW x = y := ⟨_, rfl⟩
      have HFY := Lib.hid (fun (W : World) (hg : w.grownBy W (some g)) => show Calls Tryd.prog 60 #[.int .u32 (x : Nat)] W (fun e w' => e = .returned (.int .u32 (y : Nat)) ∧ Below W.heap.size W w') from by
        have h := HFk.out W hg
        rw [hy] at h; exact h)
      rw [hy] at HSET hyl
      clear hr hgr hx hy HFk HF
      go_upto_region 2 with fail
      refine wp_region_still_lit (by kernel_rfl) (by kernel_rfl) ?_
      repeat still_step
      refine wpStill_nil ?_
      change Exit.then _ _ Exit.normal _ wr.drew
      obtain ⟨V, hV⟩ : ∃ V, wr.drew = V := ⟨_, rfl⟩
      have HRV := Lib.hid (show rowN V g = some (blA (chK umW ws k) rest) by rw [← hV]; exact HR.out)
      have HGV := Lib.hid (show w.grownBy V (some g) by rw [← hV]; exact grownBy_trans HG.out (grown_of_below (Below.refl _ _).drew _))
      rw [hV]
      clear hc0 hV HR HG
      go_upto_region 3 with fail
      have Hb_0 := Lib.hid (show rowN V.drew g = some (blA (chK umW ws k) rest) from HRV.out)
      have HL_0 := Lib.hid (show Below V.heap.size V V.drew from (Below.refl _ _).drew)
      refine wp_region_noPanic ?_
      refine wp_region_held_drew (S := fun W => True) (by kernel_rfl) trivial (fun hHeld0 => ?_)
      obtain ⟨x0, hx0⟩ : ∃ X, V.drew = X := ⟨_, rfl⟩
      rw [hx0] at Hb_0 HL_0 ⊢
      clear hx0
      refine wpAnyH_take (i := 0) (oi := { dst := some 13, op := Op.move (Operand.tmp 0), type := 91, pos := "block.go:36", after := #[], guard := none }) (v := ?tk18) rfl (by kernel_rfl) (by kernel_rfl) (by kernel_rfl) (fun _ _ _ h => h) (Or.inl ⟨by rfl, ?tw18⟩) hHeld0 ?_
      case tw18 => (intro W hW; clear hW; first | (go_simp; done) | (go_simp; with_reducible rfl))
      try simp only [Act.put, List.setIfInBounds_toArray, List.set_cons_zero, List.set_cons_succ]
      refine wpAnyH_take (i := 1) (oi := { dst := some 14, op := Op.move (Operand.tmp 4), type := 3, pos := "block.go:36", after := #[], guard := none }) (v := ?tk19) rfl (by kernel_rfl) (by kernel_rfl) (by kernel_rfl) (fun _ _ _ h => h) (Or.inl ⟨by rfl, ?tw19⟩) hHeld0 ?_
      case tw19 => (intro W hW; clear hW; first | (go_simp; done) | (go_simp; with_reducible rfl))
      try simp only [Act.put, List.setIfInBounds_toArray, List.set_cons_zero, List.set_cons_succ]
      refine wpAnyH_take (i := 2) (oi := { dst := some 15, op := Op.move (Operand.tmp 1), type := 95, pos := "block.go:36", after := #[], guard := none }) (v := ?tk20) rfl (by kernel_rfl) (by kernel_rfl) (by kernel_rfl) (fun _ _ _ h => h) (Or.inl ⟨by rfl, ?tw20⟩) hHeld0 ?_
      case tw20 => (intro W hW; clear hW; first | (go_simp; done) | (go_simp; with_reducible rfl))
      try simp only [Act.put, List.setIfInBounds_toArray, List.set_cons_zero, List.set_cons_succ]
      refine wpAnyH_take (i := 3) (oi := { dst := some 16, op := Op.move (Operand.tmp 5), type := 70, pos := "block.go:36", after := #[], guard := none }) (v := ?tk21) rfl (by kernel_rfl) (by kernel_rfl) (by kernel_rfl) (fun _ _ _ h => h) (Or.inl ⟨by rfl, ?tw21⟩) hHeld0 ?_
      case tw21 => (intro W hW; clear hW; first | (go_simp; done) | (go_simp; with_reducible rfl))
      try simp only [Act.put, List.setIfInBounds_toArray, List.set_cons_zero, List.set_cons_succ]
      refine wpAnyH_take (i := 5) (oi := { dst := some 18, op := Op.nilCheck (Operand.tmp 13), type := 0, pos := "block.go:36", after := #[{ on := 0, ground := Ground.data }], guard := none }) (v := ?tk22) rfl (by kernel_rfl) (by kernel_rfl) (by kernel_rfl) (fun _ _ _ h => h) (Or.inl ⟨by rfl, ?tw22⟩) hHeld0 ?_
      case tw22 => (intro W hW; clear hW; first | (go_simp; done) | (go_simp; with_reducible rfl))
      try simp only [Act.put, List.setIfInBounds_toArray, List.set_cons_zero, List.set_cons_succ]
      refine wpAnyH_ready (rs := [4]) (by kernel_rfl) (by simp) ?_
      refine AllReadyH.cons (o := { dst := some 17, op := Op.call { callee := Callee.value (Operand.tmp 15), args := #[Operand.tmp 16], argTypes := #[70] }, type := 70, pos := "block.go:36", after := #[{ on := 2, ground := Ground.data }, { on := 3, ground := Ground.data }], guard := none }) rfl (fun K' hK => ?_) AllReadyH.nil
      go_simp
      refine ((HFY.out _ (grownBy_trans HGV.out (grown_of_below HL_0.out _)))).mono ?_
      rintro e x1 ⟨rfl, hb⟩
      have Hb_1 := Lib.hid (keptW hb Hb_0.out)
      have HL_1 := Lib.hid (HL_0.out.trans (hb.mono HL_0.out.size))
      clear hb
      refine hK.out _ _ trivial (fun hHeld1 => ?_)
      clear hK K'
      try simp only [Act.put, List.setIfInBounds_toArray, List.set_cons_zero, List.set_cons_succ]
      refine wpAnyH_take (i := 6) (oi := { dst := some 19, op := Op.indexAddr 72 (Operand.tmp 18) (Operand.tmp 14), type := 0, pos := "block.go:36", after := #[{ on := 5, ground := Ground.data }, { on := 1, ground := Ground.data }, { on := 0, ground := Ground.phase }, { on := 1, ground := Ground.phase }, { on := 2, ground := Ground.phase }, { on := 3, ground := Ground.phase }, { on := 4, ground := Ground.phase }], guard := none }) (v := ?tk23) rfl (by kernel_rfl) (by kernel_rfl) (by kernel_rfl) (fun _ _ _ h => h) (Or.inl ⟨by rfl, ?tw23⟩) hHeld1 ?_
      case tw23 => (intro W hW; clear hW; first | (go_simp; done) | (go_simp; with_reducible rfl))
      try simp only [Act.put, List.setIfInBounds_toArray, List.set_cons_zero, List.set_cons_succ]
      refine wpAnyH_ready (rs := [7]) (by kernel_rfl) (by simp) ?_
      refine AllReadyH.cons (o := { dst := none, op := Op.store 70 (Operand.tmp 19) (Operand.tmp 17), type := 0, pos := "block.go:36", after := #[{ on := 6, ground := Ground.data }, { on := 4, ground := Ground.data }, { on := 4, ground := Ground.chain }, { on := 0, ground := Ground.phase }, { on := 1, ground := Ground.phase }, { on := 2, ground := Ground.phase }, { on := 3, ground := Ground.phase }, { on := 4, ground := Ground.phase }], guard := none }) rfl (fun K' hK => ?_) AllReadyH.nil
      have hc1 := cell_bl (by rw [chK_len]; exact HS.out) Hb_1.out hlt
      have hf1 := (rowN_cell Hb_1.out).2 k
      go_simp
      obtain ⟨x2, hx2⟩ : ∃ X, x1.setCell ⟨g, k, none⟩ (.int .u32 (y : Nat)) = X := ⟨_, rfl⟩
      rw [hx2]
      have Hb_2 := Lib.hid (show rowN x2 g = some (blA (chK umW ws (k + 1)) rest) by rw [← hx2, ← HSET.out]; exact row_bl (by rw [chK_len]; exact HS.out) Hb_1.out hlt)
      have HZ := Lib.hid (show w.grownBy x2 (some g) by rw [← hx2]; exact grownBy_trans (grownBy_trans HGV.out (grown_of_below HL_1.out _)) (grown_setCell _ _ _ _))
      clear hc1 hf1 hx2
      refine hK.out _ _ trivial (fun hHeld2 => ?_)
      clear hK K'
      try simp only [Act.put, List.setIfInBounds_toArray, List.set_cons_zero, List.set_cons_succ]
      refine wpAnyH_done (by kernel_rfl) ?_ _
      refine NoPanic.normal ?_
      skip
      go_wp2_with fail
      exact ⟨⟨k + 1, by omega, rfl, Hb_2.out, HZ.out⟩, by simp [intOf]; omega⟩
    · obtain rfl : k = 4 := by omega
      rw [chK_all (by rw [HS.out]; exact Nat.le_refl _)] at hr
      have HR2 := Lib.hid hr
      clear hr hgr
      go_wp2_with fail
      go_end0
      exact ⟨rfl, HR2.out, HG.out⟩
end Go.Proofs.YtjcdbjapadgdfaaDoor
