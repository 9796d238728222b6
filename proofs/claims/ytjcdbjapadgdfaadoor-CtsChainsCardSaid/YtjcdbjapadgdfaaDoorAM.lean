/- AES: isCipher, begin, roundKeys, Backward. -/
import Derived.Test.YtjcdbjapadgdfaaDoorAL
namespace Go.Proofs.YtjcdbjapadgdfaaDoor
open Go.RowKit Go.Shelf

attribute [local go_sem] Oper.semAt_some
set_option maxRecDepth 100000 in
theorem filled_yes (g : Nat) (w : World) (h : w.cell? ⟨g, 0, none⟩ = some (.int .u8 99)) : Calls Tryd.prog 66 #[.pointer (some ⟨g, 0, none⟩)] w fun e w' => e = .returned (.bool true) ∧ w = w' := by
  go_enter Tryd.func66, Tryd.ntmps66
  go_wp2_with fail
  go_ret
  exact ⟨rfl, rfl⟩
set_option maxRecDepth 100000 in
theorem filled_no (g : Nat) (w : World) (h : w.cell? ⟨g, 0, none⟩ = some (.int .u8 0)) : Calls Tryd.prog 66 #[.pointer (some ⟨g, 0, none⟩)] w fun e w' => e = .returned (.bool false) ∧ w = w' := by
  go_enter Tryd.func66, Tryd.ntmps66
  go_wp2_with fail
  go_ret
  exact ⟨rfl, rfl⟩
set_option maxRecDepth 100000 in
theorem isC_yes (g : Nat) (w : World) (h : w.cell? ⟨g, 0, none⟩ = some (.int .u8 99)) : Calls Tryd.prog 55 #[.pointer (some ⟨g, 0, none⟩)] w fun e w' => e = .returned (.bool true) ∧ w = w' := by
  have H := Lib.hid (filled_yes g w h)
  clear h
  go_enter Tryd.func55, Tryd.ntmps55
  go_wp2_with fail
  refine H.out.mono ?_
  rintro e w1 ⟨rfl, rfl⟩
  go_wp2_with fail
  go_ret
  exact ⟨rfl, rfl⟩
set_option maxRecDepth 100000 in
theorem isC_no (g : Nat) (w : World) (h : w.cell? ⟨g, 0, none⟩ = some (.int .u8 0)) : Calls Tryd.prog 55 #[.pointer (some ⟨g, 0, none⟩)] w fun e w' => e = .returned (.bool false) ∧ w = w' := by
  have H := Lib.hid (filled_no g w h)
  clear h
  go_enter Tryd.func55, Tryd.ntmps55
  go_wp2_with fail
  refine H.out.mono ?_
  rintro e w1 ⟨rfl, rfl⟩
  go_wp2_with fail
  go_ret
  exact ⟨rfl, rfl⟩
set_option maxRecDepth 100000 in
theorem isC_nil (w : World) : Calls Tryd.prog 55 #[.pointer none] w fun e w' => e = .returned (.bool false) ∧ w = w' := by
  have hq : ∀ w, (binOp BinOp.neq 51 (.pointer none) (.pointer none)).run Tryd.prog w = .ok (.bool false) w := fun w => by kernel_rfl
  go_enter Tryd.func55, Tryd.ntmps55
  go_wp2_with fail
  go_ret
  exact ⟨rfl, rfl⟩
theorem cph_99 {W : World} {g : Nat} {K : List Nat} (h : rowN W g = some (cphA TB K)) : W.cell? ⟨g, 0, none⟩ = some (.int .u8 99) := by
  rw [(rowN_cell h).1, cph_lo TB_len K (by omega)]
  have e : TB.getD 0 0 = 99 := by decide +kernel
  rw [e]; rfl

/-! Building a state. -/
def stNew (x y : Value) : Sem Next := do pure (.value (← Instr.build 82 #[(0, x), (1, y)]))
@[go_sem ↓] theorem execOp_build59 (ρ : Operand → Value) (dst : Option Tmp) (x y : Operand) (ty : TypeId) (pos : String) (after : Array Edge) (guard : Option (Nat × Bool)) :
    execOp ρ { dst, op := .build 82 #[(0, x), (1, y)], type := ty, pos, after, guard } = stNew (ρ x) (ρ y) := by simp [execOp, stNew]
theorem built59 (a b c d g : Nat) : Tryd.prog.built 82 [(0, .agg (arr .u32 [a, b, c, d])), (1, .pointer (some ⟨g, 0, none⟩))] = some (blA [a, b, c, d] (stR g)) := by kernel_rfl
theorem run_stNew (ws : List Nat) (hs : ws.length = 4) (g : Nat) (W : World) : (stNew (.agg (arr .u32 ws)) (.pointer (some ⟨g, 0, none⟩))).run Tryd.prog W = .ok (.value (.agg (blA ws (stR g)))) W := by
  match ws, hs with
  | [a, b, c, d], _ =>
    have hr := run_build (P := Tryd.prog) W 82 #[(0, .agg (arr .u32 [a, b, c, d])), (1, .pointer (some ⟨g, 0, none⟩))] _ (built59 a b c d g)
    simp only [stNew, Sem.run_bind, hr, Result.andThen_ok, Sem.run_pure]

set_option maxRecDepth 100000 in
theorem begin_not (p s : Value) (w : World) (h : Calls Tryd.prog 55 #[p] w fun e w' => e = .returned (.bool false) ∧ w = w') : Calls Tryd.prog 38 #[p, s] w fun e w' => e = .returned (.tuple #[.pointer none, .int .i64 1]) ∧ w = w' := by
  have H := Lib.hid h
  clear h
  go_enter Tryd.func38, Tryd.ntmps38
  go_wp2_with fail
  refine H.out.mono ?_
  rintro e w1 ⟨rfl, rfl⟩
  go_wp2_with fail
  go_ret2
  exact ⟨rfl, rfl⟩
set_option maxRecDepth 100000 in
theorem begin_len (g : Nat) (zs : List Nat) (s : Value) (hl : zs.length ≠ 16) (w : World) (h : w.cell? ⟨g, 0, none⟩ = some (.int .u8 99)) (hB : BytesAt zs s w) : Calls Tryd.prog 38 #[.pointer (some ⟨g, 0, none⟩), s] w fun e w' => e = .returned (.tuple #[.pointer none, .int .i64 2]) ∧ w = w' := by
  have H := Lib.hid (isC_yes g w h)
  obtain ⟨_, a, c, rfl, _, _⟩ := hB
  obtain ⟨L, hL⟩ : ∃ L, zs.length = L := ⟨_, rfl⟩
  rw [hL] at hl ⊢
  have hi : ¬ ((L : Nat) : Int) = 16 := by omega
  clear h hL
  go_enter Tryd.func38, Tryd.ntmps38
  go_wp2_with fail
  refine H.out.mono ?_
  rintro e w1 ⟨rfl, rfl⟩
  go_wp2_with fail
  go_ret2
  exact ⟨rfl, rfl⟩
set_option maxRecDepth 100000 in
set_option maxHeartbeats 1000000 in
theorem begin_any (g : Nat) (K zs : List Nat) (s : Value) (hl : zs.length = 16) (w : World) (hg : rowN w g = some (cphA TB K)) (hB : BytesAt zs s w) :
    Calls Tryd.prog 38 #[.pointer (some ⟨g, 0, none⟩), s] w fun e w' => ∃ gs, e = .returned (.tuple #[.pointer (some ⟨gs, 0, none⟩), .int .i64 0]) ∧ w.heap.size ≤ gs ∧ rowN w' gs = some (blA (wordsL zs) (stR g)) ∧ Below w.heap.size w w' := by
  have H := Lib.hid (isC_yes g w (cph_99 hg))
  have HBO := Lib.hid (fun (W : World) (hb : Below w.heap.size w W) => blockOf_any zs s hl W (hB.kept hb))
  have hnew := fun W => run_stNew (wordsL zs) rfl g W
  have szs : (blA (wordsL zs) (stR g)).size = 5 := by rw [blA_size rfl]; rfl
  obtain ⟨_, a, c, rfl, _, _⟩ := hB
  rw [hl] at HBO ⊢
  have HL_0 := Lib.hid (show Below w.heap.size w w.drew from (Below.refl _ _).drew)
  clear hg hl
  go_enter Tryd.func38, Tryd.ntmps38
  go_wp2_with fail
  refine H.out.mono ?_
  rintro e w1 ⟨rfl, rfl⟩
  go_upto_region 5 with fail
  refine wp_region_noPanic ?_
  refine wp_region_held_drew (S := fun W => True) (by kernel_rfl) trivial (fun hHeld0 => ?_)
  obtain ⟨x0, hx0⟩ : ∃ X, w.drew = X := ⟨_, rfl⟩
  rw [hx0] at  HL_0 ⊢
  clear hx0
  refine wpAnyH_take (i := 0) (oi := { dst := some 12, op := Op.move (Operand.tmp 1), type := 22, pos := "aes.go:97", after := #[], guard := none }) (v := ?tk0) rfl (by kernel_rfl) (by kernel_rfl) (by kernel_rfl) (fun _ _ _ h => h) (Or.inl ⟨by rfl, ?tw0⟩) hHeld0 ?_
  case tw0 => (intro W hW; clear hW; first | (go_simp; done) | (go_simp; with_reducible rfl))
  try simp only [Act.put, List.setIfInBounds_toArray, List.set_cons_zero, List.set_cons_succ]
  refine wpAnyH_take (i := 2) (oi := { dst := some 14, op := Op.move (Operand.tmp 0), type := 51, pos := "aes.go:97", after := #[], guard := none }) (v := ?tk1) rfl (by kernel_rfl) (by kernel_rfl) (by kernel_rfl) (fun _ _ _ h => h) (Or.inl ⟨by rfl, ?tw1⟩) hHeld0 ?_
  case tw1 => (intro W hW; clear hW; first | (go_simp; done) | (go_simp; with_reducible rfl))
  try simp only [Act.put, List.setIfInBounds_toArray, List.set_cons_zero, List.set_cons_succ]
  refine wpAnyH_take (i := 3) (oi := { dst := some 15, op := Op.nilCheck (Operand.tmp 14), type := 0, pos := "aes.go:97", after := #[{ on := 2, ground := Ground.data }], guard := none }) (v := ?tk2) rfl (by kernel_rfl) (by kernel_rfl) (by kernel_rfl) (fun _ _ _ h => h) (Or.inl ⟨by rfl, ?tw2⟩) hHeld0 ?_
  case tw2 => (intro W hW; clear hW; first | (go_simp; done) | (go_simp; with_reducible rfl))
  try simp only [Act.put, List.setIfInBounds_toArray, List.set_cons_zero, List.set_cons_succ]
  refine wpAnyH_take (i := 4) (oi := { dst := some 16, op := Op.fieldAddr 78 (Operand.tmp 15) 0, type := 0, pos := "aes.go:97", after := #[{ on := 3, ground := Ground.data }], guard := none }) (v := ?tk3) rfl (by kernel_rfl) (by kernel_rfl) (by kernel_rfl) (fun _ _ _ h => h) (Or.inl ⟨by rfl, ?tw3⟩) hHeld0 ?_
  case tw3 => (intro W hW; clear hW; first | (go_simp; done) | (go_simp; with_reducible rfl))
  try simp only [Act.put, List.setIfInBounds_toArray, List.set_cons_zero, List.set_cons_succ]
  refine wpAnyH_ready (rs := [1]) (by kernel_rfl) (by simp) ?_
  refine AllReadyH.cons (o := { dst := some 13, op := Op.call { callee := Callee.value (Operand.func 49), args := #[Operand.tmp 12], argTypes := #[22] }, type := 72, pos := "aes.go:97", after := #[{ on := 0, ground := Ground.data }], guard := none }) rfl (fun K' hK => ?_) AllReadyH.nil
  go_simp
  refine ((HBO.out _ HL_0.out)).mono ?_
  rintro e x1 ⟨rfl, hb⟩
  have HL_1 := Lib.hid (HL_0.out.trans (hb.mono HL_0.out.size))
  clear hb
  refine hK.out _ _ trivial (fun hHeld1 => ?_)
  clear hK K'
  try simp only [Act.put, List.setIfInBounds_toArray, List.set_cons_zero, List.set_cons_succ]
  refine wpAnyH_take (i := 5) (oi := { dst := some 17, op := Op.build 82 #[(0, Operand.tmp 13), (1, Operand.tmp 16)], type := 82, pos := "aes.go:97", after := #[{ on := 1, ground := Ground.data }, { on := 4, ground := Ground.data }], guard := none }) (v := ?tk4) rfl (by kernel_rfl) (by kernel_rfl) (by kernel_rfl) (fun _ _ _ h => h) (Or.inl ⟨by rfl, ?tw4⟩) hHeld1 ?_
  case tw4 => (intro W hW; clear hW; first | (go_simp; done) | (go_simp; with_reducible rfl))
  try simp only [Act.put, List.setIfInBounds_toArray, List.set_cons_zero, List.set_cons_succ]
  refine wpAnyH_ready (rs := [6]) (by kernel_rfl) (by simp) ?_
  refine AllReadyH.cons (o := { dst := some 18, op := Op.box 82 (Operand.tmp 17), type := 63, pos := "aes.go:97", after := #[{ on := 5, ground := Ground.data }], guard := none }) rfl (fun K' hK => ?_) AllReadyH.nil
  go_simp
  obtain ⟨x2, hx2⟩ : ∃ X, x1.alloc (.cells (blA (wordsL zs) (stR g)) 82) = X := ⟨_, rfl⟩
  have hb : Below x1.heap.size x1 x2 := by rw [← hx2]; exact (Below.refl _ _).alloc (Nat.le_refl _) _
  have HL_2 := Lib.hid (HL_1.out.trans (hb.mono HL_1.out.size))
  have hnew : rowN x2 x1.heap.size = some (blA (wordsL zs) (stR g)) := by rw [← hx2, rowN_alloc, if_pos rfl]
  have hgen : w.heap.size ≤ x1.heap.size := HL_1.out.size
  rw [hx2]
  obtain ⟨gn, hgn⟩ : ∃ g, x1.heap.size = g := ⟨_, rfl⟩
  rw [hgn] at hnew hgen ⊢
  have Hn_2 := Lib.hid hnew
  clear hb hnew hgn hx2
  refine hK.out _ _ trivial (fun hHeld2 => ?_)
  clear hK K'
  try simp only [Act.put, List.setIfInBounds_toArray, List.set_cons_zero, List.set_cons_succ]
  refine wpAnyH_take (i := 7) (oi := { dst := some 4, op := Op.assign (Operand.tmp 18), type := 63, pos := "aes.go:97", after := #[{ on := 6, ground := Ground.data }, { on := 1, ground := Ground.chain }, { on := 0, ground := Ground.phase }, { on := 1, ground := Ground.phase }, { on := 2, ground := Ground.phase }, { on := 3, ground := Ground.phase }, { on := 4, ground := Ground.phase }, { on := 5, ground := Ground.phase }, { on := 6, ground := Ground.phase }], guard := none }) (v := ?tk5) rfl (by kernel_rfl) (by kernel_rfl) (by kernel_rfl) (fun _ _ _ h => h) (Or.inl ⟨by rfl, ?tw5⟩) hHeld2 ?_
  case tw5 => (intro W hW; clear hW; first | (go_simp; done) | (go_simp; with_reducible rfl))
  try simp only [Act.put, List.setIfInBounds_toArray, List.set_cons_zero, List.set_cons_succ]
  refine wpAnyH_take (i := 8) (oi := { dst := some 5, op := Op.assign (Operand.const (Value.int IntKind.i64 0)), type := 24, pos := "aes.go:97", after := #[{ on := 7, ground := Ground.chain }, { on := 0, ground := Ground.phase }, { on := 1, ground := Ground.phase }, { on := 2, ground := Ground.phase }, { on := 3, ground := Ground.phase }, { on := 4, ground := Ground.phase }, { on := 5, ground := Ground.phase }, { on := 6, ground := Ground.phase }, { on := 7, ground := Ground.phase }], guard := none }) (v := ?tk6) rfl (by kernel_rfl) (by kernel_rfl) (by kernel_rfl) (fun _ _ _ h => h) (Or.inl ⟨by rfl, ?tw6⟩) hHeld2 ?_
  case tw6 => (intro W hW; clear hW; first | (go_simp; done) | (go_simp; with_reducible rfl))
  try simp only [Act.put, List.setIfInBounds_toArray, List.set_cons_zero, List.set_cons_succ]
  refine wpAnyH_done (by kernel_rfl) ?_ _
  refine NoPanic.normal ?_
  have HN := Lib.hid Hn_2.out
  have HLE := Lib.hid HL_2.out
  go_wp2_with fail
  go_ret2
  exact ⟨gn, rfl, hgen, HN.out, HLE.out⟩
theorem arr38 : Tryd.prog.arrayLen 76 = 11 ∧ Tryd.prog.elem 76 = 72 ∧ Tryd.prog.underlying 76 = some (.array (Tryd.prog.arrayLen 76) (Tryd.prog.elem 76)) := ⟨by kernel_rfl, by kernel_rfl, by kernel_rfl⟩
theorem run_slice38_all (g o : Nat) (W : World) : (Instr.sliceAt 76 (.pointer (some ⟨g, o, none⟩)) none none none).run Tryd.prog W = .ok (.slice (some ⟨g, o, none⟩) 11 11) W := by
  obtain ⟨h1, h2, h3⟩ := arr38
  have h4 : (sizeOf 72).run Tryd.prog W = .ok 4 W := by kernel_rfl
  rw [run_sliceAt_array_all W 76 _ h3, h2, h1, h4]
  simp [slicedAt, Addr.add]
set_option maxRecDepth 100000 in
theorem all33 (g o : Nat) (w : World) : Calls Tryd.prog 64 #[.slice (some ⟨g, o, none⟩) 11 11] w fun e w' => e = .returned (.func (.func 70) #[] #[.pointer (some ⟨w.heap.size, 0, none⟩)]) ∧ w' = w.alloc (.cells #[.slice (some ⟨g, o, none⟩) 11 11] 69) := by
  have hmf : ∀ (fn : Fn) (first cap : Array Value) (w : World), (Instr.makeFunc fn first cap).run Tryd.prog w = .ok (.func fn first cap) w := fun _ _ _ _ => rfl
  go_enter Tryd.func64, Tryd.ntmps64
  go_wp2
  go_ret
  exact ⟨rfl, rfl⟩
set_option maxRecDepth 100000 in
theorem back23 (g o : Nat) (w : World) : Calls Tryd.prog 39 #[.slice (some ⟨g, o, none⟩) 11 11] w fun e w' => e = .returned (.func (.func 56) #[] #[.pointer (some ⟨w.heap.size, 0, none⟩)]) ∧ w' = w.alloc (.cells #[.slice (some ⟨g, o, none⟩) 11 11] 69) := by
  have hmf : ∀ (fn : Fn) (first cap : Array Value) (w : World), (Instr.makeFunc fn first cap).run Tryd.prog w = .ok (.func fn first cap) w := fun _ _ _ _ => rfl
  go_enter Tryd.func39, Tryd.ntmps39
  go_wp2
  go_ret
  exact ⟨rfl, rfl⟩
set_option maxRecDepth 100000 in
theorem roundKeys_any (g : Nat) (w : World) : Calls Tryd.prog 50 #[.pointer (some ⟨g, 0, none⟩)] w fun e w' => e = .returned (.func (.func 70) #[] #[.pointer (some ⟨w.heap.size, 0, none⟩)]) ∧ w' = w.alloc (.cells #[.slice (some ⟨g, 512, none⟩) 11 11] 69) := by
  have hsl := fun W => run_slice38_all g 512 W
  go_enter Tryd.func50, Tryd.ntmps50
  go_wp2_with fail
  refine (all33 g 512 w).mono ?_
  rintro e w1 ⟨rfl, rfl⟩
  go_wp2_with fail
  go_ret
  exact ⟨rfl, rfl⟩
end Go.Proofs.YtjcdbjapadgdfaaDoor
