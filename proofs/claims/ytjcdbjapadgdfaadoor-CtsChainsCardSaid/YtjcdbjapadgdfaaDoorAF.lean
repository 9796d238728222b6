/- AES: a state's operations; run; add. -/
import Derived.Test.YtjcdbjapadgdfaaDoorAE
namespace Go.Proofs.YtjcdbjapadgdfaaDoor
open Go.RowKit

attribute [local go_sem] Oper.semAt_some
/-- What lies behind the words of a state: where its table is. -/
def stR (gt : Nat) : Array Value := #[.pointer (some ⟨gt, 0, none⟩)]
theorem st_cell {W : World} {g gt : Nat} {ws : List Nat} (hs : ws.length = 4) (h : rowN W g = some (blA ws (stR gt))) : W.cell? ⟨g, 4, none⟩ = some (.pointer (some ⟨gt, 0, none⟩)) := by
  rw [(rowN_cell h).1, show (4 : Nat) = 4 + 0 from rfl, blA_high hs]; rfl
/-- The table of the substitutes and their inverse. -/
def TT (gt : Nat) (W : World) : Prop := TabAt sb gt 0 W ∧ TabAt ib gt 256 W
theorem TT.kept {gt : Nat} {W V : World} (h : TT gt W) (hb : Below W.heap.size W V) : TT gt V := ⟨h.1.kept hb, h.2.kept hb⟩
theorem TT.grown {gt : Nat} {W V : World} {row : Option Nat} (h : TT gt W) (hb : W.grownBy V row) (hr : row ≠ some gt) : TT gt V := ⟨h.1.grown hb hr, h.2.grown hb hr⟩
set_option maxRecDepth 100000 in
set_option maxHeartbeats 1000000 in
theorem substitute_any (ws : List Nat) (g gt : Nat) (hs : ws.length = 4) (hw : W32 ws) (w : World) (hrow : rowN w g = some (blA ws (stR gt))) (hT : TT gt w) (hne : gt ≠ g) :
    Calls Tryd.prog 51 #[.pointer (some ⟨g, 0, none⟩)] w fun e w' => e = .returned (.tuple #[]) ∧ rowN w' g = some (blA (ws.map (subW sb)) (stR gt)) ∧ w.grownBy w' (some g) := by
  have hmf : ∀ (fn : Fn) (first cap : Array Value) (w : World), (Instr.makeFunc fn first cap).run Tryd.prog w = .ok (.func fn first cap) w := fun _ _ _ _ => rfl
  have HS := Lib.hid hs
  have HC := Lib.hid (fun (W : World) (hr : rowN W g = some (blA ws (stR gt))) (hb : Below w.heap.size w W) => change_sub ws (stR gt) g sb gt hs hw W hr ((hT.kept hb).1) hne)
  have Hb_0 := Lib.hid (show rowN w.drew g = some (blA ws (stR gt)) from hrow)
  have Hp_0 := Lib.hid (show w.drew.cell? ⟨g, 4, none⟩ = some (.pointer (some ⟨gt, 0, none⟩)) from st_cell hs hrow)
  have HL_0 := Lib.hid (show Below w.heap.size w w.drew from (Below.refl _ _).drew)
  clear hs hw hrow hT hne
  go_enter Tryd.func51, Tryd.ntmps51
  go_upto_region 0 with fail
  refine wp_region_noPanic ?_
  refine wp_region_held_drew (S := fun W => W.cell? ⟨g, 4, none⟩ = some (.pointer (some ⟨gt, 0, none⟩))) (by kernel_rfl) Hp_0.out (fun hHeld0 => ?_)
  obtain ⟨x0, hx0⟩ : ∃ X, w.drew = X := ⟨_, rfl⟩
  rw [hx0] at Hb_0 Hp_0 HL_0 hHeld0 ⊢
  clear hx0
  refine wpAnyH_take (i := 0) (oi := { dst := some 2, op := Op.move (Operand.tmp 0), type := 63, pos := "block.go:98", after := #[], guard := none }) (v := ?tk0) rfl (by kernel_rfl) (by kernel_rfl) (by kernel_rfl) (fun _ _ _ h => h) (Or.inl ⟨by rfl, ?tw0⟩) hHeld0 ?_
  case tw0 => (intro W hW; clear hW; first | (go_simp; done) | (go_simp; with_reducible rfl))
  try simp only [Act.put, List.setIfInBounds_toArray, List.set_cons_zero, List.set_cons_succ]
  refine wpAnyH_take (i := 1) (oi := { dst := some 3, op := Op.nilCheck (Operand.tmp 2), type := 0, pos := "block.go:98", after := #[{ on := 0, ground := Ground.data }], guard := none }) (v := ?tk1) rfl (by kernel_rfl) (by kernel_rfl) (by kernel_rfl) (fun _ _ _ h => h) (Or.inl ⟨by rfl, ?tw1⟩) hHeld0 ?_
  case tw1 => (intro W hW; clear hW; first | (go_simp; done) | (go_simp; with_reducible rfl))
  try simp only [Act.put, List.setIfInBounds_toArray, List.set_cons_zero, List.set_cons_succ]
  refine wpAnyH_take (i := 2) (oi := { dst := some 4, op := Op.fieldAddr 82 (Operand.tmp 3) 0, type := 0, pos := "block.go:98", after := #[{ on := 1, ground := Ground.data }], guard := none }) (v := ?tk2) rfl (by kernel_rfl) (by kernel_rfl) (by kernel_rfl) (fun _ _ _ h => h) (Or.inl ⟨by rfl, ?tw2⟩) hHeld0 ?_
  case tw2 => (intro W hW; clear hW; first | (go_simp; done) | (go_simp; with_reducible rfl))
  try simp only [Act.put, List.setIfInBounds_toArray, List.set_cons_zero, List.set_cons_succ]
  refine wpAnyH_take (i := 3) (oi := { dst := some 5, op := Op.move (Operand.tmp 0), type := 63, pos := "block.go:98", after := #[], guard := none }) (v := ?tk3) rfl (by kernel_rfl) (by kernel_rfl) (by kernel_rfl) (fun _ _ _ h => h) (Or.inl ⟨by rfl, ?tw3⟩) hHeld0 ?_
  case tw3 => (intro W hW; clear hW; first | (go_simp; done) | (go_simp; with_reducible rfl))
  try simp only [Act.put, List.setIfInBounds_toArray, List.set_cons_zero, List.set_cons_succ]
  refine wpAnyH_take (i := 4) (oi := { dst := some 6, op := Op.nilCheck (Operand.tmp 5), type := 0, pos := "block.go:98", after := #[{ on := 3, ground := Ground.data }], guard := none }) (v := ?tk4) rfl (by kernel_rfl) (by kernel_rfl) (by kernel_rfl) (fun _ _ _ h => h) (Or.inl ⟨by rfl, ?tw4⟩) hHeld0 ?_
  case tw4 => (intro W hW; clear hW; first | (go_simp; done) | (go_simp; with_reducible rfl))
  try simp only [Act.put, List.setIfInBounds_toArray, List.set_cons_zero, List.set_cons_succ]
  refine wpAnyH_take (i := 5) (oi := { dst := some 7, op := Op.fieldAddr 82 (Operand.tmp 6) 1, type := 0, pos := "block.go:98", after := #[{ on := 4, ground := Ground.data }], guard := none }) (v := ?tk5) rfl (by kernel_rfl) (by kernel_rfl) (by kernel_rfl) (fun _ _ _ h => h) (Or.inl ⟨by rfl, ?tw5⟩) hHeld0 ?_
  case tw5 => (intro W hW; clear hW; first | (go_simp; done) | (go_simp; with_reducible rfl))
  try simp only [Act.put, List.setIfInBounds_toArray, List.set_cons_zero, List.set_cons_succ]
  refine wpAnyH_take (i := 6) (oi := { dst := some 8, op := Op.load 80 (Operand.tmp 7), type := 80, pos := "block.go:98", after := #[{ on := 5, ground := Ground.data }], guard := none }) (v := .pointer (some ⟨gt, 0, none⟩)) rfl (by kernel_rfl) (by kernel_rfl) (by kernel_rfl) (fun _ _ _ h => h) (Or.inl ⟨by rfl, fun W hW => ?_⟩) hHeld0 ?_
  · (have hW1 := hW; clear hW; go_simp)
  try simp only [Act.put, List.setIfInBounds_toArray, List.set_cons_zero, List.set_cons_succ]
  refine wpAnyH_take (i := 7) (oi := { dst := some 9, op := Op.makeFunc (Fn.func 63) #[Operand.tmp 8] #[], type := 95, pos := "block.go:98", after := #[{ on := 6, ground := Ground.data }], guard := none }) (v := ?tk6) rfl (by kernel_rfl) (by kernel_rfl) (by kernel_rfl) (fun _ _ _ h => h) (Or.inl ⟨by rfl, ?tw6⟩) hHeld0 ?_
  case tw6 => (intro W hW; clear hW; first | (go_simp; done) | (go_simp; with_reducible rfl))
  try simp only [Act.put, List.setIfInBounds_toArray, List.set_cons_zero, List.set_cons_succ]
  refine wpAnyH_ready (rs := [8]) (by kernel_rfl) (by simp) ?_
  refine AllReadyH.cons (o := { dst := some 10, op := Op.call { callee := Callee.value (Operand.func 58), args := #[Operand.tmp 4, Operand.tmp 9], argTypes := #[72, 95] }, type := 0, pos := "block.go:98", after := #[{ on := 2, ground := Ground.data }, { on := 7, ground := Ground.data }], guard := none }) rfl (fun K' hK => ?_) AllReadyH.nil
  go_simp
  refine ((HC.out _ Hb_0.out HL_0.out)).mono ?_
  rintro e x1 ⟨rfl, h1, h2⟩
  have Hb_1 := Lib.hid h1
  have HG := Lib.hid h2
  have Hp_1 := Lib.hid (st_cell (by rw [List.length_map]; exact HS.out) h1)
  clear h1 h2
  refine hK.out _ _ Hp_1.out (fun hHeld1 => ?_)
  clear hK K'
  try simp only [Act.put, List.setIfInBounds_toArray, List.set_cons_zero, List.set_cons_succ]
  refine wpAnyH_done (by kernel_rfl) ?_ _
  refine NoPanic.normal ?_
  go_wp2_with fail
  go_end0
  exact ⟨rfl, Hb_1.out, grownBy_trans (grown_of_below HL_0.out _) HG.out⟩
set_option maxRecDepth 100000 in
set_option maxHeartbeats 1000000 in
theorem restore_any (ws : List Nat) (g gt : Nat) (hs : ws.length = 4) (hw : W32 ws) (w : World) (hrow : rowN w g = some (blA ws (stR gt))) (hT : TT gt w) (hne : gt ≠ g) :
    Calls Tryd.prog 43 #[.pointer (some ⟨g, 0, none⟩)] w fun e w' => e = .returned (.tuple #[]) ∧ rowN w' g = some (blA (ws.map (subW ib)) (stR gt)) ∧ w.grownBy w' (some g) := by
  have hmf : ∀ (fn : Fn) (first cap : Array Value) (w : World), (Instr.makeFunc fn first cap).run Tryd.prog w = .ok (.func fn first cap) w := fun _ _ _ _ => rfl
  have HS := Lib.hid hs
  have HC := Lib.hid (fun (W : World) (hr : rowN W g = some (blA ws (stR gt))) (hb : Below w.heap.size w W) => change_org ws (stR gt) g ib gt hs hw W hr ((hT.kept hb).2) hne)
  have Hb_0 := Lib.hid (show rowN w.drew g = some (blA ws (stR gt)) from hrow)
  have Hp_0 := Lib.hid (show w.drew.cell? ⟨g, 4, none⟩ = some (.pointer (some ⟨gt, 0, none⟩)) from st_cell hs hrow)
  have HL_0 := Lib.hid (show Below w.heap.size w w.drew from (Below.refl _ _).drew)
  clear hs hw hrow hT hne
  go_enter Tryd.func43, Tryd.ntmps43
  go_upto_region 0 with fail
  refine wp_region_noPanic ?_
  refine wp_region_held_drew (S := fun W => W.cell? ⟨g, 4, none⟩ = some (.pointer (some ⟨gt, 0, none⟩))) (by kernel_rfl) Hp_0.out (fun hHeld0 => ?_)
  obtain ⟨x0, hx0⟩ : ∃ X, w.drew = X := ⟨_, rfl⟩
  rw [hx0] at Hb_0 Hp_0 HL_0 hHeld0 ⊢
  clear hx0
  refine wpAnyH_take (i := 0) (oi := { dst := some 2, op := Op.move (Operand.tmp 0), type := 63, pos := "block.go:101", after := #[], guard := none }) (v := ?tk7) rfl (by kernel_rfl) (by kernel_rfl) (by kernel_rfl) (fun _ _ _ h => h) (Or.inl ⟨by rfl, ?tw7⟩) hHeld0 ?_
  case tw7 => (intro W hW; clear hW; first | (go_simp; done) | (go_simp; with_reducible rfl))
  try simp only [Act.put, List.setIfInBounds_toArray, List.set_cons_zero, List.set_cons_succ]
  refine wpAnyH_take (i := 1) (oi := { dst := some 3, op := Op.nilCheck (Operand.tmp 2), type := 0, pos := "block.go:101", after := #[{ on := 0, ground := Ground.data }], guard := none }) (v := ?tk8) rfl (by kernel_rfl) (by kernel_rfl) (by kernel_rfl) (fun _ _ _ h => h) (Or.inl ⟨by rfl, ?tw8⟩) hHeld0 ?_
  case tw8 => (intro W hW; clear hW; first | (go_simp; done) | (go_simp; with_reducible rfl))
  try simp only [Act.put, List.setIfInBounds_toArray, List.set_cons_zero, List.set_cons_succ]
  refine wpAnyH_take (i := 2) (oi := { dst := some 4, op := Op.fieldAddr 82 (Operand.tmp 3) 0, type := 0, pos := "block.go:101", after := #[{ on := 1, ground := Ground.data }], guard := none }) (v := ?tk9) rfl (by kernel_rfl) (by kernel_rfl) (by kernel_rfl) (fun _ _ _ h => h) (Or.inl ⟨by rfl, ?tw9⟩) hHeld0 ?_
  case tw9 => (intro W hW; clear hW; first | (go_simp; done) | (go_simp; with_reducible rfl))
  try simp only [Act.put, List.setIfInBounds_toArray, List.set_cons_zero, List.set_cons_succ]
  refine wpAnyH_take (i := 3) (oi := { dst := some 5, op := Op.move (Operand.tmp 0), type := 63, pos := "block.go:101", after := #[], guard := none }) (v := ?tk10) rfl (by kernel_rfl) (by kernel_rfl) (by kernel_rfl) (fun _ _ _ h => h) (Or.inl ⟨by rfl, ?tw10⟩) hHeld0 ?_
  case tw10 => (intro W hW; clear hW; first | (go_simp; done) | (go_simp; with_reducible rfl))
  try simp only [Act.put, List.setIfInBounds_toArray, List.set_cons_zero, List.set_cons_succ]
  refine wpAnyH_take (i := 4) (oi := { dst := some 6, op := Op.nilCheck (Operand.tmp 5), type := 0, pos := "block.go:101", after := #[{ on := 3, ground := Ground.data }], guard := none }) (v := ?tk11) rfl (by kernel_rfl) (by kernel_rfl) (by kernel_rfl) (fun _ _ _ h => h) (Or.inl ⟨by rfl, ?tw11⟩) hHeld0 ?_
  case tw11 => (intro W hW; clear hW; first | (go_simp; done) | (go_simp; with_reducible rfl))
  try simp only [Act.put, List.setIfInBounds_toArray, List.set_cons_zero, List.set_cons_succ]
  refine wpAnyH_take (i := 5) (oi := { dst := some 7, op := Op.fieldAddr 82 (Operand.tmp 6) 1, type := 0, pos := "block.go:101", after := #[{ on := 4, ground := Ground.data }], guard := none }) (v := ?tk12) rfl (by kernel_rfl) (by kernel_rfl) (by kernel_rfl) (fun _ _ _ h => h) (Or.inl ⟨by rfl, ?tw12⟩) hHeld0 ?_
  case tw12 => (intro W hW; clear hW; first | (go_simp; done) | (go_simp; with_reducible rfl))
  try simp only [Act.put, List.setIfInBounds_toArray, List.set_cons_zero, List.set_cons_succ]
  refine wpAnyH_take (i := 6) (oi := { dst := some 8, op := Op.load 80 (Operand.tmp 7), type := 80, pos := "block.go:101", after := #[{ on := 5, ground := Ground.data }], guard := none }) (v := .pointer (some ⟨gt, 0, none⟩)) rfl (by kernel_rfl) (by kernel_rfl) (by kernel_rfl) (fun _ _ _ h => h) (Or.inl ⟨by rfl, fun W hW => ?_⟩) hHeld0 ?_
  · (have hW1 := hW; clear hW; go_simp)
  try simp only [Act.put, List.setIfInBounds_toArray, List.set_cons_zero, List.set_cons_succ]
  refine wpAnyH_take (i := 7) (oi := { dst := some 9, op := Op.makeFunc (Fn.func 59) #[Operand.tmp 8] #[], type := 95, pos := "block.go:101", after := #[{ on := 6, ground := Ground.data }], guard := none }) (v := ?tk13) rfl (by kernel_rfl) (by kernel_rfl) (by kernel_rfl) (fun _ _ _ h => h) (Or.inl ⟨by rfl, ?tw13⟩) hHeld0 ?_
  case tw13 => (intro W hW; clear hW; first | (go_simp; done) | (go_simp; with_reducible rfl))
  try simp only [Act.put, List.setIfInBounds_toArray, List.set_cons_zero, List.set_cons_succ]
  refine wpAnyH_ready (rs := [8]) (by kernel_rfl) (by simp) ?_
  refine AllReadyH.cons (o := { dst := some 10, op := Op.call { callee := Callee.value (Operand.func 58), args := #[Operand.tmp 4, Operand.tmp 9], argTypes := #[72, 95] }, type := 0, pos := "block.go:101", after := #[{ on := 2, ground := Ground.data }, { on := 7, ground := Ground.data }], guard := none }) rfl (fun K' hK => ?_) AllReadyH.nil
  go_simp
  refine ((HC.out _ Hb_0.out HL_0.out)).mono ?_
  rintro e x1 ⟨rfl, h1, h2⟩
  have Hb_1 := Lib.hid h1
  have HG := Lib.hid h2
  have Hp_1 := Lib.hid (st_cell (by rw [List.length_map]; exact HS.out) h1)
  clear h1 h2
  refine hK.out _ _ Hp_1.out (fun hHeld1 => ?_)
  clear hK K'
  try simp only [Act.put, List.setIfInBounds_toArray, List.set_cons_zero, List.set_cons_succ]
  refine wpAnyH_done (by kernel_rfl) ?_ _
  refine NoPanic.normal ?_
  go_wp2_with fail
  go_end0
  exact ⟨rfl, Hb_1.out, grownBy_trans (grown_of_below HL_0.out _) HG.out⟩

def xorL (ws ks : List Nat) : List Nat := List.zipWith (· ^^^ ·) ws ks
theorem xorL_len {ws ks : List Nat} (h : ws.length = 4) (h2 : ks.length = 4) : (xorL ws ks).length = 4 := by unfold xorL; rw [List.length_zipWith, h, h2]; rfl
theorem xorL_get {ws ks : List Nat} {i : Nat} (h1 : i < ws.length) (h2 : i < ks.length) : (xorL ws ks).getD i 0 = ws.getD i 0 ^^^ ks.getD i 0 := by
  unfold xorL; simp [List.getD, List.getElem?_zipWith, h1, h2]
theorem xorL_w32 {ws ks : List Nat} (h : W32 ws) (h2 : W32 ks) : W32 (xorL ws ks) := by
  intro x hx
  unfold xorL at hx
  obtain ⟨i, hi, rfl⟩ := List.mem_iff_getElem.1 hx
  rw [List.getElem_zipWith]
  exact xor32 (h _ (List.getElem_mem _)) (h2 _ (List.getElem_mem _))
def AdRel (ws ks : List Nat) (rest : Array Value) (g gk : Nat) (w : World) (i : Value) (wr : World) : Prop :=
  ∃ k : Nat, k ≤ 4 ∧ i = .int .i64 (k : Nat) ∧ rowN wr g = some (blA (gK (xorL ws ks) ws k) rest) ∧ rowN wr gk = some (arr .u32 ks) ∧ w.grownBy wr (some g)
set_option maxRecDepth 100000 in
set_option maxHeartbeats 1000000 in
theorem add_any (ws ks : List Nat) (rest : Array Value) (g : Nat) (hs : ws.length = 4) (hw : W32 ws) (hks : ks.length = 4) (hkw : W32 ks) (w : World) (hrow : rowN w g = some (blA ws rest)) :
    Calls Tryd.prog 40 #[.pointer (some ⟨g, 0, none⟩), .agg (arr .u32 ks)] w fun e w' => e = .returned (.tuple #[]) ∧ rowN w' g = some (blA (xorL ws ks) rest) ∧ w.grownBy w' (some g) := by
  have HS := Lib.hid hs
  have HW := Lib.hid hw
  have HKS := Lib.hid hks
  have HKW := Lib.hid hkw
  have hgl := rowN_lt hrow
  obtain ⟨V, hV⟩ : ∃ V, w.alloc (.cells (arr .u32 ks) 72) = V := ⟨_, rfl⟩
  have hbV : Below w.heap.size w V := by rw [← hV]; exact (Below.refl _ w).alloc (Nat.le_refl _) _
  have hrk : rowN V w.heap.size = some (arr .u32 ks) := by rw [← hV, rowN_alloc, if_pos rfl]
  have HI0 := Lib.hid (show AdRel ws ks rest g w.heap.size w (.int .i64 0) V from ⟨0, by omega, rfl, by rw [gK_zero]; exact keptW hbV hrow, hrk, grown_of_below hbV _⟩)
  have sz4 : (arr .u32 ks).size = 4 := by rw [arr_size, hks]
  have HN4 := Lib.hid (show (xorL ws ks).length = ws.length by rw [xorL_len hs hks, hs])
  obtain ⟨gk, hg1⟩ : ∃ g, w.heap.size = g := ⟨_, rfl⟩
  rw [hg1] at HI0 hgl
  have HGK := Lib.hid hg1
  clear hs hw hks hkw hrow hbV hrk hg1
  go_enter Tryd.func40, Tryd.ntmps40
  go_wp2_with fail
  try rw [hV]
  try rw [HGK.out]
  clear hV
  go_loopw [5] (fun i wr => AdRel ws ks rest g gk w i wr) (fun i _ => 4 - (intOf i).toNat)
  case atStart => exact HI0.out
  case round =>
    obtain ⟨k, hk, rfl, hr, hrk, hgr⟩ := hrel
    have HR := Lib.hid hr
    have HRK := Lib.hid hrk
    have HG := Lib.hid hgr
    by_cases hlt : k < 4
    · have hk4 : ((k : Nat) : Int) < 4 := by omega
      have hkl : (gK (xorL ws ks) ws k).length = 4 := by rw [gK_len HN4.out, HS.out]
      have hc0 : wr.drew.cell? ⟨g, k, none⟩ = some (.int .u32 (ws.getD k 0 : Nat)) := by
        have h := cell_bl hkl hr hlt
        rw [gK_get HN4.out (by rw [HS.out]; exact hlt)] at h; exact h
      have hc1 : wr.drew.cell? ⟨gk, k, none⟩ = some (.int .u32 (ks.getD k 0 : Nat)) := cell_arr hrk (by rw [HKS.out]; exact hlt)
      have HSET := Lib.hid (gK_set (A := xorL ws ks) (B := ws) (k := k) HN4.out (by rw [HS.out]; exact hlt))
      rw [xorL_get (by rw [HS.out]; exact hlt) (by rw [HKS.out]; exact hlt)] at HSET
      have y0 := HW.out.get k
      have y1 := HKW.out.get k
      obtain ⟨x, hx⟩ : ∃ x, ws.getD k 0 = x := ⟨_, rfl⟩
      obtain ⟨y, hy⟩ : ∃ x, ks.getD k 0 = x := ⟨_, rfl⟩
      rw [hx] at hc0 HSET y0
      rw [hy] at hc1 HSET y1
      have hxx := bits_xor32 x y y0 y1
      obtain ⟨z, hz⟩ : ∃ z, x ^^^ y = z := ⟨_, rfl⟩
      rw [hz] at hxx HSET
      clear hr hrk hgr hx hy hz y0 y1 hkl
      go_upto_region 4 with fail
      refine wp_region_still_tail 11 (by kernel_rfl) (by kernel_rfl) ?_
      simp only [List.take_succ_cons, List.take_zero, List.drop_succ_cons, List.drop_zero]
      repeat still_step
      refine wpStill_nil ?_
      change wpList _ _ _ _ _ wr.drew
      obtain ⟨Y, hY⟩ : ∃ Y, wr.drew = Y := ⟨_, rfl⟩
      have HRY := Lib.hid (show rowN Y g = some (blA (gK (xorL ws ks) ws k) rest) by rw [← hY]; exact HR.out)
      have HRKY := Lib.hid (show rowN Y gk = some (arr .u32 ks) by rw [← hY]; exact HRK.out)
      have HGY := Lib.hid (show w.grownBy Y (some g) by rw [← hY]; exact grownBy_trans HG.out (grown_of_below (Below.refl _ _).drew _))
      rw [hY]
      clear hY hc0 hc1 HR HRK HG
      have hd1 := cell_bl (by rw [gK_len HN4.out, HS.out]) HRY.out hlt
      have hf1 := (rowN_cell HRY.out).2 k
      go_wp2_with fail
      refine ⟨⟨k + 1, by omega, rfl, ?_, row_cell0 HRKY.out (by omega), grownBy_trans HGY.out (grown_setCell _ _ _ _)⟩, by simp [intOf]; omega⟩
      rw [← HSET.out]
      exact row_bl (by rw [gK_len HN4.out, HS.out]) HRY.out hlt
    · obtain rfl : k = 4 := by omega
      rw [gK_all (by rw [HN4.out, HS.out]; exact Nat.le_refl _) (by rw [HS.out]; exact Nat.le_refl _)] at hr
      have HR2 := Lib.hid hr
      clear hr hgr hrk
      go_wp2_with fail
      go_end0
      exact ⟨rfl, HR2.out, HG.out⟩

theorem sub_lw {ws : List Nat} (hs : ws.length = 4) (_ : W32 ws) : (ws.map (subW sb)).length = 4 ∧ W32 (ws.map (subW sb)) := ⟨by rw [List.length_map]; exact hs, fun y hy => by obtain ⟨x, _, rfl⟩ := List.mem_map.1 hy; exact subW_lt sb_256 x⟩
theorem restore_lw {ws : List Nat} (hs : ws.length = 4) (_ : W32 ws) : (ws.map (subW ib)).length = 4 ∧ W32 (ws.map (subW ib)) := ⟨by rw [List.length_map]; exact hs, fun y hy => by obtain ⟨x, _, rfl⟩ := List.mem_map.1 hy; exact subW_lt ib_256 x⟩
theorem shift_lw {ws : List Nat} (_ : ws.length = 4) (hw : W32 ws) : (shL 1 ws).length = 4 ∧ W32 (shL 1 ws) := ⟨rfl, shL_w32 hw 1⟩
theorem unshift_lw {ws : List Nat} (_ : ws.length = 4) (hw : W32 ws) : (shL 3 ws).length = 4 ∧ W32 (shL 3 ws) := ⟨rfl, shL_w32 hw 3⟩
theorem mix_lw {ws : List Nat} (hs : ws.length = 4) (hw : W32 ws) : (ws.map mixW).length = 4 ∧ W32 (ws.map mixW) := ⟨by rw [List.length_map]; exact hs, map_w32 (fun _ => mixW_lt) hw⟩
theorem unmix_lw {ws : List Nat} (hs : ws.length = 4) (hw : W32 ws) : (umL ws).length = 4 ∧ W32 (umL ws) := ⟨by unfold umL; rw [List.length_map, List.length_map]; exact hs, map_w32 (fun _ => mixW_lt) (map_w32 (fun _ => umW_lt) hw)⟩
set_option maxRecDepth 100000 in
set_option maxHeartbeats 2000000 in
theorem run_enc3 (ws : List Nat) (g gt gl : Nat) (hs : ws.length = 4) (hw : W32 ws) (w : World) (hrow : rowN w g = some (blA ws (stR gt))) (hT : TT gt w) (hne : gt ≠ g) (hl : rowN w gl = some #[.func (.func 51) #[.pointer (some ⟨g, 0, none⟩)] #[], .func (.func 52) #[.pointer (some ⟨g, 0, none⟩)] #[], .func (.func 53) #[.pointer (some ⟨g, 0, none⟩)] #[]]) (hng : gl ≠ g) :
    Calls Tryd.prog 41 #[.slice (some ⟨gl, 0, none⟩) 3 3] w fun e w' => e = .returned (.tuple #[]) ∧ rowN w' g = some (blA ((shL 1 (ws.map (subW sb))).map mixW) (stR gt)) ∧ w.grownBy w' (some g) := by
  have HT := Lib.hid (fun (W : World) (h : w.grownBy W (some g)) => hT.grown h (fun e => hne (by injection e with e; exact e.symm)))
  have HLL := Lib.hid (fun (W : World) (h : w.grownBy W (some g)) => (grownBy_rowN h (rowN_lt hl) (fun e => hng (by injection e))).trans hl)
  have H0 := Lib.hid (fun (W : World) (h : w.grownBy W (some g)) (hr : rowN W g = some (blA ws (stR gt))) => substitute_any ws g gt hs hw W hr (HT.out W h) hne)
  have L0 := sub_lw hs hw
  have H1 := Lib.hid (fun (W : World) (h : w.grownBy W (some g)) (hr : rowN W g = some (blA (ws.map (subW sb)) (stR gt))) => shift_any (ws.map (subW sb)) (stR gt) g L0.1 L0.2 W hr)
  have L1 := shift_lw L0.1 L0.2
  have H2 := Lib.hid (fun (W : World) (h : w.grownBy W (some g)) (hr : rowN W g = some (blA (shL 1 (ws.map (subW sb))) (stR gt))) => mix_any (shL 1 (ws.map (subW sb))) (stR gt) g L1.1 L1.2 W hr)
  have L2 := mix_lw L1.1 L1.2
  have HR0 := Lib.hid hrow
  have HG0 := Lib.hid (grownBy_refl w (some g))
  have hcl0 := (rowN_cell hl).1 0
  clear hrow hT hl L0 L1 L2
  go_enter Tryd.func41, Tryd.ntmps41
  go_wp2_with fail
  refine wp_loop_rounds 5 ?_
  rw [rounds_succ]
  go_wp2_with fail
  refine (H0.out _ HG0.out HR0.out).mono ?_
  rintro e w1 ⟨rfl, h1, h2⟩
  have HR1 := Lib.hid h1
  have HG1 := Lib.hid (grownBy_trans HG0.out h2)
  have hcl1 := (rowN_cell (HLL.out _ HG1.out)).1 1
  clear h1 h2 hcl0
  go_wp2_with fail
  rw [rounds_succ]
  go_wp2_with fail
  refine (H1.out _ HG1.out HR1.out).mono ?_
  rintro e w2 ⟨rfl, h1, h2⟩
  have HR2 := Lib.hid h1
  have HG2 := Lib.hid (grownBy_trans HG1.out h2)
  have hcl2 := (rowN_cell (HLL.out _ HG2.out)).1 2
  clear h1 h2 hcl1
  go_wp2_with fail
  rw [rounds_succ]
  go_wp2_with fail
  refine (H2.out _ HG2.out HR2.out).mono ?_
  rintro e w3 ⟨rfl, h1, h2⟩
  have HR3 := Lib.hid h1
  have HG3 := Lib.hid (grownBy_trans HG2.out h2)
  clear h1 h2 hcl2
  go_wp2_with fail
  rw [rounds_succ]
  go_wp2_with fail
  go_end0
  exact ⟨rfl, HR3.out, HG3.out⟩
set_option maxRecDepth 100000 in
set_option maxHeartbeats 2000000 in
theorem run_enc2 (ws : List Nat) (g gt gl : Nat) (hs : ws.length = 4) (hw : W32 ws) (w : World) (hrow : rowN w g = some (blA ws (stR gt))) (hT : TT gt w) (hne : gt ≠ g) (hl : rowN w gl = some #[.func (.func 51) #[.pointer (some ⟨g, 0, none⟩)] #[], .func (.func 52) #[.pointer (some ⟨g, 0, none⟩)] #[]]) (hng : gl ≠ g) :
    Calls Tryd.prog 41 #[.slice (some ⟨gl, 0, none⟩) 2 2] w fun e w' => e = .returned (.tuple #[]) ∧ rowN w' g = some (blA (shL 1 (ws.map (subW sb))) (stR gt)) ∧ w.grownBy w' (some g) := by
  have HT := Lib.hid (fun (W : World) (h : w.grownBy W (some g)) => hT.grown h (fun e => hne (by injection e with e; exact e.symm)))
  have HLL := Lib.hid (fun (W : World) (h : w.grownBy W (some g)) => (grownBy_rowN h (rowN_lt hl) (fun e => hng (by injection e))).trans hl)
  have H0 := Lib.hid (fun (W : World) (h : w.grownBy W (some g)) (hr : rowN W g = some (blA ws (stR gt))) => substitute_any ws g gt hs hw W hr (HT.out W h) hne)
  have L0 := sub_lw hs hw
  have H1 := Lib.hid (fun (W : World) (h : w.grownBy W (some g)) (hr : rowN W g = some (blA (ws.map (subW sb)) (stR gt))) => shift_any (ws.map (subW sb)) (stR gt) g L0.1 L0.2 W hr)
  have L1 := shift_lw L0.1 L0.2
  have HR0 := Lib.hid hrow
  have HG0 := Lib.hid (grownBy_refl w (some g))
  have hcl0 := (rowN_cell hl).1 0
  clear hrow hT hl L0 L1
  go_enter Tryd.func41, Tryd.ntmps41
  go_wp2_with fail
  refine wp_loop_rounds 4 ?_
  rw [rounds_succ]
  go_wp2_with fail
  refine (H0.out _ HG0.out HR0.out).mono ?_
  rintro e w1 ⟨rfl, h1, h2⟩
  have HR1 := Lib.hid h1
  have HG1 := Lib.hid (grownBy_trans HG0.out h2)
  have hcl1 := (rowN_cell (HLL.out _ HG1.out)).1 1
  clear h1 h2 hcl0
  go_wp2_with fail
  rw [rounds_succ]
  go_wp2_with fail
  refine (H1.out _ HG1.out HR1.out).mono ?_
  rintro e w2 ⟨rfl, h1, h2⟩
  have HR2 := Lib.hid h1
  have HG2 := Lib.hid (grownBy_trans HG1.out h2)
  clear h1 h2 hcl1
  go_wp2_with fail
  rw [rounds_succ]
  go_wp2_with fail
  go_end0
  exact ⟨rfl, HR2.out, HG2.out⟩
set_option maxRecDepth 100000 in
set_option maxHeartbeats 2000000 in
theorem run_dec3 (ws : List Nat) (g gt gl : Nat) (hs : ws.length = 4) (hw : W32 ws) (w : World) (hrow : rowN w g = some (blA ws (stR gt))) (hT : TT gt w) (hne : gt ≠ g) (hl : rowN w gl = some #[.func (.func 44) #[.pointer (some ⟨g, 0, none⟩)] #[], .func (.func 42) #[.pointer (some ⟨g, 0, none⟩)] #[], .func (.func 43) #[.pointer (some ⟨g, 0, none⟩)] #[]]) (hng : gl ≠ g) :
    Calls Tryd.prog 41 #[.slice (some ⟨gl, 0, none⟩) 3 3] w fun e w' => e = .returned (.tuple #[]) ∧ rowN w' g = some (blA ((shL 3 (umL ws)).map (subW ib)) (stR gt)) ∧ w.grownBy w' (some g) := by
  have HT := Lib.hid (fun (W : World) (h : w.grownBy W (some g)) => hT.grown h (fun e => hne (by injection e with e; exact e.symm)))
  have HLL := Lib.hid (fun (W : World) (h : w.grownBy W (some g)) => (grownBy_rowN h (rowN_lt hl) (fun e => hng (by injection e))).trans hl)
  have H0 := Lib.hid (fun (W : World) (h : w.grownBy W (some g)) (hr : rowN W g = some (blA ws (stR gt))) => unmix_any ws (stR gt) g hs hw W hr)
  have L0 := unmix_lw hs hw
  have H1 := Lib.hid (fun (W : World) (h : w.grownBy W (some g)) (hr : rowN W g = some (blA (umL ws) (stR gt))) => unshift_any (umL ws) (stR gt) g L0.1 L0.2 W hr)
  have L1 := unshift_lw L0.1 L0.2
  have H2 := Lib.hid (fun (W : World) (h : w.grownBy W (some g)) (hr : rowN W g = some (blA (shL 3 (umL ws)) (stR gt))) => restore_any (shL 3 (umL ws)) g gt L1.1 L1.2 W hr (HT.out W h) hne)
  have L2 := restore_lw L1.1 L1.2
  have HR0 := Lib.hid hrow
  have HG0 := Lib.hid (grownBy_refl w (some g))
  have hcl0 := (rowN_cell hl).1 0
  clear hrow hT hl L0 L1 L2
  go_enter Tryd.func41, Tryd.ntmps41
  go_wp2_with fail
  refine wp_loop_rounds 5 ?_
  rw [rounds_succ]
  go_wp2_with fail
  refine (H0.out _ HG0.out HR0.out).mono ?_
  rintro e w1 ⟨rfl, h1, h2⟩
  have HR1 := Lib.hid h1
  have HG1 := Lib.hid (grownBy_trans HG0.out h2)
  have hcl1 := (rowN_cell (HLL.out _ HG1.out)).1 1
  clear h1 h2 hcl0
  go_wp2_with fail
  rw [rounds_succ]
  go_wp2_with fail
  refine (H1.out _ HG1.out HR1.out).mono ?_
  rintro e w2 ⟨rfl, h1, h2⟩
  have HR2 := Lib.hid h1
  have HG2 := Lib.hid (grownBy_trans HG1.out h2)
  have hcl2 := (rowN_cell (HLL.out _ HG2.out)).1 2
  clear h1 h2 hcl1
  go_wp2_with fail
  rw [rounds_succ]
  go_wp2_with fail
  refine (H2.out _ HG2.out HR2.out).mono ?_
  rintro e w3 ⟨rfl, h1, h2⟩
  have HR3 := Lib.hid h1
  have HG3 := Lib.hid (grownBy_trans HG2.out h2)
  clear h1 h2 hcl2
  go_wp2_with fail
  rw [rounds_succ]
  go_wp2_with fail
  go_end0
  exact ⟨rfl, HR3.out, HG3.out⟩
set_option maxRecDepth 100000 in
set_option maxHeartbeats 2000000 in
theorem run_dec2 (ws : List Nat) (g gt gl : Nat) (hs : ws.length = 4) (hw : W32 ws) (w : World) (hrow : rowN w g = some (blA ws (stR gt))) (hT : TT gt w) (hne : gt ≠ g) (hl : rowN w gl = some #[.func (.func 42) #[.pointer (some ⟨g, 0, none⟩)] #[], .func (.func 43) #[.pointer (some ⟨g, 0, none⟩)] #[]]) (hng : gl ≠ g) :
    Calls Tryd.prog 41 #[.slice (some ⟨gl, 0, none⟩) 2 2] w fun e w' => e = .returned (.tuple #[]) ∧ rowN w' g = some (blA ((shL 3 ws).map (subW ib)) (stR gt)) ∧ w.grownBy w' (some g) := by
  have HT := Lib.hid (fun (W : World) (h : w.grownBy W (some g)) => hT.grown h (fun e => hne (by injection e with e; exact e.symm)))
  have HLL := Lib.hid (fun (W : World) (h : w.grownBy W (some g)) => (grownBy_rowN h (rowN_lt hl) (fun e => hng (by injection e))).trans hl)
  have H0 := Lib.hid (fun (W : World) (h : w.grownBy W (some g)) (hr : rowN W g = some (blA ws (stR gt))) => unshift_any ws (stR gt) g hs hw W hr)
  have L0 := unshift_lw hs hw
  have H1 := Lib.hid (fun (W : World) (h : w.grownBy W (some g)) (hr : rowN W g = some (blA (shL 3 ws) (stR gt))) => restore_any (shL 3 ws) g gt L0.1 L0.2 W hr (HT.out W h) hne)
  have L1 := restore_lw L0.1 L0.2
  have HR0 := Lib.hid hrow
  have HG0 := Lib.hid (grownBy_refl w (some g))
  have hcl0 := (rowN_cell hl).1 0
  clear hrow hT hl L0 L1
  go_enter Tryd.func41, Tryd.ntmps41
  go_wp2_with fail
  refine wp_loop_rounds 4 ?_
  rw [rounds_succ]
  go_wp2_with fail
  refine (H0.out _ HG0.out HR0.out).mono ?_
  rintro e w1 ⟨rfl, h1, h2⟩
  have HR1 := Lib.hid h1
  have HG1 := Lib.hid (grownBy_trans HG0.out h2)
  have hcl1 := (rowN_cell (HLL.out _ HG1.out)).1 1
  clear h1 h2 hcl0
  go_wp2_with fail
  rw [rounds_succ]
  go_wp2_with fail
  refine (H1.out _ HG1.out HR1.out).mono ?_
  rintro e w2 ⟨rfl, h1, h2⟩
  have HR2 := Lib.hid h1
  have HG2 := Lib.hid (grownBy_trans HG1.out h2)
  clear h1 h2 hcl1
  go_wp2_with fail
  rw [rounds_succ]
  go_wp2_with fail
  go_end0
  exact ⟨rfl, HR2.out, HG2.out⟩
end Go.Proofs.YtjcdbjapadgdfaaDoor
