/- ShaNone walked. -/
import Derived.Test.YtjpieoepokakgaaDoorTJ
namespace Go.Proofs.YtjpieoepokakgaaDoor
open Go.RowKit Go.Shelf

set_option maxRecDepth 100000 in
set_option maxHeartbeats 2000000 in
theorem none_walk (zs : List Nat) (s : Value) (w : World) (hB : BytesAt zs s w) (hnil : Nil0 s) (hK : KG w) (hG : RG w) :
    Calls Tryd.prog 7 #[s] w fun e w' => e = .returned (.bool true) ∧ Below w.heap.size w w' := by
  have HB := Lib.hid hB
  have HN := Lib.hid hnil
  have HK := Lib.hid hK
  have HG := Lib.hid hG
  obtain ⟨a, c, rfl⟩ : ∃ a c, s = .slice a zs.length c := by obtain ⟨_, a, c, e, _⟩ := hB; exact ⟨a, c, e⟩
  have hlz := hB.lt
  obtain ⟨L, hl⟩ : ∃ L, zs.length = L := ⟨_, rfl⟩
  have HL := Lib.hid hl
  rw [hl] at HB HN hlz ⊢
  have HLT := Lib.hid hlz
  clear hB hnil hK hG hl hlz
  by_cases hbig : 100 < L
  · have hb : (100 : Int) < ((L : Nat) : Int) := by omega
    go_enter Tryd.func7, Tryd.ntmps7
    go_wp2_with fail
    refine (known_any _ HK.out).mono ?_
    rintro e w1 ⟨rfl, hb1⟩
    have HB1 := Lib.hid hb1
    clear hb1
    go_wp2_with fail
    go_ret
    exact ⟨rfl, HB1.out⟩
  · have hb : ¬ (100 : Int) < ((L : Nat) : Int) := by omega
    have hq : ∀ w, (binOp BinOp.eql 39 (.pointer none) (.pointer none)).run Tryd.prog w = .ok (.bool true) w := fun w => by kernel_rfl
    have hnil0 : BytesAt [] (.slice none 0 0) w := ⟨fun x hx => (by cases hx), none, 0, rfl, Nat.le_refl _, .inl rfl⟩
    have HNL := Lib.hid hnil0
    have hnn : Nil0 (.slice none 0 0) := fun L' c' e => by injection e with h1 h2 h3; omega
    have HR0 := Lib.hid (fun W (h1 : RG W) (h2 : BytesAt [] (.slice none 0 0) W) => rsum_any [] (.slice none 0 0) (by simp) W h1 h2 hnn)
    have HR1 := Lib.hid (fun W (h1 : RG W) (h2 : BytesAt zs (.slice a L c) W) => rsum_any zs (.slice a L c) (by rw [HL.out]; omega) W h1 h2 HN.out)
    have HSN := Lib.hid (fun W (h : KG W) => hsum_nil W h)
    have HWN := Lib.hid (fun W => write_nil (.slice a L c) W)
    have HW0 := Lib.hid (fun g W (h1 : HashAt [] g W) (hk : KG W) (hg : g ≠ 1) (hb : BytesAt [] (.slice none 0 0) W) => write_at g [] [] (.slice none 0 0) W h1 (by simp) hk hg hb (fun j h0 _ => by simp at h0))
    have HW1 := Lib.hid (fun g W (h1 : HashAt [] g W) (hk : KG W) (hg : g ≠ 1) (hge : w.heap.size ≤ g) (hb : BytesAt zs (.slice a L c) W) => write_at g [] zs (.slice a L c) W h1 (by rw [HL.out]; simp; omega) hk hg hb (fun j h0 hj e => by
      have := HLT.out (by rw [HL.out] at h0; omega) hj; omega))
    have HM0 := Lib.hid (fun g W (h1 : HashAt [] g W) (hk : KG W) => hsum_at g [] W h1 (by simp) hk)
    have HM1 := Lib.hid (fun g W (h1 : HashAt zs g W) (hk : KG W) => hsum_at g zs W h1 (by rw [HL.out]; omega) hk)
    have HLNN := Lib.hid (fun W => show Calls Tryd.prog 16 #[.pointer none] W (fun e w' => e = .returned (.int .i64 0) ∧ Below W.heap.size W w') from (len_nil W).mono (fun e w' h => ⟨h.1, h.2 ▸ Below.refl _ _⟩))
    have HCPN := Lib.hid (fun W => show Calls Tryd.prog 13 #[.pointer none] W (fun e w' => e = .returned (.pointer none) ∧ Below W.heap.size W w') from (copy_nil W).mono (fun e w' h => ⟨h.1, h.2 ▸ Below.refl _ _⟩))
    have HCP := Lib.hid (fun g W (h1 : HashAt [] g W) => copy_at g [] W h1)
    have hO1 : (shaL []).length = 32 := outB_len (absB_len rfl _ _)
    have hO2 : (shaL zs).length = 32 := outB_len (absB_len rfl _ _)
    obtain ⟨O1, hOe1⟩ : ∃ O, shaL [] = O := ⟨_, rfl⟩
    obtain ⟨O2, hOe2⟩ : ∃ O, shaL zs = O := ⟨_, rfl⟩
    rw [hOe1] at HR0 HSN HM0 hO1
    rw [hOe2] at HR1 HM1 hO2
    have hz32 := z32_lit
    have szo : (arr .u8 O1).size = 32 := by rw [arr_size, hO1]
    have szz : (arr .u8 z32).size = 32 := by rw [arr_size]; rfl
    have HW12 := Lib.hid (show 1 < w.heap.size from HK.out.1)
    obtain ⟨W0, hW0⟩ : ∃ W, w.alloc (.cells (hashA zero8 z64 0) 38) = W := ⟨_, rfl⟩
    have HBA := Lib.hid (show Below w.heap.size w W0 by rw [← hW0]; exact (Below.refl _ w).alloc (Nat.le_refl _) _)
    have HH1 := Lib.hid (show HashAt [] w.heap.size W0 from HashAt.zero (by rw [← hW0, rowN_alloc, if_pos rfl]))
    clear hOe1 hOe2 hnil0
    go_enter Tryd.func7, Tryd.ntmps7
    go_upto_region 5 with fail
    try rw [hW0]
    clear hW0
    go_wp2_with fail
    refine (HR0.out _ (HG.out.kept HBA.out) (HNL.out.kept HBA.out)).mono ?_
    rintro e W1 ⟨rfl, hb1⟩
    have HH1_1 := Lib.hid (HH1.out.kept hb1)
    have HBA_1 := Lib.hid (HBA.out.trans (hb1.mono HBA.out.size))
    clear hb1 HH1 HBA
    go_upto_region 6 with fail
    obtain ⟨V, hV⟩ : ∃ V, (W1.alloc (.cells (arr .u8 z32) 24)).setRow W1.heap.size (arr .u8 O1) = V := ⟨_, rfl⟩
    have hbV : Below W1.heap.size W1 V := by rw [← hV]; exact below_setRow' ((Below.refl _ _).alloc (Nat.le_refl _) _) (Nat.le_refl _) _
    have hrV : rowN V W1.heap.size = some (arr .u8 O1) := by rw [← hV]; exact row_new (cs := arr .u8 z32) (by rw [rowN_alloc, if_pos rfl])
    rw [hV]
    have HH1_2 := Lib.hid (HH1_1.out.kept hbV)
    have HBA_2 := Lib.hid (HBA_1.out.trans (hbV.mono HBA_1.out.size))
    have h12 : w.heap.size < W1.heap.size := HH1_1.out.lt
    obtain ⟨g5, hg5⟩ : ∃ g, W1.heap.size = g := ⟨_, rfl⟩
    rw [hg5] at hrV h12 ⊢
    have HR5 := Lib.hid hrV
    clear hV hbV hrV hg5 HH1_1 HBA_1
    go_wp2_with fail
    refine (HCP.out _ _ HH1_2.out).mono ?_
    rintro e W3 ⟨rfl, hh3, hb3⟩
    have h53 : g5 < V.heap.size := rowN_lt HR5.out
    have Hp_0 := Lib.hid (show HashAt [] w.heap.size W3.drew from HH1_2.out.kept hb3.drew)
    have Hq_0 := Lib.hid (show HashAt [] V.heap.size W3.drew from hh3)
    have HL_0 := Lib.hid (show Below w.heap.size w W3.drew from (HBA_2.out.trans (hb3.mono HBA_2.out.size)).drew)
    have H5_0 := Lib.hid (show rowN W3.drew g5 = some (arr .u8 O1) from keptW hb3.drew HR5.out)
    obtain ⟨gc, hgc⟩ : ∃ g, V.heap.size = g := ⟨_, rfl⟩
    rw [hgc] at Hq_0 h53 ⊢
    clear hh3 hb3 HH1_2 HBA_2 HR5 hgc
    go_upto_region 7 with fail
    refine wp_region_noPanic ?_
    refine wp_region_held_drew (S := fun W => rowN W g5 = some (arr .u8 O1)) (by kernel_rfl) H5_0.out (fun hHeld0 => ?_)
    obtain ⟨x0, hx0⟩ : ∃ X, W3.drew = X := ⟨_, rfl⟩
    rw [hx0] at H5_0 Hp_0 Hq_0 HL_0 hHeld0 ⊢
    clear hx0
    refine wpAnyH_take (i := 0) (oi := { dst := some 13, op := Op.move (Operand.tmp 3), type := 39, pos := "law.go:135", after := #[], guard := none }) (v := ?tk0) rfl (by kernel_rfl) (by kernel_rfl) (by kernel_rfl) (fun _ _ _ h => h) (Or.inl ⟨by rfl, ?tw0⟩) hHeld0 ?_
    case tw0 => (intro W hW; clear hW; first | (go_simp; done) | (go_simp; with_reducible rfl))
    try simp only [Act.put, List.setIfInBounds_toArray, List.set_cons_zero, List.set_cons_succ]
    refine wpAnyH_take (i := 1) (oi := { dst := some 14, op := Op.move (Operand.tmp 0), type := 22, pos := "law.go:135", after := #[], guard := none }) (v := ?tk1) rfl (by kernel_rfl) (by kernel_rfl) (by kernel_rfl) (fun _ _ _ h => h) (Or.inl ⟨by rfl, ?tw1⟩) hHeld0 ?_
    case tw1 => (intro W hW; clear hW; first | (go_simp; done) | (go_simp; with_reducible rfl))
    try simp only [Act.put, List.setIfInBounds_toArray, List.set_cons_zero, List.set_cons_succ]
    refine wpAnyH_ready (rs := [2]) (by kernel_rfl) (by simp) ?_
    refine AllReadyH.cons (o := { dst := some 15, op := Op.call { callee := Callee.value (Operand.func 14), args := #[Operand.tmp 13, Operand.tmp 14], argTypes := #[39, 22] }, type := 41, pos := "law.go:135", after := #[{ on := 0, ground := Ground.data }, { on := 1, ground := Ground.data }], guard := none }) rfl (fun K' hK => ?_) AllReadyH.nil
    go_simp
    refine ((HWN.out _)).mono ?_
    rintro e x1 ⟨rfl, hb⟩
    have H5_1 := Lib.hid (keptW hb H5_0.out)
    have Hp_1 := Lib.hid (Hp_0.out.kept hb)
    have Hq_1 := Lib.hid (Hq_0.out.kept hb)
    have HL_1 := Lib.hid (HL_0.out.trans (hb.mono HL_0.out.size))
    clear hb
    refine hK.out _ _ H5_1.out (fun hHeld1 => ?_)
    clear hK K'
    try simp only [Act.put, List.setIfInBounds_toArray, List.set_cons_zero, List.set_cons_succ]
    refine wpAnyH_take (i := 3) (oi := { dst := some 16, op := Op.binOp BinOp.eql 41 (Operand.tmp 15) (Operand.const (Value.int IntKind.i64 1)) 41, type := 4, pos := "law.go:135", after := #[{ on := 2, ground := Ground.data }], guard := none }) (v := ?tk2) rfl (by kernel_rfl) (by kernel_rfl) (by kernel_rfl) (fun _ _ _ h => h) (Or.inl ⟨by rfl, ?tw2⟩) hHeld1 ?_
    case tw2 => (intro W hW; clear hW; first | (go_simp; done) | (go_simp; with_reducible rfl))
    try simp only [Act.put, List.setIfInBounds_toArray, List.set_cons_zero, List.set_cons_succ]
    refine wpAnyH_take (i := 4) (oi := { dst := some 17, op := Op.move (Operand.tmp 16), type := 4, pos := "law.go:135", after := #[{ on := 3, ground := Ground.data }, { on := 2, ground := Ground.chain }], guard := none }) (v := ?tk3) rfl (by kernel_rfl) (by kernel_rfl) (by kernel_rfl) (fun _ _ _ h => h) (Or.inl ⟨by rfl, ?tw3⟩) hHeld1 ?_
    case tw3 => (intro W hW; clear hW; first | (go_simp; done) | (go_simp; with_reducible rfl))
    try simp only [Act.put, List.setIfInBounds_toArray, List.set_cons_zero, List.set_cons_succ]
    refine wpAnyH_take (i := 5) (oi := { dst := some 18, op := Op.move (Operand.tmp 3), type := 39, pos := "law.go:135", after := #[{ on := 4, ground := Ground.guard }], guard := some (4, true) }) (v := ?tk4) rfl (by kernel_rfl) (by kernel_rfl) (by kernel_rfl) (fun _ _ _ h => h) (Or.inl ⟨by rfl, ?tw4⟩) hHeld1 ?_
    case tw4 => (intro W hW; clear hW; first | (go_simp; done) | (go_simp; with_reducible rfl))
    try simp only [Act.put, List.setIfInBounds_toArray, List.set_cons_zero, List.set_cons_succ]
    refine wpAnyH_take (i := 7) (oi := { dst := some 20, op := Op.load 24 (Operand.tmp 5), type := 24, pos := "law.go:135", after := #[{ on := 4, ground := Ground.guard }], guard := some (4, true) }) (v := .agg (arr .u8 O1)) rfl (by kernel_rfl) (by kernel_rfl) (by kernel_rfl) (fun _ _ _ h => h) (Or.inl ⟨by rfl, fun W hW => ?_⟩) hHeld1 ?_
    · (have hW1 := hW; clear hW; go_simp)
    try simp only [Act.put, List.setIfInBounds_toArray, List.set_cons_zero, List.set_cons_succ]
    refine wpAnyH_ready (rs := [6]) (by kernel_rfl) (by simp) ?_
    refine AllReadyH.cons (o := { dst := some 19, op := Op.call { callee := Callee.value (Operand.func 15), args := #[Operand.tmp 18], argTypes := #[39] }, type := 24, pos := "law.go:135", after := #[{ on := 5, ground := Ground.data }, { on := 4, ground := Ground.chain }, { on := 4, ground := Ground.guard }], guard := some (4, true) }) rfl (fun K' hK => ?_) AllReadyH.nil
    go_simp
    refine ((HSN.out _ (HK.out.kept HL_1.out))).mono ?_
    rintro e x2 ⟨rfl, hb⟩
    have H5_2 := Lib.hid (keptW hb H5_1.out)
    have Hp_2 := Lib.hid (Hp_1.out.kept hb)
    have Hq_2 := Lib.hid (Hq_1.out.kept hb)
    have HL_2 := Lib.hid (HL_1.out.trans (hb.mono HL_1.out.size))
    clear hb
    refine hK.out _ _ H5_2.out (fun hHeld2 => ?_)
    clear hK K'
    try simp only [Act.put, List.setIfInBounds_toArray, List.set_cons_zero, List.set_cons_succ]
    refine wpAnyH_take (i := 8) (oi := { dst := some 21, op := Op.binOp BinOp.eql 24 (Operand.tmp 19) (Operand.tmp 20) 24, type := 4, pos := "law.go:135", after := #[{ on := 6, ground := Ground.data }, { on := 7, ground := Ground.data }, { on := 4, ground := Ground.guard }], guard := some (4, true) }) (v := ?tk5) rfl (by kernel_rfl) (by kernel_rfl) (by kernel_rfl) (fun _ _ _ h => h) (Or.inl ⟨by rfl, ?tw5⟩) hHeld2 ?_
    case tw5 => (intro W hW; clear hW; first | (go_simp; done) | (go_simp; with_reducible rfl))
    try simp only [Act.put, List.setIfInBounds_toArray, List.set_cons_zero, List.set_cons_succ]
    refine wpAnyH_take (i := 9) (oi := { dst := some 22, op := Op.pick (Operand.tmp 17) (Operand.tmp 21) (Operand.const (Value.bool false)), type := 4, pos := "law.go:135", after := #[{ on := 4, ground := Ground.data }, { on := 8, ground := Ground.data }], guard := none }) (v := ?tk6) rfl (by kernel_rfl) (by kernel_rfl) (by kernel_rfl) (fun _ _ _ h => h) (Or.inl ⟨by rfl, ?tw6⟩) hHeld2 ?_
    case tw6 => (intro W hW; clear hW; first | (go_simp; done) | (go_simp; with_reducible rfl))
    try simp only [Act.put, List.setIfInBounds_toArray, List.set_cons_zero, List.set_cons_succ]
    refine wpAnyH_take (i := 10) (oi := { dst := some 23, op := Op.move (Operand.tmp 22), type := 4, pos := "law.go:135", after := #[{ on := 9, ground := Ground.data }, { on := 6, ground := Ground.chain }], guard := none }) (v := ?tk7) rfl (by kernel_rfl) (by kernel_rfl) (by kernel_rfl) (fun _ _ _ h => h) (Or.inl ⟨by rfl, ?tw7⟩) hHeld2 ?_
    case tw7 => (intro W hW; clear hW; first | (go_simp; done) | (go_simp; with_reducible rfl))
    try simp only [Act.put, List.setIfInBounds_toArray, List.set_cons_zero, List.set_cons_succ]
    refine wpAnyH_take (i := 11) (oi := { dst := some 24, op := Op.move (Operand.tmp 3), type := 39, pos := "law.go:135", after := #[{ on := 10, ground := Ground.guard }], guard := some (10, true) }) (v := ?tk8) rfl (by kernel_rfl) (by kernel_rfl) (by kernel_rfl) (fun _ _ _ h => h) (Or.inl ⟨by rfl, ?tw8⟩) hHeld2 ?_
    case tw8 => (intro W hW; clear hW; first | (go_simp; done) | (go_simp; with_reducible rfl))
    try simp only [Act.put, List.setIfInBounds_toArray, List.set_cons_zero, List.set_cons_succ]
    refine wpAnyH_ready (rs := [12]) (by kernel_rfl) (by simp) ?_
    refine AllReadyH.cons (o := { dst := some 25, op := Op.call { callee := Callee.value (Operand.func 16), args := #[Operand.tmp 24], argTypes := #[39] }, type := 3, pos := "law.go:135", after := #[{ on := 11, ground := Ground.data }, { on := 10, ground := Ground.chain }, { on := 10, ground := Ground.guard }], guard := some (10, true) }) rfl (fun K' hK => ?_) AllReadyH.nil
    go_simp
    refine ((HLNN.out _)).mono ?_
    rintro e x3 ⟨rfl, hb⟩
    have H5_3 := Lib.hid (keptW hb H5_2.out)
    have Hp_3 := Lib.hid (Hp_2.out.kept hb)
    have Hq_3 := Lib.hid (Hq_2.out.kept hb)
    have HL_3 := Lib.hid (HL_2.out.trans (hb.mono HL_2.out.size))
    clear hb
    refine hK.out _ _ H5_3.out (fun hHeld3 => ?_)
    clear hK K'
    try simp only [Act.put, List.setIfInBounds_toArray, List.set_cons_zero, List.set_cons_succ]
    refine wpAnyH_take (i := 13) (oi := { dst := some 26, op := Op.binOp BinOp.eql 3 (Operand.tmp 25) (Operand.const (Value.int IntKind.i64 0)) 3, type := 4, pos := "law.go:135", after := #[{ on := 12, ground := Ground.data }, { on := 10, ground := Ground.guard }], guard := some (10, true) }) (v := ?tk9) rfl (by kernel_rfl) (by kernel_rfl) (by kernel_rfl) (fun _ _ _ h => h) (Or.inl ⟨by rfl, ?tw9⟩) hHeld3 ?_
    case tw9 => (intro W hW; clear hW; first | (go_simp; done) | (go_simp; with_reducible rfl))
    try simp only [Act.put, List.setIfInBounds_toArray, List.set_cons_zero, List.set_cons_succ]
    refine wpAnyH_take (i := 14) (oi := { dst := some 27, op := Op.pick (Operand.tmp 23) (Operand.tmp 26) (Operand.const (Value.bool false)), type := 4, pos := "law.go:135", after := #[{ on := 10, ground := Ground.data }, { on := 13, ground := Ground.data }], guard := none }) (v := ?tk10) rfl (by kernel_rfl) (by kernel_rfl) (by kernel_rfl) (fun _ _ _ h => h) (Or.inl ⟨by rfl, ?tw10⟩) hHeld3 ?_
    case tw10 => (intro W hW; clear hW; first | (go_simp; done) | (go_simp; with_reducible rfl))
    try simp only [Act.put, List.setIfInBounds_toArray, List.set_cons_zero, List.set_cons_succ]
    refine wpAnyH_take (i := 15) (oi := { dst := some 28, op := Op.move (Operand.tmp 27), type := 4, pos := "law.go:135", after := #[{ on := 14, ground := Ground.data }, { on := 12, ground := Ground.chain }], guard := none }) (v := ?tk11) rfl (by kernel_rfl) (by kernel_rfl) (by kernel_rfl) (fun _ _ _ h => h) (Or.inl ⟨by rfl, ?tw11⟩) hHeld3 ?_
    case tw11 => (intro W hW; clear hW; first | (go_simp; done) | (go_simp; with_reducible rfl))
    try simp only [Act.put, List.setIfInBounds_toArray, List.set_cons_zero, List.set_cons_succ]
    refine wpAnyH_take (i := 16) (oi := { dst := some 29, op := Op.move (Operand.tmp 3), type := 39, pos := "law.go:135", after := #[{ on := 15, ground := Ground.guard }], guard := some (15, true) }) (v := ?tk12) rfl (by kernel_rfl) (by kernel_rfl) (by kernel_rfl) (fun _ _ _ h => h) (Or.inl ⟨by rfl, ?tw12⟩) hHeld3 ?_
    case tw12 => (intro W hW; clear hW; first | (go_simp; done) | (go_simp; with_reducible rfl))
    try simp only [Act.put, List.setIfInBounds_toArray, List.set_cons_zero, List.set_cons_succ]
    refine wpAnyH_ready (rs := [17]) (by kernel_rfl) (by simp) ?_
    refine AllReadyH.cons (o := { dst := some 30, op := Op.call { callee := Callee.value (Operand.func 13), args := #[Operand.tmp 29], argTypes := #[39] }, type := 39, pos := "law.go:135", after := #[{ on := 16, ground := Ground.data }, { on := 15, ground := Ground.chain }, { on := 15, ground := Ground.guard }], guard := some (15, true) }) rfl (fun K' hK => ?_) AllReadyH.nil
    go_simp
    refine ((HCPN.out _)).mono ?_
    rintro e x4 ⟨rfl, hb⟩
    have H5_4 := Lib.hid (keptW hb H5_3.out)
    have Hp_4 := Lib.hid (Hp_3.out.kept hb)
    have Hq_4 := Lib.hid (Hq_3.out.kept hb)
    have HL_4 := Lib.hid (HL_3.out.trans (hb.mono HL_3.out.size))
    clear hb
    refine hK.out _ _ H5_4.out (fun hHeld4 => ?_)
    clear hK K'
    try simp only [Act.put, List.setIfInBounds_toArray, List.set_cons_zero, List.set_cons_succ]
    refine wpAnyH_take (i := 18) (oi := { dst := some 31, op := Op.binOp BinOp.eql 39 (Operand.tmp 30) (Operand.const (Value.pointer none)) 39, type := 4, pos := "law.go:135", after := #[{ on := 17, ground := Ground.data }, { on := 15, ground := Ground.guard }], guard := some (15, true) }) (v := ?tk13) rfl (by kernel_rfl) (by kernel_rfl) (by kernel_rfl) (fun _ _ _ h => h) (Or.inl ⟨by rfl, ?tw13⟩) hHeld4 ?_
    case tw13 => (intro W hW; clear hW; first | (go_simp; done) | (go_simp; with_reducible rfl))
    try simp only [Act.put, List.setIfInBounds_toArray, List.set_cons_zero, List.set_cons_succ]
    refine wpAnyH_take (i := 19) (oi := { dst := some 32, op := Op.pick (Operand.tmp 28) (Operand.tmp 31) (Operand.const (Value.bool false)), type := 4, pos := "law.go:135", after := #[{ on := 15, ground := Ground.data }, { on := 18, ground := Ground.data }], guard := none }) (v := ?tk14) rfl (by kernel_rfl) (by kernel_rfl) (by kernel_rfl) (fun _ _ _ h => h) (Or.inl ⟨by rfl, ?tw14⟩) hHeld4 ?_
    case tw14 => (intro W hW; clear hW; first | (go_simp; done) | (go_simp; with_reducible rfl))
    try simp only [Act.put, List.setIfInBounds_toArray, List.set_cons_zero, List.set_cons_succ]
    refine wpAnyH_take (i := 20) (oi := { dst := some 33, op := Op.move (Operand.tmp 32), type := 4, pos := "law.go:135", after := #[{ on := 19, ground := Ground.data }, { on := 17, ground := Ground.chain }], guard := none }) (v := ?tk15) rfl (by kernel_rfl) (by kernel_rfl) (by kernel_rfl) (fun _ _ _ h => h) (Or.inl ⟨by rfl, ?tw15⟩) hHeld4 ?_
    case tw15 => (intro W hW; clear hW; first | (go_simp; done) | (go_simp; with_reducible rfl))
    try simp only [Act.put, List.setIfInBounds_toArray, List.set_cons_zero, List.set_cons_succ]
    refine wpAnyH_ready (rs := [21]) (by kernel_rfl) (by simp) ?_
    refine AllReadyH.cons (o := { dst := some 34, op := Op.call { callee := Callee.value (Operand.func 14), args := #[Operand.tmp 4, Operand.const (Value.slice none 0 0)], argTypes := #[38, 22] }, type := 41, pos := "law.go:135", after := #[{ on := 20, ground := Ground.chain }, { on := 20, ground := Ground.guard }], guard := some (20, true) }) rfl (fun K' hK => ?_) AllReadyH.nil
    go_simp
    refine ((HW0.out _ _ Hp_4.out (HK.out.kept HL_4.out) (by have := HW12.out; omega) (HNL.out.kept HL_4.out))).mono ?_
    rintro e x5 ⟨rfl, hh, hg⟩
    have Hp_5 := Lib.hid hh
    have Hq_5 := Lib.hid (Hq_4.out.keeps (Keeps.of_grownBy (M := fun j => j = w.heap.size) hg (fun r e => by cases e; rfl)) (by omega))
    have H5_5 := Lib.hid ((Keeps.of_grownBy (M := fun j => j = w.heap.size) hg (fun r e => by cases e; rfl)).row H5_4.out (by omega))
    have HL_5 := Lib.hid (HL_4.out.grown hg HL_4.out.size (fun r e => by cases e; omega))
    clear hh hg
    refine hK.out _ _ H5_5.out (fun hHeld5 => ?_)
    clear hK K'
    try simp only [Act.put, List.setIfInBounds_toArray, List.set_cons_zero, List.set_cons_succ]
    refine wpAnyH_take (i := 22) (oi := { dst := some 35, op := Op.binOp BinOp.eql 41 (Operand.tmp 34) (Operand.const (Value.int IntKind.i64 0)) 41, type := 4, pos := "law.go:135", after := #[{ on := 21, ground := Ground.data }, { on := 20, ground := Ground.guard }], guard := some (20, true) }) (v := ?tk16) rfl (by kernel_rfl) (by kernel_rfl) (by kernel_rfl) (fun _ _ _ h => h) (Or.inl ⟨by rfl, ?tw16⟩) hHeld5 ?_
    case tw16 => (intro W hW; clear hW; first | (go_simp; done) | (go_simp; with_reducible rfl))
    try simp only [Act.put, List.setIfInBounds_toArray, List.set_cons_zero, List.set_cons_succ]
    refine wpAnyH_take (i := 23) (oi := { dst := some 36, op := Op.pick (Operand.tmp 33) (Operand.tmp 35) (Operand.const (Value.bool false)), type := 4, pos := "law.go:135", after := #[{ on := 20, ground := Ground.data }, { on := 22, ground := Ground.data }], guard := none }) (v := ?tk17) rfl (by kernel_rfl) (by kernel_rfl) (by kernel_rfl) (fun _ _ _ h => h) (Or.inl ⟨by rfl, ?tw17⟩) hHeld5 ?_
    case tw17 => (intro W hW; clear hW; first | (go_simp; done) | (go_simp; with_reducible rfl))
    try simp only [Act.put, List.setIfInBounds_toArray, List.set_cons_zero, List.set_cons_succ]
    refine wpAnyH_take (i := 24) (oi := { dst := some 37, op := Op.move (Operand.tmp 36), type := 4, pos := "law.go:135", after := #[{ on := 23, ground := Ground.data }, { on := 21, ground := Ground.chain }], guard := none }) (v := ?tk18) rfl (by kernel_rfl) (by kernel_rfl) (by kernel_rfl) (fun _ _ _ h => h) (Or.inl ⟨by rfl, ?tw18⟩) hHeld5 ?_
    case tw18 => (intro W hW; clear hW; first | (go_simp; done) | (go_simp; with_reducible rfl))
    try simp only [Act.put, List.setIfInBounds_toArray, List.set_cons_zero, List.set_cons_succ]
    refine wpAnyH_take (i := 26) (oi := { dst := some 39, op := Op.load 24 (Operand.tmp 5), type := 24, pos := "law.go:135", after := #[{ on := 24, ground := Ground.guard }], guard := some (24, true) }) (v := .agg (arr .u8 O1)) rfl (by kernel_rfl) (by kernel_rfl) (by kernel_rfl) (fun _ _ _ h => h) (Or.inl ⟨by rfl, fun W hW => ?_⟩) hHeld5 ?_
    · (have hW1 := hW; clear hW; go_simp)
    try simp only [Act.put, List.setIfInBounds_toArray, List.set_cons_zero, List.set_cons_succ]
    refine wpAnyH_ready (rs := [25]) (by kernel_rfl) (by simp) ?_
    refine AllReadyH.cons (o := { dst := some 38, op := Op.call { callee := Callee.value (Operand.func 15), args := #[Operand.tmp 4], argTypes := #[38] }, type := 24, pos := "law.go:135", after := #[{ on := 24, ground := Ground.chain }, { on := 24, ground := Ground.guard }], guard := some (24, true) }) rfl (fun K' hK => ?_) AllReadyH.nil
    go_simp
    refine ((HM0.out _ _ Hp_5.out (HK.out.kept HL_5.out))).mono ?_
    rintro e x6 ⟨rfl, hb⟩
    have H5_6 := Lib.hid (keptW hb H5_5.out)
    have Hp_6 := Lib.hid (Hp_5.out.kept hb)
    have Hq_6 := Lib.hid (Hq_5.out.kept hb)
    have HL_6 := Lib.hid (HL_5.out.trans (hb.mono HL_5.out.size))
    clear hb
    refine hK.out _ _ H5_6.out (fun hHeld6 => ?_)
    clear hK K'
    try simp only [Act.put, List.setIfInBounds_toArray, List.set_cons_zero, List.set_cons_succ]
    refine wpAnyH_take (i := 27) (oi := { dst := some 40, op := Op.binOp BinOp.eql 24 (Operand.tmp 38) (Operand.tmp 39) 24, type := 4, pos := "law.go:135", after := #[{ on := 25, ground := Ground.data }, { on := 26, ground := Ground.data }, { on := 24, ground := Ground.guard }], guard := some (24, true) }) (v := ?tk19) rfl (by kernel_rfl) (by kernel_rfl) (by kernel_rfl) (fun _ _ _ h => h) (Or.inl ⟨by rfl, ?tw19⟩) hHeld6 ?_
    case tw19 => (intro W hW; clear hW; first | (go_simp; done) | (go_simp; with_reducible rfl))
    try simp only [Act.put, List.setIfInBounds_toArray, List.set_cons_zero, List.set_cons_succ]
    refine wpAnyH_take (i := 28) (oi := { dst := some 41, op := Op.pick (Operand.tmp 37) (Operand.tmp 40) (Operand.const (Value.bool false)), type := 4, pos := "law.go:135", after := #[{ on := 24, ground := Ground.data }, { on := 27, ground := Ground.data }], guard := none }) (v := ?tk20) rfl (by kernel_rfl) (by kernel_rfl) (by kernel_rfl) (fun _ _ _ h => h) (Or.inl ⟨by rfl, ?tw20⟩) hHeld6 ?_
    case tw20 => (intro W hW; clear hW; first | (go_simp; done) | (go_simp; with_reducible rfl))
    try simp only [Act.put, List.setIfInBounds_toArray, List.set_cons_zero, List.set_cons_succ]
    refine wpAnyH_take (i := 29) (oi := { dst := some 42, op := Op.move (Operand.tmp 41), type := 4, pos := "law.go:135", after := #[{ on := 28, ground := Ground.data }, { on := 25, ground := Ground.chain }], guard := none }) (v := ?tk21) rfl (by kernel_rfl) (by kernel_rfl) (by kernel_rfl) (fun _ _ _ h => h) (Or.inl ⟨by rfl, ?tw21⟩) hHeld6 ?_
    case tw21 => (intro W hW; clear hW; first | (go_simp; done) | (go_simp; with_reducible rfl))
    try simp only [Act.put, List.setIfInBounds_toArray, List.set_cons_zero, List.set_cons_succ]
    refine wpAnyH_take (i := 30) (oi := { dst := some 43, op := Op.move (Operand.tmp 6), type := 39, pos := "law.go:135", after := #[{ on := 29, ground := Ground.guard }], guard := some (29, true) }) (v := ?tk22) rfl (by kernel_rfl) (by kernel_rfl) (by kernel_rfl) (fun _ _ _ h => h) (Or.inl ⟨by rfl, ?tw22⟩) hHeld6 ?_
    case tw22 => (intro W hW; clear hW; first | (go_simp; done) | (go_simp; with_reducible rfl))
    try simp only [Act.put, List.setIfInBounds_toArray, List.set_cons_zero, List.set_cons_succ]
    refine wpAnyH_take (i := 31) (oi := { dst := some 44, op := Op.binOp BinOp.neq 39 (Operand.tmp 43) (Operand.const (Value.pointer none)) 39, type := 4, pos := "law.go:135", after := #[{ on := 30, ground := Ground.data }, { on := 29, ground := Ground.guard }], guard := some (29, true) }) (v := ?tk23) rfl (by kernel_rfl) (by kernel_rfl) (by kernel_rfl) (fun _ _ _ h => h) (Or.inl ⟨by rfl, ?tw23⟩) hHeld6 ?_
    case tw23 => (intro W hW; clear hW; first | (go_simp; done) | (go_simp; with_reducible rfl))
    try simp only [Act.put, List.setIfInBounds_toArray, List.set_cons_zero, List.set_cons_succ]
    refine wpAnyH_take (i := 32) (oi := { dst := some 45, op := Op.pick (Operand.tmp 42) (Operand.tmp 44) (Operand.const (Value.bool false)), type := 4, pos := "law.go:135", after := #[{ on := 29, ground := Ground.data }, { on := 31, ground := Ground.data }], guard := none }) (v := ?tk24) rfl (by kernel_rfl) (by kernel_rfl) (by kernel_rfl) (fun _ _ _ h => h) (Or.inl ⟨by rfl, ?tw24⟩) hHeld6 ?_
    case tw24 => (intro W hW; clear hW; first | (go_simp; done) | (go_simp; with_reducible rfl))
    try simp only [Act.put, List.setIfInBounds_toArray, List.set_cons_zero, List.set_cons_succ]
    refine wpAnyH_take (i := 33) (oi := { dst := some 46, op := Op.move (Operand.tmp 45), type := 4, pos := "law.go:135", after := #[{ on := 32, ground := Ground.data }, { on := 29, ground := Ground.chain }], guard := none }) (v := ?tk25) rfl (by kernel_rfl) (by kernel_rfl) (by kernel_rfl) (fun _ _ _ h => h) (Or.inl ⟨by rfl, ?tw25⟩) hHeld6 ?_
    case tw25 => (intro W hW; clear hW; first | (go_simp; done) | (go_simp; with_reducible rfl))
    try simp only [Act.put, List.setIfInBounds_toArray, List.set_cons_zero, List.set_cons_succ]
    refine wpAnyH_take (i := 34) (oi := { dst := some 47, op := Op.move (Operand.tmp 6), type := 39, pos := "law.go:135", after := #[{ on := 33, ground := Ground.guard }], guard := some (33, true) }) (v := ?tk26) rfl (by kernel_rfl) (by kernel_rfl) (by kernel_rfl) (fun _ _ _ h => h) (Or.inl ⟨by rfl, ?tw26⟩) hHeld6 ?_
    case tw26 => (intro W hW; clear hW; first | (go_simp; done) | (go_simp; with_reducible rfl))
    try simp only [Act.put, List.setIfInBounds_toArray, List.set_cons_zero, List.set_cons_succ]
    refine wpAnyH_take (i := 36) (oi := { dst := some 49, op := Op.load 24 (Operand.tmp 5), type := 24, pos := "law.go:135", after := #[{ on := 33, ground := Ground.guard }], guard := some (33, true) }) (v := .agg (arr .u8 O1)) rfl (by kernel_rfl) (by kernel_rfl) (by kernel_rfl) (fun _ _ _ h => h) (Or.inl ⟨by rfl, fun W hW => ?_⟩) hHeld6 ?_
    · (have hW1 := hW; clear hW; go_simp)
    try simp only [Act.put, List.setIfInBounds_toArray, List.set_cons_zero, List.set_cons_succ]
    refine wpAnyH_ready (rs := [35]) (by kernel_rfl) (by simp) ?_
    refine AllReadyH.cons (o := { dst := some 48, op := Op.call { callee := Callee.value (Operand.func 15), args := #[Operand.tmp 47], argTypes := #[39] }, type := 24, pos := "law.go:135", after := #[{ on := 34, ground := Ground.data }, { on := 33, ground := Ground.chain }, { on := 33, ground := Ground.guard }], guard := some (33, true) }) rfl (fun K' hK => ?_) AllReadyH.nil
    go_simp
    refine ((HM0.out _ _ Hq_6.out (HK.out.kept HL_6.out))).mono ?_
    rintro e x7 ⟨rfl, hb⟩
    have H5_7 := Lib.hid (keptW hb H5_6.out)
    have Hp_7 := Lib.hid (Hp_6.out.kept hb)
    have Hq_7 := Lib.hid (Hq_6.out.kept hb)
    have HL_7 := Lib.hid (HL_6.out.trans (hb.mono HL_6.out.size))
    clear hb
    refine hK.out _ _ H5_7.out (fun hHeld7 => ?_)
    clear hK K'
    try simp only [Act.put, List.setIfInBounds_toArray, List.set_cons_zero, List.set_cons_succ]
    refine wpAnyH_take (i := 37) (oi := { dst := some 50, op := Op.binOp BinOp.eql 24 (Operand.tmp 48) (Operand.tmp 49) 24, type := 4, pos := "law.go:135", after := #[{ on := 35, ground := Ground.data }, { on := 36, ground := Ground.data }, { on := 33, ground := Ground.guard }], guard := some (33, true) }) (v := ?tk27) rfl (by kernel_rfl) (by kernel_rfl) (by kernel_rfl) (fun _ _ _ h => h) (Or.inl ⟨by rfl, ?tw27⟩) hHeld7 ?_
    case tw27 => (intro W hW; clear hW; first | (go_simp; done) | (go_simp; with_reducible rfl))
    try simp only [Act.put, List.setIfInBounds_toArray, List.set_cons_zero, List.set_cons_succ]
    refine wpAnyH_take (i := 38) (oi := { dst := some 51, op := Op.pick (Operand.tmp 46) (Operand.tmp 50) (Operand.const (Value.bool false)), type := 4, pos := "law.go:135", after := #[{ on := 33, ground := Ground.data }, { on := 37, ground := Ground.data }], guard := none }) (v := ?tk28) rfl (by kernel_rfl) (by kernel_rfl) (by kernel_rfl) (fun _ _ _ h => h) (Or.inl ⟨by rfl, ?tw28⟩) hHeld7 ?_
    case tw28 => (intro W hW; clear hW; first | (go_simp; done) | (go_simp; with_reducible rfl))
    try simp only [Act.put, List.setIfInBounds_toArray, List.set_cons_zero, List.set_cons_succ]
    refine wpAnyH_take (i := 39) (oi := { dst := some 52, op := Op.move (Operand.tmp 51), type := 4, pos := "law.go:135", after := #[{ on := 38, ground := Ground.data }, { on := 35, ground := Ground.chain }], guard := none }) (v := ?tk29) rfl (by kernel_rfl) (by kernel_rfl) (by kernel_rfl) (fun _ _ _ h => h) (Or.inl ⟨by rfl, ?tw29⟩) hHeld7 ?_
    case tw29 => (intro W hW; clear hW; first | (go_simp; done) | (go_simp; with_reducible rfl))
    try simp only [Act.put, List.setIfInBounds_toArray, List.set_cons_zero, List.set_cons_succ]
    refine wpAnyH_take (i := 40) (oi := { dst := some 53, op := Op.move (Operand.tmp 6), type := 39, pos := "law.go:135", after := #[{ on := 39, ground := Ground.guard }], guard := some (39, true) }) (v := ?tk30) rfl (by kernel_rfl) (by kernel_rfl) (by kernel_rfl) (fun _ _ _ h => h) (Or.inl ⟨by rfl, ?tw30⟩) hHeld7 ?_
    case tw30 => (intro W hW; clear hW; first | (go_simp; done) | (go_simp; with_reducible rfl))
    try simp only [Act.put, List.setIfInBounds_toArray, List.set_cons_zero, List.set_cons_succ]
    refine wpAnyH_take (i := 41) (oi := { dst := some 54, op := Op.move (Operand.tmp 0), type := 22, pos := "law.go:135", after := #[{ on := 39, ground := Ground.guard }], guard := some (39, true) }) (v := ?tk31) rfl (by kernel_rfl) (by kernel_rfl) (by kernel_rfl) (fun _ _ _ h => h) (Or.inl ⟨by rfl, ?tw31⟩) hHeld7 ?_
    case tw31 => (intro W hW; clear hW; first | (go_simp; done) | (go_simp; with_reducible rfl))
    try simp only [Act.put, List.setIfInBounds_toArray, List.set_cons_zero, List.set_cons_succ]
    refine wpAnyH_ready (rs := [42]) (by kernel_rfl) (by simp) ?_
    refine AllReadyH.cons (o := { dst := some 55, op := Op.call { callee := Callee.value (Operand.func 14), args := #[Operand.tmp 53, Operand.tmp 54], argTypes := #[39, 22] }, type := 41, pos := "law.go:135", after := #[{ on := 40, ground := Ground.data }, { on := 41, ground := Ground.data }, { on := 39, ground := Ground.chain }, { on := 39, ground := Ground.guard }], guard := some (39, true) }) rfl (fun K' hK => ?_) AllReadyH.nil
    go_simp
    refine ((HW1.out _ _ Hq_7.out (HK.out.kept HL_7.out) (by have := HW12.out; omega) (by omega) (HB.out.kept HL_7.out))).mono ?_
    rintro e x8 ⟨rfl, hh, hg⟩
    have Hq_8 := Lib.hid hh
    have Hp_8 := Lib.hid (Hp_7.out.keeps (Keeps.of_grownBy (M := fun j => j = gc) hg (fun r e => by cases e; rfl)) (by omega))
    have H5_8 := Lib.hid ((Keeps.of_grownBy (M := fun j => j = gc) hg (fun r e => by cases e; rfl)).row H5_7.out (by omega))
    have HL_8 := Lib.hid (HL_7.out.grown hg HL_7.out.size (fun r e => by cases e; omega))
    clear hh hg
    refine hK.out _ _ H5_8.out (fun hHeld8 => ?_)
    clear hK K'
    try simp only [Act.put, List.setIfInBounds_toArray, List.set_cons_zero, List.set_cons_succ]
    refine wpAnyH_take (i := 43) (oi := { dst := some 56, op := Op.binOp BinOp.eql 41 (Operand.tmp 55) (Operand.const (Value.int IntKind.i64 0)) 41, type := 4, pos := "law.go:135", after := #[{ on := 42, ground := Ground.data }, { on := 39, ground := Ground.guard }], guard := some (39, true) }) (v := ?tk32) rfl (by kernel_rfl) (by kernel_rfl) (by kernel_rfl) (fun _ _ _ h => h) (Or.inl ⟨by rfl, ?tw32⟩) hHeld8 ?_
    case tw32 => (intro W hW; clear hW; first | (go_simp; done) | (go_simp; with_reducible rfl))
    try simp only [Act.put, List.setIfInBounds_toArray, List.set_cons_zero, List.set_cons_succ]
    refine wpAnyH_take (i := 44) (oi := { dst := some 57, op := Op.pick (Operand.tmp 52) (Operand.tmp 56) (Operand.const (Value.bool false)), type := 4, pos := "law.go:135", after := #[{ on := 39, ground := Ground.data }, { on := 43, ground := Ground.data }], guard := none }) (v := ?tk33) rfl (by kernel_rfl) (by kernel_rfl) (by kernel_rfl) (fun _ _ _ h => h) (Or.inl ⟨by rfl, ?tw33⟩) hHeld8 ?_
    case tw33 => (intro W hW; clear hW; first | (go_simp; done) | (go_simp; with_reducible rfl))
    try simp only [Act.put, List.setIfInBounds_toArray, List.set_cons_zero, List.set_cons_succ]
    refine wpAnyH_take (i := 45) (oi := { dst := some 58, op := Op.move (Operand.tmp 57), type := 4, pos := "law.go:135", after := #[{ on := 44, ground := Ground.data }, { on := 42, ground := Ground.chain }], guard := none }) (v := ?tk34) rfl (by kernel_rfl) (by kernel_rfl) (by kernel_rfl) (fun _ _ _ h => h) (Or.inl ⟨by rfl, ?tw34⟩) hHeld8 ?_
    case tw34 => (intro W hW; clear hW; first | (go_simp; done) | (go_simp; with_reducible rfl))
    try simp only [Act.put, List.setIfInBounds_toArray, List.set_cons_zero, List.set_cons_succ]
    refine wpAnyH_take (i := 46) (oi := { dst := some 59, op := Op.move (Operand.tmp 6), type := 39, pos := "law.go:135", after := #[{ on := 45, ground := Ground.guard }], guard := some (45, true) }) (v := ?tk35) rfl (by kernel_rfl) (by kernel_rfl) (by kernel_rfl) (fun _ _ _ h => h) (Or.inl ⟨by rfl, ?tw35⟩) hHeld8 ?_
    case tw35 => (intro W hW; clear hW; first | (go_simp; done) | (go_simp; with_reducible rfl))
    try simp only [Act.put, List.setIfInBounds_toArray, List.set_cons_zero, List.set_cons_succ]
    refine wpAnyH_take (i := 48) (oi := { dst := some 61, op := Op.move (Operand.tmp 0), type := 22, pos := "law.go:135", after := #[{ on := 45, ground := Ground.guard }], guard := some (45, true) }) (v := ?tk36) rfl (by kernel_rfl) (by kernel_rfl) (by kernel_rfl) (fun _ _ _ h => h) (Or.inl ⟨by rfl, ?tw36⟩) hHeld8 ?_
    case tw36 => (intro W hW; clear hW; first | (go_simp; done) | (go_simp; with_reducible rfl))
    try simp only [Act.put, List.setIfInBounds_toArray, List.set_cons_zero, List.set_cons_succ]
    refine wpAnyH_ready (rs := [47]) (by kernel_rfl) (by simp) ?_
    refine AllReadyH.cons (o := { dst := some 60, op := Op.call { callee := Callee.value (Operand.func 15), args := #[Operand.tmp 59], argTypes := #[39] }, type := 24, pos := "law.go:135", after := #[{ on := 46, ground := Ground.data }, { on := 45, ground := Ground.chain }, { on := 45, ground := Ground.guard }], guard := some (45, true) }) rfl (fun K' hK => ?_) AllReadyH.nil
    go_simp
    refine ((HM1.out _ _ Hq_8.out (HK.out.kept HL_8.out))).mono ?_
    rintro e x9 ⟨rfl, hb⟩
    have H5_9 := Lib.hid (keptW hb H5_8.out)
    have Hp_9 := Lib.hid (Hp_8.out.kept hb)
    have Hq_9 := Lib.hid (Hq_8.out.kept hb)
    have HL_9 := Lib.hid (HL_8.out.trans (hb.mono HL_8.out.size))
    clear hb
    refine hK.out _ _ H5_9.out (fun hHeld9 => ?_)
    clear hK K'
    try simp only [Act.put, List.setIfInBounds_toArray, List.set_cons_zero, List.set_cons_succ]
    refine wpAnyH_ready (rs := [49]) (by kernel_rfl) (by simp) ?_
    refine AllReadyH.cons (o := { dst := some 62, op := Op.call { callee := Callee.value (Operand.func 10), args := #[Operand.tmp 61], argTypes := #[22] }, type := 24, pos := "law.go:135", after := #[{ on := 48, ground := Ground.data }, { on := 47, ground := Ground.chain }, { on := 45, ground := Ground.guard }], guard := some (45, true) }) rfl (fun K' hK => ?_) AllReadyH.nil
    go_simp
    refine ((HR1.out _ (HG.out.kept HL_9.out) (HB.out.kept HL_9.out))).mono ?_
    rintro e x10 ⟨rfl, hb⟩
    have H5_10 := Lib.hid (keptW hb H5_9.out)
    have Hp_10 := Lib.hid (Hp_9.out.kept hb)
    have Hq_10 := Lib.hid (Hq_9.out.kept hb)
    have HL_10 := Lib.hid (HL_9.out.trans (hb.mono HL_9.out.size))
    clear hb
    refine hK.out _ _ H5_10.out (fun hHeld10 => ?_)
    clear hK K'
    try simp only [Act.put, List.setIfInBounds_toArray, List.set_cons_zero, List.set_cons_succ]
    refine wpAnyH_take (i := 50) (oi := { dst := some 63, op := Op.binOp BinOp.eql 24 (Operand.tmp 60) (Operand.tmp 62) 24, type := 4, pos := "law.go:135", after := #[{ on := 47, ground := Ground.data }, { on := 49, ground := Ground.data }, { on := 45, ground := Ground.guard }], guard := some (45, true) }) (v := ?tk37) rfl (by kernel_rfl) (by kernel_rfl) (by kernel_rfl) (fun _ _ _ h => h) (Or.inl ⟨by rfl, ?tw37⟩) hHeld10 ?_
    case tw37 => (intro W hW; clear hW; first | (go_simp; done) | (go_simp; with_reducible rfl))
    try simp only [Act.put, List.setIfInBounds_toArray, List.set_cons_zero, List.set_cons_succ]
    refine wpAnyH_take (i := 51) (oi := { dst := some 64, op := Op.pick (Operand.tmp 58) (Operand.tmp 63) (Operand.const (Value.bool false)), type := 4, pos := "law.go:135", after := #[{ on := 45, ground := Ground.data }, { on := 50, ground := Ground.data }], guard := none }) (v := ?tk38) rfl (by kernel_rfl) (by kernel_rfl) (by kernel_rfl) (fun _ _ _ h => h) (Or.inl ⟨by rfl, ?tw38⟩) hHeld10 ?_
    case tw38 => (intro W hW; clear hW; first | (go_simp; done) | (go_simp; with_reducible rfl))
    try simp only [Act.put, List.setIfInBounds_toArray, List.set_cons_zero, List.set_cons_succ]
    refine wpAnyH_take (i := 52) (oi := { dst := some 65, op := Op.move (Operand.tmp 64), type := 4, pos := "law.go:135", after := #[{ on := 51, ground := Ground.data }, { on := 49, ground := Ground.chain }], guard := none }) (v := ?tk39) rfl (by kernel_rfl) (by kernel_rfl) (by kernel_rfl) (fun _ _ _ h => h) (Or.inl ⟨by rfl, ?tw39⟩) hHeld10 ?_
    case tw39 => (intro W hW; clear hW; first | (go_simp; done) | (go_simp; with_reducible rfl))
    try simp only [Act.put, List.setIfInBounds_toArray, List.set_cons_zero, List.set_cons_succ]
    refine wpAnyH_ready (rs := [53]) (by kernel_rfl) (by simp) ?_
    refine AllReadyH.cons (o := { dst := some 66, op := Op.call { callee := Callee.value (Operand.func 8), args := #[], argTypes := #[] }, type := 4, pos := "law.go:135", after := #[{ on := 52, ground := Ground.chain }, { on := 52, ground := Ground.guard }], guard := some (52, true) }) rfl (fun K' hK => ?_) AllReadyH.nil
    go_simp
    refine ((known_any _ (HK.out.kept HL_10.out))).mono ?_
    rintro e x11 ⟨rfl, hb⟩
    have H5_11 := Lib.hid (keptW hb H5_10.out)
    have Hp_11 := Lib.hid (Hp_10.out.kept hb)
    have Hq_11 := Lib.hid (Hq_10.out.kept hb)
    have HL_11 := Lib.hid (HL_10.out.trans (hb.mono HL_10.out.size))
    clear hb
    refine hK.out _ _ H5_11.out (fun hHeld11 => ?_)
    clear hK K'
    try simp only [Act.put, List.setIfInBounds_toArray, List.set_cons_zero, List.set_cons_succ]
    refine wpAnyH_take (i := 54) (oi := { dst := some 67, op := Op.pick (Operand.tmp 65) (Operand.tmp 66) (Operand.const (Value.bool false)), type := 4, pos := "law.go:135", after := #[{ on := 52, ground := Ground.data }, { on := 53, ground := Ground.data }], guard := none }) (v := ?tk40) rfl (by kernel_rfl) (by kernel_rfl) (by kernel_rfl) (fun _ _ _ h => h) (Or.inl ⟨by rfl, ?tw40⟩) hHeld11 ?_
    case tw40 => (intro W hW; clear hW; first | (go_simp; done) | (go_simp; with_reducible rfl))
    try simp only [Act.put, List.setIfInBounds_toArray, List.set_cons_zero, List.set_cons_succ]
    refine wpAnyH_take (i := 55) (oi := { dst := some 2, op := Op.assign (Operand.tmp 67), type := 4, pos := "law.go:135", after := #[{ on := 54, ground := Ground.data }, { on := 53, ground := Ground.chain }, { on := 0, ground := Ground.phase }, { on := 1, ground := Ground.phase }, { on := 2, ground := Ground.phase }, { on := 3, ground := Ground.phase }, { on := 4, ground := Ground.phase }, { on := 5, ground := Ground.phase }, { on := 6, ground := Ground.phase }, { on := 7, ground := Ground.phase }, { on := 8, ground := Ground.phase }, { on := 9, ground := Ground.phase }, { on := 10, ground := Ground.phase }, { on := 11, ground := Ground.phase }, { on := 12, ground := Ground.phase }, { on := 13, ground := Ground.phase }, { on := 14, ground := Ground.phase }, { on := 15, ground := Ground.phase }, { on := 16, ground := Ground.phase }, { on := 17, ground := Ground.phase }, { on := 18, ground := Ground.phase }, { on := 19, ground := Ground.phase }, { on := 20, ground := Ground.phase }, { on := 21, ground := Ground.phase }, { on := 22, ground := Ground.phase }, { on := 23, ground := Ground.phase }, { on := 24, ground := Ground.phase }, { on := 25, ground := Ground.phase }, { on := 26, ground := Ground.phase }, { on := 27, ground := Ground.phase }, { on := 28, ground := Ground.phase }, { on := 29, ground := Ground.phase }, { on := 30, ground := Ground.phase }, { on := 31, ground := Ground.phase }, { on := 32, ground := Ground.phase }, { on := 33, ground := Ground.phase }, { on := 34, ground := Ground.phase }, { on := 35, ground := Ground.phase }, { on := 36, ground := Ground.phase }, { on := 37, ground := Ground.phase }, { on := 38, ground := Ground.phase }, { on := 39, ground := Ground.phase }, { on := 40, ground := Ground.phase }, { on := 41, ground := Ground.phase }, { on := 42, ground := Ground.phase }, { on := 43, ground := Ground.phase }, { on := 44, ground := Ground.phase }, { on := 45, ground := Ground.phase }, { on := 46, ground := Ground.phase }, { on := 47, ground := Ground.phase }, { on := 48, ground := Ground.phase }, { on := 49, ground := Ground.phase }, { on := 50, ground := Ground.phase }, { on := 51, ground := Ground.phase }, { on := 52, ground := Ground.phase }, { on := 53, ground := Ground.phase }, { on := 54, ground := Ground.phase }], guard := none }) (v := ?tk41) rfl (by kernel_rfl) (by kernel_rfl) (by kernel_rfl) (fun _ _ _ h => h) (Or.inl ⟨by rfl, ?tw41⟩) hHeld11 ?_
    case tw41 => (intro W hW; clear hW; first | (go_simp; done) | (go_simp; with_reducible rfl))
    try simp only [Act.put, List.setIfInBounds_toArray, List.set_cons_zero, List.set_cons_succ]
    refine wpAnyH_done (by kernel_rfl) ?_ _
    refine NoPanic.normal ?_
    go_wp2_with fail
    go_ret
    exact ⟨rfl, HL_11.out⟩
end Go.Proofs.YtjpieoepokakgaaDoor
