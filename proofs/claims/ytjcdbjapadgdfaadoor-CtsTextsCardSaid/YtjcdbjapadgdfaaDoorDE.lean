/- CtsTexts walked. -/
import Derived.Test.YtjcdbjapadgdfaaDoorCG
import Derived.Test.YtjcdbjapadgdfaaDoorDD
namespace Go.Proofs.YtjcdbjapadgdfaaDoor
open Go.RowKit Go.Shelf

attribute [local go_sem] Oper.semAt_some
set_option maxRecDepth 100000 in
theorem texts_none (x y z : Nat) (ak av az : Option Addr) (ck cv cz : Nat) (h : 20 < x ∨ 20 < y ∨ 200 < z) (w : World) :
    Calls Tryd.prog 3 #[.slice ak x ck, .slice av y cv, .slice az z cz] w fun e w' => e = .returned (.bool true) ∧ Below w.heap.size w w' := by
  have HKN := Lib.hid (known_any w)
  by_cases h1 : 20 < x
  · have i1 : (20 : Int) < ((x : Nat) : Int) := by omega
    clear h
    go_enter Tryd.func3, Tryd.ntmps3
    go_wp2_with fail
    refine HKN.out.mono ?_
    rintro e w1 ⟨rfl, hb⟩
    have HB := Lib.hid hb
    clear hb HKN
    go_wp2_with fail
    go_ret
    exact ⟨rfl, HB.out⟩
  · have i1 : ¬ (20 : Int) < ((x : Nat) : Int) := by omega
    by_cases h2 : 20 < y
    · have i2 : (20 : Int) < ((y : Nat) : Int) := by omega
      clear h h1
      go_enter Tryd.func3, Tryd.ntmps3
      go_wp2_with fail
      refine HKN.out.mono ?_
      rintro e w1 ⟨rfl, hb⟩
      have HB := Lib.hid hb
      clear hb HKN
      go_wp2_with fail
      go_ret
      exact ⟨rfl, HB.out⟩
    · have i2 : ¬ (20 : Int) < ((y : Nat) : Int) := by omega
      have i3 : (200 : Int) < ((z : Nat) : Int) := by omega
      clear h h1 h2
      go_enter Tryd.func3, Tryd.ntmps3
      go_wp2_with fail
      refine HKN.out.mono ?_
      rintro e w1 ⟨rfl, hb⟩
      have HB := Lib.hid hb
      clear hb HKN
      go_wp2_with fail
      go_ret
      exact ⟨rfl, HB.out⟩
set_option maxRecDepth 100000 in
set_option maxHeartbeats 2000000 in
theorem texts_err (ks iv zs : List Nat) (ak av az : Option Addr) (ck cv cz : Nat) (er : Int) (w : World) (hk : BytesAt ks (.slice ak ks.length ck) w) (hv : BytesAt iv (.slice av iv.length cv) w) (hz : BytesAt zs (.slice az zs.length cz) w) (hzn : Nil0 (.slice az zs.length cz))
    (h1 : ks.length ≤ 20) (h2 : iv.length ≤ 20) (h3 : zs.length ≤ 200)
    (he : (er = 2 ∧ (ks.length ≠ 16 ∨ iv.length ≠ 16)) ∨ (er = 4 ∧ ks.length = 16 ∧ iv.length = 16 ∧ zs.length < 16)) :
    Calls Tryd.prog 3 #[.slice ak ks.length ck, .slice av iv.length cv, .slice az zs.length cz] w fun e w' => e = .returned (.bool true) ∧ Below w.heap.size w w' := by
  have HEN := Lib.hid (fun (a : Option Addr) (c : Nat) (W : World) (hb : Below w.heap.size w W) => show Calls Tryd.prog 6 #[.slice ak ks.length ck, .slice av iv.length cv, .slice a zs.length c] W (fun e w' => e = .returned (.tuple #[.slice none 0 0, .int .i64 er]) ∧ Below W.heap.size W w') from by
    rcases he with ⟨rfl, h⟩ | ⟨rfl, h4, h5, h6⟩
    · exact enc_arg ks iv _ _ a _ c h W (hk.kept hb) (hv.kept hb)
    · exact enc_short ks iv _ _ a _ c h4 h5 h6 W (hk.kept hb) (hv.kept hb))
  have HDN := Lib.hid (fun (a : Option Addr) (c : Nat) (W : World) (hb : Below w.heap.size w W) => show Calls Tryd.prog 7 #[.slice ak ks.length ck, .slice av iv.length cv, .slice a zs.length c] W (fun e w' => e = .returned (.tuple #[.slice none 0 0, .int .i64 er]) ∧ Below W.heap.size W w') from by
    rcases he with ⟨rfl, h⟩ | ⟨rfl, h4, h5, h6⟩
    · exact dec_arg ks iv _ _ a _ c h W (hk.kept hb) (hv.kept hb)
    · exact dec_short ks iv _ _ a _ c h4 h5 h6 W (hk.kept hb) (hv.kept hb))
  have HZ := Lib.hid hz
  have HZN := Lib.hid hzn
  obtain ⟨x, hx⟩ : ∃ x, ks.length = x := ⟨_, rfl⟩
  obtain ⟨y, hy⟩ : ∃ y, iv.length = y := ⟨_, rfl⟩
  obtain ⟨L, hL⟩ : ∃ L, zs.length = L := ⟨_, rfl⟩
  have HL := Lib.hid hL
  rw [hx, hy, hL] at he HEN HDN
  rw [hx] at h1 ⊢
  rw [hy] at h2 ⊢
  rw [hL] at h3 HZ HZN ⊢
  have i1 : ¬ (20 : Int) < ((x : Nat) : Int) := by omega
  have i2 : ¬ (20 : Int) < ((y : Nat) : Int) := by omega
  have i3 : ¬ (200 : Int) < ((L : Nat) : Int) := by omega
  have HW0 := Lib.hid (show Below w.heap.size w (w.alloc (.cells #[] 5)) from (Below.refl _ _).alloc (Nat.le_refl _) _)
  have HO0 := Lib.hid (show (w.alloc (.cells #[] 5)).ownsRow w.heap.size 5 1 (.slice (some ⟨w.heap.size, 0, none⟩) 0 0) ([] : List Nat).length (cl []) from World.ownsRow_lit _ #[] 0 (Nat.le_refl _) (by unfold maxLen; omega) rfl)
  clear hk hv hz hzn hx hy hL
  go_enter Tryd.func3, Tryd.ntmps3
  go_wp2_with (at_builtin; refine wpList_app rfl _ _ rfl w.heap.size rfl rfl HO0.out (HZ.out.kept HW0.out) HZN.out (by rw [HL.out]; simp; omega) (by simp) ?_; intro v1 w1 hown1 hgrow1; have hb1 := below_owned HW0.out HO0.out hgrow1 (by simp); have HO1 := Lib.hid hown1; have HW1 := Lib.hid hb1; clear hown1 hgrow1 hb1)
  have ho1 := HO1.out
  rw [List.nil_append, HL.out] at ho1
  obtain ⟨a1, c1, rfl⟩ := owns_slice ho1
  have ho2 := ho1
  rw [← HL.out] at ho2
  have hB1 := (owns_both HZ.out.1 ho2).1
  rw [HL.out] at hB1
  have HB1 := Lib.hid hB1
  have HN1 := Lib.hid (owns_nil0 ho1)
  have HE1 := Lib.hid (HEN.out a1 c1 w1 HW1.out)
  clear ho1 ho2 hB1 HO1 HO0 HW0 HEN
  go_wp2_with fail
  refine HE1.out.mono ?_
  rintro e w2 ⟨rfl, hw2⟩
  have HW2 := Lib.hid (bthen HW1.out hw2)
  have HB2 := Lib.hid (HB1.out.kept hw2)
  have HD2 := Lib.hid (HDN.out a1 c1 w2 HW2.out)
  clear hw2 HE1 HB1 HDN
  go_wp2_with fail
  refine HD2.out.mono ?_
  rintro e w3 ⟨rfl, hw3⟩
  have HW3 := Lib.hid (bthen HW2.out hw3)
  have hst1 := str_bytes (HB2.out.kept hw3) HN1.out
  have hst2 := str_bytes (HZ.out.kept HW3.out) HZN.out
  have HKN := Lib.hid (known_any w3)
  clear hw3 HD2 HB2
  rcases he with ⟨rfl, h⟩ | ⟨rfl, h4, h5, h6⟩
  · by_cases hx16 : x = 16
    · have hy16 : ¬ ((y : Nat) : Int) = 16 := by omega
      subst hx16
      clear h
      go_wp2_with fail
      refine HKN.out.mono ?_
      rintro e w4 ⟨rfl, hw4⟩
      have HW4 := Lib.hid (bthen HW3.out hw4)
      clear hw4 HKN
      go_wp2_with fail
      go_ret
      exact ⟨rfl, HW4.out⟩
    · have hx17 : ¬ ((x : Nat) : Int) = 16 := by omega
      clear h
      go_wp2_with fail
      refine HKN.out.mono ?_
      rintro e w4 ⟨rfl, hw4⟩
      have HW4 := Lib.hid (bthen HW3.out hw4)
      clear hw4 HKN
      go_wp2_with fail
      go_ret
      exact ⟨rfl, HW4.out⟩
  · subst h4 h5
    have hl16 : ((L : Nat) : Int) < 16 := by omega
    go_wp2_with fail
    refine HKN.out.mono ?_
    rintro e w4 ⟨rfl, hw4⟩
    have HW4 := Lib.hid (bthen HW3.out hw4)
    clear hw4 HKN
    go_wp2_with fail
    go_ret
    exact ⟨rfl, HW4.out⟩
set_option maxRecDepth 100000 in
set_option maxHeartbeats 8000000 in
theorem texts_all (ks iv zs : List Nat) (ak av az : Option Addr) (ck cv cz : Nat) (w : World) (hG : SG w) (hk : BytesAt ks (.slice ak ks.length ck) w) (hv : BytesAt iv (.slice av iv.length cv) w) (hz : BytesAt zs (.slice az zs.length cz) w) (hzn : Nil0 (.slice az zs.length cz))
    (h1 : ks.length = 16) (h2 : iv.length = 16) (h3 : 16 ≤ zs.length) (h4 : zs.length ≤ 200) :
    Calls Tryd.prog 3 #[.slice ak ks.length ck, .slice av iv.length cv, .slice az zs.length cz] w fun e w' => e = .returned (.bool true) ∧ Below w.heap.size w w' := by
  have HEN := Lib.hid (fun (a : Option Addr) (c : Nat) (W : World) (hb : Below w.heap.size w W) (hB : BytesAt zs (.slice a zs.length c) W) => enc_any ks iv zs (.slice ak ks.length ck) (.slice av iv.length cv) a zs.length c rfl h1 h2 h3 (by omega) W (hk.kept hb) (hv.kept hb) hB)
  have HDN := Lib.hid (fun (a : Option Addr) (c : Nat) (W : World) (hb : Below w.heap.size w W) (hB : BytesAt zs (.slice a zs.length c) W) => dec_any ks iv zs (.slice ak ks.length ck) (.slice av iv.length cv) a zs.length c rfl h1 h2 h3 (by omega) W (hk.kept hb) (hv.kept hb) hB)
  have HRE := Lib.hid (fun (W : World) (hb : Below w.heap.size w W) => rencrypt_any ks iv zs (.slice ak ks.length ck) (.slice av iv.length cv) (.slice az zs.length cz) h1 h2 h3 h4 W (hG.kept hb) (hk.kept hb) (hv.kept hb) (hz.kept hb))
  have HRD := Lib.hid (fun (W : World) (hb : Below w.heap.size w W) => rdecrypt_any ks iv zs (.slice ak ks.length ck) (.slice av iv.length cv) (.slice az zs.length cz) h1 h2 h3 h4 W (hG.kept hb) (hk.kept hb) (hv.kept hb) (hz.kept hb))
  have HEL := Lib.hid (encL_len hk.1 h2 hv.1 hz.1)
  have HDL := Lib.hid (decL_len hk.1 h2 hz.1 (iv := iv))
  have HZ := Lib.hid hz
  have HZN := Lib.hid hzn
  obtain ⟨L, hL⟩ : ∃ L, zs.length = L := ⟨_, rfl⟩
  have HL := Lib.hid hL
  obtain ⟨E, hE⟩ : ∃ q, encL ks iv zs = q := ⟨_, rfl⟩
  obtain ⟨R, hR⟩ : ∃ q, decL ks iv zs = q := ⟨_, rfl⟩
  rw [hE] at HEN HRE HEL
  rw [hR] at HDN HRD HDL
  rw [h1] at HEN HDN HRE HRD ⊢
  rw [h2] at HEN HDN HRE HRD ⊢
  rw [hL] at h3 h4 HEN HDN HRE HRD HEL HDL HZ HZN ⊢
  have hL0 : 0 < L := by omega
  have i3 : ¬ (200 : Int) < ((L : Nat) : Int) := by omega
  have i4 : ¬ ((L : Nat) : Int) < 16 := by omega
  have HW0 := Lib.hid (show Below w.heap.size w (w.alloc (.cells #[] 5)) from (Below.refl _ _).alloc (Nat.le_refl _) _)
  have HO0 := Lib.hid (show (w.alloc (.cells #[] 5)).ownsRow w.heap.size 5 1 (.slice (some ⟨w.heap.size, 0, none⟩) 0 0) ([] : List Nat).length (cl []) from World.ownsRow_lit _ #[] 0 (Nat.le_refl _) (by unfold maxLen; omega) rfl)
  clear hk hv hz hzn hL hE hR h1 h2 hG
  go_enter Tryd.func3, Tryd.ntmps3
  go_wp2_with (at_builtin; refine wpList_app rfl _ _ rfl w.heap.size rfl rfl HO0.out (HZ.out.kept HW0.out) HZN.out (by rw [HL.out]; simp; omega) (by simp) ?_; intro v1 w1 hown1 hgrow1; have hb1 := below_owned HW0.out HO0.out hgrow1 (by simp); have HO1 := Lib.hid hown1; have HW1 := Lib.hid hb1; clear hown1 hgrow1 hb1)
  have ho1 := HO1.out
  rw [List.nil_append, HL.out] at ho1
  have ho2 := ho1
  rw [← HL.out] at ho2
  have hB1 := (owns_both HZ.out.1 ho2).1
  have HN1 := Lib.hid (owns_nil0 ho1)
  obtain ⟨a1, c1, rfl⟩ := owns_slice ho1
  have HB1 := Lib.hid hB1
  have HE1 := Lib.hid (HEN.out a1 c1 w1 HW1.out hB1)
  clear ho1 ho2 hB1 HO1 HO0 HW0 HEN
  go_wp2_with fail
  refine HE1.out.mono ?_
  rintro e w2 ⟨sx, rfl, hb2, hn2, _, hw2⟩
  obtain ⟨bx, ox, cx, rfl, hcx⟩ := bytes_shape hb2 HEL.out hL0
  have HBX := Lib.hid hb2
  have HW2 := Lib.hid (bthen HW1.out hw2)
  have HB2 := Lib.hid (HB1.out.kept hw2)
  have HD2 := Lib.hid (HDN.out _ c1 w2 HW2.out HB2.out)
  clear hw2 hb2 hn2 HE1 HB1 HDN
  go_wp2_with fail
  refine HD2.out.mono ?_
  rintro e w3 ⟨sy, rfl, hb3, hn3, _, hw3⟩
  obtain ⟨by', oy, cy, rfl, hcy⟩ := bytes_shape hb3 HDL.out hL0
  have HW3 := Lib.hid (bthen HW2.out hw3)
  have hst1 := str_bytes (HB2.out.kept hw3) HN1.out
  have hst2 := str_bytes (HZ.out.kept HW3.out) HZN.out
  have Hp_0 := Lib.hid (show BytesAt E (.slice (some ⟨bx, ox, none⟩) L cx) w3.drew from HBX.out.kept hw3.drew)
  have Hq_0 := Lib.hid (show BytesAt R (.slice (some ⟨by', oy, none⟩) L cy) w3.drew from hb3)
  have HL_0 := Lib.hid (show Below w.heap.size w w3.drew from HW3.out.drew)
  clear hw3 hb3 hn3 HD2 HB2 HBX hcx hcy
  go_upto_region 15 with fail
  refine wp_region_noPanic ?_
  refine wp_region_held_drew (S := fun W => BytesAt E (.slice (some ⟨bx, ox, none⟩) L cx) W ∧ BytesAt R (.slice (some ⟨by', oy, none⟩) L cy) W) (by kernel_rfl) ⟨Hp_0.out, Hq_0.out⟩ (fun hHeld0 => ?_)
  obtain ⟨x0, hx0⟩ : ∃ X, w3.drew = X := ⟨_, rfl⟩
  rw [hx0] at Hp_0 Hq_0 HL_0 hHeld0 ⊢
  clear hx0
  refine wpAnyH_take (i := 0) (oi := { dst := some 83, op := Op.move (Operand.tmp 9), type := 24, pos := "law.go:39", after := #[], guard := none }) (v := ?tk0) rfl (by kernel_rfl) (by kernel_rfl) (by kernel_rfl) (fun _ _ _ h => h) (Or.inl ⟨by rfl, ?tw0⟩) hHeld0 ?_
  case tw0 => (intro W hW; clear hW; first | (go_simp; done) | (go_simp; with_reducible rfl))
  try simp only [Act.put, List.setIfInBounds_toArray, List.set_cons_zero, List.set_cons_succ]
  refine wpAnyH_take (i := 1) (oi := { dst := some 84, op := Op.binOp BinOp.eql 24 (Operand.tmp 83) (Operand.const (Value.int IntKind.i64 0)) 24, type := 4, pos := "law.go:39", after := #[{ on := 0, ground := Ground.data }], guard := none }) (v := ?tk1) rfl (by kernel_rfl) (by kernel_rfl) (by kernel_rfl) (fun _ _ _ h => h) (Or.inl ⟨by rfl, ?tw1⟩) hHeld0 ?_
  case tw1 => (intro W hW; clear hW; first | (go_simp; done) | (go_simp; with_reducible rfl))
  try simp only [Act.put, List.setIfInBounds_toArray, List.set_cons_zero, List.set_cons_succ]
  refine wpAnyH_take (i := 2) (oi := { dst := some 85, op := Op.move (Operand.tmp 84), type := 4, pos := "law.go:39", after := #[{ on := 1, ground := Ground.data }], guard := none }) (v := ?tk2) rfl (by kernel_rfl) (by kernel_rfl) (by kernel_rfl) (fun _ _ _ h => h) (Or.inl ⟨by rfl, ?tw2⟩) hHeld0 ?_
  case tw2 => (intro W hW; clear hW; first | (go_simp; done) | (go_simp; with_reducible rfl))
  try simp only [Act.put, List.setIfInBounds_toArray, List.set_cons_zero, List.set_cons_succ]
  refine wpAnyH_take (i := 3) (oi := { dst := some 86, op := Op.move (Operand.tmp 11), type := 24, pos := "law.go:39", after := #[{ on := 2, ground := Ground.guard }], guard := some (2, true) }) (v := ?tk3) rfl (by kernel_rfl) (by kernel_rfl) (by kernel_rfl) (fun _ _ _ h => h) (Or.inl ⟨by rfl, ?tw3⟩) hHeld0 ?_
  case tw3 => (intro W hW; clear hW; first | (go_simp; done) | (go_simp; with_reducible rfl))
  try simp only [Act.put, List.setIfInBounds_toArray, List.set_cons_zero, List.set_cons_succ]
  refine wpAnyH_take (i := 4) (oi := { dst := some 87, op := Op.binOp BinOp.eql 24 (Operand.tmp 86) (Operand.const (Value.int IntKind.i64 0)) 24, type := 4, pos := "law.go:39", after := #[{ on := 3, ground := Ground.data }, { on := 2, ground := Ground.guard }], guard := some (2, true) }) (v := ?tk4) rfl (by kernel_rfl) (by kernel_rfl) (by kernel_rfl) (fun _ _ _ h => h) (Or.inl ⟨by rfl, ?tw4⟩) hHeld0 ?_
  case tw4 => (intro W hW; clear hW; first | (go_simp; done) | (go_simp; with_reducible rfl))
  try simp only [Act.put, List.setIfInBounds_toArray, List.set_cons_zero, List.set_cons_succ]
  refine wpAnyH_take (i := 5) (oi := { dst := some 88, op := Op.pick (Operand.tmp 85) (Operand.tmp 87) (Operand.const (Value.bool false)), type := 4, pos := "law.go:39", after := #[{ on := 2, ground := Ground.data }, { on := 4, ground := Ground.data }], guard := none }) (v := ?tk5) rfl (by kernel_rfl) (by kernel_rfl) (by kernel_rfl) (fun _ _ _ h => h) (Or.inl ⟨by rfl, ?tw5⟩) hHeld0 ?_
  case tw5 => (intro W hW; clear hW; first | (go_simp; done) | (go_simp; with_reducible rfl))
  try simp only [Act.put, List.setIfInBounds_toArray, List.set_cons_zero, List.set_cons_succ]
  refine wpAnyH_take (i := 6) (oi := { dst := some 89, op := Op.move (Operand.tmp 88), type := 4, pos := "law.go:39", after := #[{ on := 5, ground := Ground.data }, { on := 2, ground := Ground.chain }], guard := none }) (v := ?tk6) rfl (by kernel_rfl) (by kernel_rfl) (by kernel_rfl) (fun _ _ _ h => h) (Or.inl ⟨by rfl, ?tw6⟩) hHeld0 ?_
  case tw6 => (intro W hW; clear hW; first | (go_simp; done) | (go_simp; with_reducible rfl))
  try simp only [Act.put, List.setIfInBounds_toArray, List.set_cons_zero, List.set_cons_succ]
  refine wpAnyH_take (i := 7) (oi := { dst := some 90, op := Op.move (Operand.tmp 8), type := 22, pos := "law.go:39", after := #[{ on := 6, ground := Ground.guard }], guard := some (6, true) }) (v := ?tk7) rfl (by kernel_rfl) (by kernel_rfl) (by kernel_rfl) (fun _ _ _ h => h) (Or.inl ⟨by rfl, ?tw7⟩) hHeld0 ?_
  case tw7 => (intro W hW; clear hW; first | (go_simp; done) | (go_simp; with_reducible rfl))
  try simp only [Act.put, List.setIfInBounds_toArray, List.set_cons_zero, List.set_cons_succ]
  refine wpAnyH_take (i := 8) (oi := { dst := some 91, op := Op.convert 22 9 (Operand.tmp 90), type := 9, pos := "law.go:39", after := #[{ on := 7, ground := Ground.data }, { on := 6, ground := Ground.guard }], guard := some (6, true) }) (v := .string (strOf E)) rfl (by kernel_rfl) (by kernel_rfl) (by kernel_rfl) (fun _ _ _ h => h) (Or.inl ⟨by rfl, fun W hW => ?_⟩) hHeld0 ?_
  · (have h := str_bytes hW.1 (fun _ _ e => by cases e); clear hW; go_simp)
  try simp only [Act.put, List.setIfInBounds_toArray, List.set_cons_zero, List.set_cons_succ]
  refine wpAnyH_take (i := 9) (oi := { dst := some 92, op := Op.move (Operand.tmp 0), type := 22, pos := "law.go:39", after := #[{ on := 6, ground := Ground.guard }], guard := some (6, true) }) (v := ?tk8) rfl (by kernel_rfl) (by kernel_rfl) (by kernel_rfl) (fun _ _ _ h => h) (Or.inl ⟨by rfl, ?tw8⟩) hHeld0 ?_
  case tw8 => (intro W hW; clear hW; first | (go_simp; done) | (go_simp; with_reducible rfl))
  try simp only [Act.put, List.setIfInBounds_toArray, List.set_cons_zero, List.set_cons_succ]
  refine wpAnyH_take (i := 10) (oi := { dst := some 93, op := Op.move (Operand.tmp 1), type := 22, pos := "law.go:39", after := #[{ on := 6, ground := Ground.guard }], guard := some (6, true) }) (v := ?tk9) rfl (by kernel_rfl) (by kernel_rfl) (by kernel_rfl) (fun _ _ _ h => h) (Or.inl ⟨by rfl, ?tw9⟩) hHeld0 ?_
  case tw9 => (intro W hW; clear hW; first | (go_simp; done) | (go_simp; with_reducible rfl))
  try simp only [Act.put, List.setIfInBounds_toArray, List.set_cons_zero, List.set_cons_succ]
  refine wpAnyH_take (i := 11) (oi := { dst := some 94, op := Op.move (Operand.tmp 2), type := 22, pos := "law.go:39", after := #[{ on := 6, ground := Ground.guard }], guard := some (6, true) }) (v := ?tk10) rfl (by kernel_rfl) (by kernel_rfl) (by kernel_rfl) (fun _ _ _ h => h) (Or.inl ⟨by rfl, ?tw10⟩) hHeld0 ?_
  case tw10 => (intro W hW; clear hW; first | (go_simp; done) | (go_simp; with_reducible rfl))
  try simp only [Act.put, List.setIfInBounds_toArray, List.set_cons_zero, List.set_cons_succ]
  refine wpAnyH_ready (rs := [12]) (by kernel_rfl) (by simp) ?_
  refine AllReadyH.cons (o := { dst := some 95, op := Op.call { callee := Callee.value (Operand.func 8), args := #[Operand.tmp 92, Operand.tmp 93, Operand.tmp 94], argTypes := #[22, 22, 22] }, type := 22, pos := "law.go:39", after := #[{ on := 9, ground := Ground.data }, { on := 10, ground := Ground.data }, { on := 11, ground := Ground.data }, { on := 6, ground := Ground.chain }, { on := 6, ground := Ground.guard }], guard := some (6, true) }) rfl (fun K' hK => ?_) AllReadyH.nil
  go_simp
  refine (HRE.out _ HL_0.out).mono ?_
  rintro e x1 ⟨s5, rfl, hbb, hnn, hb⟩
  have Hp_1 := Lib.hid (Hp_0.out.kept hb)
  have Hq_1 := Lib.hid (Hq_0.out.kept hb)
  have HL_1 := Lib.hid (bthen HL_0.out hb)
  have hsts5 := str_bytes hbb hnn
  clear hbb hnn hb
  refine hK.out _ _ ⟨Hp_1.out, Hq_1.out⟩ (fun hHeld1 => ?_)
  clear hK K'
  try simp only [Act.put, List.setIfInBounds_toArray, List.set_cons_zero, List.set_cons_succ]
  refine wpAnyH_ready (rs := [13]) (by kernel_rfl) (by simp) ?_
  refine AllReadyH.cons (o := { dst := some 96, op := Op.convert 22 9 (Operand.tmp 95), type := 9, pos := "law.go:39", after := #[{ on := 12, ground := Ground.data }, { on := 6, ground := Ground.guard }], guard := some (6, true) }) rfl (fun K' hK => ?_) AllReadyH.nil
  go_simp
  clear hsts5
  obtain ⟨x2, hxx⟩ : ∃ X, X = x1 := ⟨_, rfl⟩
  subst hxx
  have Hp_2 := Hp_1
  have Hq_2 := Hq_1
  have HL_2 := HL_1
  refine hK.out _ _ ⟨Hp_2.out, Hq_2.out⟩ (fun hHeld2 => ?_)
  clear hK K'
  try simp only [Act.put, List.setIfInBounds_toArray, List.set_cons_zero, List.set_cons_succ]
  refine wpAnyH_take (i := 14) (oi := { dst := some 97, op := Op.binOp BinOp.eql 9 (Operand.tmp 91) (Operand.tmp 96) 9, type := 4, pos := "law.go:39", after := #[{ on := 8, ground := Ground.data }, { on := 13, ground := Ground.data }, { on := 6, ground := Ground.guard }], guard := some (6, true) }) (v := ?tk11) rfl (by kernel_rfl) (by kernel_rfl) (by kernel_rfl) (fun _ _ _ h => h) (Or.inl ⟨by rfl, ?tw11⟩) hHeld2 ?_
  case tw11 => (intro W hW; clear hW; first | (go_simp; done) | (go_simp; with_reducible rfl))
  try simp only [Act.put, List.setIfInBounds_toArray, List.set_cons_zero, List.set_cons_succ]
  refine wpAnyH_take (i := 15) (oi := { dst := some 98, op := Op.pick (Operand.tmp 89) (Operand.tmp 97) (Operand.const (Value.bool false)), type := 4, pos := "law.go:39", after := #[{ on := 6, ground := Ground.data }, { on := 14, ground := Ground.data }], guard := none }) (v := ?tk12) rfl (by kernel_rfl) (by kernel_rfl) (by kernel_rfl) (fun _ _ _ h => h) (Or.inl ⟨by rfl, ?tw12⟩) hHeld2 ?_
  case tw12 => (intro W hW; clear hW; first | (go_simp; done) | (go_simp; with_reducible rfl))
  try simp only [Act.put, List.setIfInBounds_toArray, List.set_cons_zero, List.set_cons_succ]
  refine wpAnyH_take (i := 16) (oi := { dst := some 99, op := Op.move (Operand.tmp 98), type := 4, pos := "law.go:39", after := #[{ on := 15, ground := Ground.data }, { on := 12, ground := Ground.chain }], guard := none }) (v := ?tk13) rfl (by kernel_rfl) (by kernel_rfl) (by kernel_rfl) (fun _ _ _ h => h) (Or.inl ⟨by rfl, ?tw13⟩) hHeld2 ?_
  case tw13 => (intro W hW; clear hW; first | (go_simp; done) | (go_simp; with_reducible rfl))
  try simp only [Act.put, List.setIfInBounds_toArray, List.set_cons_zero, List.set_cons_succ]
  refine wpAnyH_take (i := 17) (oi := { dst := some 100, op := Op.move (Operand.tmp 10), type := 22, pos := "law.go:39", after := #[{ on := 16, ground := Ground.guard }], guard := some (16, true) }) (v := ?tk14) rfl (by kernel_rfl) (by kernel_rfl) (by kernel_rfl) (fun _ _ _ h => h) (Or.inl ⟨by rfl, ?tw14⟩) hHeld2 ?_
  case tw14 => (intro W hW; clear hW; first | (go_simp; done) | (go_simp; with_reducible rfl))
  try simp only [Act.put, List.setIfInBounds_toArray, List.set_cons_zero, List.set_cons_succ]
  refine wpAnyH_take (i := 18) (oi := { dst := some 101, op := Op.convert 22 9 (Operand.tmp 100), type := 9, pos := "law.go:39", after := #[{ on := 17, ground := Ground.data }, { on := 16, ground := Ground.guard }], guard := some (16, true) }) (v := .string (strOf R)) rfl (by kernel_rfl) (by kernel_rfl) (by kernel_rfl) (fun _ _ _ h => h) (Or.inl ⟨by rfl, fun W hW => ?_⟩) hHeld2 ?_
  · (have h := str_bytes hW.2 (fun _ _ e => by cases e); clear hW; go_simp)
  try simp only [Act.put, List.setIfInBounds_toArray, List.set_cons_zero, List.set_cons_succ]
  refine wpAnyH_take (i := 19) (oi := { dst := some 102, op := Op.move (Operand.tmp 0), type := 22, pos := "law.go:39", after := #[{ on := 16, ground := Ground.guard }], guard := some (16, true) }) (v := ?tk15) rfl (by kernel_rfl) (by kernel_rfl) (by kernel_rfl) (fun _ _ _ h => h) (Or.inl ⟨by rfl, ?tw15⟩) hHeld2 ?_
  case tw15 => (intro W hW; clear hW; first | (go_simp; done) | (go_simp; with_reducible rfl))
  try simp only [Act.put, List.setIfInBounds_toArray, List.set_cons_zero, List.set_cons_succ]
  refine wpAnyH_take (i := 20) (oi := { dst := some 103, op := Op.move (Operand.tmp 1), type := 22, pos := "law.go:39", after := #[{ on := 16, ground := Ground.guard }], guard := some (16, true) }) (v := ?tk16) rfl (by kernel_rfl) (by kernel_rfl) (by kernel_rfl) (fun _ _ _ h => h) (Or.inl ⟨by rfl, ?tw16⟩) hHeld2 ?_
  case tw16 => (intro W hW; clear hW; first | (go_simp; done) | (go_simp; with_reducible rfl))
  try simp only [Act.put, List.setIfInBounds_toArray, List.set_cons_zero, List.set_cons_succ]
  refine wpAnyH_take (i := 21) (oi := { dst := some 104, op := Op.move (Operand.tmp 2), type := 22, pos := "law.go:39", after := #[{ on := 16, ground := Ground.guard }], guard := some (16, true) }) (v := ?tk17) rfl (by kernel_rfl) (by kernel_rfl) (by kernel_rfl) (fun _ _ _ h => h) (Or.inl ⟨by rfl, ?tw17⟩) hHeld2 ?_
  case tw17 => (intro W hW; clear hW; first | (go_simp; done) | (go_simp; with_reducible rfl))
  try simp only [Act.put, List.setIfInBounds_toArray, List.set_cons_zero, List.set_cons_succ]
  refine wpAnyH_ready (rs := [22]) (by kernel_rfl) (by simp) ?_
  refine AllReadyH.cons (o := { dst := some 105, op := Op.call { callee := Callee.value (Operand.func 9), args := #[Operand.tmp 102, Operand.tmp 103, Operand.tmp 104], argTypes := #[22, 22, 22] }, type := 22, pos := "law.go:39", after := #[{ on := 19, ground := Ground.data }, { on := 20, ground := Ground.data }, { on := 21, ground := Ground.data }, { on := 16, ground := Ground.chain }, { on := 16, ground := Ground.guard }], guard := some (16, true) }) rfl (fun K' hK => ?_) AllReadyH.nil
  go_simp
  refine (HRD.out _ HL_2.out).mono ?_
  rintro e x3 ⟨s6, rfl, hbb, hnn, hb⟩
  have Hp_3 := Lib.hid (Hp_2.out.kept hb)
  have Hq_3 := Lib.hid (Hq_2.out.kept hb)
  have HL_3 := Lib.hid (bthen HL_2.out hb)
  have hsts6 := str_bytes hbb hnn
  clear hbb hnn hb
  refine hK.out _ _ ⟨Hp_3.out, Hq_3.out⟩ (fun hHeld3 => ?_)
  clear hK K'
  try simp only [Act.put, List.setIfInBounds_toArray, List.set_cons_zero, List.set_cons_succ]
  refine wpAnyH_ready (rs := [23]) (by kernel_rfl) (by simp) ?_
  refine AllReadyH.cons (o := { dst := some 106, op := Op.convert 22 9 (Operand.tmp 105), type := 9, pos := "law.go:39", after := #[{ on := 22, ground := Ground.data }, { on := 16, ground := Ground.guard }], guard := some (16, true) }) rfl (fun K' hK => ?_) AllReadyH.nil
  go_simp
  clear hsts6
  obtain ⟨x4, hxx⟩ : ∃ X, X = x3 := ⟨_, rfl⟩
  subst hxx
  have Hp_4 := Hp_3
  have Hq_4 := Hq_3
  have HL_4 := HL_3
  refine hK.out _ _ ⟨Hp_4.out, Hq_4.out⟩ (fun hHeld4 => ?_)
  clear hK K'
  try simp only [Act.put, List.setIfInBounds_toArray, List.set_cons_zero, List.set_cons_succ]
  refine wpAnyH_take (i := 24) (oi := { dst := some 107, op := Op.binOp BinOp.eql 9 (Operand.tmp 101) (Operand.tmp 106) 9, type := 4, pos := "law.go:39", after := #[{ on := 18, ground := Ground.data }, { on := 23, ground := Ground.data }, { on := 16, ground := Ground.guard }], guard := some (16, true) }) (v := ?tk18) rfl (by kernel_rfl) (by kernel_rfl) (by kernel_rfl) (fun _ _ _ h => h) (Or.inl ⟨by rfl, ?tw18⟩) hHeld4 ?_
  case tw18 => (intro W hW; clear hW; first | (go_simp; done) | (go_simp; with_reducible rfl))
  try simp only [Act.put, List.setIfInBounds_toArray, List.set_cons_zero, List.set_cons_succ]
  refine wpAnyH_take (i := 25) (oi := { dst := some 108, op := Op.pick (Operand.tmp 99) (Operand.tmp 107) (Operand.const (Value.bool false)), type := 4, pos := "law.go:39", after := #[{ on := 16, ground := Ground.data }, { on := 24, ground := Ground.data }], guard := none }) (v := ?tk19) rfl (by kernel_rfl) (by kernel_rfl) (by kernel_rfl) (fun _ _ _ h => h) (Or.inl ⟨by rfl, ?tw19⟩) hHeld4 ?_
  case tw19 => (intro W hW; clear hW; first | (go_simp; done) | (go_simp; with_reducible rfl))
  try simp only [Act.put, List.setIfInBounds_toArray, List.set_cons_zero, List.set_cons_succ]
  refine wpAnyH_take (i := 26) (oi := { dst := some 109, op := Op.move (Operand.tmp 108), type := 4, pos := "law.go:39", after := #[{ on := 25, ground := Ground.data }, { on := 22, ground := Ground.chain }], guard := none }) (v := ?tk20) rfl (by kernel_rfl) (by kernel_rfl) (by kernel_rfl) (fun _ _ _ h => h) (Or.inl ⟨by rfl, ?tw20⟩) hHeld4 ?_
  case tw20 => (intro W hW; clear hW; first | (go_simp; done) | (go_simp; with_reducible rfl))
  try simp only [Act.put, List.setIfInBounds_toArray, List.set_cons_zero, List.set_cons_succ]
  refine wpAnyH_ready (rs := [27]) (by kernel_rfl) (by simp) ?_
  refine AllReadyH.cons (o := { dst := some 110, op := Op.call { callee := Callee.value (Operand.func 5), args := #[], argTypes := #[] }, type := 4, pos := "law.go:39", after := #[{ on := 26, ground := Ground.chain }, { on := 26, ground := Ground.guard }], guard := some (26, true) }) rfl (fun K' hK => ?_) AllReadyH.nil
  go_simp
  refine (known_any x4).mono ?_
  rintro e x5 ⟨rfl, hb⟩
  have Hp_5 := Lib.hid (Hp_4.out.kept hb)
  have Hq_5 := Lib.hid (Hq_4.out.kept hb)
  have HL_5 := Lib.hid (bthen HL_4.out hb)
  clear hb
  refine hK.out _ _ ⟨Hp_5.out, Hq_5.out⟩ (fun hHeld5 => ?_)
  clear hK K'
  try simp only [Act.put, List.setIfInBounds_toArray, List.set_cons_zero, List.set_cons_succ]
  refine wpAnyH_take (i := 28) (oi := { dst := some 111, op := Op.pick (Operand.tmp 109) (Operand.tmp 110) (Operand.const (Value.bool false)), type := 4, pos := "law.go:39", after := #[{ on := 26, ground := Ground.data }, { on := 27, ground := Ground.data }], guard := none }) (v := ?tk21) rfl (by kernel_rfl) (by kernel_rfl) (by kernel_rfl) (fun _ _ _ h => h) (Or.inl ⟨by rfl, ?tw21⟩) hHeld5 ?_
  case tw21 => (intro W hW; clear hW; first | (go_simp; done) | (go_simp; with_reducible rfl))
  try simp only [Act.put, List.setIfInBounds_toArray, List.set_cons_zero, List.set_cons_succ]
  refine wpAnyH_take (i := 29) (oi := { dst := some 6, op := Op.assign (Operand.tmp 111), type := 4, pos := "law.go:39", after := #[{ on := 28, ground := Ground.data }, { on := 27, ground := Ground.chain }, { on := 0, ground := Ground.phase }, { on := 1, ground := Ground.phase }, { on := 2, ground := Ground.phase }, { on := 3, ground := Ground.phase }, { on := 4, ground := Ground.phase }, { on := 5, ground := Ground.phase }, { on := 6, ground := Ground.phase }, { on := 7, ground := Ground.phase }, { on := 8, ground := Ground.phase }, { on := 9, ground := Ground.phase }, { on := 10, ground := Ground.phase }, { on := 11, ground := Ground.phase }, { on := 12, ground := Ground.phase }, { on := 13, ground := Ground.phase }, { on := 14, ground := Ground.phase }, { on := 15, ground := Ground.phase }, { on := 16, ground := Ground.phase }, { on := 17, ground := Ground.phase }, { on := 18, ground := Ground.phase }, { on := 19, ground := Ground.phase }, { on := 20, ground := Ground.phase }, { on := 21, ground := Ground.phase }, { on := 22, ground := Ground.phase }, { on := 23, ground := Ground.phase }, { on := 24, ground := Ground.phase }, { on := 25, ground := Ground.phase }, { on := 26, ground := Ground.phase }, { on := 27, ground := Ground.phase }, { on := 28, ground := Ground.phase }], guard := none }) (v := ?tk22) rfl (by kernel_rfl) (by kernel_rfl) (by kernel_rfl) (fun _ _ _ h => h) (Or.inl ⟨by rfl, ?tw22⟩) hHeld5 ?_
  case tw22 => (intro W hW; clear hW; first | (go_simp; done) | (go_simp; with_reducible rfl))
  try simp only [Act.put, List.setIfInBounds_toArray, List.set_cons_zero, List.set_cons_succ]
  refine wpAnyH_done (by kernel_rfl) ?_ _
  refine NoPanic.normal ?_
  go_wp2_with fail
  go_ret
  exact ⟨rfl, HL_5.out⟩
theorem texts_any (ks iv zs : List Nat) (ak av az : Option Addr) (ck cv cz : Nat) (w : World) (hG : SG w) (hk : BytesAt ks (.slice ak ks.length ck) w) (hv : BytesAt iv (.slice av iv.length cv) w) (hz : BytesAt zs (.slice az zs.length cz) w) (hzn : Nil0 (.slice az zs.length cz)) :
    Calls Tryd.prog 3 #[.slice ak ks.length ck, .slice av iv.length cv, .slice az zs.length cz] w fun e w' => e = .returned (.bool true) ∧ Below w.heap.size w w' := by
  by_cases h : 20 < ks.length ∨ 20 < iv.length ∨ 200 < zs.length
  · exact texts_none _ _ _ ak av az ck cv cz h w
  · by_cases h1 : ks.length = 16 ∧ iv.length = 16
    · by_cases h2 : zs.length < 16
      · exact texts_err ks iv zs ak av az ck cv cz 4 w hk hv hz hzn (by omega) (by omega) (by omega) (.inr ⟨rfl, h1.1, h1.2, h2⟩)
      · exact texts_all ks iv zs ak av az ck cv cz w hG hk hv hz hzn h1.1 h1.2 (by omega) (by omega)
    · exact texts_err ks iv zs ak av az ck cv cz 2 w hk hv hz hzn (by omega) (by omega) (by omega) (.inl ⟨rfl, by omega⟩)
end Go.Proofs.YtjcdbjapadgdfaaDoor
