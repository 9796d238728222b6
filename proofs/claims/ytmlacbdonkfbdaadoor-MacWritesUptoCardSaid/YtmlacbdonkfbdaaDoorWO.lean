/- The reference: HMAC. -/
import Derived.Deep.RegionHeld3
import Derived.Test.YtmlacbdonkfbdaaDoorWN
import Derived.Test.YtmlacbdonkfbdaaDoorTL
import Derived.Test.YtmlacbdonkfbdaaDoorWM
namespace Go.Proofs.YtmlacbdonkfbdaaDoor
open Go.RowKit Go.Shelf

/-- What may lie in an own row. -/
def OB (og : Option Nat) (l : List Nat) (base : Nat) (W : World) : Prop := ∀ g, og = some g → base ≤ g ∧ O5 g W ∧ rowN W g = some (arr .u8 l)
theorem OB.kept {og : Option Nat} {l : List Nat} {base : Nat} {W V : World} (h : OB og l base W) (hb : Below W.heap.size W V) : OB og l base V := fun g e => ⟨(h g e).1, (h g e).2.1.kept hb, keptW hb (h g e).2.2⟩
def PB (ov : Option Value) (l : List Nat) (W : World) : Prop := ∀ v, ov = some v → BytesAt l v W ∧ Nil0 v
theorem PB.kept {ov : Option Value} {l : List Nat} {W V : World} (h : PB ov l W) (hb : Below W.heap.size W V) : PB ov l V := fun v e => ⟨(h v e).1.kept hb, (h v e).2⟩
theorem rows_ne {W : World} {g g' : Nat} {l l' : List Nat} (h : rowN W g = some (arr .u8 l)) (h' : rowN W g' = some (arr .u8 l')) (hl : l.length ≠ l'.length) : g ≠ g' := by
  rintro rfl
  rw [h] at h'
  have := congrArg Array.size (Option.some.inj h')
  rw [arr_size, arr_size] at this
  exact hl this
set_option maxRecDepth 100000 in
set_option maxHeartbeats 2000000 in
theorem rhmac_any (key zs : List Nat) (ks s : Value) (hk : key.length ≤ 100000) (hz : zs.length ≤ 90000) (w : World) (hG : RG w) (hKB : BytesAt key ks w) (hKn : Nil0 ks) (hB : BytesAt zs s w) (hnil : Nil0 s) :
    Calls Tryd.prog 12 #[ks, s] w fun e w' => ∃ g, e = .returned (.slice (some ⟨g, 0, none⟩) 32 32) ∧ w.heap.size ≤ g ∧ rowN w' g = some (arr .u8 (macL key zs)) ∧ Below w.heap.size w w' := by
  have H256 := hKB.1
  have HB1 := Lib.hid (kblock_any key ks 54 hk (by omega) w hG hKB hKn)
  have HB2 := Lib.hid (fun (X : World) (hb : Below w.heap.size w X) => kblock_any key ks 92 hk (by omega) X (hG.kept hb) (hKB.kept hb) hKn)
  have HG := Lib.hid hG
  have HB := Lib.hid hB
  have HN := Lib.hid hnil
  have HZ := Lib.hid hz
  have hl54 := Lib.hid (blkL_len 54 key)
  have hl92 := Lib.hid (blkL_len 92 key)
  have h54 := Lib.hid (blkL_256 (m := 54) (by omega) H256)
  have h92 := Lib.hid (blkL_256 (m := 92) (by omega) H256)
  have hO32 := macL_len key zs
  have HOE := Lib.hid (show shaL (blkL 92 key ++ shaL (blkL 54 key ++ zs)) = macL key zs from rfl)
  obtain ⟨B1, hB1⟩ : ∃ x, blkL 54 key = x := ⟨_, rfl⟩
  obtain ⟨B2, hB2⟩ : ∃ x, blkL 92 key = x := ⟨_, rfl⟩
  rw [hB1] at HB1 hl54 h54 HOE
  rw [hB2] at HB2 hl92 h92 HOE
  have hI32 := shaL_len (B1 ++ zs)
  have HI256 := Lib.hid (shaL_256 (B1 ++ zs))
  have HS1 := Lib.hid (fun (v : Value) (X : World) (h1 : RG X) (h2 : BytesAt (B1 ++ zs) v X) (h3 : Nil0 v) => rsum_any (B1 ++ zs) v (by rw [List.length_append, hl54.out]; omega) X h1 h2 h3)
  obtain ⟨I, hI⟩ : ∃ x, shaL (B1 ++ zs) = x := ⟨_, rfl⟩
  rw [hI] at hI32 HI256 HS1 HOE
  have HS2 := Lib.hid (fun (v : Value) (X : World) (h1 : RG X) (h2 : BytesAt (B2 ++ I) v X) (h3 : Nil0 v) => rsum_any (B2 ++ I) v (by rw [List.length_append, hl92.out, hI32]; omega) X h1 h2 h3)
  obtain ⟨O, hO⟩ : ∃ x, macL key zs = x := ⟨_, rfl⟩
  rw [HOE.out, hO] at HS2
  rw [hO] at hO32 ⊢
  have HI32 := Lib.hid hI32
  have HO32 := Lib.hid hO32
  have hz32 := z32_lit
  have hzl : z32.length = 32 := rfl
  have sz2 : (arr .u8 O).size = 32 := by rw [arr_size, hO32]
  have sz3 : (arr .u8 I).size = 32 := by rw [arr_size, hI32]
  have sz4 : (arr .u8 z32).size = 32 := by rw [arr_size]; rfl
  have hs24 := run_slice24_all
  clear hG hKB hKn hB hnil hz hk hB1 hB2 hI hO H256 HOE
  go_enter Tryd.func12, Tryd.ntmps12
  go_wp2_with fail
  refine HB1.out.mono ?_
  rintro e w1 ⟨rfl, hr1, h51, hb1⟩
  have hown1 := h51.owns hr1 (Nat.le_refl _) hl54.out (by omega)
  go_wp2_with (at_builtin; refine wpList_app rfl _ _ rfl w.heap.size rfl rfl hown1 (HB.out.kept hb1) HN.out (by rw [hl54.out]; have := HZ.out; omega) hb1.size ?_; intro v3 w3 hown3 hgrow3)
  have hb3 := below_owned hb1 hown1 hgrow3 hb1.size
  have hy3 := owns_both (fun x hx => by
    rcases List.mem_append.1 hx with hx | hx
    · exact h54.out x hx
    · exact HB.out.1 x hx) hown3
  have hn3 := owns_nil0 hown3
  have HB3 := Lib.hid hb3
  have HC3 := Lib.hid (HS1.out v3 w3 (HG.out.kept hb3) hy3.1 hn3)
  clear hown1 hr1 h51 hb1 hown3 hgrow3 hb3 hy3 hn3
  refine HC3.out.mono ?_
  rintro e w4 ⟨rfl, hb4⟩
  have HB4 := Lib.hid (HB3.out.trans (hb4.mono HB3.out.size))
  clear hb4 HC3
  go_upto_region 2 with fail
  obtain ⟨V, hV⟩ : ∃ V, (w4.alloc (.cells (arr .u8 z32) 27)).setRow w4.heap.size (arr .u8 I) = V := ⟨_, rfl⟩
  have hbV : Below w4.heap.size w4 V := by rw [← hV]; exact below_setRow' ((Below.refl _ _).alloc (Nat.le_refl _) _) (Nat.le_refl _) _
  have hrV : rowN V w4.heap.size = some (arr .u8 I) := by rw [← hV]; exact row_new (cs := arr .u8 z32) (by rw [rowN_alloc, if_pos rfl])
  rw [hV]
  have HBV := Lib.hid (HB4.out.trans (hbV.mono HB4.out.size))
  obtain ⟨g5, hg5⟩ : ∃ g, w4.heap.size = g := ⟨_, rfl⟩
  rw [hg5] at hrV ⊢
  have Hi_0 := Lib.hid (show rowN V.drew g5 = some (arr .u8 I) from hrV)
  have HL_0 := Lib.hid (show Below V.heap.size V V.drew from (Below.refl _ V).drew)
  have Ho_0 := Lib.hid (show OB none B2 V.heap.size V.drew from fun g e => by cases e)
  have Hp_0 := Lib.hid (show PB none (B2 ++ I) V.drew from fun g e => by cases e)
  have hg5V := rowN_lt hrV
  clear hV hbV hrV hg5 HB4 HB3
  refine wp_region_noPanic ?_
  refine wp_region_held_drew (S := fun W => True) (by kernel_rfl) trivial (fun hHeld0 => ?_)
  obtain ⟨x0, hx0⟩ : ∃ X, V.drew = X := ⟨_, rfl⟩
  rw [hx0] at Hi_0 Ho_0 Hp_0 HL_0 ⊢
  clear hx0
  refine wpAnyH_take (i := 0) (oi := { dst := some 12, op := Op.move (Operand.tmp 0), type := 22, pos := "ref.go:25", after := #[], guard := none }) (v := ?tk0) rfl (by kernel_rfl) (by kernel_rfl) (by kernel_rfl) (fun _ _ _ h => h) (Or.inl ⟨by rfl, ?tw0⟩) hHeld0 ?_
  case tw0 => (intro W hW; clear hW; first | (go_simp; done) | (go_simp; with_reducible rfl))
  try simp only [Act.put, List.setIfInBounds_toArray, List.set_cons_zero, List.set_cons_succ]
  refine wpAnyH_take (i := 2) (oi := { dst := some 14, op := Op.slice 27 (Operand.tmp 5) none none none, type := 22, pos := "ref.go:25", after := #[], guard := none }) (v := ?tk1) rfl (by kernel_rfl) (by kernel_rfl) (by kernel_rfl) (fun _ _ _ h => h) (Or.inl ⟨by rfl, ?tw1⟩) hHeld0 ?_
  case tw1 => (intro W hW; clear hW; first | (go_simp; done) | (go_simp; with_reducible rfl))
  try simp only [Act.put, List.setIfInBounds_toArray, List.set_cons_zero, List.set_cons_succ]
  refine wpAnyH_ready (rs := [1, 5]) (by kernel_rfl) (by simp) ?_
  refine AllReadyH.cons (o := { dst := some 13, op := Op.call { callee := Callee.value (Operand.func 21), args := #[Operand.tmp 12, Operand.const (Value.int IntKind.u8 92)], argTypes := #[22, 5] }, type := 22, pos := "ref.go:25", after := #[{ on := 0, ground := Ground.data }], guard := none }) rfl (fun K' hK => ?_) ?_
  · go_simp
    refine ((HB2.out _ (HBV.out.trans (HL_0.out.mono HBV.out.size)))).mono ?_
    rintro e x1 ⟨rfl, hr13, h13, hb⟩
    have hxg : V.heap.size ≤ x0.heap.size := HL_0.out.size
    obtain ⟨g13, hg13⟩ : ∃ g, x0.heap.size = g := ⟨_, rfl⟩
    rw [hg13] at hr13 h13 ⊢
    rw [hg13] at hxg
    have Ho_1 := Lib.hid (show OB (some g13) B2 V.heap.size x1 from fun g e => by obtain rfl := Option.some.inj e; exact ⟨hxg, h13, hr13⟩)
    have Hp_1 := Lib.hid (Hp_0.out.kept hb)
    have Hi_1 := Lib.hid (keptW hb Hi_0.out)
    try have Hh_1 := Lib.hid (keptW hb Hh_0.out)
    have HL_1 := Lib.hid (HL_0.out.trans (hb.mono HL_0.out.size))
    clear hr13 h13 hb hxg hg13
    refine hK.out _ _ trivial (fun hHeld1 => ?_)
    clear hK K'
    try simp only [Act.put, List.setIfInBounds_toArray, List.set_cons_zero, List.set_cons_succ]
    refine wpAnyH_ready (rs := [3, 5]) (by kernel_rfl) (by simp) ?_
    refine AllReadyH.cons (o := { dst := some 15, op := Op.call { callee := Callee.builtin Builtin.append, args := #[Operand.tmp 13, Operand.tmp 14], argTypes := #[22, 22] }, type := 22, pos := "ref.go:25", after := #[{ on := 1, ground := Ground.data }, { on := 2, ground := Ground.data }, { on := 1, ground := Ground.chain }], guard := none }) rfl (fun K' hK => ?_) ?_
    · have hown := (Ho_1.out g13 rfl).2.1.owns (Ho_1.out g13 rfl).2.2 (Ho_1.out g13 rfl).1 hl92.out (by omega)
      refine wp_app _ _ rfl V.heap.size rfl rfl hown (bytes_row HI256.out Hi_1.out 32 HI32.out) (nil0_some _ _ _) (by rw [hl92.out, HI32.out]; omega) HL_1.out.size ?_
      intro vb x2 hva hga
      have HL_2 := Lib.hid (below_owned HL_1.out hown hga HL_1.out.size)
      have hi13 : g5 ≠ g13 := rows_ne Hi_1.out (Ho_1.out g13 rfl).2.2 (by rw [HI32.out, hl92.out]; omega)
      try have hh13 : gh ≠ g13 := rows_ne Hh_1.out (Ho_1.out g13 rfl).2.2 (by rw [hzl, hl92.out]; omega)
      have Hi_2 := Lib.hid (show rowN x2 g5 = some (arr .u8 I) by rw [grownBy_rowN hga (rowN_lt Hi_1.out) (fun e => hi13 (Option.some.inj e))]; exact Hi_1.out)
      try have Hh_2 := Lib.hid (show rowN x2 gh = some (arr .u8 z32) by rw [grownBy_rowN hga (rowN_lt Hh_1.out) (fun e => hh13 (Option.some.inj e))]; exact Hh_1.out)
      have hyb := owns_both (fun x hx => by rcases List.mem_append.1 hx with hx | hx; exact h92.out x hx; exact HI256.out x hx) hva
      have hynb := owns_nil0 hva
      have Ho_2 := Lib.hid (show OB none B2 V.heap.size x2 from fun g e => by cases e)
      have Hp_2 := Lib.hid (show PB (some vb) (B2 ++ I) x2 from fun v e => by obtain rfl := Option.some.inj e; exact ⟨hyb.1, hynb⟩)
      clear hown hva hga hyb hynb
      refine hK.out _ _ trivial (fun hHeld2 => ?_)
      clear hK K'
      try simp only [Act.put, List.setIfInBounds_toArray, List.set_cons_zero, List.set_cons_succ]
      refine wpAnyH_ready (rs := [4, 5]) (by kernel_rfl) (by simp) ?_
      refine AllReadyH.cons (o := { dst := some 16, op := Op.call { callee := Callee.value (Operand.func 20), args := #[Operand.tmp 15], argTypes := #[22] }, type := 27, pos := "ref.go:25", after := #[{ on := 3, ground := Ground.data }, { on := 3, ground := Ground.chain }], guard := none }) rfl (fun K' hK => ?_) ?_
      · go_simp
        refine ((HS2.out vb _ (HG.out.kept (HBV.out.trans (HL_2.out.mono HBV.out.size))) (Hp_2.out vb rfl).1 (Hp_2.out vb rfl).2)).mono ?_
        rintro e x3 ⟨rfl, hb⟩
        have Hi_3 := Lib.hid (keptW hb Hi_2.out)
        have Ho_3 := Lib.hid (Ho_2.out.kept hb)
        have Hp_3 := Lib.hid (Hp_2.out.kept hb)
        have HL_3 := Lib.hid (HL_2.out.trans (hb.mono HL_2.out.size))
        clear hb
        refine hK.out _ _ trivial (fun hHeld3 => ?_)
        clear hK K'
        try simp only [Act.put, List.setIfInBounds_toArray, List.set_cons_zero, List.set_cons_succ]
        refine wpAnyH_ready (rs := [5]) (by kernel_rfl) (by simp) ?_
        refine AllReadyH.cons (o := { dst := some 6, op := Op.alloc 27, type := 0, pos := "ref.go:25", after := #[], guard := none }) rfl (fun K' hK => ?_) AllReadyH.nil
        go_simp
        obtain ⟨x4, hx4⟩ : ∃ X, x3.alloc (.cells (arr .u8 z32) 27) = X := ⟨_, rfl⟩
        have hb : Below x3.heap.size x3 x4 := by rw [← hx4]; exact (Below.refl _ _).alloc (Nat.le_refl _) _
        have Hi_4 := Lib.hid (keptW hb Hi_3.out)
        have Ho_4 := Lib.hid (Ho_3.out.kept hb)
        have Hp_4 := Lib.hid (Hp_3.out.kept hb)
        have HL_4 := Lib.hid (HL_3.out.trans (hb.mono HL_3.out.size))
        have hnew : rowN x4 x3.heap.size = some (arr .u8 z32) := by rw [← hx4, rowN_alloc, if_pos rfl]
        have hgeh : V.heap.size ≤ x3.heap.size := HL_3.out.size
        have hli_h := rowN_lt Hi_3.out
        rw [hx4]
        obtain ⟨gh, hgh⟩ : ∃ g, x3.heap.size = g := ⟨_, rfl⟩
        rw [hgh] at hnew hgeh hli_h ⊢
        have Hh_4 := Lib.hid hnew
        clear hb hnew hgh hx4
        refine hK.out _ _ trivial (fun hHeld4 => ?_)
        clear hK K'
        try simp only [Act.put, List.setIfInBounds_toArray, List.set_cons_zero, List.set_cons_succ]
        refine wpAnyH_ready (rs := [6]) (by kernel_rfl) (by simp) ?_
        refine AllReadyH.cons (o := { dst := none, op := Op.store 27 (Operand.tmp 6) (Operand.tmp 16), type := 0, pos := "ref.go:25", after := #[{ on := 5, ground := Ground.data }, { on := 4, ground := Ground.data }, { on := 4, ground := Ground.chain }, { on := 0, ground := Ground.phase }, { on := 1, ground := Ground.phase }, { on := 2, ground := Ground.phase }, { on := 3, ground := Ground.phase }, { on := 4, ground := Ground.phase }, { on := 5, ground := Ground.phase }], guard := none }) rfl (fun K' hK => ?_) AllReadyH.nil
        have hrow := Hh_4.out
        go_simp
        obtain ⟨x5, hx5⟩ : ∃ X, x4.setRow gh (arr .u8 O) = X := ⟨_, rfl⟩
        rw [hx5]
        have Hi_5 := Lib.hid (show rowN x5 g5 = some (arr .u8 I) by rw [← hx5, rowN_setRow, if_neg (by omega)]; exact Hi_4.out)
        have Hh_5 := Lib.hid (show rowN x5 gh = some (arr .u8 O) by rw [← hx5, rowN_setRow, if_pos rfl, hrow]; rfl)
        have hbl : Below V.heap.size V x5 := by rw [← hx5]; exact below_setRow' HL_4.out (by omega) _
        have HL_5 := Lib.hid hbl
        clear hrow hbl hx5
        refine hK.out _ _ trivial (fun hHeld5 => ?_)
        clear hK K'
        try simp only [Act.put, List.setIfInBounds_toArray, List.set_cons_zero, List.set_cons_succ]
        refine wpAnyH_done (by kernel_rfl) ?_ _
        refine NoPanic.normal ?_
        go_wp2_with fail
        go_ret
        exact ⟨_, rfl, by have := HBV.out.size; omega, Hh_5.out, HBV.out.trans (HL_5.out.mono HBV.out.size)⟩
      refine AllReadyH.cons (o := { dst := some 6, op := Op.alloc 27, type := 0, pos := "ref.go:25", after := #[], guard := none }) rfl (fun K' hK => ?_) AllReadyH.nil
      go_simp
      obtain ⟨x3, hx3⟩ : ∃ X, x2.alloc (.cells (arr .u8 z32) 27) = X := ⟨_, rfl⟩
      have hb : Below x2.heap.size x2 x3 := by rw [← hx3]; exact (Below.refl _ _).alloc (Nat.le_refl _) _
      have Hi_3 := Lib.hid (keptW hb Hi_2.out)
      have Ho_3 := Lib.hid (Ho_2.out.kept hb)
      have Hp_3 := Lib.hid (Hp_2.out.kept hb)
      have HL_3 := Lib.hid (HL_2.out.trans (hb.mono HL_2.out.size))
      have hnew : rowN x3 x2.heap.size = some (arr .u8 z32) := by rw [← hx3, rowN_alloc, if_pos rfl]
      have hgeh : V.heap.size ≤ x2.heap.size := HL_2.out.size
      have hli_h := rowN_lt Hi_2.out
      rw [hx3]
      obtain ⟨gh, hgh⟩ : ∃ g, x2.heap.size = g := ⟨_, rfl⟩
      rw [hgh] at hnew hgeh hli_h ⊢
      have Hh_3 := Lib.hid hnew
      clear hb hnew hgh hx3
      refine hK.out _ _ trivial (fun hHeld3 => ?_)
      clear hK K'
      try simp only [Act.put, List.setIfInBounds_toArray, List.set_cons_zero, List.set_cons_succ]
      refine wpAnyH_ready (rs := [4]) (by kernel_rfl) (by simp) ?_
      refine AllReadyH.cons (o := { dst := some 16, op := Op.call { callee := Callee.value (Operand.func 20), args := #[Operand.tmp 15], argTypes := #[22] }, type := 27, pos := "ref.go:25", after := #[{ on := 3, ground := Ground.data }, { on := 3, ground := Ground.chain }], guard := none }) rfl (fun K' hK => ?_) AllReadyH.nil
      go_simp
      refine ((HS2.out vb _ (HG.out.kept (HBV.out.trans (HL_3.out.mono HBV.out.size))) (Hp_3.out vb rfl).1 (Hp_3.out vb rfl).2)).mono ?_
      rintro e x4 ⟨rfl, hb⟩
      have Hi_4 := Lib.hid (keptW hb Hi_3.out)
      have Hh_4 := Lib.hid (keptW hb Hh_3.out)
      have Ho_4 := Lib.hid (Ho_3.out.kept hb)
      have Hp_4 := Lib.hid (Hp_3.out.kept hb)
      have HL_4 := Lib.hid (HL_3.out.trans (hb.mono HL_3.out.size))
      clear hb
      refine hK.out _ _ trivial (fun hHeld4 => ?_)
      clear hK K'
      try simp only [Act.put, List.setIfInBounds_toArray, List.set_cons_zero, List.set_cons_succ]
      refine wpAnyH_ready (rs := [6]) (by kernel_rfl) (by simp) ?_
      refine AllReadyH.cons (o := { dst := none, op := Op.store 27 (Operand.tmp 6) (Operand.tmp 16), type := 0, pos := "ref.go:25", after := #[{ on := 5, ground := Ground.data }, { on := 4, ground := Ground.data }, { on := 4, ground := Ground.chain }, { on := 0, ground := Ground.phase }, { on := 1, ground := Ground.phase }, { on := 2, ground := Ground.phase }, { on := 3, ground := Ground.phase }, { on := 4, ground := Ground.phase }, { on := 5, ground := Ground.phase }], guard := none }) rfl (fun K' hK => ?_) AllReadyH.nil
      have hrow := Hh_4.out
      go_simp
      obtain ⟨x5, hx5⟩ : ∃ X, x4.setRow gh (arr .u8 O) = X := ⟨_, rfl⟩
      rw [hx5]
      have Hi_5 := Lib.hid (show rowN x5 g5 = some (arr .u8 I) by rw [← hx5, rowN_setRow, if_neg (by omega)]; exact Hi_4.out)
      have Hh_5 := Lib.hid (show rowN x5 gh = some (arr .u8 O) by rw [← hx5, rowN_setRow, if_pos rfl, hrow]; rfl)
      have hbl : Below V.heap.size V x5 := by rw [← hx5]; exact below_setRow' HL_4.out (by omega) _
      have HL_5 := Lib.hid hbl
      clear hrow hbl hx5
      refine hK.out _ _ trivial (fun hHeld5 => ?_)
      clear hK K'
      try simp only [Act.put, List.setIfInBounds_toArray, List.set_cons_zero, List.set_cons_succ]
      refine wpAnyH_done (by kernel_rfl) ?_ _
      refine NoPanic.normal ?_
      go_wp2_with fail
      go_ret
      exact ⟨_, rfl, by have := HBV.out.size; omega, Hh_5.out, HBV.out.trans (HL_5.out.mono HBV.out.size)⟩
    refine AllReadyH.cons (o := { dst := some 6, op := Op.alloc 27, type := 0, pos := "ref.go:25", after := #[], guard := none }) rfl (fun K' hK => ?_) AllReadyH.nil
    go_simp
    obtain ⟨x2, hx2⟩ : ∃ X, x1.alloc (.cells (arr .u8 z32) 27) = X := ⟨_, rfl⟩
    have hb : Below x1.heap.size x1 x2 := by rw [← hx2]; exact (Below.refl _ _).alloc (Nat.le_refl _) _
    have Hi_2 := Lib.hid (keptW hb Hi_1.out)
    have Ho_2 := Lib.hid (Ho_1.out.kept hb)
    have Hp_2 := Lib.hid (Hp_1.out.kept hb)
    have HL_2 := Lib.hid (HL_1.out.trans (hb.mono HL_1.out.size))
    have hnew : rowN x2 x1.heap.size = some (arr .u8 z32) := by rw [← hx2, rowN_alloc, if_pos rfl]
    have hgeh : V.heap.size ≤ x1.heap.size := HL_1.out.size
    have hli_h := rowN_lt Hi_1.out
    rw [hx2]
    obtain ⟨gh, hgh⟩ : ∃ g, x1.heap.size = g := ⟨_, rfl⟩
    rw [hgh] at hnew hgeh hli_h ⊢
    have Hh_2 := Lib.hid hnew
    clear hb hnew hgh hx2
    refine hK.out _ _ trivial (fun hHeld2 => ?_)
    clear hK K'
    try simp only [Act.put, List.setIfInBounds_toArray, List.set_cons_zero, List.set_cons_succ]
    refine wpAnyH_ready (rs := [3]) (by kernel_rfl) (by simp) ?_
    refine AllReadyH.cons (o := { dst := some 15, op := Op.call { callee := Callee.builtin Builtin.append, args := #[Operand.tmp 13, Operand.tmp 14], argTypes := #[22, 22] }, type := 22, pos := "ref.go:25", after := #[{ on := 1, ground := Ground.data }, { on := 2, ground := Ground.data }, { on := 1, ground := Ground.chain }], guard := none }) rfl (fun K' hK => ?_) AllReadyH.nil
    have hown := (Ho_2.out g13 rfl).2.1.owns (Ho_2.out g13 rfl).2.2 (Ho_2.out g13 rfl).1 hl92.out (by omega)
    refine wp_app _ _ rfl V.heap.size rfl rfl hown (bytes_row HI256.out Hi_2.out 32 HI32.out) (nil0_some _ _ _) (by rw [hl92.out, HI32.out]; omega) HL_2.out.size ?_
    intro vb x3 hva hga
    have HL_3 := Lib.hid (below_owned HL_2.out hown hga HL_2.out.size)
    have hi13 : g5 ≠ g13 := rows_ne Hi_2.out (Ho_2.out g13 rfl).2.2 (by rw [HI32.out, hl92.out]; omega)
    try have hh13 : gh ≠ g13 := rows_ne Hh_2.out (Ho_2.out g13 rfl).2.2 (by rw [hzl, hl92.out]; omega)
    have Hi_3 := Lib.hid (show rowN x3 g5 = some (arr .u8 I) by rw [grownBy_rowN hga (rowN_lt Hi_2.out) (fun e => hi13 (Option.some.inj e))]; exact Hi_2.out)
    try have Hh_3 := Lib.hid (show rowN x3 gh = some (arr .u8 z32) by rw [grownBy_rowN hga (rowN_lt Hh_2.out) (fun e => hh13 (Option.some.inj e))]; exact Hh_2.out)
    have hyb := owns_both (fun x hx => by rcases List.mem_append.1 hx with hx | hx; exact h92.out x hx; exact HI256.out x hx) hva
    have hynb := owns_nil0 hva
    have Ho_3 := Lib.hid (show OB none B2 V.heap.size x3 from fun g e => by cases e)
    have Hp_3 := Lib.hid (show PB (some vb) (B2 ++ I) x3 from fun v e => by obtain rfl := Option.some.inj e; exact ⟨hyb.1, hynb⟩)
    clear hown hva hga hyb hynb
    refine hK.out _ _ trivial (fun hHeld3 => ?_)
    clear hK K'
    try simp only [Act.put, List.setIfInBounds_toArray, List.set_cons_zero, List.set_cons_succ]
    refine wpAnyH_ready (rs := [4]) (by kernel_rfl) (by simp) ?_
    refine AllReadyH.cons (o := { dst := some 16, op := Op.call { callee := Callee.value (Operand.func 20), args := #[Operand.tmp 15], argTypes := #[22] }, type := 27, pos := "ref.go:25", after := #[{ on := 3, ground := Ground.data }, { on := 3, ground := Ground.chain }], guard := none }) rfl (fun K' hK => ?_) AllReadyH.nil
    go_simp
    refine ((HS2.out vb _ (HG.out.kept (HBV.out.trans (HL_3.out.mono HBV.out.size))) (Hp_3.out vb rfl).1 (Hp_3.out vb rfl).2)).mono ?_
    rintro e x4 ⟨rfl, hb⟩
    have Hi_4 := Lib.hid (keptW hb Hi_3.out)
    have Hh_4 := Lib.hid (keptW hb Hh_3.out)
    have Ho_4 := Lib.hid (Ho_3.out.kept hb)
    have Hp_4 := Lib.hid (Hp_3.out.kept hb)
    have HL_4 := Lib.hid (HL_3.out.trans (hb.mono HL_3.out.size))
    clear hb
    refine hK.out _ _ trivial (fun hHeld4 => ?_)
    clear hK K'
    try simp only [Act.put, List.setIfInBounds_toArray, List.set_cons_zero, List.set_cons_succ]
    refine wpAnyH_ready (rs := [6]) (by kernel_rfl) (by simp) ?_
    refine AllReadyH.cons (o := { dst := none, op := Op.store 27 (Operand.tmp 6) (Operand.tmp 16), type := 0, pos := "ref.go:25", after := #[{ on := 5, ground := Ground.data }, { on := 4, ground := Ground.data }, { on := 4, ground := Ground.chain }, { on := 0, ground := Ground.phase }, { on := 1, ground := Ground.phase }, { on := 2, ground := Ground.phase }, { on := 3, ground := Ground.phase }, { on := 4, ground := Ground.phase }, { on := 5, ground := Ground.phase }], guard := none }) rfl (fun K' hK => ?_) AllReadyH.nil
    have hrow := Hh_4.out
    go_simp
    obtain ⟨x5, hx5⟩ : ∃ X, x4.setRow gh (arr .u8 O) = X := ⟨_, rfl⟩
    rw [hx5]
    have Hi_5 := Lib.hid (show rowN x5 g5 = some (arr .u8 I) by rw [← hx5, rowN_setRow, if_neg (by omega)]; exact Hi_4.out)
    have Hh_5 := Lib.hid (show rowN x5 gh = some (arr .u8 O) by rw [← hx5, rowN_setRow, if_pos rfl, hrow]; rfl)
    have hbl : Below V.heap.size V x5 := by rw [← hx5]; exact below_setRow' HL_4.out (by omega) _
    have HL_5 := Lib.hid hbl
    clear hrow hbl hx5
    refine hK.out _ _ trivial (fun hHeld5 => ?_)
    clear hK K'
    try simp only [Act.put, List.setIfInBounds_toArray, List.set_cons_zero, List.set_cons_succ]
    refine wpAnyH_done (by kernel_rfl) ?_ _
    refine NoPanic.normal ?_
    go_wp2_with fail
    go_ret
    exact ⟨_, rfl, by have := HBV.out.size; omega, Hh_5.out, HBV.out.trans (HL_5.out.mono HBV.out.size)⟩
  refine AllReadyH.cons (o := { dst := some 6, op := Op.alloc 27, type := 0, pos := "ref.go:25", after := #[], guard := none }) rfl (fun K' hK => ?_) AllReadyH.nil
  go_simp
  obtain ⟨x1, hx1⟩ : ∃ X, x0.alloc (.cells (arr .u8 z32) 27) = X := ⟨_, rfl⟩
  have hb : Below x0.heap.size x0 x1 := by rw [← hx1]; exact (Below.refl _ _).alloc (Nat.le_refl _) _
  have Hi_1 := Lib.hid (keptW hb Hi_0.out)
  have Ho_1 := Lib.hid (Ho_0.out.kept hb)
  have Hp_1 := Lib.hid (Hp_0.out.kept hb)
  have HL_1 := Lib.hid (HL_0.out.trans (hb.mono HL_0.out.size))
  have hnew : rowN x1 x0.heap.size = some (arr .u8 z32) := by rw [← hx1, rowN_alloc, if_pos rfl]
  have hgeh : V.heap.size ≤ x0.heap.size := HL_0.out.size
  have hli_h := rowN_lt Hi_0.out
  rw [hx1]
  obtain ⟨gh, hgh⟩ : ∃ g, x0.heap.size = g := ⟨_, rfl⟩
  rw [hgh] at hnew hgeh hli_h ⊢
  have Hh_1 := Lib.hid hnew
  clear hb hnew hgh hx1
  refine hK.out _ _ trivial (fun hHeld1 => ?_)
  clear hK K'
  try simp only [Act.put, List.setIfInBounds_toArray, List.set_cons_zero, List.set_cons_succ]
  refine wpAnyH_ready (rs := [1]) (by kernel_rfl) (by simp) ?_
  refine AllReadyH.cons (o := { dst := some 13, op := Op.call { callee := Callee.value (Operand.func 21), args := #[Operand.tmp 12, Operand.const (Value.int IntKind.u8 92)], argTypes := #[22, 5] }, type := 22, pos := "ref.go:25", after := #[{ on := 0, ground := Ground.data }], guard := none }) rfl (fun K' hK => ?_) AllReadyH.nil
  go_simp
  refine ((HB2.out _ (HBV.out.trans (HL_1.out.mono HBV.out.size)))).mono ?_
  rintro e x2 ⟨rfl, hr13, h13, hb⟩
  have hxg : V.heap.size ≤ x1.heap.size := HL_1.out.size
  obtain ⟨g13, hg13⟩ : ∃ g, x1.heap.size = g := ⟨_, rfl⟩
  rw [hg13] at hr13 h13 ⊢
  rw [hg13] at hxg
  have Ho_2 := Lib.hid (show OB (some g13) B2 V.heap.size x2 from fun g e => by obtain rfl := Option.some.inj e; exact ⟨hxg, h13, hr13⟩)
  have Hp_2 := Lib.hid (Hp_1.out.kept hb)
  have Hi_2 := Lib.hid (keptW hb Hi_1.out)
  try have Hh_2 := Lib.hid (keptW hb Hh_1.out)
  have HL_2 := Lib.hid (HL_1.out.trans (hb.mono HL_1.out.size))
  clear hr13 h13 hb hxg hg13
  refine hK.out _ _ trivial (fun hHeld2 => ?_)
  clear hK K'
  try simp only [Act.put, List.setIfInBounds_toArray, List.set_cons_zero, List.set_cons_succ]
  refine wpAnyH_ready (rs := [3]) (by kernel_rfl) (by simp) ?_
  refine AllReadyH.cons (o := { dst := some 15, op := Op.call { callee := Callee.builtin Builtin.append, args := #[Operand.tmp 13, Operand.tmp 14], argTypes := #[22, 22] }, type := 22, pos := "ref.go:25", after := #[{ on := 1, ground := Ground.data }, { on := 2, ground := Ground.data }, { on := 1, ground := Ground.chain }], guard := none }) rfl (fun K' hK => ?_) AllReadyH.nil
  have hown := (Ho_2.out g13 rfl).2.1.owns (Ho_2.out g13 rfl).2.2 (Ho_2.out g13 rfl).1 hl92.out (by omega)
  refine wp_app _ _ rfl V.heap.size rfl rfl hown (bytes_row HI256.out Hi_2.out 32 HI32.out) (nil0_some _ _ _) (by rw [hl92.out, HI32.out]; omega) HL_2.out.size ?_
  intro vb x3 hva hga
  have HL_3 := Lib.hid (below_owned HL_2.out hown hga HL_2.out.size)
  have hi13 : g5 ≠ g13 := rows_ne Hi_2.out (Ho_2.out g13 rfl).2.2 (by rw [HI32.out, hl92.out]; omega)
  try have hh13 : gh ≠ g13 := rows_ne Hh_2.out (Ho_2.out g13 rfl).2.2 (by rw [hzl, hl92.out]; omega)
  have Hi_3 := Lib.hid (show rowN x3 g5 = some (arr .u8 I) by rw [grownBy_rowN hga (rowN_lt Hi_2.out) (fun e => hi13 (Option.some.inj e))]; exact Hi_2.out)
  try have Hh_3 := Lib.hid (show rowN x3 gh = some (arr .u8 z32) by rw [grownBy_rowN hga (rowN_lt Hh_2.out) (fun e => hh13 (Option.some.inj e))]; exact Hh_2.out)
  have hyb := owns_both (fun x hx => by rcases List.mem_append.1 hx with hx | hx; exact h92.out x hx; exact HI256.out x hx) hva
  have hynb := owns_nil0 hva
  have Ho_3 := Lib.hid (show OB none B2 V.heap.size x3 from fun g e => by cases e)
  have Hp_3 := Lib.hid (show PB (some vb) (B2 ++ I) x3 from fun v e => by obtain rfl := Option.some.inj e; exact ⟨hyb.1, hynb⟩)
  clear hown hva hga hyb hynb
  refine hK.out _ _ trivial (fun hHeld3 => ?_)
  clear hK K'
  try simp only [Act.put, List.setIfInBounds_toArray, List.set_cons_zero, List.set_cons_succ]
  refine wpAnyH_ready (rs := [4]) (by kernel_rfl) (by simp) ?_
  refine AllReadyH.cons (o := { dst := some 16, op := Op.call { callee := Callee.value (Operand.func 20), args := #[Operand.tmp 15], argTypes := #[22] }, type := 27, pos := "ref.go:25", after := #[{ on := 3, ground := Ground.data }, { on := 3, ground := Ground.chain }], guard := none }) rfl (fun K' hK => ?_) AllReadyH.nil
  go_simp
  refine ((HS2.out vb _ (HG.out.kept (HBV.out.trans (HL_3.out.mono HBV.out.size))) (Hp_3.out vb rfl).1 (Hp_3.out vb rfl).2)).mono ?_
  rintro e x4 ⟨rfl, hb⟩
  have Hi_4 := Lib.hid (keptW hb Hi_3.out)
  have Hh_4 := Lib.hid (keptW hb Hh_3.out)
  have Ho_4 := Lib.hid (Ho_3.out.kept hb)
  have Hp_4 := Lib.hid (Hp_3.out.kept hb)
  have HL_4 := Lib.hid (HL_3.out.trans (hb.mono HL_3.out.size))
  clear hb
  refine hK.out _ _ trivial (fun hHeld4 => ?_)
  clear hK K'
  try simp only [Act.put, List.setIfInBounds_toArray, List.set_cons_zero, List.set_cons_succ]
  refine wpAnyH_ready (rs := [6]) (by kernel_rfl) (by simp) ?_
  refine AllReadyH.cons (o := { dst := none, op := Op.store 27 (Operand.tmp 6) (Operand.tmp 16), type := 0, pos := "ref.go:25", after := #[{ on := 5, ground := Ground.data }, { on := 4, ground := Ground.data }, { on := 4, ground := Ground.chain }, { on := 0, ground := Ground.phase }, { on := 1, ground := Ground.phase }, { on := 2, ground := Ground.phase }, { on := 3, ground := Ground.phase }, { on := 4, ground := Ground.phase }, { on := 5, ground := Ground.phase }], guard := none }) rfl (fun K' hK => ?_) AllReadyH.nil
  have hrow := Hh_4.out
  go_simp
  obtain ⟨x5, hx5⟩ : ∃ X, x4.setRow gh (arr .u8 O) = X := ⟨_, rfl⟩
  rw [hx5]
  have Hi_5 := Lib.hid (show rowN x5 g5 = some (arr .u8 I) by rw [← hx5, rowN_setRow, if_neg (by omega)]; exact Hi_4.out)
  have Hh_5 := Lib.hid (show rowN x5 gh = some (arr .u8 O) by rw [← hx5, rowN_setRow, if_pos rfl, hrow]; rfl)
  have hbl : Below V.heap.size V x5 := by rw [← hx5]; exact below_setRow' HL_4.out (by omega) _
  have HL_5 := Lib.hid hbl
  clear hrow hbl hx5
  refine hK.out _ _ trivial (fun hHeld5 => ?_)
  clear hK K'
  try simp only [Act.put, List.setIfInBounds_toArray, List.set_cons_zero, List.set_cons_succ]
  refine wpAnyH_done (by kernel_rfl) ?_ _
  refine NoPanic.normal ?_
  go_wp2_with fail
  go_ret
  exact ⟨_, rfl, by have := HBV.out.size; omega, Hh_5.out, HBV.out.trans (HL_5.out.mono HBV.out.size)⟩
end Go.Proofs.YtmlacbdonkfbdaaDoor
