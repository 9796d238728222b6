/- AES: AesBlocks walked. -/
import Derived.Deep.RegionHeld3
import Derived.Test.YtfmmokcniechcaaDoorBI
namespace Go.Proofs.YtfmmokcniechcaaDoor
open Go.RowKit Go.Shelf

attribute [local go_sem] Oper.semAt_some
set_option maxRecDepth 100000 in
set_option maxHeartbeats 8000000 in
theorem blocks_walk (ks zs : List Nat) (ak az : Option Addr) (ck cz : Nat) (w : World) (hk : BytesAt ks (.slice ak ks.length ck) w) (hkn : Nil0 (.slice ak ks.length ck)) (hz : BytesAt zs (.slice az zs.length cz) w) (hzn : Nil0 (.slice az zs.length cz)) (hG : SG w) :
    Calls Tryd.prog 5 #[.slice ak ks.length ck, .slice az zs.length cz] w fun e w' => e = .returned (.bool true) ∧ Below w.heap.size w w' := by
  have HKN := Lib.hid (known_any w)
  have HKA := Lib.hid (fun W => known_any W)
  by_cases hks : ks.length = 16
  case neg =>
    obtain ⟨L, hL⟩ : ∃ L, ks.length = L := ⟨_, rfl⟩
    rw [hL] at hks ⊢
    have hi : ¬ ((L : Nat) : Int) = 16 := by omega
    clear hk hz hL hkn hzn hG HKA
    go_enter Tryd.func5, Tryd.ntmps5
    go_wp2_with fail
    refine HKN.out.mono ?_
    rintro e w9 ⟨rfl, hb⟩
    have HB := Lib.hid hb
    clear hb HKN
    go_wp2_with fail
    go_ret
    exact ⟨rfl, HB.out⟩
  by_cases h40 : 40 < zs.length
  case pos =>
    obtain ⟨L, hL⟩ : ∃ L, zs.length = L := ⟨_, rfl⟩
    rw [hL] at h40 ⊢
    rw [hks]
    have hi : (40 : Int) < ((L : Nat) : Int) := by omega
    clear hk hz hL hkn hzn hG HKA
    go_enter Tryd.func5, Tryd.ntmps5
    go_wp2_with fail
    refine HKN.out.mono ?_
    rintro e w9 ⟨rfl, hb⟩
    have HB := Lib.hid hb
    clear hb HKN
    go_wp2_with fail
    go_ret
    exact ⟨rfl, HB.out⟩
  have HN := Lib.hid (new_any ks _ hks w hk)
  have hp24 := run_eqp24
  have hi40 : ¬ (40 : Int) < ((zs.length : Nat) : Int) := by omega
  have HZ := Lib.hid hz
  have HZN := Lib.hid hzn
  have HG := Lib.hid hG
  by_cases hzs : zs.length = 16
  case neg =>
    have HEN := Lib.hid (fun (g : Nat) (s : Value) (W : World) (hC : CphAt ks g W) (hB : BytesAt zs s W) => enc_stops (.pointer (some ⟨g, 0, none⟩)) s 2 (.inr rfl) W (begin_len g zs s hzs W (cph_99 hC) hB))
    have HDN := Lib.hid (fun (g : Nat) (s : Value) (W : World) (hC : CphAt ks g W) (hB : BytesAt zs s W) => dec_stops (.pointer (some ⟨g, 0, none⟩)) s 2 (.inr rfl) W (begin_len g zs s hzs W (cph_99 hC) hB))
    have hi : ¬ ((zs.length : Nat) : Int) = 16 := by omega
    rw [hks] at HN ⊢
    clear hk hz hkn hzn hG HKN HG
    go_enter Tryd.func5, Tryd.ntmps5
    go_wp2_with fail
    refine HN.out.mono ?_
    rintro e w1 ⟨g, rfl, hg, hC, hb⟩
    have HC1 := Lib.hid hC
    have HZ1 := Lib.hid (HZ.out.kept hb)
    have HB1 := Lib.hid hb
    have hp := hp24 g
    clear hC hb HN hp24
    have hown2 : (w1.alloc (.cells #[] 5)).ownsRow w1.heap.size 5 1 (.slice (some ⟨w1.heap.size, 0, none⟩) 0 0) ([] : List Nat).length (cl []) := World.ownsRow_lit w1 #[] 0 (Nat.le_refl _) (by unfold maxLen; omega) rfl
    have hbel2 : Below w1.heap.size w1 (w1.alloc (.cells #[] 5)) := (Below.refl _ w1).alloc (Nat.le_refl _) _
    go_wp2_with (at_builtin; refine wpList_app rfl _ _ rfl w1.heap.size rfl rfl hown2 (HZ1.out.kept hbel2) HZN.out (by simp; omega) (by simp) ?_; intro v2 w2 hown hgrow)
    have hb2 := below_owned hbel2 hown2 hgrow (by simp)
    rw [List.nil_append] at hown
    have HO := Lib.hid (owns_bytes HZ.out.1 hown)
    have HON := Lib.hid (owns_nil0 hown)
    have HC2 := Lib.hid (keptW hb2 HC1.out)
    have HB2 := Lib.hid (bthen HB1.out hb2)
    have HZ2 := Lib.hid (HZ1.out.kept hb2)
    clear hown hgrow hown2 hbel2 hb2 HC1 HB1 HZ1
    go_wp2_with fail
    refine (HEN.out g _ _ HC2.out HO.out).mono ?_
    rintro e w3 ⟨rfl, hb⟩
    have HC3 := Lib.hid (keptW hb HC2.out)
    have HO3 := Lib.hid (HO.out.kept hb)
    have HZ3 := Lib.hid (HZ2.out.kept hb)
    have HB3 := Lib.hid (bthen HB2.out hb)
    clear hb HC2 HO HZ2 HB2
    go_wp2_with fail
    refine (HDN.out g _ _ HC3.out HO3.out).mono ?_
    rintro e w4 ⟨rfl, hb⟩
    have hs1 := str_bytes (HO3.out.kept hb) HON.out
    have hs2 := str_bytes (HZ3.out.kept hb) HZN.out
    have HB4 := Lib.hid (bthen HB3.out hb)
    clear hb HC3 HO3 HZ3 HB3
    go_wp2_with fail
    refine (HKA.out _).mono ?_
    rintro e w9 ⟨rfl, hb⟩
    have HB := Lib.hid (bthen HB4.out hb)
    clear hb
    go_wp2_with fail
    go_ret
    exact ⟨rfl, HB.out⟩
  have HKW := Lib.hid (wordsL_w32 hk.1)
  have HZW := Lib.hid (wordsL_w32 hz.1)
  have HE1 := Lib.hid (fun (g : Nat) (s : Value) (W : World) (hC : CphAt ks g W) (hB : BytesAt zs s W) => encrypt_any g ks zs s hzs hk.1 W hC hB)
  have HD1 := Lib.hid (fun (g : Nat) (s : Value) (W : World) (hC : CphAt ks g W) (hB : BytesAt zs s W) => decrypt_any g ks zs s hzs hk.1 W hC hB)
  have hbw := bytes_words hzs hz.1
  have HRE := Lib.hid (fun (sw : Value) (W : World) (hg : SG W) (hf : BytesAt (FL (wordsL ks)) sw W) (hb : BytesAt zs (.slice az zs.length cz) W) => renc_any (wordsL ks) (wordsL zs) sw (.slice az zs.length cz) (wordsL_len ks) HKW.out (wordsL_len zs) HZW.out W hg hf (by rw [hbw]; exact hb))
  have HRD := Lib.hid (fun (sw : Value) (W : World) (hg : SG W) (hf : BytesAt (FL (wordsL ks)) sw W) (hb : BytesAt zs (.slice az zs.length cz) W) => rdec_any (wordsL ks) (wordsL zs) sw (.slice az zs.length cz) (wordsL_len ks) HKW.out (wordsL_len zs) HZW.out W hg hf (by rw [hbw]; exact hb))
  have HRW := Lib.hid (fun (W : World) (hg : SG W) (hb : BytesAt ks (.slice ak ks.length ck) W) => rwords_any ks (.slice ak ks.length ck) hks W hg hb hkn)
  have HKB := Lib.hid hk
  obtain ⟨XE, hXE⟩ : ∃ q, bytesL (encS (wordsL ks) (wordsL zs) 11) = q := ⟨_, rfl⟩
  obtain ⟨YD, hYD⟩ : ∃ q, bytesL (decS (wordsL ks) (wordsL zs) 11) = q := ⟨_, rfl⟩
  obtain ⟨F, hF⟩ : ∃ q, FL (wordsL ks) = q := ⟨_, rfl⟩
  rw [hXE] at HE1 HRE
  rw [hYD] at HD1 HRD
  rw [hF] at HRE HRD HRW
  rw [hks] at HN HKB HRW ⊢
  rw [hzs] at HZN hi40 HRE HRD HZ ⊢
  have HZL := Lib.hid hzs
  clear hk hz hkn hzn hG HKN hXE hYD hF HKW HZW hbw
  go_enter Tryd.func5, Tryd.ntmps5
  go_wp2_with fail
  refine HN.out.mono ?_
  rintro e w1 ⟨g, rfl, hg, hC, hb⟩
  have HC1 := Lib.hid hC
  have HZ1 := Lib.hid (HZ.out.kept hb)
  have HB1 := Lib.hid hb
  have hp := hp24 g
  clear hC hb HN hp24
  have hown2 : (w1.alloc (.cells #[] 5)).ownsRow w1.heap.size 5 1 (.slice (some ⟨w1.heap.size, 0, none⟩) 0 0) ([] : List Nat).length (cl []) := World.ownsRow_lit w1 #[] 0 (Nat.le_refl _) (by unfold maxLen; omega) rfl
  have hbel2 : Below w1.heap.size w1 (w1.alloc (.cells #[] 5)) := (Below.refl _ w1).alloc (Nat.le_refl _) _
  go_wp2_with (at_builtin; refine wpList_app rfl _ _ rfl w1.heap.size rfl rfl hown2 (HZ1.out.kept hbel2) HZN.out (by rw [HZL.out]; simp) (by simp) ?_; intro v2 w2 hown hgrow)
  have hb2 := below_owned hbel2 hown2 hgrow (by simp)
  rw [List.nil_append] at hown
  have HO := Lib.hid (owns_bytes HZ.out.1 hown)
  have HON := Lib.hid (owns_nil0 hown)
  have HC2 := Lib.hid (keptW hb2 HC1.out)
  have HB2 := Lib.hid (bthen HB1.out hb2)
  have HZ2 := Lib.hid (HZ1.out.kept hb2)
  clear hown hgrow hown2 hbel2 hb2 HC1 HB1 HZ1
  go_wp2_with fail
  refine (HE1.out g _ _ HC2.out HO.out).mono ?_
  rintro e w3 ⟨x, rfl, hx, hxn, _, hb⟩
  have HXN := Lib.hid hxn
  have HX3 := Lib.hid hx
  have HC3 := Lib.hid (keptW hb HC2.out)
  have HO3 := Lib.hid (HO.out.kept hb)
  have HZ3 := Lib.hid (HZ2.out.kept hb)
  have HB3 := Lib.hid (bthen HB2.out hb)
  clear hb hx hxn HC2 HO HZ2 HB2
  go_wp2_with fail
  refine (HD1.out g _ _ HC3.out HO3.out).mono ?_
  rintro e w4 ⟨y, rfl, hy, hyn, _, hb⟩
  have HYN := Lib.hid hyn
  have HY4 := Lib.hid hy
  have HX4 := Lib.hid (HX3.out.kept hb)
  have HZ4 := Lib.hid (HZ3.out.kept hb)
  have hs1 := str_bytes (HO3.out.kept hb) HON.out
  have hs2 := str_bytes HZ4.out HZN.out
  have HB4 := Lib.hid (bthen HB3.out hb)
  clear hb hy hyn HC3 HO3 HZ3 HB3 HX3
  go_wp2_with fail
  refine (HRW.out _ (HG.out.kept HB4.out) (HKB.out.kept HB4.out)).mono ?_
  rintro e w5 ⟨sw, rfl, hf, _, _, hb⟩
  have Hx_0 := Lib.hid (show BytesAt XE x w5.drew from HX4.out.kept hb.drew)
  have Hy_0 := Lib.hid (show BytesAt YD y w5.drew from HY4.out.kept hb.drew)
  have Hf_0 := Lib.hid (show BytesAt F sw w5.drew from hf)
  have Hz_0 := Lib.hid (show BytesAt zs (.slice az 16 cz) w5.drew from HZ4.out.kept hb.drew)
  have HL_0 := Lib.hid (show Below w.heap.size w w5.drew from (bthen HB4.out hb).drew)
  clear hb hf HX4 HY4 HZ4 HB4 hs1 hs2
  go_upto_region 14 with fail
  refine wp_region_noPanic ?_
  refine wp_region_held_drew (S := fun W => BytesAt XE x W ∧ BytesAt YD y W) (by kernel_rfl) ⟨Hx_0.out, Hy_0.out⟩ (fun hHeld0 => ?_)
  obtain ⟨x0, hx0⟩ : ∃ X, w5.drew = X := ⟨_, rfl⟩
  rw [hx0] at Hx_0 Hy_0 Hf_0 Hz_0 HL_0 hHeld0 ⊢
  clear hx0
  refine wpAnyH_take (i := 0) (oi := { dst := some 77, op := Op.move (Operand.tmp 9), type := 27, pos := "law.go:90", after := #[], guard := none }) (v := ?tk0) rfl (by kernel_rfl) (by kernel_rfl) (by kernel_rfl) (fun _ _ _ h => h) (Or.inl ⟨by rfl, ?tw0⟩) hHeld0 ?_
  case tw0 => (intro W hW; clear hW; first | (go_simp; done) | (go_simp; with_reducible rfl))
  try simp only [Act.put, List.setIfInBounds_toArray, List.set_cons_zero, List.set_cons_succ]
  refine wpAnyH_take (i := 1) (oi := { dst := some 78, op := Op.binOp BinOp.eql 27 (Operand.tmp 77) (Operand.const (Value.int IntKind.i64 0)) 27, type := 4, pos := "law.go:90", after := #[{ on := 0, ground := Ground.data }], guard := none }) (v := ?tk1) rfl (by kernel_rfl) (by kernel_rfl) (by kernel_rfl) (fun _ _ _ h => h) (Or.inl ⟨by rfl, ?tw1⟩) hHeld0 ?_
  case tw1 => (intro W hW; clear hW; first | (go_simp; done) | (go_simp; with_reducible rfl))
  try simp only [Act.put, List.setIfInBounds_toArray, List.set_cons_zero, List.set_cons_succ]
  refine wpAnyH_take (i := 2) (oi := { dst := some 79, op := Op.move (Operand.tmp 78), type := 4, pos := "law.go:90", after := #[{ on := 1, ground := Ground.data }], guard := none }) (v := ?tk2) rfl (by kernel_rfl) (by kernel_rfl) (by kernel_rfl) (fun _ _ _ h => h) (Or.inl ⟨by rfl, ?tw2⟩) hHeld0 ?_
  case tw2 => (intro W hW; clear hW; first | (go_simp; done) | (go_simp; with_reducible rfl))
  try simp only [Act.put, List.setIfInBounds_toArray, List.set_cons_zero, List.set_cons_succ]
  refine wpAnyH_take (i := 3) (oi := { dst := some 80, op := Op.move (Operand.tmp 11), type := 27, pos := "law.go:90", after := #[{ on := 2, ground := Ground.guard }], guard := some (2, true) }) (v := ?tk3) rfl (by kernel_rfl) (by kernel_rfl) (by kernel_rfl) (fun _ _ _ h => h) (Or.inl ⟨by rfl, ?tw3⟩) hHeld0 ?_
  case tw3 => (intro W hW; clear hW; first | (go_simp; done) | (go_simp; with_reducible rfl))
  try simp only [Act.put, List.setIfInBounds_toArray, List.set_cons_zero, List.set_cons_succ]
  refine wpAnyH_take (i := 4) (oi := { dst := some 81, op := Op.binOp BinOp.eql 27 (Operand.tmp 80) (Operand.const (Value.int IntKind.i64 0)) 27, type := 4, pos := "law.go:90", after := #[{ on := 3, ground := Ground.data }, { on := 2, ground := Ground.guard }], guard := some (2, true) }) (v := ?tk4) rfl (by kernel_rfl) (by kernel_rfl) (by kernel_rfl) (fun _ _ _ h => h) (Or.inl ⟨by rfl, ?tw4⟩) hHeld0 ?_
  case tw4 => (intro W hW; clear hW; first | (go_simp; done) | (go_simp; with_reducible rfl))
  try simp only [Act.put, List.setIfInBounds_toArray, List.set_cons_zero, List.set_cons_succ]
  refine wpAnyH_take (i := 5) (oi := { dst := some 82, op := Op.pick (Operand.tmp 79) (Operand.tmp 81) (Operand.const (Value.bool false)), type := 4, pos := "law.go:90", after := #[{ on := 2, ground := Ground.data }, { on := 4, ground := Ground.data }], guard := none }) (v := ?tk5) rfl (by kernel_rfl) (by kernel_rfl) (by kernel_rfl) (fun _ _ _ h => h) (Or.inl ⟨by rfl, ?tw5⟩) hHeld0 ?_
  case tw5 => (intro W hW; clear hW; first | (go_simp; done) | (go_simp; with_reducible rfl))
  try simp only [Act.put, List.setIfInBounds_toArray, List.set_cons_zero, List.set_cons_succ]
  refine wpAnyH_take (i := 6) (oi := { dst := some 83, op := Op.move (Operand.tmp 82), type := 4, pos := "law.go:90", after := #[{ on := 5, ground := Ground.data }, { on := 2, ground := Ground.chain }], guard := none }) (v := ?tk6) rfl (by kernel_rfl) (by kernel_rfl) (by kernel_rfl) (fun _ _ _ h => h) (Or.inl ⟨by rfl, ?tw6⟩) hHeld0 ?_
  case tw6 => (intro W hW; clear hW; first | (go_simp; done) | (go_simp; with_reducible rfl))
  try simp only [Act.put, List.setIfInBounds_toArray, List.set_cons_zero, List.set_cons_succ]
  refine wpAnyH_take (i := 7) (oi := { dst := some 84, op := Op.move (Operand.tmp 8), type := 25, pos := "law.go:90", after := #[{ on := 6, ground := Ground.guard }], guard := some (6, true) }) (v := ?tk7) rfl (by kernel_rfl) (by kernel_rfl) (by kernel_rfl) (fun _ _ _ h => h) (Or.inl ⟨by rfl, ?tw7⟩) hHeld0 ?_
  case tw7 => (intro W hW; clear hW; first | (go_simp; done) | (go_simp; with_reducible rfl))
  try simp only [Act.put, List.setIfInBounds_toArray, List.set_cons_zero, List.set_cons_succ]
  refine wpAnyH_take (i := 8) (oi := { dst := some 85, op := Op.convert 25 9 (Operand.tmp 84), type := 9, pos := "law.go:90", after := #[{ on := 7, ground := Ground.data }, { on := 6, ground := Ground.guard }], guard := some (6, true) }) (v := .string (strOf XE)) rfl (by kernel_rfl) (by kernel_rfl) (by kernel_rfl) (fun _ _ _ h => h) (Or.inl ⟨by rfl, fun W hW => ?_⟩) hHeld0 ?_
  · (have hst := str_bytes hW.1 HXN.out; clear hW; go_simp)
  try simp only [Act.put, List.setIfInBounds_toArray, List.set_cons_zero, List.set_cons_succ]
  refine wpAnyH_take (i := 9) (oi := { dst := some 86, op := Op.move (Operand.tmp 12), type := 25, pos := "law.go:90", after := #[{ on := 6, ground := Ground.guard }], guard := some (6, true) }) (v := ?tk8) rfl (by kernel_rfl) (by kernel_rfl) (by kernel_rfl) (fun _ _ _ h => h) (Or.inl ⟨by rfl, ?tw8⟩) hHeld0 ?_
  case tw8 => (intro W hW; clear hW; first | (go_simp; done) | (go_simp; with_reducible rfl))
  try simp only [Act.put, List.setIfInBounds_toArray, List.set_cons_zero, List.set_cons_succ]
  refine wpAnyH_take (i := 10) (oi := { dst := some 87, op := Op.move (Operand.tmp 1), type := 25, pos := "law.go:90", after := #[{ on := 6, ground := Ground.guard }], guard := some (6, true) }) (v := ?tk9) rfl (by kernel_rfl) (by kernel_rfl) (by kernel_rfl) (fun _ _ _ h => h) (Or.inl ⟨by rfl, ?tw9⟩) hHeld0 ?_
  case tw9 => (intro W hW; clear hW; first | (go_simp; done) | (go_simp; with_reducible rfl))
  try simp only [Act.put, List.setIfInBounds_toArray, List.set_cons_zero, List.set_cons_succ]
  refine wpAnyH_ready (rs := [11]) (by kernel_rfl) (by simp) ?_
  refine AllReadyH.cons (o := { dst := some 88, op := Op.call { callee := Callee.value (Operand.func 16), args := #[Operand.tmp 86, Operand.tmp 87], argTypes := #[25, 25] }, type := 25, pos := "law.go:90", after := #[{ on := 9, ground := Ground.data }, { on := 10, ground := Ground.data }, { on := 6, ground := Ground.chain }, { on := 6, ground := Ground.guard }], guard := some (6, true) }) rfl (fun K' hK => ?_) AllReadyH.nil
  go_simp
  refine (HRE.out _ _ (HG.out.kept HL_0.out) Hf_0.out Hz_0.out).mono ?_
  rintro e x1 ⟨r, rfl, hr, hrn, hb⟩
  have Hr_1 := Lib.hid hr
  have Hn_1 := Lib.hid hrn
  have Hx_1 := Lib.hid (Hx_0.out.kept hb)
  have Hy_1 := Lib.hid (Hy_0.out.kept hb)
  have Hf_1 := Lib.hid (Hf_0.out.kept hb)
  have Hz_1 := Lib.hid (Hz_0.out.kept hb)
  have HL_1 := Lib.hid (HL_0.out.trans (hb.mono HL_0.out.size))
  clear hb hr hrn
  refine hK.out _ _ ⟨Hx_1.out, Hy_1.out⟩ (fun hHeld1 => ?_)
  clear hK K'
  try simp only [Act.put, List.setIfInBounds_toArray, List.set_cons_zero, List.set_cons_succ]
  refine wpAnyH_ready (rs := [12]) (by kernel_rfl) (by simp) ?_
  refine AllReadyH.cons (o := { dst := some 89, op := Op.convert 25 9 (Operand.tmp 88), type := 9, pos := "law.go:90", after := #[{ on := 11, ground := Ground.data }, { on := 6, ground := Ground.guard }], guard := some (6, true) }) rfl (fun K' hK => ?_) AllReadyH.nil
  rw [if_pos (by rfl)]
  have hst := str_bytes Hr_1.out Hn_1.out
  go_simp
  clear hst
  obtain ⟨x2, hxx⟩ : ∃ X, X = x1 := ⟨_, rfl⟩
  subst hxx
  have Hx_2 := Hx_1
  have Hy_2 := Hy_1
  have Hf_2 := Hf_1
  have Hz_2 := Hz_1
  have HL_2 := HL_1
  refine hK.out _ _ ⟨Hx_2.out, Hy_2.out⟩ (fun hHeld2 => ?_)
  clear hK K'
  try simp only [Act.put, List.setIfInBounds_toArray, List.set_cons_zero, List.set_cons_succ]
  refine wpAnyH_take (i := 13) (oi := { dst := some 90, op := Op.binOp BinOp.eql 9 (Operand.tmp 85) (Operand.tmp 89) 9, type := 4, pos := "law.go:90", after := #[{ on := 8, ground := Ground.data }, { on := 12, ground := Ground.data }, { on := 6, ground := Ground.guard }], guard := some (6, true) }) (v := ?tk10) rfl (by kernel_rfl) (by kernel_rfl) (by kernel_rfl) (fun _ _ _ h => h) (Or.inl ⟨by rfl, ?tw10⟩) hHeld2 ?_
  case tw10 => (intro W hW; clear hW; first | (go_simp; done) | (go_simp; with_reducible rfl))
  try simp only [Act.put, List.setIfInBounds_toArray, List.set_cons_zero, List.set_cons_succ]
  refine wpAnyH_take (i := 14) (oi := { dst := some 91, op := Op.pick (Operand.tmp 83) (Operand.tmp 90) (Operand.const (Value.bool false)), type := 4, pos := "law.go:90", after := #[{ on := 6, ground := Ground.data }, { on := 13, ground := Ground.data }], guard := none }) (v := ?tk11) rfl (by kernel_rfl) (by kernel_rfl) (by kernel_rfl) (fun _ _ _ h => h) (Or.inl ⟨by rfl, ?tw11⟩) hHeld2 ?_
  case tw11 => (intro W hW; clear hW; first | (go_simp; done) | (go_simp; with_reducible rfl))
  try simp only [Act.put, List.setIfInBounds_toArray, List.set_cons_zero, List.set_cons_succ]
  refine wpAnyH_take (i := 15) (oi := { dst := some 92, op := Op.move (Operand.tmp 91), type := 4, pos := "law.go:90", after := #[{ on := 14, ground := Ground.data }, { on := 11, ground := Ground.chain }], guard := none }) (v := ?tk12) rfl (by kernel_rfl) (by kernel_rfl) (by kernel_rfl) (fun _ _ _ h => h) (Or.inl ⟨by rfl, ?tw12⟩) hHeld2 ?_
  case tw12 => (intro W hW; clear hW; first | (go_simp; done) | (go_simp; with_reducible rfl))
  try simp only [Act.put, List.setIfInBounds_toArray, List.set_cons_zero, List.set_cons_succ]
  refine wpAnyH_take (i := 16) (oi := { dst := some 93, op := Op.move (Operand.tmp 10), type := 25, pos := "law.go:90", after := #[{ on := 15, ground := Ground.guard }], guard := some (15, true) }) (v := ?tk13) rfl (by kernel_rfl) (by kernel_rfl) (by kernel_rfl) (fun _ _ _ h => h) (Or.inl ⟨by rfl, ?tw13⟩) hHeld2 ?_
  case tw13 => (intro W hW; clear hW; first | (go_simp; done) | (go_simp; with_reducible rfl))
  try simp only [Act.put, List.setIfInBounds_toArray, List.set_cons_zero, List.set_cons_succ]
  refine wpAnyH_take (i := 17) (oi := { dst := some 94, op := Op.convert 25 9 (Operand.tmp 93), type := 9, pos := "law.go:90", after := #[{ on := 16, ground := Ground.data }, { on := 15, ground := Ground.guard }], guard := some (15, true) }) (v := .string (strOf YD)) rfl (by kernel_rfl) (by kernel_rfl) (by kernel_rfl) (fun _ _ _ h => h) (Or.inl ⟨by rfl, fun W hW => ?_⟩) hHeld2 ?_
  · (have hst := str_bytes hW.2 HYN.out; clear hW; go_simp)
  try simp only [Act.put, List.setIfInBounds_toArray, List.set_cons_zero, List.set_cons_succ]
  refine wpAnyH_take (i := 18) (oi := { dst := some 95, op := Op.move (Operand.tmp 12), type := 25, pos := "law.go:90", after := #[{ on := 15, ground := Ground.guard }], guard := some (15, true) }) (v := ?tk14) rfl (by kernel_rfl) (by kernel_rfl) (by kernel_rfl) (fun _ _ _ h => h) (Or.inl ⟨by rfl, ?tw14⟩) hHeld2 ?_
  case tw14 => (intro W hW; clear hW; first | (go_simp; done) | (go_simp; with_reducible rfl))
  try simp only [Act.put, List.setIfInBounds_toArray, List.set_cons_zero, List.set_cons_succ]
  refine wpAnyH_take (i := 19) (oi := { dst := some 96, op := Op.move (Operand.tmp 1), type := 25, pos := "law.go:90", after := #[{ on := 15, ground := Ground.guard }], guard := some (15, true) }) (v := ?tk15) rfl (by kernel_rfl) (by kernel_rfl) (by kernel_rfl) (fun _ _ _ h => h) (Or.inl ⟨by rfl, ?tw15⟩) hHeld2 ?_
  case tw15 => (intro W hW; clear hW; first | (go_simp; done) | (go_simp; with_reducible rfl))
  try simp only [Act.put, List.setIfInBounds_toArray, List.set_cons_zero, List.set_cons_succ]
  refine wpAnyH_ready (rs := [20]) (by kernel_rfl) (by simp) ?_
  refine AllReadyH.cons (o := { dst := some 97, op := Op.call { callee := Callee.value (Operand.func 17), args := #[Operand.tmp 95, Operand.tmp 96], argTypes := #[25, 25] }, type := 25, pos := "law.go:90", after := #[{ on := 18, ground := Ground.data }, { on := 19, ground := Ground.data }, { on := 15, ground := Ground.chain }, { on := 15, ground := Ground.guard }], guard := some (15, true) }) rfl (fun K' hK => ?_) AllReadyH.nil
  go_simp
  refine (HRD.out _ _ (HG.out.kept HL_2.out) Hf_2.out Hz_2.out).mono ?_
  rintro e x3 ⟨r, rfl, hr, hrn, hb⟩
  have Hr_3 := Lib.hid hr
  have Hn_3 := Lib.hid hrn
  have Hx_3 := Lib.hid (Hx_2.out.kept hb)
  have Hy_3 := Lib.hid (Hy_2.out.kept hb)
  have Hf_3 := Lib.hid (Hf_2.out.kept hb)
  have Hz_3 := Lib.hid (Hz_2.out.kept hb)
  have HL_3 := Lib.hid (HL_2.out.trans (hb.mono HL_2.out.size))
  clear hb hr hrn
  refine hK.out _ _ ⟨Hx_3.out, Hy_3.out⟩ (fun hHeld3 => ?_)
  clear hK K'
  try simp only [Act.put, List.setIfInBounds_toArray, List.set_cons_zero, List.set_cons_succ]
  refine wpAnyH_ready (rs := [21]) (by kernel_rfl) (by simp) ?_
  refine AllReadyH.cons (o := { dst := some 98, op := Op.convert 25 9 (Operand.tmp 97), type := 9, pos := "law.go:90", after := #[{ on := 20, ground := Ground.data }, { on := 15, ground := Ground.guard }], guard := some (15, true) }) rfl (fun K' hK => ?_) AllReadyH.nil
  rw [if_pos (by rfl)]
  have hst := str_bytes Hr_3.out Hn_3.out
  go_simp
  clear hst
  obtain ⟨x4, hxx⟩ : ∃ X, X = x3 := ⟨_, rfl⟩
  subst hxx
  have Hx_4 := Hx_3
  have Hy_4 := Hy_3
  have Hf_4 := Hf_3
  have Hz_4 := Hz_3
  have HL_4 := HL_3
  refine hK.out _ _ ⟨Hx_4.out, Hy_4.out⟩ (fun hHeld4 => ?_)
  clear hK K'
  try simp only [Act.put, List.setIfInBounds_toArray, List.set_cons_zero, List.set_cons_succ]
  refine wpAnyH_take (i := 22) (oi := { dst := some 99, op := Op.binOp BinOp.eql 9 (Operand.tmp 94) (Operand.tmp 98) 9, type := 4, pos := "law.go:90", after := #[{ on := 17, ground := Ground.data }, { on := 21, ground := Ground.data }, { on := 15, ground := Ground.guard }], guard := some (15, true) }) (v := ?tk16) rfl (by kernel_rfl) (by kernel_rfl) (by kernel_rfl) (fun _ _ _ h => h) (Or.inl ⟨by rfl, ?tw16⟩) hHeld4 ?_
  case tw16 => (intro W hW; clear hW; first | (go_simp; done) | (go_simp; with_reducible rfl))
  try simp only [Act.put, List.setIfInBounds_toArray, List.set_cons_zero, List.set_cons_succ]
  refine wpAnyH_take (i := 23) (oi := { dst := some 100, op := Op.pick (Operand.tmp 92) (Operand.tmp 99) (Operand.const (Value.bool false)), type := 4, pos := "law.go:90", after := #[{ on := 15, ground := Ground.data }, { on := 22, ground := Ground.data }], guard := none }) (v := ?tk17) rfl (by kernel_rfl) (by kernel_rfl) (by kernel_rfl) (fun _ _ _ h => h) (Or.inl ⟨by rfl, ?tw17⟩) hHeld4 ?_
  case tw17 => (intro W hW; clear hW; first | (go_simp; done) | (go_simp; with_reducible rfl))
  try simp only [Act.put, List.setIfInBounds_toArray, List.set_cons_zero, List.set_cons_succ]
  refine wpAnyH_take (i := 24) (oi := { dst := some 101, op := Op.move (Operand.tmp 100), type := 4, pos := "law.go:90", after := #[{ on := 23, ground := Ground.data }, { on := 20, ground := Ground.chain }], guard := none }) (v := ?tk18) rfl (by kernel_rfl) (by kernel_rfl) (by kernel_rfl) (fun _ _ _ h => h) (Or.inl ⟨by rfl, ?tw18⟩) hHeld4 ?_
  case tw18 => (intro W hW; clear hW; first | (go_simp; done) | (go_simp; with_reducible rfl))
  try simp only [Act.put, List.setIfInBounds_toArray, List.set_cons_zero, List.set_cons_succ]
  refine wpAnyH_ready (rs := [25]) (by kernel_rfl) (by simp) ?_
  refine AllReadyH.cons (o := { dst := some 102, op := Op.call { callee := Callee.value (Operand.func 10), args := #[], argTypes := #[] }, type := 4, pos := "law.go:90", after := #[{ on := 24, ground := Ground.chain }, { on := 24, ground := Ground.guard }], guard := some (24, true) }) rfl (fun K' hK => ?_) AllReadyH.nil
  go_simp
  refine (HKA.out _).mono ?_
  rintro e x5 ⟨rfl, hb⟩
  have Hx_5 := Lib.hid (Hx_4.out.kept hb)
  have Hy_5 := Lib.hid (Hy_4.out.kept hb)
  have Hf_5 := Lib.hid (Hf_4.out.kept hb)
  have Hz_5 := Lib.hid (Hz_4.out.kept hb)
  have HL_5 := Lib.hid (HL_4.out.trans (hb.mono HL_4.out.size))
  clear hb
  refine hK.out _ _ ⟨Hx_5.out, Hy_5.out⟩ (fun hHeld5 => ?_)
  clear hK K'
  try simp only [Act.put, List.setIfInBounds_toArray, List.set_cons_zero, List.set_cons_succ]
  refine wpAnyH_take (i := 26) (oi := { dst := some 103, op := Op.pick (Operand.tmp 101) (Operand.tmp 102) (Operand.const (Value.bool false)), type := 4, pos := "law.go:90", after := #[{ on := 24, ground := Ground.data }, { on := 25, ground := Ground.data }], guard := none }) (v := ?tk19) rfl (by kernel_rfl) (by kernel_rfl) (by kernel_rfl) (fun _ _ _ h => h) (Or.inl ⟨by rfl, ?tw19⟩) hHeld5 ?_
  case tw19 => (intro W hW; clear hW; first | (go_simp; done) | (go_simp; with_reducible rfl))
  try simp only [Act.put, List.setIfInBounds_toArray, List.set_cons_zero, List.set_cons_succ]
  refine wpAnyH_take (i := 27) (oi := { dst := some 4, op := Op.assign (Operand.tmp 103), type := 4, pos := "law.go:90", after := #[{ on := 26, ground := Ground.data }, { on := 25, ground := Ground.chain }, { on := 0, ground := Ground.phase }, { on := 1, ground := Ground.phase }, { on := 2, ground := Ground.phase }, { on := 3, ground := Ground.phase }, { on := 4, ground := Ground.phase }, { on := 5, ground := Ground.phase }, { on := 6, ground := Ground.phase }, { on := 7, ground := Ground.phase }, { on := 8, ground := Ground.phase }, { on := 9, ground := Ground.phase }, { on := 10, ground := Ground.phase }, { on := 11, ground := Ground.phase }, { on := 12, ground := Ground.phase }, { on := 13, ground := Ground.phase }, { on := 14, ground := Ground.phase }, { on := 15, ground := Ground.phase }, { on := 16, ground := Ground.phase }, { on := 17, ground := Ground.phase }, { on := 18, ground := Ground.phase }, { on := 19, ground := Ground.phase }, { on := 20, ground := Ground.phase }, { on := 21, ground := Ground.phase }, { on := 22, ground := Ground.phase }, { on := 23, ground := Ground.phase }, { on := 24, ground := Ground.phase }, { on := 25, ground := Ground.phase }, { on := 26, ground := Ground.phase }], guard := none }) (v := ?tk20) rfl (by kernel_rfl) (by kernel_rfl) (by kernel_rfl) (fun _ _ _ h => h) (Or.inl ⟨by rfl, ?tw20⟩) hHeld5 ?_
  case tw20 => (intro W hW; clear hW; first | (go_simp; done) | (go_simp; with_reducible rfl))
  try simp only [Act.put, List.setIfInBounds_toArray, List.set_cons_zero, List.set_cons_succ]
  refine wpAnyH_done (by kernel_rfl) ?_ _
  refine NoPanic.normal ?_
  go_wp2_with fail
  go_ret
  exact ⟨rfl, HL_5.out⟩
end Go.Proofs.YtfmmokcniechcaaDoor
