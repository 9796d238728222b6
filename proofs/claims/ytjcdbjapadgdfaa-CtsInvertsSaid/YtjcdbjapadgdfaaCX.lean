/- Decrypt; CtsInverts walked. -/
import Derived.Test.YtjcdbjapadgdfaaCO
import Derived.Test.YtjcdbjapadgdfaaCW
namespace Go.Proofs.Ytjcdbjapadgdfaa
open Go.RowKit Go.Shelf

attribute [local go_sem] Oper.semAt_some
set_option maxRecDepth 100000 in
theorem dec_any (key iv cs : List Nat) (ks vs : Value) (a : Option Addr) (L c : Nat) (hL : cs.length = L) (hk : key.length = 16) (hv : iv.length = 16) (hl : 16 ≤ L) (hm : L ≤ 131072) (w : World) (hK : BytesAt key ks w) (hV : BytesAt iv vs w) (hB : BytesAt cs (.slice a L c) w) :
    Calls Try.prog 8 #[ks, vs, .slice a L c] w fun e w' => ∃ s', e = .returned (.tuple #[s', .int .i64 0]) ∧ BytesAt (decL key iv cs) s' w' ∧ Nil0 s' ∧ (∀ j, InS s' j → w.heap.size ≤ j) ∧ Below w.heap.size w w' := by
  subst hL
  have H := Lib.hid (applied_any 13 key iv cs ks vs a c (decL key iv cs) hk hv hl hm w hK hV hB (enters_of Try.func13 (by kernel_rfl) rfl) (fun gm gc W hM hB2 => mdec_any key iv cs gm gc _ hK.1 hv hV.1 hl hm W hM hB2))
  clear hk hv hl hm hK hV hB
  go_enter Try.func8, Try.ntmps8
  go_wp2_with fail
  refine H.out.mono ?_
  rintro e w1 ⟨s', rfl, hby, hn0, hin, hb⟩
  have HBY := Lib.hid hby
  have HN0 := Lib.hid hn0
  have HIN := Lib.hid hin
  have HB := Lib.hid hb
  clear hby hn0 hin hb H
  go_wp2_with fail
  go_ret2
  exact ⟨_, rfl, HBY.out, HN0.out, HIN.out, HB.out⟩
theorem nil0_of {zs : List Nat} {s : Value} {w : World} (h : BytesAt zs s w) (h0 : 0 < zs.length) : Nil0 s := by
  rintro L c rfl
  obtain ⟨_, a, c', e, _, h2⟩ := h
  cases e
  rcases h2 with h2 | ⟨b, off, ea, _⟩
  · omega
  · cases ea
/-- The shape of a slice that has a string's bytes. -/
theorem bytes_shape {zs : List Nat} {s : Value} {w : World} (h : BytesAt zs s w) {L : Nat} (hL : zs.length = L) (h0 : 0 < L) : ∃ b o c, s = .slice (some ⟨b, o, none⟩) L c ∧ L ≤ c := by
  obtain ⟨b, o, c, e, _, _⟩ := h.cells (by omega)
  obtain ⟨_, a, c', e', hc, _⟩ := h
  subst hL
  rw [e] at e'
  cases e'
  exact ⟨b, o, c, e, hc⟩
set_option maxRecDepth 100000 in
set_option maxHeartbeats 8000000 in
theorem cinverts_all (ks iv zs os : List Nat) (ak av az ao : Option Addr) (ck cv cz co : Nat) (w : World) (hk : BytesAt ks (.slice ak ks.length ck) w) (hv : BytesAt iv (.slice av iv.length cv) w) (hz : BytesAt zs (.slice az zs.length cz) w) (ho : BytesAt os (.slice ao os.length co) w)
    (h1 : ks.length = 16) (h2 : iv.length = 16) (h3 : 16 ≤ zs.length) (h4 : zs.length ≤ 200) :
    Calls Try.prog 4 #[.slice ak ks.length ck, .slice av iv.length cv, .slice az zs.length cz, .slice ao os.length co] w fun e w' => e = .returned (.bool true) ∧ Below w.heap.size w w' := by
  obtain ⟨bz, oz, cz', e, _, _⟩ := hz.cells (by omega)
  cases e
  have hcz : zs.length ≤ cz := by obtain ⟨_, _, _, e, h, _⟩ := hz; cases e; exact h
  have HK := Lib.hid hk
  have HV := Lib.hid hv
  have HZ := Lib.hid hz
  have HO := Lib.hid ho
  have HZN := Lib.hid (nil0_of hz (by omega))
  have HDE := Lib.hid (decL_encL hk.1 h2 hv.1 hz.1 h3)
  have HED := Lib.hid (encL_decL (iv := iv) hk.1 h2 hz.1 h3)
  have HEL := Lib.hid (encL_len hk.1 h2 hv.1 hz.1)
  have HDL := Lib.hid (decL_len hk.1 h2 hz.1 (iv := iv))
  have HE2 := Lib.hid (encL_256 hk.1 h2 hv.1 hz.1)
  have HFI := Lib.hid (fun (ys : List Nat) (k : Nat) (hy : ∀ x ∈ ys, x < 256) (hl : ys.length = zs.length) => encL_first (k := k) hk.1 h2 hv.1 hz.1 hy hl)
  have HE3 := Lib.hid (fun (ys : List Nat) (hy : ∀ x ∈ ys, x < 256) => encL_len hk.1 h2 hv.1 hy)
  have HEN := Lib.hid (fun (xs : List Nat) (a : Option Addr) (c : Nat) (hl : xs.length = zs.length) (W : World) (hW : Below w.heap.size w W) (hB : BytesAt xs (.slice a zs.length c) W) => enc_any ks iv xs (.slice ak ks.length ck) (.slice av iv.length cv) a zs.length c hl h1 h2 h3 (by omega) W (hk.kept hW) (hv.kept hW) hB)
  have HDN := Lib.hid (fun (xs : List Nat) (a : Option Addr) (c : Nat) (hl : xs.length = zs.length) (W : World) (hW : Below w.heap.size w W) (hB : BytesAt xs (.slice a zs.length c) W) => dec_any ks iv xs (.slice ak ks.length ck) (.slice av iv.length cv) a zs.length c hl h1 h2 h3 (by omega) W (hk.kept hW) (hv.kept hW) hB)
  obtain ⟨X, hX⟩ : ∃ q, encL ks iv zs = q := ⟨_, rfl⟩
  obtain ⟨Z, hZ⟩ : ∃ q, decL ks iv zs = q := ⟨_, rfl⟩
  have HXE := Lib.hid hX
  have HZE := Lib.hid hZ
  rw [hX] at HDE HEL HE2 HFI
  rw [hZ] at HED HDL
  obtain ⟨L, hL⟩ : ∃ q, zs.length = q := ⟨_, rfl⟩
  have HL := Lib.hid hL
  have hL0 : 0 < L := by omega
  rw [hL] at h3 h4 hcz HEL HDL HFI HZ HZN HEN HDN ⊢
  obtain ⟨M, hM⟩ : ∃ q, os.length = q := ⟨_, rfl⟩
  have HM := Lib.hid hM
  rw [hM] at HO ⊢
  rw [h1] at HK HEN HDN ⊢
  rw [h2] at HV HEN HDN ⊢
  obtain ⟨n, hn⟩ : ∃ q, (L + 15) / 16 = q := ⟨_, rfl⟩
  have HNB := Lib.hid (show nB L = n from hn)
  have i1 : IntKind.i64.wrap (((L : Nat) : Int) + 15) = ((L : Nat) : Int) + 15 := IntWalk.i64_in _ (by omega)
  have hdv : (((L : Nat) : Int) + 15).tdiv 16 = ((n : Nat) : Int) := by rw [Int.tdiv_eq_ediv_of_nonneg (by omega)]; omega
  have hdv2 : (((L : Nat) : Int) + 15) / 16 = ((n : Nat) : Int) := by omega
  have i2 : IntKind.i64.wrap (((n : Nat) : Int) - 2) = ((n : Nat) : Int) - 2 := IntWalk.i64_in _ (by omega)
  have i3 : ¬ ((L : Nat) : Int) < 16 := by omega
  have i4 : ¬ (200 : Int) < ((L : Nat) : Int) := by omega
  have HNL := Lib.hid (show 1 ≤ n ∧ L ≤ 16 * n ∧ 16 * n < L + 16 ∧ L ≤ 200 by omega)
  have HK1 := Lib.hid h1
  clear hk hv hz ho h1 h2 hX hZ hL hM hn h3 h4
  have HC1 := Lib.hid (HEN.out zs (some ⟨bz, oz, none⟩) cz HL.out w (Below.refl _ _) HZ.out)
  rw [HXE.out] at HC1
  go_enter Try.func4, Try.ntmps4
  go_wp2_with fail
  refine HC1.out.mono ?_
  rintro e w1 ⟨sx, rfl, hb1, hn1, _, hw1⟩
  obtain ⟨bbx, oox, cx, rfl, hcx⟩ := bytes_shape hb1 HEL.out hL0
  have HB1 := Lib.hid hb1
  have HN1 := Lib.hid hn1
  have HW1 := Lib.hid hw1
  have HC2 := Lib.hid (HDN.out X (some ⟨bbx, oox, none⟩) cx HEL.out w1 hw1 hb1)
  rw [HDE.out] at HC2
  clear hb1 hn1 hw1 HC1
  go_wp2_with fail
  refine HC2.out.mono ?_
  rintro e w2 ⟨sy, rfl, hb2, hn2, _, hw2⟩
  obtain ⟨bby, ooy, cy, rfl, hcy⟩ := bytes_shape hb2 HL.out hL0
  have HB2 := Lib.hid hb2
  have HN2 := Lib.hid hn2
  have HW2 := Lib.hid (bthen HW1.out hw2)
  have HB1 := Lib.hid (HB1.out.kept hw2)
  have HC3 := Lib.hid (HDN.out zs (some ⟨bz, oz, none⟩) cz HL.out w2 HW2.out (HZ.out.kept HW2.out))
  rw [HZE.out] at HC3
  clear hb2 hn2 hw2 HC2
  go_wp2_with fail
  refine HC3.out.mono ?_
  rintro e w3 ⟨sz, rfl, hb3, hn3, _, hw3⟩
  obtain ⟨bb3, oo3, c3, rfl, hc3⟩ := bytes_shape hb3 HDL.out hL0
  have HB3 := Lib.hid hb3
  have HN3 := Lib.hid hn3
  have HW3 := Lib.hid (bthen HW2.out hw3)
  have HB1 := Lib.hid (HB1.out.kept hw3)
  have HB2 := Lib.hid (HB2.out.kept hw3)
  have HC4 := Lib.hid (HEN.out Z (some ⟨bb3, oo3, none⟩) c3 HDL.out w3 HW3.out hb3)
  rw [HED.out] at HC4
  clear hb3 hn3 hw3 HC3
  go_wp2_with fail
  refine HC4.out.mono ?_
  rintro e w4 ⟨su, rfl, hb4, hn4, _, hw4⟩
  obtain ⟨bb4, oo4, c4, rfl, hc4⟩ := bytes_shape hb4 HL.out hL0
  have HW4 := Lib.hid (bthen HW3.out hw4)
  have HB1 := Lib.hid (HB1.out.kept hw4)
  have hsy := str_bytes (HB2.out.kept hw4) HN2.out
  have hsu := str_bytes hb4 hn4
  have hsz := str_bytes (HZ.out.kept HW4.out) HZN.out
  clear hb4 hn4 hw4 HC4 HB2 HB3 HN2 HN3 HZN HDE HED HDL
  by_cases hk1 : n ≤ 2
  · have j1 : ((n : Nat) : Int) - 2 < 1 := by omega
    have HKN := Lib.hid (known_any w4)
    go_wp2_with fail
    refine HKN.out.mono ?_
    rintro e w5 ⟨rfl, hw5⟩
    have HW5 := Lib.hid (bthen HW4.out hw5)
    clear hw5 HKN
    go_wp2_with fail
    go_ret
    exact ⟨rfl, HW5.out⟩
  · have j1 : ¬ ((n : Nat) : Int) - 2 < 1 := by omega
    by_cases hk2 : M < L
    · have j2 : ((M : Nat) : Int) < ((L : Nat) : Int) := by omega
      have HKN := Lib.hid (known_any w4)
      go_wp2_with fail
      refine HKN.out.mono ?_
      rintro e w5 ⟨rfl, hw5⟩
      have HW5 := Lib.hid (bthen HW4.out hw5)
      clear hw5 HKN
      go_wp2_with fail
      go_ret
      exact ⟨rfl, HW5.out⟩
    · have j2 : ¬ ((M : Nat) : Int) < ((L : Nat) : Int) := by omega
      obtain ⟨k, hk⟩ : ∃ k, n = k + 2 := ⟨n - 2, by omega⟩
      have hnl := HNL.out
      have hki : ((n : Nat) : Int) - 2 = ((k : Nat) : Int) := by omega
      replace i2 := i2.trans hki
      rw [hki] at j1
      have w3' : IntKind.i64.wrap (16 * ((k : Nat) : Int)) = 16 * ((k : Nat) : Int) := IntWalk.i64_in _ (by omega)
      obtain ⟨bo, oo, hao⟩ : ∃ bo oo, ao = some ⟨bo, oo, none⟩ := by
        obtain ⟨b, o, c, e, _, _⟩ := HO.out.cells (by rw [HM.out]; omega)
        cases e
        exact ⟨b, o, rfl⟩
      subst hao
      have hco : M ≤ co := by obtain ⟨_, _, _, e, h, _⟩ := HO.out; cases e; rw [← HM.out]; exact h
      have hss1 := fun W => run_slice22_h (some ⟨bz, oz, none⟩) L cz (16 * k) (by omega) (fun e => by cases e) W
      have hss2 := fun W => run_slice22_lh bo oo M co (16 * k) L (by omega) (by omega) W
      rw [show ((16 * k : Nat) : Int) = 16 * ((k : Nat) : Int) by omega] at hss1 hss2
      have HPA := Lib.hid (fun (W : World) (hb : Below w.heap.size w W) => bytes_cutm (HZ.out.kept hb) 0 (16 * k) cz (by rw [HL.out]; omega) (by omega))
      have HPB := Lib.hid (fun (W : World) (hb : Below w.heap.size w W) => bytes_cutm (HO.out.kept hb) (16 * k) (L - 16 * k) (co - 16 * k) (by rw [HM.out]; omega) (by omega))
      have HLA := Lib.hid (show ((zs.drop 0).take (16 * k)).length = 16 * k by rw [List.length_take, List.length_drop, HL.out]; omega)
      have HLB := Lib.hid (show ((os.drop (16 * k)).take (L - 16 * k)).length = L - 16 * k by rw [List.length_take, List.length_drop, HM.out]; omega)
      have HFT := Lib.hid (show (((zs.drop 0).take (16 * k)) ++ (os.drop (16 * k)).take (L - 16 * k)).take (16 * k) = zs.take (16 * k) by rw [take_app HLA.out, List.drop_zero])
      obtain ⟨pa, hpa⟩ : ∃ q, (zs.drop 0).take (16 * k) = q := ⟨_, rfl⟩
      obtain ⟨pb, hpb⟩ : ∃ q, (os.drop (16 * k)).take (L - 16 * k) = q := ⟨_, rfl⟩
      rw [hpa] at HPA HLA HFT
      rw [hpb] at HPB HLB HFT
      have HKK := Lib.hid hk
      have HCC := Lib.hid (show 16 * k + 32 ≤ L + 15 ∧ L ≤ cz ∧ L ≤ cx ∧ M ≤ co ∧ L ≤ 200 by omega)
      clear hpa hpb hk hnl hki hk1 hk2 hcz hcx hcy hc3 hc4 hco
      go_upto_region 12 with fail
      clear hdv hdv2 i1 i2 j1 j2 i3 i4
      have HL_0 := Lib.hid (show Below w4.heap.size w4 w4.drew from (Below.refl _ _).drew)
      refine wp_region_noPanic ?_
      refine wp_region_held_drew (S := fun W => True) (by kernel_rfl) trivial (fun hHeld0 => ?_)
      obtain ⟨x0, hx0⟩ : ∃ X, w4.drew = X := ⟨_, rfl⟩
      rw [hx0] at  HL_0 ⊢
      clear hx0
      refine wpAnyH_take (i := 1) (oi := { dst := some 126, op := Op.move (Operand.tmp 2), type := 22, pos := "law.go:128", after := #[], guard := none }) (v := ?tk0) rfl (by kernel_rfl) (by kernel_rfl) (by kernel_rfl) (fun _ _ _ h => h) (Or.inl ⟨by rfl, ?tw0⟩) hHeld0 ?_
      case tw0 => (intro W hW; clear hW; first | (go_simp; done) | (go_simp; with_reducible rfl))
      try simp only [Act.put, List.setIfInBounds_toArray, List.set_cons_zero, List.set_cons_succ]
      refine wpAnyH_take (i := 2) (oi := { dst := some 127, op := Op.move (Operand.tmp 17), type := 3, pos := "law.go:128", after := #[], guard := none }) (v := ?tk1) rfl (by kernel_rfl) (by kernel_rfl) (by kernel_rfl) (fun _ _ _ h => h) (Or.inl ⟨by rfl, ?tw1⟩) hHeld0 ?_
      case tw1 => (intro W hW; clear hW; first | (go_simp; done) | (go_simp; with_reducible rfl))
      try simp only [Act.put, List.setIfInBounds_toArray, List.set_cons_zero, List.set_cons_succ]
      refine wpAnyH_take (i := 3) (oi := { dst := some 128, op := Op.binOp BinOp.mul 3 (Operand.const (Value.int IntKind.i64 16)) (Operand.tmp 127) 3, type := 3, pos := "law.go:128", after := #[{ on := 2, ground := Ground.data }], guard := none }) (v := ?tk2) rfl (by kernel_rfl) (by kernel_rfl) (by kernel_rfl) (fun _ _ _ h => h) (Or.inl ⟨by rfl, ?tw2⟩) hHeld0 ?_
      case tw2 => (intro W hW; clear hW; first | (go_simp; done) | (go_simp; with_reducible rfl))
      try simp only [Act.put, List.setIfInBounds_toArray, List.set_cons_zero, List.set_cons_succ]
      refine wpAnyH_take (i := 4) (oi := { dst := some 129, op := Op.slice 22 (Operand.tmp 126) none (some (Operand.tmp 128)) none, type := 22, pos := "law.go:128", after := #[{ on := 1, ground := Ground.data }, { on := 3, ground := Ground.data }], guard := none }) (v := ?tk3) rfl (by kernel_rfl) (by kernel_rfl) (by kernel_rfl) (fun _ _ _ h => h) (Or.inl ⟨by rfl, ?tw3⟩) hHeld0 ?_
      case tw3 => (intro W hW; clear hW; first | (go_simp; done) | (go_simp; with_reducible rfl))
      try simp only [Act.put, List.setIfInBounds_toArray, List.set_cons_zero, List.set_cons_succ]
      refine wpAnyH_take (i := 6) (oi := { dst := some 131, op := Op.move (Operand.tmp 3), type := 22, pos := "law.go:128", after := #[], guard := none }) (v := ?tk4) rfl (by kernel_rfl) (by kernel_rfl) (by kernel_rfl) (fun _ _ _ h => h) (Or.inl ⟨by rfl, ?tw4⟩) hHeld0 ?_
      case tw4 => (intro W hW; clear hW; first | (go_simp; done) | (go_simp; with_reducible rfl))
      try simp only [Act.put, List.setIfInBounds_toArray, List.set_cons_zero, List.set_cons_succ]
      refine wpAnyH_take (i := 7) (oi := { dst := some 132, op := Op.move (Operand.tmp 17), type := 3, pos := "law.go:128", after := #[], guard := none }) (v := ?tk5) rfl (by kernel_rfl) (by kernel_rfl) (by kernel_rfl) (fun _ _ _ h => h) (Or.inl ⟨by rfl, ?tw5⟩) hHeld0 ?_
      case tw5 => (intro W hW; clear hW; first | (go_simp; done) | (go_simp; with_reducible rfl))
      try simp only [Act.put, List.setIfInBounds_toArray, List.set_cons_zero, List.set_cons_succ]
      refine wpAnyH_take (i := 8) (oi := { dst := some 133, op := Op.binOp BinOp.mul 3 (Operand.const (Value.int IntKind.i64 16)) (Operand.tmp 132) 3, type := 3, pos := "law.go:128", after := #[{ on := 7, ground := Ground.data }], guard := none }) (v := ?tk6) rfl (by kernel_rfl) (by kernel_rfl) (by kernel_rfl) (fun _ _ _ h => h) (Or.inl ⟨by rfl, ?tw6⟩) hHeld0 ?_
      case tw6 => (intro W hW; clear hW; first | (go_simp; done) | (go_simp; with_reducible rfl))
      try simp only [Act.put, List.setIfInBounds_toArray, List.set_cons_zero, List.set_cons_succ]
      refine wpAnyH_take (i := 9) (oi := { dst := some 134, op := Op.move (Operand.tmp 2), type := 22, pos := "law.go:128", after := #[], guard := none }) (v := ?tk7) rfl (by kernel_rfl) (by kernel_rfl) (by kernel_rfl) (fun _ _ _ h => h) (Or.inl ⟨by rfl, ?tw7⟩) hHeld0 ?_
      case tw7 => (intro W hW; clear hW; first | (go_simp; done) | (go_simp; with_reducible rfl))
      try simp only [Act.put, List.setIfInBounds_toArray, List.set_cons_zero, List.set_cons_succ]
      refine wpAnyH_take (i := 10) (oi := { dst := some 135, op := Op.call { callee := Callee.builtin Builtin.len, args := #[Operand.tmp 134], argTypes := #[22] }, type := 3, pos := "law.go:128", after := #[{ on := 9, ground := Ground.data }], guard := none }) (v := ?tk8) rfl (by kernel_rfl) (by kernel_rfl) (by kernel_rfl) (fun _ _ _ h => h) (Or.inl ⟨by rfl, ?tw8⟩) hHeld0 ?_
      case tw8 => (intro W hW; clear hW; first | (go_simp; done) | (go_simp; with_reducible rfl))
      try simp only [Act.put, List.setIfInBounds_toArray, List.set_cons_zero, List.set_cons_succ]
      refine wpAnyH_take (i := 11) (oi := { dst := some 136, op := Op.slice 22 (Operand.tmp 131) (some (Operand.tmp 133)) (some (Operand.tmp 135)) none, type := 22, pos := "law.go:128", after := #[{ on := 6, ground := Ground.data }, { on := 8, ground := Ground.data }, { on := 10, ground := Ground.data }], guard := none }) (v := ?tk9) rfl (by kernel_rfl) (by kernel_rfl) (by kernel_rfl) (fun _ _ _ h => h) (Or.inl ⟨by rfl, ?tw9⟩) hHeld0 ?_
      case tw9 => (intro W hW; clear hW; first | (go_simp; done) | (go_simp; with_reducible rfl))
      try simp only [Act.put, List.setIfInBounds_toArray, List.set_cons_zero, List.set_cons_succ]
      refine wpAnyH_ready (rs := [0]) (by kernel_rfl) (by simp) ?_
      refine AllReadyH.cons (o := { dst := some 125, op := Op.buildSlice 22 0 #[], type := 22, pos := "law.go:128", after := #[], guard := none }) rfl (fun K' hK => ?_) AllReadyH.nil
      go_simp
      obtain ⟨x1, hyy⟩ : ∃ q, x0.alloc (.cells #[] 5) = q := ⟨_, rfl⟩
      have hb : Below x0.heap.size x0 x1 := by rw [← hyy]; exact (Below.refl _ _).alloc (Nat.le_refl _) _
      have Ho_1 := Lib.hid (show x1.ownsRow x0.heap.size 5 1 (.slice (some ⟨x0.heap.size, 0, none⟩) 0 0) ([] : List Nat).length (cl []) by rw [← hyy]; exact World.ownsRow_lit _ #[] 0 (Nat.le_refl _) (by unfold maxLen; omega) rfl)
      have hx0y : x0.heap.size ≤ x1.heap.size := hb.size
      have hx0w : w4.heap.size ≤ x0.heap.size := HL_0.out.size
      have HL_1 := Lib.hid (bthen HL_0.out hb)
      rw [hyy]
      clear hb hyy
      refine hK.out _ _ trivial (fun hHeld1 => ?_)
      clear hK K'
      try simp only [Act.put, List.setIfInBounds_toArray, List.set_cons_zero, List.set_cons_succ]
      refine wpAnyH_ready (rs := [5]) (by kernel_rfl) (by simp) ?_
      refine AllReadyH.cons (o := { dst := some 130, op := Op.call { callee := Callee.builtin Builtin.append, args := #[Operand.tmp 125, Operand.tmp 129], argTypes := #[22, 22] }, type := 22, pos := "law.go:128", after := #[{ on := 0, ground := Ground.data }, { on := 4, ground := Ground.data }], guard := none }) rfl (fun K' hK => ?_) AllReadyH.nil
      rw [if_pos (by rfl)]
      refine wp_app _ _ rfl x0.heap.size rfl rfl Ho_1.out (HPA.out _ (bthen HW4.out HL_1.out)) (fun _ _ e => by cases e) ?sz1 hx0y ?_
      case sz1 => (simp only [HLA.out, List.length_nil]; have := HCC.out; omega)
      intro vb x2 hva hga
      have hbl := below_owned (Below.refl x0.heap.size x1) Ho_1.out hga hx0y
      have Ho_2 := Lib.hid hva
      have HL_2 := Lib.hid (HL_1.out.trans (hbl.mono hx0w))
      have hx0z := Nat.le_trans hx0y hbl.size
      clear hva hga hbl hx0y
      have hx0y := hx0z
      clear hx0z
      refine hK.out _ _ trivial (fun hHeld2 => ?_)
      clear hK K'
      try simp only [Act.put, List.setIfInBounds_toArray, List.set_cons_zero, List.set_cons_succ]
      refine wpAnyH_ready (rs := [12]) (by kernel_rfl) (by simp) ?_
      refine AllReadyH.cons (o := { dst := some 137, op := Op.call { callee := Callee.builtin Builtin.append, args := #[Operand.tmp 130, Operand.tmp 136], argTypes := #[22, 22] }, type := 22, pos := "law.go:128", after := #[{ on := 5, ground := Ground.data }, { on := 11, ground := Ground.data }, { on := 5, ground := Ground.chain }], guard := none }) rfl (fun K' hK => ?_) AllReadyH.nil
      rw [if_pos (by rfl)]
      refine wp_app _ _ rfl x0.heap.size rfl rfl Ho_2.out (HPB.out _ (bthen HW4.out HL_2.out)) (fun _ _ e => by cases e) ?sz2 hx0y ?_
      case sz2 => (simp only [List.length_append, HLA.out, HLB.out, List.length_nil]; have := HCC.out; omega)
      intro vb x3 hva hga
      have hbl := below_owned (Below.refl x0.heap.size x2) Ho_2.out hga hx0y
      have Ho_3 := Lib.hid hva
      have HL_3 := Lib.hid (HL_2.out.trans (hbl.mono hx0w))
      have hx0z := Nat.le_trans hx0y hbl.size
      clear hva hga hbl hx0y
      have hx0y := hx0z
      clear hx0z
      refine hK.out _ _ trivial (fun hHeld3 => ?_)
      clear hK K'
      try simp only [Act.put, List.setIfInBounds_toArray, List.set_cons_zero, List.set_cons_succ]
      refine wpAnyH_take (i := 13) (oi := { dst := some 18, op := Op.assign (Operand.tmp 137), type := 22, pos := "law.go:128", after := #[{ on := 12, ground := Ground.data }, { on := 12, ground := Ground.chain }, { on := 0, ground := Ground.phase }, { on := 1, ground := Ground.phase }, { on := 2, ground := Ground.phase }, { on := 3, ground := Ground.phase }, { on := 4, ground := Ground.phase }, { on := 5, ground := Ground.phase }, { on := 6, ground := Ground.phase }, { on := 7, ground := Ground.phase }, { on := 8, ground := Ground.phase }, { on := 9, ground := Ground.phase }, { on := 10, ground := Ground.phase }, { on := 11, ground := Ground.phase }, { on := 12, ground := Ground.phase }], guard := none }) (v := ?tk10) rfl (by kernel_rfl) (by kernel_rfl) (by kernel_rfl) (fun _ _ _ h => h) (Or.inl ⟨by rfl, ?tw10⟩) hHeld3 ?_
      case tw10 => (intro W hW; clear hW; first | (go_simp; done) | (go_simp; with_reducible rfl))
      try simp only [Act.put, List.setIfInBounds_toArray, List.set_cons_zero, List.set_cons_succ]
      refine wpAnyH_done (by kernel_rfl) ?_ _
      refine NoPanic.normal ?_
      have ho4 := Ho_3.out
      rw [List.nil_append] at ho4
      have hly : (pa ++ pb).length = L := by rw [List.length_append, HLA.out, HLB.out]; have := HCC.out; omega
      have hb5 := (owns_both (fun x hx => by
        rcases List.mem_append.1 hx with hx | hx
        · exact (HPA.out _ HW4.out).1 x hx
        · exact (HPB.out _ HW4.out).1 x hx) ho4).1
      obtain ⟨b5, o5, c5, rfl, hc5⟩ := bytes_shape hb5 hly hL0
      have HC5 := Lib.hid (HEN.out (pa ++ pb) _ _ hly x3 (bthen HW4.out HL_3.out) hb5)
      have HV5 := Lib.hid (HE3.out (pa ++ pb) hb5.1)
      rw [hly] at HV5
      have HF5 := Lib.hid (HFI.out (pa ++ pb) k hb5.1 hly (by rw [HNB.out]; exact Nat.le_of_eq HKK.out.symm) HFT.out)
      have HW5 := Lib.hid (bthen HW4.out HL_3.out)
      have HB1 := Lib.hid (HB1.out.kept HL_3.out)
      clear ho4 hly hb5 hc5 Ho_1 Ho_2 Ho_3 HL_0 HL_1 HL_2 HL_3 hHeld0 hHeld1 hHeld2 hHeld3 HPA HPB HO HM hx0y hx0w
      obtain ⟨V, hV⟩ : ∃ q, encL ks iv (pa ++ pb) = q := ⟨_, rfl⟩
      rw [hV] at HC5 HV5 HF5
      clear hV
      go_wp2_with fail
      refine HC5.out.mono ?_
      rintro e w5 ⟨sv, rfl, hb6, _, _, hw5⟩
      obtain ⟨b6, o6, c6, rfl, hc6⟩ := bytes_shape hb6 HV5.out hL0
      have hcv := bytes_cutm hb6 0 (16 * k) c6 (by rw [HV5.out]; have := HCC.out; omega) (by have := HCC.out; omega)
      have hcx := bytes_cutm (HB1.out.kept hw5) 0 (16 * k) cx (by rw [HEL.out]; have := HCC.out; omega) (by have := HCC.out; omega)
      rw [List.drop_zero, Nat.add_zero] at hcv hcx
      rw [HF5.out] at hcv
      obtain ⟨VK, hVK⟩ : ∃ q, X.take (16 * k) = q := ⟨_, rfl⟩
      rw [hVK] at hcv hcx
      have hss3 := fun W => run_slice22_h (some ⟨b6, o6, none⟩) L c6 (16 * k) (by have := HCC.out; omega) (fun e => by cases e) W
      have hss4 := fun W => run_slice22_h (some ⟨bbx, oox, none⟩) L cx (16 * k) (by have := HCC.out; omega) (fun e => by cases e) W
      rw [show ((16 * k : Nat) : Int) = 16 * ((k : Nat) : Int) by omega] at hss3 hss4
      have HW6 := Lib.hid (bthen HW5.out hw5)
      have Hp_0 := Lib.hid (show BytesAt VK (.slice (some ⟨b6, o6, none⟩) (16 * k) c6) w5.drew from hcv)
      have Hq_0 := Lib.hid (show BytesAt VK (.slice (some ⟨bbx, oox, none⟩) (16 * k) cx) w5.drew from hcx)
      have HL_0 := Lib.hid (show Below w.heap.size w w5.drew from HW6.out.drew)
      clear hb6 hw5 hcv hcx hVK HC5 HF5 HB1
      go_upto_region 14 with fail
      refine wp_region_noPanic ?_
      refine wp_region_held_drew (S := fun W => BytesAt VK (.slice (some ⟨b6, o6, none⟩) (16 * k) c6) W ∧ BytesAt VK (.slice (some ⟨bbx, oox, none⟩) (16 * k) cx) W) (by kernel_rfl) ⟨Hp_0.out, Hq_0.out⟩ (fun hHeld0 => ?_)
      obtain ⟨x0, hx0⟩ : ∃ X, w5.drew = X := ⟨_, rfl⟩
      rw [hx0] at Hp_0 Hq_0 HL_0 hHeld0 ⊢
      clear hx0
      refine wpAnyH_take (i := 0) (oi := { dst := some 145, op := Op.move (Operand.tmp 20), type := 24, pos := "law.go:130", after := #[], guard := none }) (v := ?tk11) rfl (by kernel_rfl) (by kernel_rfl) (by kernel_rfl) (fun _ _ _ h => h) (Or.inl ⟨by rfl, ?tw11⟩) hHeld0 ?_
      case tw11 => (intro W hW; clear hW; first | (go_simp; done) | (go_simp; with_reducible rfl))
      try simp only [Act.put, List.setIfInBounds_toArray, List.set_cons_zero, List.set_cons_succ]
      refine wpAnyH_take (i := 1) (oi := { dst := some 146, op := Op.binOp BinOp.eql 24 (Operand.tmp 145) (Operand.const (Value.int IntKind.i64 0)) 24, type := 4, pos := "law.go:130", after := #[{ on := 0, ground := Ground.data }], guard := none }) (v := ?tk12) rfl (by kernel_rfl) (by kernel_rfl) (by kernel_rfl) (fun _ _ _ h => h) (Or.inl ⟨by rfl, ?tw12⟩) hHeld0 ?_
      case tw12 => (intro W hW; clear hW; first | (go_simp; done) | (go_simp; with_reducible rfl))
      try simp only [Act.put, List.setIfInBounds_toArray, List.set_cons_zero, List.set_cons_succ]
      refine wpAnyH_take (i := 2) (oi := { dst := some 147, op := Op.move (Operand.tmp 146), type := 4, pos := "law.go:130", after := #[{ on := 1, ground := Ground.data }], guard := none }) (v := ?tk13) rfl (by kernel_rfl) (by kernel_rfl) (by kernel_rfl) (fun _ _ _ h => h) (Or.inl ⟨by rfl, ?tw13⟩) hHeld0 ?_
      case tw13 => (intro W hW; clear hW; first | (go_simp; done) | (go_simp; with_reducible rfl))
      try simp only [Act.put, List.setIfInBounds_toArray, List.set_cons_zero, List.set_cons_succ]
      refine wpAnyH_take (i := 3) (oi := { dst := some 148, op := Op.move (Operand.tmp 19), type := 22, pos := "law.go:130", after := #[{ on := 2, ground := Ground.guard }], guard := some (2, true) }) (v := ?tk14) rfl (by kernel_rfl) (by kernel_rfl) (by kernel_rfl) (fun _ _ _ h => h) (Or.inl ⟨by rfl, ?tw14⟩) hHeld0 ?_
      case tw14 => (intro W hW; clear hW; first | (go_simp; done) | (go_simp; with_reducible rfl))
      try simp only [Act.put, List.setIfInBounds_toArray, List.set_cons_zero, List.set_cons_succ]
      refine wpAnyH_take (i := 4) (oi := { dst := some 149, op := Op.call { callee := Callee.builtin Builtin.len, args := #[Operand.tmp 148], argTypes := #[22] }, type := 3, pos := "law.go:130", after := #[{ on := 3, ground := Ground.data }, { on := 2, ground := Ground.guard }], guard := some (2, true) }) (v := ?tk15) rfl (by kernel_rfl) (by kernel_rfl) (by kernel_rfl) (fun _ _ _ h => h) (Or.inl ⟨by rfl, ?tw15⟩) hHeld0 ?_
      case tw15 => (intro W hW; clear hW; first | (go_simp; done) | (go_simp; with_reducible rfl))
      try simp only [Act.put, List.setIfInBounds_toArray, List.set_cons_zero, List.set_cons_succ]
      refine wpAnyH_take (i := 5) (oi := { dst := some 150, op := Op.move (Operand.tmp 2), type := 22, pos := "law.go:130", after := #[{ on := 2, ground := Ground.guard }], guard := some (2, true) }) (v := ?tk16) rfl (by kernel_rfl) (by kernel_rfl) (by kernel_rfl) (fun _ _ _ h => h) (Or.inl ⟨by rfl, ?tw16⟩) hHeld0 ?_
      case tw16 => (intro W hW; clear hW; first | (go_simp; done) | (go_simp; with_reducible rfl))
      try simp only [Act.put, List.setIfInBounds_toArray, List.set_cons_zero, List.set_cons_succ]
      refine wpAnyH_take (i := 6) (oi := { dst := some 151, op := Op.call { callee := Callee.builtin Builtin.len, args := #[Operand.tmp 150], argTypes := #[22] }, type := 3, pos := "law.go:130", after := #[{ on := 5, ground := Ground.data }, { on := 2, ground := Ground.guard }], guard := some (2, true) }) (v := ?tk17) rfl (by kernel_rfl) (by kernel_rfl) (by kernel_rfl) (fun _ _ _ h => h) (Or.inl ⟨by rfl, ?tw17⟩) hHeld0 ?_
      case tw17 => (intro W hW; clear hW; first | (go_simp; done) | (go_simp; with_reducible rfl))
      try simp only [Act.put, List.setIfInBounds_toArray, List.set_cons_zero, List.set_cons_succ]
      refine wpAnyH_take (i := 7) (oi := { dst := some 152, op := Op.binOp BinOp.eql 3 (Operand.tmp 149) (Operand.tmp 151) 3, type := 4, pos := "law.go:130", after := #[{ on := 4, ground := Ground.data }, { on := 6, ground := Ground.data }, { on := 2, ground := Ground.guard }], guard := some (2, true) }) (v := ?tk18) rfl (by kernel_rfl) (by kernel_rfl) (by kernel_rfl) (fun _ _ _ h => h) (Or.inl ⟨by rfl, ?tw18⟩) hHeld0 ?_
      case tw18 => (intro W hW; clear hW; first | (go_simp; done) | (go_simp; with_reducible rfl))
      try simp only [Act.put, List.setIfInBounds_toArray, List.set_cons_zero, List.set_cons_succ]
      refine wpAnyH_take (i := 8) (oi := { dst := some 153, op := Op.pick (Operand.tmp 147) (Operand.tmp 152) (Operand.const (Value.bool false)), type := 4, pos := "law.go:130", after := #[{ on := 2, ground := Ground.data }, { on := 7, ground := Ground.data }], guard := none }) (v := ?tk19) rfl (by kernel_rfl) (by kernel_rfl) (by kernel_rfl) (fun _ _ _ h => h) (Or.inl ⟨by rfl, ?tw19⟩) hHeld0 ?_
      case tw19 => (intro W hW; clear hW; first | (go_simp; done) | (go_simp; with_reducible rfl))
      try simp only [Act.put, List.setIfInBounds_toArray, List.set_cons_zero, List.set_cons_succ]
      refine wpAnyH_take (i := 9) (oi := { dst := some 154, op := Op.move (Operand.tmp 153), type := 4, pos := "law.go:130", after := #[{ on := 8, ground := Ground.data }, { on := 2, ground := Ground.chain }], guard := none }) (v := ?tk20) rfl (by kernel_rfl) (by kernel_rfl) (by kernel_rfl) (fun _ _ _ h => h) (Or.inl ⟨by rfl, ?tw20⟩) hHeld0 ?_
      case tw20 => (intro W hW; clear hW; first | (go_simp; done) | (go_simp; with_reducible rfl))
      try simp only [Act.put, List.setIfInBounds_toArray, List.set_cons_zero, List.set_cons_succ]
      refine wpAnyH_take (i := 10) (oi := { dst := some 155, op := Op.move (Operand.tmp 19), type := 22, pos := "law.go:130", after := #[{ on := 9, ground := Ground.guard }], guard := some (9, true) }) (v := ?tk21) rfl (by kernel_rfl) (by kernel_rfl) (by kernel_rfl) (fun _ _ _ h => h) (Or.inl ⟨by rfl, ?tw21⟩) hHeld0 ?_
      case tw21 => (intro W hW; clear hW; first | (go_simp; done) | (go_simp; with_reducible rfl))
      try simp only [Act.put, List.setIfInBounds_toArray, List.set_cons_zero, List.set_cons_succ]
      refine wpAnyH_take (i := 11) (oi := { dst := some 156, op := Op.move (Operand.tmp 17), type := 3, pos := "law.go:130", after := #[{ on := 9, ground := Ground.guard }], guard := some (9, true) }) (v := ?tk22) rfl (by kernel_rfl) (by kernel_rfl) (by kernel_rfl) (fun _ _ _ h => h) (Or.inl ⟨by rfl, ?tw22⟩) hHeld0 ?_
      case tw22 => (intro W hW; clear hW; first | (go_simp; done) | (go_simp; with_reducible rfl))
      try simp only [Act.put, List.setIfInBounds_toArray, List.set_cons_zero, List.set_cons_succ]
      refine wpAnyH_take (i := 12) (oi := { dst := some 157, op := Op.binOp BinOp.mul 3 (Operand.const (Value.int IntKind.i64 16)) (Operand.tmp 156) 3, type := 3, pos := "law.go:130", after := #[{ on := 11, ground := Ground.data }, { on := 9, ground := Ground.guard }], guard := some (9, true) }) (v := ?tk23) rfl (by kernel_rfl) (by kernel_rfl) (by kernel_rfl) (fun _ _ _ h => h) (Or.inl ⟨by rfl, ?tw23⟩) hHeld0 ?_
      case tw23 => (intro W hW; clear hW; first | (go_simp; done) | (go_simp; with_reducible rfl))
      try simp only [Act.put, List.setIfInBounds_toArray, List.set_cons_zero, List.set_cons_succ]
      refine wpAnyH_take (i := 13) (oi := { dst := some 158, op := Op.slice 22 (Operand.tmp 155) none (some (Operand.tmp 157)) none, type := 22, pos := "law.go:130", after := #[{ on := 10, ground := Ground.data }, { on := 12, ground := Ground.data }, { on := 9, ground := Ground.guard }], guard := some (9, true) }) (v := ?tk24) rfl (by kernel_rfl) (by kernel_rfl) (by kernel_rfl) (fun _ _ _ h => h) (Or.inl ⟨by rfl, ?tw24⟩) hHeld0 ?_
      case tw24 => (intro W hW; clear hW; first | (go_simp; done) | (go_simp; with_reducible rfl))
      try simp only [Act.put, List.setIfInBounds_toArray, List.set_cons_zero, List.set_cons_succ]
      refine wpAnyH_take (i := 14) (oi := { dst := some 159, op := Op.convert 22 9 (Operand.tmp 158), type := 9, pos := "law.go:130", after := #[{ on := 13, ground := Ground.data }, { on := 9, ground := Ground.guard }], guard := some (9, true) }) (v := .string (strOf VK)) rfl (by kernel_rfl) (by kernel_rfl) (by kernel_rfl) (fun _ _ _ h => h) (Or.inl ⟨by rfl, fun W hW => ?_⟩) hHeld0 ?_
      · (have h := str_bytes hW.1 (fun _ _ e => by cases e); clear hW; go_simp)
      try simp only [Act.put, List.setIfInBounds_toArray, List.set_cons_zero, List.set_cons_succ]
      refine wpAnyH_take (i := 15) (oi := { dst := some 160, op := Op.move (Operand.tmp 9), type := 22, pos := "law.go:130", after := #[{ on := 9, ground := Ground.guard }], guard := some (9, true) }) (v := ?tk25) rfl (by kernel_rfl) (by kernel_rfl) (by kernel_rfl) (fun _ _ _ h => h) (Or.inl ⟨by rfl, ?tw25⟩) hHeld0 ?_
      case tw25 => (intro W hW; clear hW; first | (go_simp; done) | (go_simp; with_reducible rfl))
      try simp only [Act.put, List.setIfInBounds_toArray, List.set_cons_zero, List.set_cons_succ]
      refine wpAnyH_take (i := 16) (oi := { dst := some 161, op := Op.move (Operand.tmp 17), type := 3, pos := "law.go:130", after := #[{ on := 9, ground := Ground.guard }], guard := some (9, true) }) (v := ?tk26) rfl (by kernel_rfl) (by kernel_rfl) (by kernel_rfl) (fun _ _ _ h => h) (Or.inl ⟨by rfl, ?tw26⟩) hHeld0 ?_
      case tw26 => (intro W hW; clear hW; first | (go_simp; done) | (go_simp; with_reducible rfl))
      try simp only [Act.put, List.setIfInBounds_toArray, List.set_cons_zero, List.set_cons_succ]
      refine wpAnyH_take (i := 17) (oi := { dst := some 162, op := Op.binOp BinOp.mul 3 (Operand.const (Value.int IntKind.i64 16)) (Operand.tmp 161) 3, type := 3, pos := "law.go:130", after := #[{ on := 16, ground := Ground.data }, { on := 9, ground := Ground.guard }], guard := some (9, true) }) (v := ?tk27) rfl (by kernel_rfl) (by kernel_rfl) (by kernel_rfl) (fun _ _ _ h => h) (Or.inl ⟨by rfl, ?tw27⟩) hHeld0 ?_
      case tw27 => (intro W hW; clear hW; first | (go_simp; done) | (go_simp; with_reducible rfl))
      try simp only [Act.put, List.setIfInBounds_toArray, List.set_cons_zero, List.set_cons_succ]
      refine wpAnyH_take (i := 18) (oi := { dst := some 163, op := Op.slice 22 (Operand.tmp 160) none (some (Operand.tmp 162)) none, type := 22, pos := "law.go:130", after := #[{ on := 15, ground := Ground.data }, { on := 17, ground := Ground.data }, { on := 9, ground := Ground.guard }], guard := some (9, true) }) (v := ?tk28) rfl (by kernel_rfl) (by kernel_rfl) (by kernel_rfl) (fun _ _ _ h => h) (Or.inl ⟨by rfl, ?tw28⟩) hHeld0 ?_
      case tw28 => (intro W hW; clear hW; first | (go_simp; done) | (go_simp; with_reducible rfl))
      try simp only [Act.put, List.setIfInBounds_toArray, List.set_cons_zero, List.set_cons_succ]
      refine wpAnyH_take (i := 19) (oi := { dst := some 164, op := Op.convert 22 9 (Operand.tmp 163), type := 9, pos := "law.go:130", after := #[{ on := 18, ground := Ground.data }, { on := 9, ground := Ground.guard }], guard := some (9, true) }) (v := .string (strOf VK)) rfl (by kernel_rfl) (by kernel_rfl) (by kernel_rfl) (fun _ _ _ h => h) (Or.inl ⟨by rfl, fun W hW => ?_⟩) hHeld0 ?_
      · (have h := str_bytes hW.2 (fun _ _ e => by cases e); clear hW; go_simp)
      try simp only [Act.put, List.setIfInBounds_toArray, List.set_cons_zero, List.set_cons_succ]
      refine wpAnyH_take (i := 20) (oi := { dst := some 165, op := Op.binOp BinOp.eql 9 (Operand.tmp 159) (Operand.tmp 164) 9, type := 4, pos := "law.go:130", after := #[{ on := 14, ground := Ground.data }, { on := 19, ground := Ground.data }, { on := 9, ground := Ground.guard }], guard := some (9, true) }) (v := ?tk29) rfl (by kernel_rfl) (by kernel_rfl) (by kernel_rfl) (fun _ _ _ h => h) (Or.inl ⟨by rfl, ?tw29⟩) hHeld0 ?_
      case tw29 => (intro W hW; clear hW; first | (go_simp; done) | (go_simp; with_reducible rfl))
      try simp only [Act.put, List.setIfInBounds_toArray, List.set_cons_zero, List.set_cons_succ]
      refine wpAnyH_take (i := 21) (oi := { dst := some 166, op := Op.pick (Operand.tmp 154) (Operand.tmp 165) (Operand.const (Value.bool false)), type := 4, pos := "law.go:130", after := #[{ on := 9, ground := Ground.data }, { on := 20, ground := Ground.data }], guard := none }) (v := ?tk30) rfl (by kernel_rfl) (by kernel_rfl) (by kernel_rfl) (fun _ _ _ h => h) (Or.inl ⟨by rfl, ?tw30⟩) hHeld0 ?_
      case tw30 => (intro W hW; clear hW; first | (go_simp; done) | (go_simp; with_reducible rfl))
      try simp only [Act.put, List.setIfInBounds_toArray, List.set_cons_zero, List.set_cons_succ]
      refine wpAnyH_take (i := 22) (oi := { dst := some 167, op := Op.move (Operand.tmp 166), type := 4, pos := "law.go:130", after := #[{ on := 21, ground := Ground.data }, { on := 9, ground := Ground.chain }], guard := none }) (v := ?tk31) rfl (by kernel_rfl) (by kernel_rfl) (by kernel_rfl) (fun _ _ _ h => h) (Or.inl ⟨by rfl, ?tw31⟩) hHeld0 ?_
      case tw31 => (intro W hW; clear hW; first | (go_simp; done) | (go_simp; with_reducible rfl))
      try simp only [Act.put, List.setIfInBounds_toArray, List.set_cons_zero, List.set_cons_succ]
      refine wpAnyH_ready (rs := [23]) (by kernel_rfl) (by simp) ?_
      refine AllReadyH.cons (o := { dst := some 168, op := Op.call { callee := Callee.value (Operand.func 6), args := #[], argTypes := #[] }, type := 4, pos := "law.go:130", after := #[{ on := 22, ground := Ground.chain }, { on := 22, ground := Ground.guard }], guard := some (22, true) }) rfl (fun K' hK => ?_) AllReadyH.nil
      go_simp
      refine (known_any x0).mono ?_
      rintro e x1 ⟨rfl, hb⟩
      have Hp_1 := Lib.hid (Hp_0.out.kept hb)
      have Hq_1 := Lib.hid (Hq_0.out.kept hb)
      have HL_1 := Lib.hid (bthen HL_0.out hb)
      clear hb
      refine hK.out _ _ ⟨Hp_1.out, Hq_1.out⟩ (fun hHeld1 => ?_)
      clear hK K'
      try simp only [Act.put, List.setIfInBounds_toArray, List.set_cons_zero, List.set_cons_succ]
      refine wpAnyH_take (i := 24) (oi := { dst := some 169, op := Op.pick (Operand.tmp 167) (Operand.tmp 168) (Operand.const (Value.bool false)), type := 4, pos := "law.go:130", after := #[{ on := 22, ground := Ground.data }, { on := 23, ground := Ground.data }], guard := none }) (v := ?tk32) rfl (by kernel_rfl) (by kernel_rfl) (by kernel_rfl) (fun _ _ _ h => h) (Or.inl ⟨by rfl, ?tw32⟩) hHeld1 ?_
      case tw32 => (intro W hW; clear hW; first | (go_simp; done) | (go_simp; with_reducible rfl))
      try simp only [Act.put, List.setIfInBounds_toArray, List.set_cons_zero, List.set_cons_succ]
      refine wpAnyH_take (i := 25) (oi := { dst := some 8, op := Op.assign (Operand.tmp 169), type := 4, pos := "law.go:130", after := #[{ on := 24, ground := Ground.data }, { on := 23, ground := Ground.chain }, { on := 0, ground := Ground.phase }, { on := 1, ground := Ground.phase }, { on := 2, ground := Ground.phase }, { on := 3, ground := Ground.phase }, { on := 4, ground := Ground.phase }, { on := 5, ground := Ground.phase }, { on := 6, ground := Ground.phase }, { on := 7, ground := Ground.phase }, { on := 8, ground := Ground.phase }, { on := 9, ground := Ground.phase }, { on := 10, ground := Ground.phase }, { on := 11, ground := Ground.phase }, { on := 12, ground := Ground.phase }, { on := 13, ground := Ground.phase }, { on := 14, ground := Ground.phase }, { on := 15, ground := Ground.phase }, { on := 16, ground := Ground.phase }, { on := 17, ground := Ground.phase }, { on := 18, ground := Ground.phase }, { on := 19, ground := Ground.phase }, { on := 20, ground := Ground.phase }, { on := 21, ground := Ground.phase }, { on := 22, ground := Ground.phase }, { on := 23, ground := Ground.phase }, { on := 24, ground := Ground.phase }], guard := none }) (v := ?tk33) rfl (by kernel_rfl) (by kernel_rfl) (by kernel_rfl) (fun _ _ _ h => h) (Or.inl ⟨by rfl, ?tw33⟩) hHeld1 ?_
      case tw33 => (intro W hW; clear hW; first | (go_simp; done) | (go_simp; with_reducible rfl))
      try simp only [Act.put, List.setIfInBounds_toArray, List.set_cons_zero, List.set_cons_succ]
      refine wpAnyH_done (by kernel_rfl) ?_ _
      refine NoPanic.normal ?_
      go_wp2_with fail
      go_ret
      exact ⟨rfl, HL_1.out⟩
end Go.Proofs.Ytjcdbjapadgdfaa
