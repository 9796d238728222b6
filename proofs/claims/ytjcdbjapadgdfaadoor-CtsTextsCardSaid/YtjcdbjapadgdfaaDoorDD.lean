/- The reference of layer 7: Decrypt. -/
import Derived.Test.YtjcdbjapadgdfaaDoorDC
import Derived.Test.YtjcdbjapadgdfaaDoorDD0
namespace Go.Proofs.YtjcdbjapadgdfaaDoor
open Go.RowKit Go.Shelf

attribute [local go_sem] Oper.semAt_some
/-- The bytes of a slice of 16 from kp on (its address is none in no case). -/
theorem sl22_from (b o c kp : Nat) (h : kp ≤ 16) (hc : 16 ≤ c) : ∃ (a : Addr) (c' : Nat), (∀ W, (Instr.sliceAt 22 (.slice (some ⟨b, o, none⟩) 16 c) (some (.int .i64 (kp : Nat))) none none).run Tryd.prog W = .ok (.slice (some a) (16 - kp) c') W) ∧
    ∀ (W : World) (D : List Nat), D.length = 16 → BytesAt D (.slice (some ⟨b, o, none⟩) 16 c) W → BytesAt (D.drop kp) (.slice (some a) (16 - kp) c') W := by
  by_cases hk : kp = 16
  · subst hk
    have hrun : ∃ (a : Addr), ∀ W, (Instr.sliceAt 22 (.slice (some ⟨b, o, none⟩) 16 c) (some (.int .i64 (16 : Nat))) none none).run Tryd.prog W = .ok (.slice (some a) 0 (c - 16)) W := by
      by_cases hcc : c = 16
      · subst hcc; exact ⟨⟨b, o, none⟩, fun W => by go_simp⟩
      · refine ⟨⟨b, o + 16, none⟩, fun W => ?_⟩
        have e5 : ¬ c = 16 := hcc
        have e6 : (16 : Int) ≤ (c : Int) := by omega
        go_simp
    obtain ⟨a, hrun⟩ := hrun
    refine ⟨a, c - 16, hrun, fun W D hD hB => ?_⟩
    rw [List.drop_of_length_le (by omega)]
    exact ⟨fun x hx => (by cases hx), some a, c - 16, rfl, Nat.zero_le _, .inl rfl⟩
  · refine ⟨⟨b, o + kp, none⟩, c - kp, fun W => run_slice22_l b o 16 c kp (by omega) hc W, fun W D hD hB => ?_⟩
    have := bytes_cutm (hD ▸ hB) kp (16 - kp) (c - kp) (by omega) (by omega)
    rw [List.take_of_length_le (by rw [List.length_drop]; omega)] at this
    exact this
def RdI (iv : List Nat) (f c : Nat → List Nat) (n : Nat) (w : World) (o v i : Value) (wr : World) : Prop :=
  ∃ k q : Nat, k ≤ n ∧ 16 * k = q ∧ i = .int .i64 (q : Nat) ∧ BytesAt (stF iv c k) v w ∧ wr.ownsRow w.heap.size 5 1 o q (cl (catN f k)) ∧ Below w.heap.size w wr
set_option maxRecDepth 100000 in
set_option maxHeartbeats 2000000 in
theorem rdecrypt_one (key iv cs : List Nat) (sk sv sz : Value) (hk : key.length = 16) (hi : iv.length = 16) (h16 : cs.length = 16) (w : World) (hG : SG w) (hK : BytesAt key sk w) (hV : BytesAt iv sv w) (hZ : BytesAt cs sz w) :
    Calls Tryd.prog 9 #[sk, sv, sz] w fun e w' => ∃ s', e = .returned s' ∧ BytesAt (decL key iv cs) s' w' ∧ Nil0 s' ∧ Below w.heap.size w w' := by
  have HW := Lib.hid (rwords_any key sk hk w hG hK (nil0_of hK (by omega)))
  have HD := Lib.hid (fun (sw : Value) (W : World) (hb : Below w.heap.size w W) (hs : BytesAt (FL (wordsL key)) sw W) => rdec16 key cs sw sz hK.1 h16 W (hG.kept hb) hs (hZ.kept hb))
  have HX := Lib.hid (fun (s : Value) (W : World) (hb : Below w.heap.size w W) (hs : BytesAt (aD key cs) s W) => rxor_any (aD key cs) iv s sv (aD_len hK.1 hZ.1) hi W hs (hV.kept hb))
  rw [xorL_comm, ← decL_one hK.1 hi hZ.1 h16] at HX
  obtain ⟨bz, oz, cz, rfl, _⟩ := bytes_shape hZ h16 (by omega)
  clear hG hK hV hZ hk hi h16
  go_enter Tryd.func9, Tryd.ntmps9
  go_wp2_with fail
  refine HW.out.mono ?_
  rintro e w1 ⟨sw, rfl, hsw, _, _, hw1⟩
  have HD1 := Lib.hid (HD.out sw w1 hw1 hsw)
  have HW1 := Lib.hid hw1
  clear hsw hw1 HW HD
  go_wp2_with fail
  refine HD1.out.mono ?_
  rintro e w2 ⟨s2, rfl, hb2, _, hw2⟩
  have HW2 := Lib.hid (bthen HW1.out hw2)
  have HX2 := Lib.hid (HX.out s2 w2 HW2.out hb2)
  clear hb2 hw2 HD1 HX
  go_wp2_with fail
  refine HX2.out.mono ?_
  rintro e w3 ⟨s3, rfl, hb3, hn3, hw3⟩
  have HB3 := Lib.hid hb3
  have HN3 := Lib.hid hn3.1
  have HW3 := Lib.hid (bthen HW2.out hw3)
  clear hb3 hn3 hw3 HX2
  go_wp2_with fail
  go_ret
  exact ⟨_, rfl, HB3.out, HN3.out, HW3.out⟩
set_option maxRecDepth 100000 in
set_option maxHeartbeats 4000000 in
theorem rdecrypt_two (key iv cs : List Nat) (sk sv sz : Value) (m L : Nat) (hk : key.length = 16) (hi : iv.length = 16) (hL : cs.length = L) (hn : nB L = m + 2) (hmx : L ≤ 200) (w : World) (hG : SG w) (hK : BytesAt key sk w) (hV : BytesAt iv sv w) (hZ : BytesAt cs sz w) :
    Calls Tryd.prog 9 #[sk, sv, sz] w fun e w' => ∃ s', e = .returned s' ∧ BytesAt (decL key iv cs) s' w' ∧ Nil0 s' ∧ Below w.heap.size w w' := by
  have hle := nB_le L
  have hlt : 16 * nB L < L + 16 := by unfold nB; omega
  have hdn : (L + 15) / 16 = m + 2 := hn
  have hcl := cdL_len hK.1 hZ.1
  have hcd := cdL_two hK.1 hZ.1 hL hn
  have h256 : ∀ x ∈ cdL key cs, x < 256 := swp_256 (mdL_256 hK.1 hZ.1)
  have HEL := Lib.hid (show decL key iv cs = (catN (dF key iv (blkB (cdL key cs))) (nB cs.length)).take cs.length from rfl)
  have HFL := Lib.hid (fun k (h : k < nB cs.length) => cdL_lw (iv := iv) hK.1 hi hZ.1 h)
  rw [hL, hn] at hcl HEL HFL
  rw [hn] at hle hlt
  have hYl : ((cs.drop (16 * m)).take 16).length = 16 := by rw [List.length_take, List.length_drop, hL]; omega
  have hY2 : ∀ x ∈ (cs.drop (16 * m)).take 16, x < 256 := fun x hx => hZ.1 x (List.mem_of_mem_drop (List.mem_of_mem_take hx))
  obtain ⟨j, hj⟩ : ∃ j, 16 * m = j := ⟨_, rfl⟩
  rw [show 16 * (m + 1) = j + 16 by omega, hj] at hcd
  rw [hj] at hYl hY2
  have hDl := aD_len hK.1 hY2
  have hD2 := aD_256 hK.1 hY2
  obtain ⟨C, hC⟩ : ∃ C, cdL key cs = C := ⟨_, rfl⟩
  rw [hC] at hcl hcd h256 HEL HFL
  have hb256 : ∀ k, ∀ x ∈ blkB C k, x < 256 := fun k => blkB_256 h256 k
  have hbl : ∀ k, k < m + 2 → (blkB C k).length = 16 := fun k hk => blkB_len (by rw [hcl]; omega)
  obtain ⟨c, hc⟩ : ∃ c, blkB C = c := ⟨_, rfl⟩
  have HCC := Lib.hid hc
  rw [hc] at HEL HFL hb256 hbl
  have HST := Lib.hid (fun k (h : k < m + 2) => show (stF iv c k).length = 16 from by
    cases k with
    | zero => exact hi
    | succ k => exact hbl k (by omega))
  have HFE := Lib.hid (fun k => show xorL (aD key (c k)) (stF iv c k) = dF key iv c k from xorL_comm _ _)
  obtain ⟨f, hf⟩ : ∃ f, dF key iv c = f := ⟨_, rfl⟩
  rw [hf] at HEL HFL HFE
  have hF2 : ∀ k, k < m + 2 → ∀ x ∈ f k, x < 256 := fun k hk2 => by
    rw [← HFE.out]
    refine xor_256 (aD_256 hK.1 (hb256 k)) ?_
    cases k with
    | zero => exact hV.1
    | succ k => exact hb256 k
  have HF2 := Lib.hid hF2
  have HW := Lib.hid (rwords_any key sk hk w hG hK (nil0_of hK (by omega)))
  have HDY := Lib.hid (fun (sw s : Value) (W : World) (hb : Below w.heap.size w W) (hs : BytesAt (FL (wordsL key)) sw W) (hy : BytesAt ((cs.drop j).take 16) s W) => rdec16 key ((cs.drop j).take 16) sw s hK.1 hYl W (hG.kept hb) hs hy)
  have HDC := Lib.hid (fun (k : Nat) (h : k < m + 2) (sw s : Value) (W : World) (hb : Below w.heap.size w W) (hs : BytesAt (FL (wordsL key)) sw W) (hy : BytesAt (c k) s W) => rdec16 key (c k) sw s hK.1 (hbl k h) W (hG.kept hb) hs hy)
  have HX := Lib.hid (fun (k : Nat) (h : k < m + 2) (s t : Value) (W : World) (hs : BytesAt (aD key (c k)) s W) (ht : BytesAt (stF iv c k) t W) => rxor_any (aD key (c k)) (stF iv c k) s t (aD_len hK.1 (hb256 k)) (HST.out k h) W hs ht)
  have HBL := Lib.hid hbl
  have HV := Lib.hid hV
  have HZ := Lib.hid hZ
  have HCL := Lib.hid hcl
  have HC2 := Lib.hid h256
  have HCD := Lib.hid hcd
  have HS0 := Lib.hid (show stF iv c 0 = iv from rfl)
  have HSS := Lib.hid (show ∀ k, stF iv c (k + 1) = c k from fun _ => rfl)
  have HSU := Lib.hid (show ∀ k, catN f (k + 1) = catN f k ++ f k from fun _ => rfl)
  have HCF := Lib.hid (fun k (h : k ≤ m + 2) => catN_len (f := f) k (fun q hq => HFL.out q (by omega)))
  have HC6 := Lib.hid (catN_256 (f := f) (m + 2) (fun q hq => HF2.out q hq))
  obtain ⟨Y, hY⟩ : ∃ Y, (cs.drop j).take 16 = Y := ⟨_, rfl⟩
  rw [hY] at hYl hDl hD2 HDY HCD
  have HYE := Lib.hid hY
  obtain ⟨D, hD⟩ : ∃ D, aD key Y = D := ⟨_, rfl⟩
  rw [hD] at hDl hD2 HDY HCD
  obtain ⟨R, hR⟩ : ∃ R, decL key iv cs = R := ⟨_, rfl⟩
  rw [hR] at HEL ⊢
  have HDL := Lib.hid hDl
  have HYL := Lib.hid hYl
  obtain ⟨bz, oz, cz, rfl, hcz⟩ := bytes_shape hZ hL (by omega)
  obtain ⟨r, hr⟩ : ∃ r, L - (j + 16) = r := ⟨_, rfl⟩
  rw [hr] at HCD
  have HNJ := Lib.hid (show 16 * (m + 2) = j + 32 ∧ L = j + 16 + r ∧ 1 ≤ r ∧ r ≤ 16 ∧ L ≤ 200 ∧ L ≤ cz ∧ 16 * m = j by omega)
  have n16 : ¬ ((L : Nat) : Int) = 16 := by omega
  have i1 : IntKind.i64.wrap (((L : Nat) : Int) + 15) = ((L : Nat) : Int) + 15 := IntWalk.i64_in _ (by omega)
  have i2 : (((L : Nat) : Int) + 15) / 16 = ((m + 2 : Nat) : Int) := by omega
  have i3 : (((L : Nat) : Int) + 15).tdiv 16 = ((m + 2 : Nat) : Int) := by rw [Int.tdiv_eq_ediv_of_nonneg (by omega)]; exact i2
  obtain ⟨n, hnn⟩ : ∃ n, m + 2 = n := ⟨_, rfl⟩
  obtain ⟨N, hN⟩ : ∃ N, 16 * n = N := ⟨_, rfl⟩
  have HNN := Lib.hid (show 16 * n = N ∧ N = j + 32 ∧ m + 2 = n by omega)
  rw [hnn] at i2 i3 HEL HFL HST HDC HX HBL HCF HC6 HF2 HCL
  have i4 : IntKind.i64.wrap (((n : Nat) : Int) * 16) = ((N : Nat) : Int) := by rw [IntWalk.i64_in _ (by omega)]; omega
  have i4' : IntKind.i64.wrap ((n : Nat) : Int) = ((n : Nat) : Int) := IntWalk.i64_in _ (by omega)
  have i5 : IntKind.i64.wrap (((N : Nat) : Int) - 32) = ((j : Nat) : Int) := by rw [IntWalk.i64_in _ (by omega)]; omega
  have i6 : IntKind.i64.wrap (((N : Nat) : Int) - 16) = ((j : Nat) : Int) + 16 := by rw [IntWalk.i64_in _ (by omega)]; omega
  have hs1 := fun W => run_slice22_lh bz oz L cz j (j + 16) (by omega) (by omega) W
  have hs2 := fun W => run_slice22_l bz oz L cz (j + 16) (by omega) (by omega) W
  have hs3 := fun W => run_slice22_h (some ⟨bz, oz, none⟩) L cz j (by omega) (fun e => by cases e) W
  rw [show ((j + 16 : Nat) : Int) = ((j : Nat) : Int) + 16 by omega] at hs1 hs2
  rw [Nat.add_sub_cancel_left] at hs1
  rw [hr] at hs2
  have HPY := Lib.hid (fun (W : World) (hb : Below w.heap.size w W) => bytes_cutm (hL ▸ HZ.out.kept hb) j 16 (cz - j) (by omega) (by omega))
  rw [HYE.out] at HPY
  have HPK := Lib.hid (fun (W : World) (hb : Below w.heap.size w W) => bytes_cutm (hL ▸ HZ.out.kept hb) (j + 16) r (cz - (j + 16)) (by omega) (by omega))
  rw [List.take_of_length_le (show (cs.drop (j + 16)).length ≤ r by rw [List.length_drop, hL]; omega)] at HPK
  have HPA := Lib.hid (fun (W : World) (hb : Below w.heap.size w W) => bytes_cutm (hL ▸ HZ.out.kept hb) 0 j cz (by omega) (by omega))
  rw [List.drop_zero] at HPA
  have HLA := Lib.hid (show (cs.take j).length = j by rw [List.length_take, hL]; omega)
  have HLK := Lib.hid (show (cs.drop (j + 16)).length = r by rw [List.length_drop, hL]; omega)
  have HLD := Lib.hid (show (D.drop r).length = 16 - r by rw [List.length_drop, hDl])
  obtain ⟨pa, hpa⟩ : ∃ q, cs.take j = q := ⟨_, rfl⟩
  obtain ⟨pk, hpk⟩ : ∃ q, cs.drop (j + 16) = q := ⟨_, rfl⟩
  rw [hpa] at HPA HLA HCD
  rw [hpk] at HPK HLK HCD
  clear hle hlt hdn hcl hcd h256 hYl hY2 hj hDl hD2 hC hb256 hbl hc hf hF2 hY hD hR hr hnn hN hpa hpk hG hK hV hZ hk hi hL hn hmx hcz
  go_enter Tryd.func9, Tryd.ntmps9
  go_wp2_with fail
  refine HW.out.mono ?_
  rintro e w1 ⟨sw, rfl, hsw, _, _, hw1⟩
  have HSW := Lib.hid hsw
  have HW1 := Lib.hid hw1
  have HD1 := Lib.hid (HDY.out sw _ w1 hw1 hsw (HPY.out w1 hw1))
  clear hsw hw1 HW HDY
  go_wp2_with fail
  refine HD1.out.mono ?_
  rintro e w2 ⟨s2, rfl, hb2, _, hw2⟩
  obtain ⟨b2, o2, c2, rfl, hc2⟩ := bytes_shape hb2 HDL.out (by omega)
  have HW2 := Lib.hid (bthen HW1.out hw2)
  have HSW2 := Lib.hid (HSW.out.kept hw2)
  have HB2 := Lib.hid hb2
  obtain ⟨a3, c3, hs4, hsrc⟩ := sl22_from b2 o2 c2 r (by have := HNJ.out; omega) hc2
  have HSR := Lib.hid (fun (W : World) (hb : Below w2.heap.size w2 W) => hsrc W D HDL.out (HB2.out.kept hb))
  clear hb2 hw2 HD1 hsrc hc2
  go_upto_region 8 with fail
  have HL_0 := Lib.hid (show Below w2.heap.size w2 w2.drew from (Below.refl _ _).drew)
  refine wp_region_noPanic ?_
  refine wp_region_held_drew (S := fun W => True) (by kernel_rfl) trivial (fun hHeld0 => ?_)
  obtain ⟨x0, hx0⟩ : ∃ X, w2.drew = X := ⟨_, rfl⟩
  rw [hx0] at  HL_0 ⊢
  clear hx0
  refine wpAnyH_take (i := 1) (oi := { dst := some 46, op := Op.move (Operand.tmp 10), type := 22, pos := "ref.go:54", after := #[], guard := none }) (v := ?tk0) rfl (by kernel_rfl) (by kernel_rfl) (by kernel_rfl) (fun _ _ _ h => h) (Or.inl ⟨by rfl, ?tw0⟩) hHeld0 ?_
  case tw0 => (intro W hW; clear hW; first | (go_simp; done) | (go_simp; with_reducible rfl))
  try simp only [Act.put, List.setIfInBounds_toArray, List.set_cons_zero, List.set_cons_succ]
  refine wpAnyH_take (i := 3) (oi := { dst := some 48, op := Op.move (Operand.tmp 11), type := 22, pos := "ref.go:54", after := #[], guard := none }) (v := ?tk1) rfl (by kernel_rfl) (by kernel_rfl) (by kernel_rfl) (fun _ _ _ h => h) (Or.inl ⟨by rfl, ?tw1⟩) hHeld0 ?_
  case tw1 => (intro W hW; clear hW; first | (go_simp; done) | (go_simp; with_reducible rfl))
  try simp only [Act.put, List.setIfInBounds_toArray, List.set_cons_zero, List.set_cons_succ]
  refine wpAnyH_take (i := 4) (oi := { dst := some 49, op := Op.move (Operand.tmp 10), type := 22, pos := "ref.go:54", after := #[], guard := none }) (v := ?tk2) rfl (by kernel_rfl) (by kernel_rfl) (by kernel_rfl) (fun _ _ _ h => h) (Or.inl ⟨by rfl, ?tw2⟩) hHeld0 ?_
  case tw2 => (intro W hW; clear hW; first | (go_simp; done) | (go_simp; with_reducible rfl))
  try simp only [Act.put, List.setIfInBounds_toArray, List.set_cons_zero, List.set_cons_succ]
  refine wpAnyH_take (i := 5) (oi := { dst := some 50, op := Op.call { callee := Callee.builtin Builtin.len, args := #[Operand.tmp 49], argTypes := #[22] }, type := 3, pos := "ref.go:54", after := #[{ on := 4, ground := Ground.data }], guard := none }) (v := ?tk3) rfl (by kernel_rfl) (by kernel_rfl) (by kernel_rfl) (fun _ _ _ h => h) (Or.inl ⟨by rfl, ?tw3⟩) hHeld0 ?_
  case tw3 => (intro W hW; clear hW; first | (go_simp; done) | (go_simp; with_reducible rfl))
  try simp only [Act.put, List.setIfInBounds_toArray, List.set_cons_zero, List.set_cons_succ]
  refine wpAnyH_take (i := 6) (oi := { dst := some 51, op := Op.slice 22 (Operand.tmp 48) (some (Operand.tmp 50)) none none, type := 22, pos := "ref.go:54", after := #[{ on := 3, ground := Ground.data }, { on := 5, ground := Ground.data }], guard := none }) (v := ?tk4) rfl (by kernel_rfl) (by kernel_rfl) (by kernel_rfl) (fun _ _ _ h => h) (Or.inl ⟨by rfl, ?tw4⟩) hHeld0 ?_
  case tw4 => (intro W hW; clear hW; first | (go_simp; done) | (go_simp; with_reducible rfl))
  try simp only [Act.put, List.setIfInBounds_toArray, List.set_cons_zero, List.set_cons_succ]
  refine wpAnyH_ready (rs := [0]) (by kernel_rfl) (by simp) ?_
  refine AllReadyH.cons (o := { dst := some 45, op := Op.buildSlice 22 0 #[], type := 22, pos := "ref.go:54", after := #[], guard := none }) rfl (fun K' hK => ?_) AllReadyH.nil
  go_simp
  obtain ⟨x1, hyy⟩ : ∃ q, x0.alloc (.cells #[] 5) = q := ⟨_, rfl⟩
  have hb : Below w2.heap.size w2 x1 := by rw [← hyy]; exact HL_0.out.alloc HL_0.out.size _
  have Ho_1 := Lib.hid (show x1.ownsRow w2.heap.size 5 1 (.slice (some ⟨x0.heap.size, 0, none⟩) 0 0) ([] : List Nat).length (cl []) by rw [← hyy]; exact World.ownsRow_lit _ #[] 0 HL_0.out.size (by unfold maxLen; omega) rfl)
  have HL_1 := Lib.hid hb
  rw [hyy]
  clear hb hyy
  refine hK.out _ _ trivial (fun hHeld1 => ?_)
  clear hK K'
  try simp only [Act.put, List.setIfInBounds_toArray, List.set_cons_zero, List.set_cons_succ]
  refine wpAnyH_ready (rs := [2]) (by kernel_rfl) (by simp) ?_
  refine AllReadyH.cons (o := { dst := some 47, op := Op.call { callee := Callee.builtin Builtin.append, args := #[Operand.tmp 45, Operand.tmp 46], argTypes := #[22, 22] }, type := 22, pos := "ref.go:54", after := #[{ on := 0, ground := Ground.data }, { on := 1, ground := Ground.data }], guard := none }) rfl (fun K' hK => ?_) AllReadyH.nil
  rw [if_pos (by rfl)]
  refine wp_app _ _ rfl w2.heap.size rfl rfl Ho_1.out (HPK.out _ (bthen HW2.out HL_1.out)) (fun _ _ e => by cases e) ?sz1 HL_1.out.size ?_
  case sz1 => (simp only [HLK.out, List.length_nil]; have := HNJ.out; omega)
  intro vb2 x2 hva hga
  have hbl := below_owned HL_1.out Ho_1.out hga HL_1.out.size
  have Ho_2 := Lib.hid hva
  have HL_2 := Lib.hid hbl
  clear hva hga hbl
  refine hK.out _ _ trivial (fun hHeld2 => ?_)
  clear hK K'
  try simp only [Act.put, List.setIfInBounds_toArray, List.set_cons_zero, List.set_cons_succ]
  refine wpAnyH_ready (rs := [7]) (by kernel_rfl) (by simp) ?_
  refine AllReadyH.cons (o := { dst := some 52, op := Op.call { callee := Callee.builtin Builtin.append, args := #[Operand.tmp 47, Operand.tmp 51], argTypes := #[22, 22] }, type := 22, pos := "ref.go:54", after := #[{ on := 2, ground := Ground.data }, { on := 6, ground := Ground.data }, { on := 2, ground := Ground.chain }], guard := none }) rfl (fun K' hK => ?_) AllReadyH.nil
  rw [if_pos (by rfl)]
  refine wp_app _ _ rfl w2.heap.size rfl rfl Ho_2.out (HSR.out _ HL_2.out) (fun _ _ e => by cases e) ?sz2 HL_2.out.size ?_
  case sz2 => (simp only [List.length_append, HLK.out, HLD.out, List.length_nil]; have := HNJ.out; omega)
  intro vb3 x3 hva hga
  have hbl := below_owned HL_2.out Ho_2.out hga HL_2.out.size
  have Ho_3 := Lib.hid hva
  have HL_3 := Lib.hid hbl
  clear hva hga hbl
  refine hK.out _ _ trivial (fun hHeld3 => ?_)
  clear hK K'
  try simp only [Act.put, List.setIfInBounds_toArray, List.set_cons_zero, List.set_cons_succ]
  refine wpAnyH_take (i := 8) (oi := { dst := some 12, op := Op.assign (Operand.tmp 52), type := 22, pos := "ref.go:54", after := #[{ on := 7, ground := Ground.data }, { on := 7, ground := Ground.chain }, { on := 0, ground := Ground.phase }, { on := 1, ground := Ground.phase }, { on := 2, ground := Ground.phase }, { on := 3, ground := Ground.phase }, { on := 4, ground := Ground.phase }, { on := 5, ground := Ground.phase }, { on := 6, ground := Ground.phase }, { on := 7, ground := Ground.phase }], guard := none }) (v := ?tk5) rfl (by kernel_rfl) (by kernel_rfl) (by kernel_rfl) (fun _ _ _ h => h) (Or.inl ⟨by rfl, ?tw5⟩) hHeld3 ?_
  case tw5 => (intro W hW; clear hW; first | (go_simp; done) | (go_simp; with_reducible rfl))
  try simp only [Act.put, List.setIfInBounds_toArray, List.set_cons_zero, List.set_cons_succ]
  refine wpAnyH_done (by kernel_rfl) ?_ _
  refine NoPanic.normal ?_
  have ho4 := Ho_3.out
  rw [List.nil_append] at ho4
  have hl4 : (pk ++ D.drop r).length = 16 := by rw [List.length_append, HLK.out, HLD.out]; have := HNJ.out; omega
  have hb4 := (owns_both (fun x hx => by
    rcases List.mem_append.1 hx with hx | hx
    · exact (HPK.out _ HW1.out).1 x hx
    · exact (HSR.out _ (Below.refl _ _)).1 x hx) ho4).1
  obtain ⟨b4, o4, c4, rfl, _⟩ := bytes_shape hb4 hl4 (by omega)
  obtain ⟨W3, hW3⟩ : ∃ q, q = x3 := ⟨_, rfl⟩
  rw [← hW3] at hb4 ⊢
  have HB4 := Lib.hid hb4
  have HW3 := Lib.hid (show Below w.heap.size w W3 from by rw [hW3]; exact bthen HW2.out HL_3.out)
  have HSW3 := Lib.hid (show BytesAt (FL (wordsL key)) sw W3 from by rw [hW3]; exact HSW2.out.kept HL_3.out)
  have HLB := Lib.hid hl4
  clear ho4 hl4 hb4 Ho_1 Ho_2 Ho_3 HL_0 HL_1 HL_2 HL_3 hHeld0 hHeld1 hHeld2 hHeld3 hW3 HSR hs4 HB2 HSW2 HPK HSW
  obtain ⟨pk2, hpk2⟩ : ∃ q, pk ++ D.drop r = q := ⟨_, rfl⟩
  rw [hpk2] at HB4 HLB HCD
  clear hpk2
  have HWA := Lib.hid (show Below W3.heap.size W3 (W3.alloc (.cells #[] 5)) from (Below.refl _ _).alloc (Nat.le_refl _) _)
  have HOA := Lib.hid (show (W3.alloc (.cells #[] 5)).ownsRow W3.heap.size 5 1 (.slice (some ⟨W3.heap.size, 0, none⟩) 0 0) ([] : List Nat).length (cl []) from World.ownsRow_lit _ #[] 0 (Nat.le_refl _) (by unfold maxLen; omega) rfl)
  go_wp2_with (first
    | (at_builtin; refine wpList_app rfl _ _ rfl W3.heap.size rfl rfl HOA.out (HPA.out _ (bthen HW3.out HWA.out)) (fun _ _ e => by cases e) (by rw [HLA.out]; have := HNJ.out; simp; omega) (by simp) ?_; intro v5 W5 hown5 hgrow5; have hb5 := below_owned HWA.out HOA.out hgrow5 (by simp); have HO5 := Lib.hid hown5; have HL5 := Lib.hid hb5; clear hown5 hgrow5 hb5)
    | (at_builtin; refine wpList_app rfl _ _ rfl W3.heap.size rfl rfl HO5.out (HB4.out.kept HL5.out) (fun _ _ e => by cases e) (by rw [List.length_append, HLA.out, HLB.out]; have := HNJ.out; simp; omega) HL5.out.size ?_; intro v6 W6 hown6 hgrow6; have hb6 := below_owned HL5.out HO5.out hgrow6 HL5.out.size; have HO6 := Lib.hid hown6; have HL6 := Lib.hid hb6; clear hown6 hgrow6 hb6)
    | (at_builtin; refine wpList_app rfl _ _ rfl W3.heap.size rfl rfl HO6.out (HPY.out _ (bthen HW3.out HL6.out)) (fun _ _ e => by cases e) (by rw [List.length_append, List.length_append, HLA.out, HLB.out, HYL.out]; have := HNJ.out; simp; omega) HL6.out.size ?_; intro v7 W7 hown7 hgrow7; have hb7 := below_owned HL6.out HO6.out hgrow7 HL6.out.size; have HO7 := Lib.hid hown7; have HL7 := Lib.hid hb7; clear hown7 hgrow7 hb7))
  have ho7 := HO7.out
  rw [List.nil_append, List.append_assoc, ← HCD.out] at ho7
  have hcn : C.length = N := by rw [HCL.out]; exact HNN.out.1
  have hb7 := (owns_both HC2.out ho7).1
  obtain ⟨b7, o7, c7, rfl, hc7⟩ := bytes_shape hb7 hcn (by have := HNN.out; omega)
  have HB7 := Lib.hid hb7
  have HCN := Lib.hid hcn
  have HW7 := Lib.hid (bthen HW3.out HL7.out)
  have HSW7 := Lib.hid (HSW3.out.kept HL7.out)
  have HI0 := Lib.hid (show RdI iv f c n W7 (.slice none 0 0) sv (.int .i64 0) W7 from ⟨0, 0, by omega, rfl, rfl, by rw [HS0.out]; exact HV.out.kept HW7.out, World.ownsRow_nil _ _ _ _, Below.refl _ _⟩)
  clear ho7 hb7 hcn HO7 HL7 HO6 HL6 HO5 HL5 HWA HOA HB4 HSW3 HW3 HPA HPY HCD HLA HLB HLD HLK HDL HYL HYE i1 i2 i3 i4 i4' i5 i6 n16 hs1 hs2 hs3
  go_loopw [14, 15, 16] (fun o v i wr => RdI iv f c n W7 o v i wr) (fun _ _ i _ => N + 16 - (intOf i).toNat)
  case atStart => exact HI0.out
  case round =>
    clear HI0
    obtain ⟨k, q, hkn, hq, rfl, hv, ho, hb⟩ := hrel
    have HB := Lib.hid hb
    have HO := Lib.hid ho
    have hnn := HNN.out
    have i1 : IntKind.i64.wrap (((q : Nat) : Int) + 16) = ((q : Nat) : Int) + 16 := IntWalk.i64_in _ (by have := HNJ.out; omega)
    by_cases hlt : k < n
    · have j1 : ((q : Nat) : Int) < ((N : Nat) : Int) := by omega
      have hs := fun W => run_slice22_lh b7 o7 N c7 q (q + 16) (by omega) (by omega) W
      rw [show ((q + 16 : Nat) : Int) = ((q : Nat) : Int) + 16 by omega, Nat.add_sub_cancel_left] at hs
      have hblk : BytesAt (c k) (.slice (some ⟨b7, o7 + q, none⟩) 16 (c7 - q)) W7 := by
        have := bytes_cutm HB7.out q 16 (c7 - q) (by rw [HCN.out]; omega) (by omega)
        rw [← hq] at this ⊢
        rw [← HCC.out]
        exact this
      have HBK := Lib.hid hblk
      have HDK := Lib.hid (HDC.out k hlt sw _ wr (bthen HW7.out hb) (HSW7.out.kept hb) (hblk.kept hb))
      have HXK := Lib.hid (fun (s : Value) (W : World) (hw : Below wr.heap.size wr W) (hs : BytesAt (aD key (c k)) s W) => HX.out k hlt s _ W hs ((hv.kept hb).kept hw))
      rw [HFE.out] at HXK
      have hwb := hb.size
      clear hv ho hb hblk hnn
      go_wp2_with fail
      refine HDK.out.mono ?_
      rintro e w2' ⟨s2', rfl, hb2, _, hw2⟩
      have HX2 := Lib.hid (HXK.out s2' w2' hw2 hb2)
      have HW2' := Lib.hid hw2
      clear hb2 hw2 HDK HXK
      go_wp2_with fail
      refine HX2.out.mono ?_
      rintro e w3 ⟨s3, rfl, hb3, hn3, hw3⟩
      have HB3 := Lib.hid hb3
      have HN3 := Lib.hid hn3.1
      have HW3 := Lib.hid (show Below wr.heap.size wr w3 from bthen HW2'.out hw3)
      have hck := HCF.out k hkn
      rw [hq] at hck
      have ho3 := owns_keep HO.out HW3.out
      rw [← hck] at ho3
      have HO3 := Lib.hid ho3
      have HBW := Lib.hid (show Below W7.heap.size W7 w3 from bthen HB.out HW3.out)
      have hw3s := HW3.out.size
      clear hb3 hn3 hw3 HX2 ho3
      go_wp2_with (at_builtin; refine wpList_app rfl _ _ rfl W7.heap.size rfl rfl HO3.out HB3.out HN3.out (by rw [hck, HFL.out k hlt]; have := HNJ.out; have := HNN.out; omega) (by omega) ?_; intro v' w' hown' hgrow'; have hbl := below_owned HBW.out HO3.out hgrow' (by omega); have HOE := Lib.hid hown'; have HBE := Lib.hid hbl; clear hown' hgrow' hbl)
      have hown' := HOE.out
      rw [show (catN f k ++ f k).length = q + 16 by rw [List.length_append, hck, HFL.out k hlt], ← HSU.out] at hown'
      exact ⟨⟨k + 1, q + 16, by omega, by omega, by go_num, by rw [HSS.out]; exact HBK.out, hown', HBE.out⟩, by simp [intOf]; omega⟩
    · have hkn' : k = n := by omega
      subst hkn'
      have j1 : ¬ ((q : Nat) : Int) < ((N : Nat) : Int) := by omega
      have hck := HCF.out k (Nat.le_refl _)
      have hqN : q = N := by omega
      have ho2 := ho
      rw [← hq, ← hck] at ho2
      have hbo := owns_both HC6.out ho2
      obtain ⟨b8, o8, c8, rfl, hc8⟩ := bytes_shape hbo.1 (show (catN f k).length = q by omega) (by omega)
      have hbq := hbo.1
      have hb9 := bytes_cutm hbq 0 L c8 (by rw [hck]; have := HNJ.out; omega) (by have := HNJ.out; omega)
      rw [List.drop_zero, Nat.add_zero, ← HEL.out] at hb9
      have HB9 := Lib.hid hb9
      have HW9 := Lib.hid (bthen HW7.out hb)
      have hs9 := fun W => run_slice22_h (some ⟨b8, o8, none⟩) q c8 L (by have := HNJ.out; omega) (fun e => by cases e) W
      clear hv ho hb ho2 hbo hbq hb9 hqN hck hnn hq HO
      go_wp2_with fail
      go_ret
      exact ⟨_, rfl, HB9.out, (fun _ _ e => by cases e), HW9.out⟩
theorem rdecrypt_any (key iv cs : List Nat) (sk sv sz : Value) (hk : key.length = 16) (hi : iv.length = 16) (h16 : 16 ≤ cs.length) (hmx : cs.length ≤ 200) (w : World) (hG : SG w) (hK : BytesAt key sk w) (hV : BytesAt iv sv w) (hZ : BytesAt cs sz w) :
    Calls Tryd.prog 9 #[sk, sv, sz] w fun e w' => ∃ s', e = .returned s' ∧ BytesAt (decL key iv cs) s' w' ∧ Nil0 s' ∧ Below w.heap.size w w' := by
  by_cases h : cs.length = 16
  · exact rdecrypt_one key iv cs sk sv sz hk hi h w hG hK hV hZ
  · exact rdecrypt_two key iv cs sk sv sz (nB cs.length - 2) cs.length hk hi rfl (by unfold nB; omega) hmx w hG hK hV hZ
end Go.Proofs.YtjcdbjapadgdfaaDoor
