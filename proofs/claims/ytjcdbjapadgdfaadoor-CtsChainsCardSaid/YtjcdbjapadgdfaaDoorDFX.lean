/- A chain's word, over blocks of which only the first t are read. -/
import Derived.Test.YtjcdbjapadgdfaaDoorDF
namespace Go.Proofs.YtjcdbjapadgdfaaDoor
open Go.RowKit Go.Shelf

attribute [local go_sem] Oper.semAt_some
set_option maxRecDepth 100000 in
set_option maxHeartbeats 4000000 in
theorem chain1_yieldsX (m gmb gbb gm gc N t : Nat) (key iv : List Nat) (p : Nat → List Nat) (gf : Nat) (lb : Array Value) (Φ : Nat → Value → World → Prop) (Rd : Nat → Prop) (w : World)
    (hk : ∀ x ∈ key, x < 256) (hi : iv.length = 16) (hi2 : ∀ x ∈ iv, x < 256)
    (h1 : rowN w gmb = some #[.pointer (some ⟨gm, 0, none⟩)]) (h2 : rowN w gbb = some #[.func (.func gf) #[] lb]) (hM0 : MdAt key iv gm gc w)
    (eg : ∀ args w, (callFunc gf args).run Tryd.prog w = .ok (.enter gf args) w)
    (hseq : YieldsS 4 gf lb N Φ Rd (fun _ _ => False) w)
    (hΦ : ∀ k v V, k < N → Φ k v V → BytesAt (p k) v V)
    (hΦp : ∀ (k : Nat) (v : Value) (W : World) (l : Nat) (o o' : Obj), Φ k v W → W.heap[l]? = some o → o.isCells = false → Φ k v (W.putObj l o'))
    (hΦi : ∀ k v V, k < t → Φ k v V → ∀ j, InS v j → Rd j) (hRd : ∀ j, Rd j → j < w.heap.size)
    (ht : t ≤ N) (hpl : ∀ k, k < t → (p k).length = 16) (hpt : t < N → (p t).length ≠ 16) (hp256 : ∀ k, k < t → ∀ x ∈ p k, x < 256) :
    YieldsT m 35 #[.pointer (some ⟨gmb, 0, none⟩), .pointer (some ⟨gbb, 0, none⟩)] t (fun k v V => (BytesAt (chS key iv p (k + 1)) v V ∧ NF v V) ∧ ∀ j, InS v j → w.heap.size ≤ j ∧ j < V.heap.size)
      (fun j => j = gmb ∨ j = gbb ∨ j = gm ∨ j = gc ∨ Rd j) InS w := by
  intro l J Jx M W hW hM hJ hJx hY h0
  have hmo : Tryd.prog.follows .mixedOrders = true := by kernel_rfl
  have HM := Lib.hid hM
  have HOJ := Lib.hid hJ
  have HOX := Lib.hid hJx
  have HY := Lib.hid hY
  have H0 := Lib.hid h0
  have HR1 := Lib.hid (keptW hW h1)
  have HR2 := Lib.hid (keptW hW h2)
  have HMD := Lib.hid (keptW hW hM0.1)
  have HCP := Lib.hid (keptW hW hM0.2)
  have HLW := Lib.hid (fun n (hn : n ≤ t) => chS_lw (p := p) hk hi hi2 n (fun k hk => hp256 k (by omega)))
  have hwW := hW.size
  have HWW := Lib.hid hW
  have sb1 := rowN_lt HR1.out
  have sb2 := rowN_lt HR2.out
  have sb3 := rowN_lt HMD.out
  have sb4 := rowN_lt HCP.out
  obtain ⟨W1, hW1⟩ : ∃ V, W.alloc (.cells #[.func (.yield l) #[] #[]] 42) = V := ⟨_, rfl⟩
  have hb1 : Below W.heap.size W W1 := by rw [← hW1]; exact (Below.refl _ W).alloc (Nat.le_refl _) _
  have hs1 : W1.heap.size = W.heap.size + 1 := by rw [← hW1]; simp
  have hyr : rowN W1 W.heap.size = some #[.func (.yield l) #[] #[]] := by rw [← hW1, rowN_alloc, if_pos rfl]
  have c1 := (rowN_cell (keptW hb1 HR1.out)).1 0
  have c2 := (rowN_cell (keptW hb1 HR2.out)).1 0
  have hld : (arLoad 48 (.pointer (some ⟨gm, 1, none⟩))).run Tryd.prog W1 = .ok (.value (.agg (arr .u8 iv))) W1 := load16 (keptW hb1 HMD.out) hi (fun i _ => mdA_iv gc iv i)
  have hst : (arStore 48 (.pointer (some ⟨W1.heap.size, 0, none⟩)) (.agg (arr .u8 iv))).run Tryd.prog (W1.alloc (.cells (arr .u8 (zr 16)) 48)) = .ok .skip ((W1.alloc (.cells (arr .u8 (zr 16)) 48)).setRow W1.heap.size (arr .u8 iv)) :=
    store16_row (l := zr 16) (by rw [rowN_alloc, if_pos rfl]) (zr_len 16) hi
  rw [hs1] at hst
  have sz16 : (arr .u8 (zr 16)).size = 16 := by rw [arr_size, zr_len]
  have HI16 := Lib.hid hi
  have HK2 := Lib.hid hk
  clear hM hJ hJx hY h0 h1 h2 hM0 hW hk hi hi2
  refine callsIn_of_wp_marks Tryd.func35 rfl trivial ?_ rfl
  simp only [Tryd.ntmps35, List.size_toArray, List.length_cons, List.length_nil, Nat.reduceAdd, Nat.reduceSub, Array.replicate_succ, Array.replicate_zero, List.push_toArray, List.append_toArray, List.nil_append, List.cons_append]
  refine wpIn_wide.2 ?_
  go_upto_region 1 with fail
  try rw [hW1]
  go_upto_region 2 with fail
  obtain ⟨W0, hW0⟩ : ∃ V, (W1.alloc (.cells (arr .u8 (zr 16)) 48)).setRow (W.heap.size + 1) (arr .u8 iv) = V := ⟨_, rfl⟩
  have hbe : Below W.heap.size W W0 := by rw [← hW0]; exact below_setRow' (hb1.alloc (by omega) _) (by omega) _
  have hz0 : W0.heap.size = W.heap.size + 2 := by rw [← hW0]; simp [World.setRow]; omega
  have hrs : rowN W0 (W.heap.size + 1) = some (arr .u8 iv) := by rw [← hW0]; exact row_new (cs := arr .u8 (zr 16)) (by rw [rowN_alloc, if_pos hs1.symm])
  have hy0 : rowN W0 W.heap.size = some #[.func (.yield l) #[] #[]] := by rw [← hW0]; exact row_other (by rw [rowN_alloc, if_neg (by omega)]; exact hyr) (by omega)
  rw [hW0]
  have HJ0 := Lib.hid (HOJ.out 0 W W0 none H0.out (grown_none hbe) (fun r e => by cases e))
  have HY0 := Lib.hid hy0
  have HMD0 := Lib.hid (keptW hbe HMD.out)
  have HCP0 := Lib.hid (keptW hbe HCP.out)
  have HGM0 := Lib.hid (keptW hbe HR1.out)
  have HRS0 := Lib.hid hrs
  have HNM := Lib.hid (fun j (h : W.heap.size ≤ j) (hm : M j) => show False from by have := (HM.out j hm).1; omega)
  have BWE := hbe
  obtain ⟨gst, hgst⟩ : ∃ q, W.heap.size + 1 = q := ⟨_, rfl⟩
  rw [hgst] at HRS0 ⊢
  have d2 := (rowN_cell (keptW BWE HR2.out)).1 0
  have hgs : W.heap.size < gst ∧ gst < W0.heap.size := by omega
  clear hbe hrs hy0 hW0 hst hld c1 c2 hW1 hb1 hs1 hyr sz16 HR1 HR2 HMD HCP H0
  go_wp2_with fail
  refine (wpIn_wide (n := 5)).1 ?_
  refine range_yieldsS (by omega) (gf := gf) (lb := lb) rfl eg hseq (fun j => M j ∨ j = gst)
    (fun j h => by
      rcases h with h | h
      · have hm := HM.out j h
        exact ⟨by omega, fun h2 => hm.2 (.inr (.inr (.inr (.inr h2))))⟩
      · exact ⟨by omega, fun h2 => by have := hRd j h2; omega⟩)
    (fun j h => by have := hRd j h; omega) hΦp (HWW.out.trans (BWE.mono hwW))
    (fun k V => k ≤ t ∧ (J k V ∧ Keeps (fun j => M j ∨ j = gst) W0 V) ∧ rowN V gst = some (arr .u8 (chS key iv p k)))
    (fun c k V => c = .ret ∧ ((∃ q, q ≤ t ∧ Jx q V) ∨ J t V))
    (fun k X Y row hs hg hr => ⟨hs.1, own_keeps (HOJ.out.toFrom) (by omega) (Nat.le_refl _) (fun k => k) k X Y row hs.2.1 hg hr, row_grown hg (fun r e => (hr r e).2) hs.2.2⟩)
    (fun c k X Y row hs hg hr => ⟨hs.1, by
      rcases hs.2 with ⟨q, hq, hx⟩ | hj
      · exact .inl ⟨q, hq, HOX.out q X Y row hx hg (fun r e => by have := (hr r e).1; omega)⟩
      · exact .inr (HOJ.out t X Y row hj hg (fun r e => by have := (hr r e).1; omega))⟩)
    ⟨Nat.zero_le _, ⟨HJ0.out, Keeps.refl _ _⟩, HRS0.out⟩ ?a1 ?assign ?body ?done ?stop
  case assign =>
    intro l2 v V k hk
    gi_wp2
    exact hk
  case body =>
    rintro l2 k v V hkN ⟨hkt, ⟨hj, hkp⟩, hrs⟩ hphi
    have hVs : W0.heap.size ≤ V.heap.size := hkp.size
    have hB := hΦ k v V hkN hphi
    by_cases hlt : k < t
    · have hl16 := hpl k hlt
      obtain ⟨b, off, c, rfl, hbl, hcj⟩ := hB.cells (by omega)
      have hng : ¬ InS (Value.slice (some ⟨b, off, none⟩) (p k).length c) gst := fun h => by have := hRd _ (hΦi k _ V hlt hphi _ h); omega
      have hlw := HLW.out k (by omega)
      have HCO := Lib.hid (combine_any (chS key iv p k) (p k) gst (.slice (some ⟨b, off, none⟩) (p k).length c) hlw.1 hl16 hlw.2 V hrs hB hng)
      rw [hl16] at HCO ⊢
      clear hB hbl hcj hng hrs hphi
      have HNG : gst ≠ gmb ∧ gst ≠ gm ∧ gst ≠ gc ∧ gst ≠ W.heap.size := by omega
      have HGMv := Lib.hid (hkp.row HGM0.out (fun h => by rcases h with h | h; exact (HM.out _ h).2 (.inl rfl); exact HNG.1 h.symm))
      have HMDv := Lib.hid (hkp.row HMD0.out (fun h => by rcases h with h | h; exact (HM.out _ h).2 (.inr (.inr (.inl rfl))); exact HNG.2.1 h.symm))
      have HCPv := Lib.hid (hkp.row HCP0.out (fun h => by rcases h with h | h; exact (HM.out _ h).2 (.inr (.inr (.inr (.inl rfl)))); exact HNG.2.2.1 h.symm))
      have HYv := Lib.hid (hkp.row HY0.out (fun h => by rcases h with h | h; exact HNM.out _ (Nat.le_refl _) h; exact HNG.2.2.2 h.symm))
      have HXL := Lib.hid (xor_len hlw.1 hl16)
      have HX2 := Lib.hid (xor_256 hlw.2 (hp256 k hlt))
      have HNX := Lib.hid (show aE key (xorL (chS key iv p k) (p k)) = chS key iv p (k + 1) from rfl)
      have HLW1 := Lib.hid (HLW.out (k + 1) (by omega))
      obtain ⟨X, hX⟩ : ∃ q, xorL (chS key iv p k) (p k) = q := ⟨_, rfl⟩
      rw [hX] at HCO HXL HX2 HNX
      obtain ⟨C, hC⟩ : ∃ q, chS key iv p (k + 1) = q := ⟨_, rfl⟩
      have HCE := Lib.hid hC
      rw [hC] at HNX HLW1
      have HKP := Lib.hid hkp
      have HJJ := Lib.hid hj
      clear hX hC hlw hj hkp
      gi_wp2_with fail
      refine ⟨trivial, (CallsIn.inRound l2 (callsIn_wide.2 HCO.out)).mono ?_⟩
      rintro e V2 ⟨rfl, hr2, hg2⟩
      have hV2 := hg2.size
      have n0 : gmb < V.heap.size ∧ gm < V.heap.size ∧ gc < V.heap.size ∧ W.heap.size < V.heap.size := by omega
      have hgs2 := rowN_lt hr2
      have Hb_0 := Lib.hid (show rowN V2.drew gmb = some #[.pointer (some ⟨gm, 0, none⟩)] from (grownBy_rowN hg2 n0.1 (fun e => HNG.1 (by injection e with e; exact e.symm))).trans HGMv.out)
      have Hm_0 := Lib.hid (show rowN V2.drew gm = some (mdA gc iv) from (grownBy_rowN hg2 n0.2.1 (fun e => HNG.2.1 (by injection e with e; exact e.symm))).trans HMDv.out)
      have Hc_0 := Lib.hid (show rowN V2.drew gc = some (cphA TB (KS (wordsL key) 11)) from (grownBy_rowN hg2 n0.2.2.1 (fun e => HNG.2.2.1 (by injection e with e; exact e.symm))).trans HCPv.out)
      have Hy_0 := Lib.hid (show rowN V2.drew W.heap.size = some #[.func (.yield l) #[] #[]] from (grownBy_rowN hg2 n0.2.2.2 (fun e => HNG.2.2.2 (by injection e with e; exact e.symm))).trans HYv.out)
      have Hs_0 := Lib.hid (show rowN V2.drew gst = some (arr .u8 X) from hr2)
      have HL_0 := Lib.hid (show Below V2.heap.size V2 V2.drew from (Below.refl _ _).drew)
      have HG2 := Lib.hid hg2
      have HEN := Lib.hid (fun (U : World) (h1 : rowN U gc = some (cphA TB (KS (wordsL key) 11))) (h2 : rowN U gst = some (arr .u8 X)) => encrypt_any gc key X (.slice (some ⟨gst, 0, none⟩) 16 16) HXL.out HK2.out U h1 (bytes_row HX2.out h2 16 HXL.out))
      rw [show bytesL (encS (wordsL key) (wordsL X) 11) = C from HNX.out] at HEN
      have hs47 := fun U => run_slice47_all gst 0 U
      clear hr2 hg2
      gi_wp2_with fail
      refine regionIn_held' (fun W => rowN W gmb = some #[.pointer (some ⟨gm, 0, none⟩)] ∧ rowN W gm = some (mdA gc iv)) (by kernel_rfl) (by kernel_rfl) ⟨Hb_0.out, Hm_0.out⟩ (fun hHeld0 => ?_)
      obtain ⟨x0, hx0⟩ : ∃ X, V2.drew = X := ⟨_, rfl⟩
      rw [hx0] at Hb_0 Hm_0 Hc_0 Hs_0 Hy_0 HL_0 hHeld0 ⊢
      clear hx0
      refine wpAnyH_take (i := 0) (oi := { dst := some 20, op := Op.load 38 (Operand.tmp 1), type := 38, pos := "mode.go:48", after := #[], guard := none }) (v := .pointer (some ⟨gm, 0, none⟩)) rfl (by kernel_rfl) (by kernel_rfl) (by kernel_rfl) (fun _ _ _ h => Exit.noConfusion h.1) (Or.inl ⟨by rfl, fun W hW => ?_⟩) hHeld0 ?_
      · (have hW1 := (rowN_cell hW.1).1 0; clear hW; go_simp)
      try simp only [Act.put, List.setIfInBounds_toArray, List.set_cons_zero, List.set_cons_succ]
      refine wpAnyH_take (i := 1) (oi := { dst := some 21, op := Op.nilCheck (Operand.tmp 20), type := 0, pos := "mode.go:48", after := #[{ on := 0, ground := Ground.data }], guard := none }) (v := ?tk0) rfl (by kernel_rfl) (by kernel_rfl) (by kernel_rfl) (fun _ _ _ h => Exit.noConfusion h.1) (Or.inl ⟨by rfl, ?tw0⟩) hHeld0 ?_
      case tw0 => (intro W hW; clear hW; first | (go_simp; done) | (go_simp; with_reducible rfl))
      try simp only [Act.put, List.setIfInBounds_toArray, List.set_cons_zero, List.set_cons_succ]
      refine wpAnyH_take (i := 2) (oi := { dst := some 22, op := Op.fieldAddr 53 (Operand.tmp 21) 0, type := 0, pos := "mode.go:48", after := #[{ on := 1, ground := Ground.data }], guard := none }) (v := ?tk1) rfl (by kernel_rfl) (by kernel_rfl) (by kernel_rfl) (fun _ _ _ h => Exit.noConfusion h.1) (Or.inl ⟨by rfl, ?tw1⟩) hHeld0 ?_
      case tw1 => (intro W hW; clear hW; first | (go_simp; done) | (go_simp; with_reducible rfl))
      try simp only [Act.put, List.setIfInBounds_toArray, List.set_cons_zero, List.set_cons_succ]
      refine wpAnyH_take (i := 3) (oi := { dst := some 23, op := Op.load 51 (Operand.tmp 22), type := 51, pos := "mode.go:48", after := #[{ on := 2, ground := Ground.data }], guard := none }) (v := .pointer (some ⟨gc, 0, none⟩)) rfl (by kernel_rfl) (by kernel_rfl) (by kernel_rfl) (fun _ _ _ h => Exit.noConfusion h.1) (Or.inl ⟨by rfl, fun W hW => ?_⟩) hHeld0 ?_
      · (have hW1 := (rowN_cell hW.2).1 0; rw [mdA_zero] at hW1; clear hW; go_simp)
      try simp only [Act.put, List.setIfInBounds_toArray, List.set_cons_zero, List.set_cons_succ]
      refine wpAnyH_take (i := 4) (oi := { dst := some 24, op := Op.slice 48 (Operand.tmp 4) none none none, type := 22, pos := "mode.go:48", after := #[], guard := none }) (v := ?tk2) rfl (by kernel_rfl) (by kernel_rfl) (by kernel_rfl) (fun _ _ _ h => Exit.noConfusion h.1) (Or.inl ⟨by rfl, ?tw2⟩) hHeld0 ?_
      case tw2 => (intro W hW; clear hW; first | (go_simp; done) | (go_simp; with_reducible rfl))
      try simp only [Act.put, List.setIfInBounds_toArray, List.set_cons_zero, List.set_cons_succ]
      refine wpAnyH_ready (rs := [5]) (by kernel_rfl) (by simp) ?_
      refine AllReadyH.cons (o := { dst := some 25, op := Op.call { callee := Callee.value (Operand.func 36), args := #[Operand.tmp 23, Operand.tmp 24], argTypes := #[51, 22] }, type := 25, pos := "mode.go:48", after := #[{ on := 3, ground := Ground.data }, { on := 4, ground := Ground.data }], guard := none }) rfl (fun K' hK => ?_) AllReadyH.nil
      go_simp
      refine ((HEN.out _ Hc_0.out Hs_0.out)).mono ?_
      rintro e x1 ⟨s3, rfl, hb3, hn3, hf3, hnf3, hB3⟩
      have Hb_1 := Lib.hid (keptW hB3 Hb_0.out)
      have Hm_1 := Lib.hid (keptW hB3 Hm_0.out)
      have Hc_1 := Lib.hid (keptW hB3 Hc_0.out)
      have Hs_1 := Lib.hid (keptW hB3 Hs_0.out)
      have Hy_1 := Lib.hid (keptW hB3 Hy_0.out)
      have HL_1 := Lib.hid (HL_0.out.trans (hB3.mono HL_0.out.size))
      have HB3 := Lib.hid hb3
      have HF3 := Lib.hid (show ∀ j, InS s3 j → V2.heap.size ≤ j from fun j h => Nat.le_trans HL_0.out.size (hf3 j h))
      have HNF3 := Lib.hid hnf3
      clear hb3 hn3 hf3 hnf3 hB3
      refine hK.out _ _ ⟨Hb_1.out, Hm_1.out⟩ (fun hHeld1 => ?_)
      clear hK K'
      try simp only [Act.put, List.setIfInBounds_toArray, List.set_cons_zero, List.set_cons_succ]
      refine wpAnyH_take (i := 6) (oi := { dst := some 19, op := Op.move (Operand.tmp 25), type := 25, pos := "mode.go:48", after := #[{ on := 5, ground := Ground.data }], guard := none }) (v := ?tk3) rfl (by kernel_rfl) (by kernel_rfl) (by kernel_rfl) (fun _ _ _ h => Exit.noConfusion h.1) (Or.inl ⟨by rfl, ?tw3⟩) hHeld1 ?_
      case tw3 => (intro W hW; clear hW; first | (go_simp; done) | (go_simp; with_reducible rfl))
      try simp only [Act.put, List.setIfInBounds_toArray, List.set_cons_zero, List.set_cons_succ]
      refine wpAnyH_take (i := 7) (oi := { dst := some 26, op := Op.extract (Operand.tmp 19) 0, type := 22, pos := "mode.go:48", after := #[{ on := 6, ground := Ground.data }], guard := none }) (v := ?tk4) rfl (by kernel_rfl) (by kernel_rfl) (by kernel_rfl) (fun _ _ _ h => Exit.noConfusion h.1) (Or.inl ⟨by rfl, ?tw4⟩) hHeld1 ?_
      case tw4 => (intro W hW; clear hW; first | (go_simp; done) | (go_simp; with_reducible rfl))
      try simp only [Act.put, List.setIfInBounds_toArray, List.set_cons_zero, List.set_cons_succ]
      refine wpAnyH_take (i := 8) (oi := { dst := some 27, op := Op.extract (Operand.tmp 19) 1, type := 24, pos := "mode.go:48", after := #[{ on := 6, ground := Ground.data }, { on := 9, ground := Ground.gcOnly Departure.lateStores }], guard := none }) (v := ?tk5) rfl (by kernel_rfl) (by kernel_rfl) (by kernel_rfl) (fun _ _ _ h => Exit.noConfusion h.1) (Or.inl ⟨by rfl, ?tw5⟩) hHeld1 ?_
      case tw5 => (intro W hW; clear hW; first | (go_simp; done) | (go_simp; with_reducible rfl))
      try simp only [Act.put, List.setIfInBounds_toArray, List.set_cons_zero, List.set_cons_succ]
      refine wpAnyH_take (i := 9) (oi := { dst := some 6, op := Op.assign (Operand.tmp 26), type := 22, pos := "mode.go:48", after := #[{ on := 7, ground := Ground.data }, { on := 5, ground := Ground.chain }, { on := 0, ground := Ground.phase }, { on := 1, ground := Ground.phase }, { on := 2, ground := Ground.phase }, { on := 3, ground := Ground.phase }, { on := 4, ground := Ground.phase }, { on := 5, ground := Ground.phase }, { on := 6, ground := Ground.phase }, { on := 7, ground := Ground.phase }, { on := 8, ground := Ground.textOnly Departure.lateStores }], guard := none }) (v := ?tk6) rfl (by kernel_rfl) (by kernel_rfl) (by kernel_rfl) (fun _ _ _ h => Exit.noConfusion h.1) (Or.inl ⟨by rfl, ?tw6⟩) hHeld1 ?_
      case tw6 => (intro W hW; clear hW; first | (go_simp; done) | (go_simp; with_reducible rfl))
      try simp only [Act.put, List.setIfInBounds_toArray, List.set_cons_zero, List.set_cons_succ]
      refine wpAnyH_take (i := 10) (oi := { dst := some 7, op := Op.assign (Operand.tmp 27), type := 24, pos := "mode.go:48", after := #[{ on := 8, ground := Ground.data }, { on := 9, ground := Ground.chain }, { on := 0, ground := Ground.phase }, { on := 1, ground := Ground.phase }, { on := 2, ground := Ground.phase }, { on := 3, ground := Ground.phase }, { on := 4, ground := Ground.phase }, { on := 5, ground := Ground.phase }, { on := 6, ground := Ground.phase }, { on := 7, ground := Ground.phase }, { on := 8, ground := Ground.phase }, { on := 9, ground := Ground.phase }], guard := none }) (v := ?tk7) rfl (by kernel_rfl) (by kernel_rfl) (by kernel_rfl) (fun _ _ _ h => Exit.noConfusion h.1) (Or.inl ⟨by rfl, ?tw7⟩) hHeld1 ?_
      case tw7 => (intro W hW; clear hW; first | (go_simp; done) | (go_simp; with_reducible rfl))
      try simp only [Act.put, List.setIfInBounds_toArray, List.set_cons_zero, List.set_cons_succ]
      refine wpAnyH_done (by kernel_rfl) ?_ _
      refine ⟨rfl, ?_⟩
      obtain ⟨V3, hV3⟩ : ∃ q, q = x1 := ⟨_, rfl⟩
      rw [← hV3] at HB3 HNF3 Hs_1 Hy_1 HL_1
      rw [← hV3]
      clear hV3
      obtain ⟨b3, o3, c3, rfl, hb3l, _⟩ := HB3.out.cells (by rw [HLW1.out.1]; omega)
      rw [HLW1.out.1] at HB3 HF3 HNF3 ⊢
      have hat3 := arrayAt16 ⟨b3, o3, none⟩ 16 c3 (Nat.le_refl _) V3
      have hld3 := load16_at HB3.out HLW1.out.1
      have hst3 := store16_row Hs_1.out HXL.out HLW1.out.1
      have hb3s : V2.heap.size ≤ b3 := HF3.out b3 ⟨o3, none, _, _, rfl⟩
      obtain ⟨V4, hV4⟩ : ∃ q, V3.setRow gst (arr .u8 C) = q := ⟨_, rfl⟩
      have hg4 : V3.grownBy V4 (some gst) := by rw [← hV4]; exact setRow_grown _ _ _
      have hk4 : Keeps (fun j => j = gst) V3 V4 := Keeps.of_grownBy hg4 (fun r e => by cases e; rfl)
      have hgV4 : V.grownBy V4 (some gst) := grownBy_trans (grownBy_trans HG2.out (grown_of_below HL_1.out (some gst))) hg4
      have hr4 : rowN V4 gst = some (arr .u8 C) := by rw [← hV4]; exact row_new Hs_1.out
      have hy4 : rowN V4 W.heap.size = some #[.func (.yield l) #[] #[]] := by rw [← hV4]; exact row_other Hy_1.out (fun e => HNG.2.2.2 e.symm)
      have cy4 := (rowN_cell hy4).1 0
      have hB4 := HB3.out.keeps hk4 (fun j _ hj e => by have := HF3.out j hj; omega)
      have hNF4 : NF (.slice (some ⟨b3, o3, none⟩) 16 c3) V4 := NF.keeps HNF3.out hk4 hb3l (fun e => by omega)
      have hJ4 := HOJ.out k V V4 (some gst) HJJ.out hgV4 (fun r e => by cases e; omega)
      obtain ⟨fn, tmps, assign, body, hy, hR⟩ := YieldAt.wideTo (m := 5 - 1 - 1 - 1) (HY.out k _ V4 hlt hJ4 ⟨⟨by rw [HCE.out]; exact hB4, hNF4⟩, fun j hj => ⟨by have := HF3.out j hj; omega, hB4.lt (by rw [HLW1.out.1]; omega) hj⟩⟩) l2
      have HRR := Lib.hid hR
      have HR4 := Lib.hid hr4
      have HGV4 := Lib.hid hgV4
      have HBS := Lib.hid (show V.heap.size ≤ b3 by omega)
      clear hR hr4 hy4 hB4 hNF4 hJ4 hgV4 hk4 hg4
      gi_wp2_with fail
      refine HRR.out.mono ?_
      rintro e5 V5 ⟨hk5, h5⟩
      have hK : Keeps (fun j => M j ∨ j = gst) V V5 := ⟨Nat.le_trans HGV4.out.size hk5.size, fun j hj hm => (hk5.same j (Nat.lt_of_lt_of_le hj HGV4.out.size) (fun h => by
        rcases h with h | h
        · exact hm (.inl h)
        · obtain ⟨o, sp, L', c', e⟩ := h
          cases e
          have := HBS.out
          omega)).trans (HGV4.out.block j hj (fun e => hm (.inr (by injection e))))⟩
      have hr5 := hk5.row HR4.out (fun h => by
        rcases h with h | h
        · exact HNM.out _ (by omega) h
        · obtain ⟨o, sp, L', c', e⟩ := h
          cases e
          omega)
      have HF5 := Lib.hid (show KeepsFrom W0.heap.size V V5 from hK.from (fun j hj h => by
        rcases h with h | h
        · exact HNM.out j (by omega) h
        · omega))
      have HK5 := Lib.hid (show Keeps (fun j => (M j ∨ j = gst) ∨ False) V V5 from hK.weaken (fun j _ h => .inl h))
      have HKK := Lib.hid (HKP.out.trans hK)
      have HR5 := Lib.hid hr5
      clear hk5 hK hr5
      rcases h5 with ⟨rfl, hJ5⟩ | ⟨rfl, hJx5⟩
      · have HE := Lib.hid (show RoundEnds W0.heap.size (Keeps fun j => (M j ∨ j = gst) ∨ False) (fun V => k + 1 ≤ t ∧ (J (k + 1) V ∧ Keeps (fun j => M j ∨ j = gst) W0 V) ∧ rowN V gst = some (arr .u8 (chS key iv p (k + 1)))) (fun c V => c = Code.ret ∧ ((∃ q, q ≤ t ∧ Jx q V) ∨ J t V)) V .normal V5 from
          ⟨HF5.out, HK5.out, .inl ⟨rfl, by omega, ⟨hJ5, HKK.out⟩, by rw [HCE.out]; exact HR5.out⟩⟩)
        clear hJ5
        gi_wp2_with fail
        exact HE.out
      · have HE := Lib.hid (show RoundEnds W0.heap.size (Keeps fun j => (M j ∨ j = gst) ∨ False) (fun V => k + 1 ≤ t ∧ (J (k + 1) V ∧ Keeps (fun j => M j ∨ j = gst) W0 V) ∧ rowN V gst = some (arr .u8 (chS key iv p (k + 1)))) (fun c V => c = Code.ret ∧ ((∃ q, q ≤ t ∧ Jx q V) ∨ J t V)) V .ret V5 from
          ⟨HF5.out, HK5.out, .inr (.inl ⟨rfl, rfl, .inl ⟨k + 1, by omega, hJx5⟩⟩)⟩)
        clear hJx5
        gi_wp2_with fail
        exact HE.out
    · obtain rfl : k = t := by omega
      have hlt16 := hpt hkN
      obtain ⟨a, c, rfl⟩ : ∃ a c, v = .slice a (p k).length c := by obtain ⟨_, a, c, e, _⟩ := hB; exact ⟨a, c, e⟩
      have hi : ¬ (((p k).length : Nat) : Int) = 16 := by omega
      have HE := Lib.hid (show RoundEnds W0.heap.size (Keeps fun j => (M j ∨ j = gst) ∨ False) (fun V => k + 1 ≤ k ∧ (J (k + 1) V ∧ Keeps (fun j => M j ∨ j = gst) W0 V) ∧ rowN V gst = some (arr .u8 (chS key iv p (k + 1)))) (fun c V => c = Code.ret ∧ ((∃ q, q ≤ k ∧ Jx q V) ∨ J k V)) V .ret V from
        ⟨⟨Nat.le_refl _, fun _ _ _ h _ => h⟩, Keeps.refl _ _, .inr (.inl ⟨rfl, rfl, .inr hj⟩)⟩)
      clear hB hj hkp hrs hphi
      gi_wp2_with fail
      exact HE.out
  case done =>
    rintro D V hD ⟨hkt, ⟨hj, hkp⟩, hrs⟩ hK
    obtain rfl : N = t := by omega
    have HE := Lib.hid (HOJ.out.toFrom.putObj (.deferred none) hj (by omega) hK rfl)
    have HK := Lib.hid hK
    clear hj hkp hrs hK
    go_wp2_with fail
    refine ⟨by simp, .inl ⟨_, _, rfl, run_takeDeferred HK.out, ?_⟩⟩
    exact ⟨_, results_none rfl _ _ _, ⟨_, rfl⟩, .inl HE.out⟩
  case stop =>
    rintro D k c V hD hkN ⟨rfl, hx⟩ hK
    have HE := Lib.hid (show J t (V.putObj D (.deferred none)) ∨ ∃ q, q ≤ t ∧ Jx q (V.putObj D (.deferred none)) from by
      rcases hx with ⟨q, hq, hx⟩ | hj
      · exact .inr ⟨q, hq, HOX.out.toFrom.putObj (.deferred none) hx (by omega) hK rfl⟩
      · exact .inl (HOJ.out.toFrom.putObj (.deferred none) hj (by omega) hK rfl))
    have HK := Lib.hid hK
    clear hx hK
    gi_wp2_with fail
    refine ⟨by simp, .inl ⟨_, _, rfl, run_takeDeferred HK.out, ?_⟩⟩
    exact ⟨_, results_none rfl _ _ _, ⟨_, rfl⟩, HE.out⟩
end Go.Proofs.YtjcdbjapadgdfaaDoor
