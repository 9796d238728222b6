/- AES: Encrypt. -/
import Derived.Test.YtjcdbjapadgdfaaDoorAM
namespace Go.Proofs.YtjcdbjapadgdfaaDoor
open Go.RowKit Go.Shelf

attribute [local go_sem] Oper.semAt_some
/-- A block behind n round keys. -/
def encS (kw ws : List Nat) : Nat → List Nat
  | 0 => ws
  | k + 1 => if k = 0 then xorL (encS kw ws k) (rk kw k) else if k = 10 then xorL (shL 1 ((encS kw ws k).map (subW sb))) (rk kw k) else xorL ((shL 1 ((encS kw ws k).map (subW sb))).map mixW) (rk kw k)
theorem encS_lw {kw ws : List Nat} (hk : kw.length = 4) (hkw : W32 kw) (hs : ws.length = 4) (hw : W32 ws) : ∀ n, (encS kw ws n).length = 4 ∧ W32 (encS kw ws n)
  | 0 => ⟨hs, hw⟩
  | k + 1 => by
    have ih := encS_lw hk hkw hs hw k
    have hr := rk_len hk k
    have hrw := rk_w32 hkw k
    have s1 := sub_lw ih.1 ih.2
    have s2 := shift_lw s1.1 s1.2
    have s3 := mix_lw s2.1 s2.2
    unfold encS
    split
    · exact ⟨xorL_len ih.1 hr, xorL_w32 ih.2 hrw⟩
    · split
      · exact ⟨xorL_len s2.1 hr, xorL_w32 s2.2 hrw⟩
      · exact ⟨xorL_len s3.1 hr, xorL_w32 s3.2 hrw⟩
theorem row_grown {X Y : World} {row : Option Nat} (hg : X.grownBy Y row) (hr : ∀ r, row = some r → ∃ o : Obj, X.heap[r]? = some o ∧ o.isCells = false) {g : Nat} {cs : Array Value} (h : rowN X g = some cs) : rowN Y g = some cs := by
  rw [grownBy_rowN hg (rowN_lt h) (fun e => ?_)]
  · exact h
  · obtain ⟨o, ho, hc⟩ := hr g e.symm
    obtain ⟨t, ht⟩ := rowN_some h
    rw [ht] at ho; cases ho; cases hc
def StI (S : Nat → List Nat) (K : List Nat) (g gs gx : Nat) (w : World) (k : Nat) (V : World) : Prop :=
  rowN V gs = some (blA (S k) (stR g)) ∧ rowN V gx = some #[.pointer (some ⟨gs, 0, none⟩)] ∧ rowN V g = some (cphA TB K) ∧ Below w.heap.size w V
theorem stI_own (S : Nat → List Nat) (K : List Nat) (g gs gx : Nat) (w : World) {B : Nat} (hB : w.heap.size ≤ B) : OwnFrom B (StI S K g gs gx w) := by
  rintro k X Y row ⟨h1, h2, h3, hb⟩ hg hr
  have hr' := fun r e => (hr r e).2
  exact ⟨row_grown hg hr' h1, row_grown hg hr' h2, row_grown hg hr' h3, hb.grown hg hb.size (fun r e => Nat.le_trans hB (hr r e).1)⟩
theorem kyv_rk {key : List Nat} (h : key.length = 4) {k : Nat} (hk : k < 11) : kyv (KS key 11) k = .agg (arr .u32 (rk key k)) := by
  unfold kyv
  rw [KS_all, kf_get h hk]

theorem rowN_putObj {W : World} {D g : Nat} {o : Obj} (h : g ≠ D) : rowN (W.putObj D o) g = rowN W g := by unfold rowN; rw [World.putObj_heap_other h]
theorem row_putNo {W : World} {l g : Nat} {o o' : Obj} {cs : Array Value} (h : rowN W g = some cs) (hl : W.heap[l]? = some o) (ho : o.isCells = false) : rowN (W.putObj l o') g = some cs := by
  rw [rowN_putObj (fun e => ?_)]
  · exact h
  · subst e
    obtain ⟨t, ht⟩ := rowN_some h
    rw [ht] at hl; cases hl; cases ho
theorem results_pair {fn : Func} {p q : Tmp} {u v : Value} {tmps : Array Value} {w : World} (h : fn.results = #[.tmp p, .tmp q]) (hp : tmps.getD p undef = u) (hq : tmps.getD q undef = v) : (results fn tmps).run Tryd.prog w = .ok (.tuple #[u, v]) w := by
  have hp' : tmps[p]?.getD undef = u := by simpa using hp
  have hq' : tmps[q]?.getD undef = v := by simpa using hq
  simp [results, h, hp', hq']
theorem regionIn_held' {ops : Array Oper} {l n : Nat} {Q : Exit → Act → World → Prop} (S : World → Prop) {id : Nat} {a : Act} {w : World} (hm : Tryd.prog.follows .mixedOrders = true) (hnd : (ops.toList.all fun o => match o.op with | .defer _ => false | _ => true) = true) (hS : S w.drew)
    (h : S w.drew → wpAnyH Tryd.prog .any ops (Nor (Q .normal)) S ops.size (Array.replicate ops.size false) a w.drew) : (Code.region id ops true).wpIn (Fence.wide.inRound l) n Tryd.prog Q a w :=
  regionIn_held hm hnd (fun _ _ h => h) hS h
theorem BytesAt.putObj {zs : List Nat} {s : Value} {w : World} (h : BytesAt zs s w) {l : Nat} {o : Obj} (o' : Obj) (hl : w.heap[l]? = some o) (ho : o.isCells = false) : BytesAt zs s (w.putObj l o') := by
  obtain ⟨h1, a, c, rfl, hc, h⟩ := h
  refine ⟨h1, a, c, rfl, hc, ?_⟩
  rcases h with h | ⟨b, off, rfl, hlt, hj⟩
  · exact .inl h
  · refine .inr ⟨b, off, rfl, by simp; exact hlt, fun j hjl => ?_⟩
    have hc := hj j hjl
    have hbl : b ≠ l := fun e => by
      subst e
      unfold World.cell? at hc
      rw [hl] at hc
      cases o <;> simp_all [Obj.isCells]
    rw [← hc]
    exact World.cell?_of_block (w := w) (World.putObj_heap_other hbl)

theorem NF.putObj {zs : List Nat} {s : Value} {w : World} (hB : BytesAt zs s w) (h : NF s w) {l : Nat} {o : Obj} (o' : Obj) (hl : w.heap[l]? = some o) (ho : o.isCells = false) : NF s (w.putObj l o') := by
  rintro b off L c rfl j hj
  obtain ⟨_, a0, c0, e, hc, h2⟩ := hB
  cases e
  rcases h2 with h2 | ⟨b', off', e, _, hjj⟩
  · omega
  · cases e
    have hne : b ≠ l := by
      rintro rfl
      have hj0 := hjj j hj
      unfold World.cell? at hj0
      simp only [hl] at hj0
      cases o <;> simp_all [Obj.isCells]
    have := h b off _ c rfl j hj
    unfold World.frozen? at this ⊢
    rw [World.putObj_heap_other hne]; exact this
set_option maxRecDepth 100000 in
set_option maxHeartbeats 8000000 in
theorem encrypt_any (g : Nat) (key zs : List Nat) (s : Value) (hl : zs.length = 16) (h256 : ∀ x ∈ key, x < 256) (w : World) (hC : CphAt key g w) (hB : BytesAt zs s w) :
    Calls Tryd.prog 36 #[.pointer (some ⟨g, 0, none⟩), s] w fun e w' => ∃ s', e = .returned (.tuple #[s', .int .i64 0]) ∧ BytesAt (bytesL ((encS (wordsL key) (wordsL zs)) 11)) s' w' ∧ Nil0 s' ∧ (∀ j, InS s' j → w.heap.size ≤ j) ∧ NF s' w' ∧ Below w.heap.size w w' := by
  have HBE := Lib.hid (begin_any g (KS (wordsL key) 11) zs s hl w hC hB)
  have HKW := Lib.hid (wordsL_w32 h256)
  have HZW := Lib.hid (wordsL_w32 hB.1)
  have HC := Lib.hid hC
  obtain ⟨_, a, c, rfl, _, _⟩ := hB
  rw [hl] at HBE ⊢
  have hgl := rowN_lt hC
  clear hl h256 hC
  refine (callsIn_wide (n := 6)).1 ?_
  refine callsIn_of_wp_marks Tryd.func36 rfl trivial ?_ rfl
  simp only [Tryd.ntmps36, List.size_toArray, List.length_cons, List.length_nil, Nat.reduceAdd, Nat.reduceSub, Array.replicate_succ, Array.replicate_zero, List.push_toArray, List.append_toArray, List.nil_append, List.cons_append]
  refine wpIn_wide.2 ?_
  go_wp2_with fail
  refine HBE.out.mono ?_
  rintro e w1 ⟨gs, rfl, hge, hrs, hb1⟩
  have HB1 := Lib.hid hb1
  have HRS := Lib.hid hrs
  have HGE := Lib.hid hge
  clear hb1 hrs HBE
  go_wp2_with fail
  refine (roundKeys_any g _).mono ?_
  rintro e w2 ⟨rfl, rfl⟩
  go_wp2_with fail
  obtain ⟨V, hV⟩ : ∃ V, (w1.alloc (.cells #[.pointer (some ⟨gs, 0, none⟩)] 63)).alloc (.cells #[.slice (some ⟨g, 512, none⟩) 11 11] 69) = V := ⟨_, rfl⟩
  have hbV : Below w1.heap.size w1 V := by rw [← hV]; exact ((Below.refl _ w1).alloc (Nat.le_refl _) _).alloc (by simp) _
  have hrx : rowN V w1.heap.size = some #[.pointer (some ⟨gs, 0, none⟩)] := by rw [← hV, rowN_alloc, if_neg (by simp), rowN_alloc, if_pos rfl]
  have hrb : rowN V (w1.heap.size + 1) = some #[.slice (some ⟨g, 512, none⟩) 11 11] := by rw [← hV, rowN_alloc, if_pos (by simp)]
  have hszV : V.heap.size = w1.heap.size + 2 := by rw [← hV]; simp
  have hgs1 := rowN_lt HRS.out
  rw [hV]
  obtain ⟨gx, hgx⟩ : ∃ z, w1.heap.size = z := ⟨_, rfl⟩
  obtain ⟨gb, hgb⟩ : ∃ z, gx + 1 = z := ⟨_, rfl⟩
  have HBV := Lib.hid (bthen HB1.out hbV)
  have hcV := keptW HBV.out HC.out
  have hsV := keptW hbV HRS.out
  rw [hgx] at hrx hrb hgs1 hszV ⊢
  rw [hgb] at hrb ⊢
  obtain ⟨K, hK⟩ : ∃ z, KS (wordsL key) 11 = z := ⟨_, rfl⟩
  have hKl : K.length = 44 := by rw [← hK]; exact KS_len (wordsL_len _) (by omega)
  rw [hK] at hcV
  have HKE := Lib.hid hK
  have HI0 := Lib.hid (show StI (encS (wordsL key) (wordsL zs)) K g gs gx w 0 V from ⟨hsV, hrx, hcV, HBV.out⟩)
  have HY0 := Lib.hid (all_yields (6 - 1) gb g K hKl V hcV hrb)
  have hwgs : w.heap.size ≤ gs := HGE.out
  have hbw1 := HB1.out.size
  have HSZ := Lib.hid hszV
  clear hbV hrx hrb hV hgx hK hKl hcV hsV HRS HC hszV
  refine (wpIn_wide (n := 6)).1 ?_
  refine range_yields (by omega) (gf := 70) (lb := #[.pointer (some ⟨gb, 0, none⟩)]) rfl (enters_of Tryd.func70 (by kernel_rfl) rfl) HY0.out (fun j => j = gs)
    (fun j e => by
      have := HSZ.out
      subst e
      exact ⟨by omega, fun h => by rcases h with h | h <;> omega⟩)
    (fun j h => by
      have := HSZ.out
      rcases h with h | h <;> omega)
    (Below.refl _ _) (StI (encS (wordsL key) (wordsL zs)) K g gs gx w) (fun _ _ _ => False) (stI_own _ _ _ _ _ w (by have := HSZ.out; omega)) (fun _ _ _ _ _ hs _ _ => hs) HI0.out ?a1
    (fun k u v W0 W1 => u = .int .i64 (k : Nat) ∧ rowN W1 W0.heap.size = some (arr .u32 (rk (wordsL key) k)))
    (fun k u v W0 W1 l o o' h hl ho => ⟨h.1, row_putNo h.2 hl ho⟩) ?assign ?body ?done ?stop
  case assign =>
    rintro l2 j u v W kf hj hWs ⟨hu, hv⟩ hk
    have hv2 : v = .agg (arr .u32 (rk (wordsL key) j)) := by rw [hv, ← HKE.out]; exact kyv_rk (wordsL_len _) (by omega)
    have hkl := rk_len (wordsL_len key) j
    obtain ⟨kk, hkk⟩ : ∃ z, rk (wordsL key) j = z := ⟨_, rfl⟩
    rw [hkk] at hv2 hkl hk
    have sz4 : (arr .u32 (zr 4)).size = 4 := by rw [arr_size, zr_len]
    have hst : (arStore 72 (.pointer (some ⟨W.heap.size, 0, none⟩)) v).run Tryd.prog (W.alloc (.cells (arr .u32 (zr 4)) 72)) = .ok .skip ((W.alloc (.cells (arr .u32 (zr 4)) 72)).setRow W.heap.size (arr .u32 kk)) := by
      rw [hv2, run_arStore37 _ _ _ hkl, rowN_alloc, if_pos rfl, rowStore_some _ _ _ _ _ _ sz4]; rfl
    have HKK := Lib.hid (hk ((W.alloc (.cells (arr .u32 (zr 4)) 72)).setRow W.heap.size (arr .u32 kk)) (below_setRow' ((Below.refl _ W).alloc (Nat.le_refl _) _) (Nat.le_refl _) _) ⟨hu, row_new (cs := arr .u32 (zr 4)) (by rw [rowN_alloc, if_pos rfl])⟩)
    clear hu hv hv2 hk hkk
    gi_wp2_with fail
    exact HKK.out
  case body =>
    rintro l2 k u v W0 W hk hW0 ⟨hs1, hx1, hc1, hb1⟩ ⟨rfl, hkr⟩
    have HKK := Lib.hid (show (rk (wordsL key) k).length = 4 ∧ W32 (rk (wordsL key) k) from ⟨rk_len (wordsL_len key) _, rk_w32 HKW.out _⟩)
    have HCUR0 := Lib.hid (encS_lw (wordsL_len key) HKW.out (wordsL_len zs) HZW.out k)
    have HNEXT := Lib.hid (show (encS (wordsL key) (wordsL zs)) (k + 1) = if k = 0 then xorL ((encS (wordsL key) (wordsL zs)) k) (rk (wordsL key) k) else if k = 10 then xorL (shL 1 (((encS (wordsL key) (wordsL zs)) k).map (subW sb))) (rk (wordsL key) k) else xorL ((shL 1 (((encS (wordsL key) (wordsL zs)) k).map (subW sb))).map mixW) (rk (wordsL key) k) from rfl)
    obtain ⟨kk, hkk⟩ : ∃ z, rk (wordsL key) k = z := ⟨_, rfl⟩
    obtain ⟨st, hst⟩ : ∃ z, (encS (wordsL key) (wordsL zs)) k = z := ⟨_, rfl⟩
    rw [hkk] at hkr HKK HNEXT
    rw [hst] at hs1 HCUR0 HNEXT
    obtain ⟨gk, hgk⟩ : ∃ z, W0.heap.size = z := ⟨_, rfl⟩
    rw [hgk] at hkr hW0 ⊢
    have hvs := HSZ.out
    have hng : g ≠ gs := by omega
    have hgkgs : gk ≠ gs := by omega
    have HS0 := Lib.hid hs1
    have HX0 := Lib.hid hx1
    have HC0 := Lib.hid hc1
    have HK0 := Lib.hid hkr
    have HBW := Lib.hid hb1
    have szk : (arr .u32 kk).size = 4 := by rw [arr_size, HKK.out.1]
    have hmf : ∀ (fn : Fn) (first cap : Array Value) (w : World), (Instr.makeFunc fn first cap).run Tryd.prog w = .ok (.func fn first cap) w := fun _ _ _ _ => rfl
    have hgsW := rowN_lt hs1
    clear hs1 hx1 hc1 hkr hb1 hkk hst hgk hvs
    by_cases hkz : k = 0
    · have hk0 : ((k : Nat) : Int) = 0 := by omega
      have HCUR := HCUR0
      gi_wp2_with fail
      have Hs_0 := Lib.hid (show rowN W.drew gs = some (blA st (stR g)) from HS0.out)
      have Hk_0 := Lib.hid (show rowN W.drew gk = some (arr .u32 kk) from HK0.out)
      have Hx_0 := Lib.hid (show rowN W.drew gx = some #[.pointer (some ⟨gs, 0, none⟩)] from HX0.out)
      have Hc_0 := Lib.hid (show rowN W.drew g = some (cphA TB K) from HC0.out)
      have HL_0 := Lib.hid (show Below W.heap.size W W.drew from (Below.refl _ _).drew)
      refine regionIn_held' (fun W => rowN W gx = some #[.pointer (some ⟨gs, 0, none⟩)] ∧ rowN W gk = some (arr .u32 kk)) (by kernel_rfl) (by kernel_rfl) ⟨Hx_0.out, Hk_0.out⟩ (fun hHeld00 => ?_)
      obtain ⟨x00, hx0⟩ : ∃ X, W.drew = X := ⟨_, rfl⟩
      rw [hx0] at Hx_0 Hk_0 Hs_0 Hc_0 HL_0 hHeld00 ⊢
      clear hx0
      refine wpAnyH_take (i := 0) (oi := { dst := some 48, op := Op.load 63 (Operand.tmp 6), type := 63, pos := "aes.go:65", after := #[], guard := none }) (v := .pointer (some ⟨gs, 0, none⟩)) rfl (by kernel_rfl) (by kernel_rfl) (by kernel_rfl) (fun _ _ _ h => Exit.noConfusion h.1) (Or.inl ⟨by rfl, fun W hW => ?_⟩) hHeld00 ?_
      · (have hW1 := (rowN_cell hW.1).1 0; clear hW; go_simp)
      try simp only [Act.put, List.setIfInBounds_toArray, List.set_cons_zero, List.set_cons_succ]
      refine wpAnyH_take (i := 1) (oi := { dst := some 49, op := Op.nilCheck (Operand.tmp 48), type := 0, pos := "aes.go:65", after := #[{ on := 0, ground := Ground.data }], guard := none }) (v := ?tk0) rfl (by kernel_rfl) (by kernel_rfl) (by kernel_rfl) (fun _ _ _ h => Exit.noConfusion h.1) (Or.inl ⟨by rfl, ?tw0⟩) hHeld00 ?_
      case tw0 => (intro W hW; clear hW; first | (go_simp; done) | (go_simp; with_reducible rfl))
      try simp only [Act.put, List.setIfInBounds_toArray, List.set_cons_zero, List.set_cons_succ]
      refine wpAnyH_take (i := 2) (oi := { dst := some 50, op := Op.fieldAddr 82 (Operand.tmp 49) 0, type := 0, pos := "aes.go:65", after := #[{ on := 1, ground := Ground.data }], guard := none }) (v := ?tk1) rfl (by kernel_rfl) (by kernel_rfl) (by kernel_rfl) (fun _ _ _ h => Exit.noConfusion h.1) (Or.inl ⟨by rfl, ?tw1⟩) hHeld00 ?_
      case tw1 => (intro W hW; clear hW; first | (go_simp; done) | (go_simp; with_reducible rfl))
      try simp only [Act.put, List.setIfInBounds_toArray, List.set_cons_zero, List.set_cons_succ]
      refine wpAnyH_take (i := 3) (oi := { dst := some 51, op := Op.load 72 (Operand.tmp 9), type := 72, pos := "aes.go:65", after := #[], guard := none }) (v := .agg (arr .u32 kk)) rfl (by kernel_rfl) (by kernel_rfl) (by kernel_rfl) (fun _ _ _ h => Exit.noConfusion h.1) (Or.inl ⟨by rfl, fun W hW => ?_⟩) hHeld00 ?_
      · (have hW1 := hW.2; clear hW; go_simp)
      try simp only [Act.put, List.setIfInBounds_toArray, List.set_cons_zero, List.set_cons_succ]
      refine wpAnyH_ready (rs := [4]) (by kernel_rfl) (by simp) ?_
      refine AllReadyH.cons (o := { dst := some 52, op := Op.call { callee := Callee.value (Operand.func 40), args := #[Operand.tmp 50, Operand.tmp 51], argTypes := #[72, 72] }, type := 0, pos := "aes.go:65", after := #[{ on := 2, ground := Ground.data }, { on := 3, ground := Ground.data }], guard := none }) rfl (fun K' hK => ?_) AllReadyH.nil
      go_simp
      refine ((add_any st kk (stR g) gs HCUR.out.1 HCUR.out.2 HKK.out.1 HKK.out.2 _ Hs_0.out)).mono ?_
      rintro e x01 ⟨rfl, h1, h2⟩
      have Hs_1 := Lib.hid h1
      have Hx_1 := Lib.hid ((grownBy_rowN h2 (rowN_lt Hx_0.out) (fun e => by injection e with e; omega)).trans Hx_0.out)
      have Hk_1 := Lib.hid ((grownBy_rowN h2 (rowN_lt Hk_0.out) (fun e => by injection e with e; omega)).trans Hk_0.out)
      have Hc_1 := Lib.hid ((grownBy_rowN h2 (rowN_lt Hc_0.out) (fun e => by injection e with e; omega)).trans Hc_0.out)
      have HG := Lib.hid (grownBy_trans (grown_of_below HL_0.out (some gs)) h2)
      clear h1 h2
      refine hK.out _ _ ⟨Hx_1.out, Hk_1.out⟩ (fun hHeld01 => ?_)
      clear hK K'
      try simp only [Act.put, List.setIfInBounds_toArray, List.set_cons_zero, List.set_cons_succ]
      refine wpAnyH_done (by kernel_rfl) ?_ _
      refine ⟨rfl, ?_⟩
      obtain ⟨Y0, hY⟩ : ∃ Y, Y = x01 := ⟨_, rfl⟩
      have HSn := Lib.hid (show rowN Y0 gs = some (blA (xorL st kk) (stR g)) by rw [hY]; exact Hs_1.out)
      have HKn := Lib.hid (show rowN Y0 gk = some (arr .u32 kk) by rw [hY]; exact Hk_1.out)
      have HXn := Lib.hid (show rowN Y0 gx = some #[.pointer (some ⟨gs, 0, none⟩)] by rw [hY]; exact Hx_1.out)
      have HCn := Lib.hid (show rowN Y0 g = some (cphA TB K) by rw [hY]; exact Hc_1.out)
      have HGn := Lib.hid (show W.grownBy Y0 (some gs) by rw [hY]; exact HG.out)
      rw [← hY]
      clear hY hHeld01 HG Hs_1 Hk_1 Hx_1 Hc_1
      have hKP : Keeps (fun j => j = gs) W Y0 := Keeps.of_grownBy HGn.out (fun r e => by cases e; rfl)
      have HE := Lib.hid (show RoundEnds V.heap.size (Keeps fun j => j = gs) (StI (encS (wordsL key) (wordsL zs)) K g gs gx w (k + 1)) (fun _ _ => False) W .normal Y0 from
        ⟨hKP.from (fun j hj h => by have := HSZ.out; have h2 : j = gs := h; omega), hKP, .inl ⟨rfl, by rw [HNEXT.out]; rw [if_pos hkz]; exact HSn.out, HXn.out, HCn.out, HBW.out.grown HGn.out HBW.out.size (fun r e => by cases e; exact hwgs)⟩⟩)
      clear hKP
      gi_wp2_with fail
      exact HE.out
    by_cases hkt : k = 10
    · have hk0 : ¬ ((k : Nat) : Int) = 0 := by omega
      have hk10 : ((k : Nat) : Int) = 10 := by omega
      have HCUR := HCUR0
      gi_wp2_with fail
      have Hs_0 := Lib.hid (show rowN W.drew gs = some (blA st (stR g)) from HS0.out)
      have Hk_0 := Lib.hid (show rowN W.drew gk = some (arr .u32 kk) from HK0.out)
      have Hx_0 := Lib.hid (show rowN W.drew gx = some #[.pointer (some ⟨gs, 0, none⟩)] from HX0.out)
      have Hc_0 := Lib.hid (show rowN W.drew g = some (cphA TB K) from HC0.out)
      have HL_0 := Lib.hid (show Below W.heap.size W W.drew from (Below.refl _ _).drew)
      refine regionIn_held' (fun W => rowN W gx = some #[.pointer (some ⟨gs, 0, none⟩)] ∧ rowN W gk = some (arr .u32 kk)) (by kernel_rfl) (by kernel_rfl) ⟨Hx_0.out, Hk_0.out⟩ (fun hHeld00 => ?_)
      obtain ⟨x00, hx0⟩ : ∃ X, W.drew = X := ⟨_, rfl⟩
      rw [hx0] at Hx_0 Hk_0 Hs_0 Hc_0 HL_0 hHeld00 ⊢
      clear hx0
      refine wpAnyH_take (i := 0) (oi := { dst := some 40, op := Op.load 63 (Operand.tmp 6), type := 63, pos := "aes.go:61", after := #[], guard := none }) (v := .pointer (some ⟨gs, 0, none⟩)) rfl (by kernel_rfl) (by kernel_rfl) (by kernel_rfl) (fun _ _ _ h => Exit.noConfusion h.1) (Or.inl ⟨by rfl, fun W hW => ?_⟩) hHeld00 ?_
      · (have hW1 := (rowN_cell hW.1).1 0; clear hW; go_simp)
      try simp only [Act.put, List.setIfInBounds_toArray, List.set_cons_zero, List.set_cons_succ]
      refine wpAnyH_take (i := 1) (oi := { dst := some 41, op := Op.makeFunc (Fn.func 51) #[Operand.tmp 40] #[], type := 1, pos := "aes.go:61", after := #[{ on := 0, ground := Ground.data }], guard := none }) (v := ?tk2) rfl (by kernel_rfl) (by kernel_rfl) (by kernel_rfl) (fun _ _ _ h => Exit.noConfusion h.1) (Or.inl ⟨by rfl, ?tw2⟩) hHeld00 ?_
      case tw2 => (intro W hW; clear hW; first | (go_simp; done) | (go_simp; with_reducible rfl))
      try simp only [Act.put, List.setIfInBounds_toArray, List.set_cons_zero, List.set_cons_succ]
      refine wpAnyH_take (i := 2) (oi := { dst := some 42, op := Op.load 63 (Operand.tmp 6), type := 63, pos := "aes.go:61", after := #[], guard := none }) (v := .pointer (some ⟨gs, 0, none⟩)) rfl (by kernel_rfl) (by kernel_rfl) (by kernel_rfl) (fun _ _ _ h => Exit.noConfusion h.1) (Or.inl ⟨by rfl, fun W hW => ?_⟩) hHeld00 ?_
      · (have hW1 := (rowN_cell hW.1).1 0; clear hW; go_simp)
      try simp only [Act.put, List.setIfInBounds_toArray, List.set_cons_zero, List.set_cons_succ]
      refine wpAnyH_take (i := 3) (oi := { dst := some 43, op := Op.nilCheck (Operand.tmp 42), type := 0, pos := "aes.go:61", after := #[{ on := 2, ground := Ground.data }], guard := none }) (v := ?tk3) rfl (by kernel_rfl) (by kernel_rfl) (by kernel_rfl) (fun _ _ _ h => Exit.noConfusion h.1) (Or.inl ⟨by rfl, ?tw3⟩) hHeld00 ?_
      case tw3 => (intro W hW; clear hW; first | (go_simp; done) | (go_simp; with_reducible rfl))
      try simp only [Act.put, List.setIfInBounds_toArray, List.set_cons_zero, List.set_cons_succ]
      refine wpAnyH_take (i := 4) (oi := { dst := some 44, op := Op.fieldAddr 82 (Operand.tmp 43) 0, type := 0, pos := "aes.go:61", after := #[{ on := 3, ground := Ground.data }], guard := none }) (v := ?tk4) rfl (by kernel_rfl) (by kernel_rfl) (by kernel_rfl) (fun _ _ _ h => Exit.noConfusion h.1) (Or.inl ⟨by rfl, ?tw4⟩) hHeld00 ?_
      case tw4 => (intro W hW; clear hW; first | (go_simp; done) | (go_simp; with_reducible rfl))
      try simp only [Act.put, List.setIfInBounds_toArray, List.set_cons_zero, List.set_cons_succ]
      refine wpAnyH_take (i := 5) (oi := { dst := some 45, op := Op.makeFunc (Fn.func 52) #[Operand.tmp 44] #[], type := 1, pos := "aes.go:61", after := #[{ on := 4, ground := Ground.data }], guard := none }) (v := ?tk5) rfl (by kernel_rfl) (by kernel_rfl) (by kernel_rfl) (fun _ _ _ h => Exit.noConfusion h.1) (Or.inl ⟨by rfl, ?tw5⟩) hHeld00 ?_
      case tw5 => (intro W hW; clear hW; first | (go_simp; done) | (go_simp; with_reducible rfl))
      try simp only [Act.put, List.setIfInBounds_toArray, List.set_cons_zero, List.set_cons_succ]
      refine wpAnyH_ready (rs := [6]) (by kernel_rfl) (by simp) ?_
      refine AllReadyH.cons (o := { dst := some 46, op := Op.buildSlice 92 2 #[(0, Operand.tmp 41), (1, Operand.tmp 45)], type := 92, pos := "aes.go:61", after := #[{ on := 1, ground := Ground.data }, { on := 5, ground := Ground.data }], guard := none }) rfl (fun K' hK => ?_) AllReadyH.nil
      go_simp
      obtain ⟨x01, hx1⟩ : ∃ X, x00.alloc (.cells #[.func (.func 51) #[.pointer (some ⟨gs, 0, none⟩)] #[], .func (.func 52) #[.pointer (some ⟨gs, 0, none⟩)] #[]] 1) = X := ⟨_, rfl⟩
      have hb : Below x00.heap.size x00 x01 := by rw [← hx1]; exact (Below.refl _ _).alloc (Nat.le_refl _) _
      have Hx_1 := Lib.hid (keptW hb Hx_0.out)
      have Hk_1 := Lib.hid (keptW hb Hk_0.out)
      have Hs_1 := Lib.hid (keptW hb Hs_0.out)
      have Hc_1 := Lib.hid (keptW hb Hc_0.out)
      have HL_1 := Lib.hid (HL_0.out.trans (hb.mono HL_0.out.size))
      have hnew : rowN x01 x00.heap.size = some #[.func (.func 51) #[.pointer (some ⟨gs, 0, none⟩)] #[], .func (.func 52) #[.pointer (some ⟨gs, 0, none⟩)] #[]] := by rw [← hx1, rowN_alloc, if_pos rfl]
      have hgel : W.heap.size ≤ x00.heap.size := HL_0.out.size
      have hlx_l := rowN_lt Hx_0.out
      have hlk_l := rowN_lt Hk_0.out
      have hls_l := rowN_lt Hs_0.out
      have hlc_l := rowN_lt Hc_0.out
      rw [hx1]
      obtain ⟨gl, hgl⟩ : ∃ g, x00.heap.size = g := ⟨_, rfl⟩
      rw [hgl] at hnew hgel hlx_l hlk_l hls_l hlc_l ⊢
      have Hl_1 := Lib.hid hnew
      clear hb hnew hgl hx1
      refine hK.out _ _ ⟨Hx_1.out, Hk_1.out⟩ (fun hHeld01 => ?_)
      clear hK K'
      try simp only [Act.put, List.setIfInBounds_toArray, List.set_cons_zero, List.set_cons_succ]
      refine wpAnyH_ready (rs := [7]) (by kernel_rfl) (by simp) ?_
      refine AllReadyH.cons (o := { dst := some 47, op := Op.call { callee := Callee.value (Operand.func 41), args := #[Operand.tmp 46], argTypes := #[92] }, type := 0, pos := "aes.go:61", after := #[{ on := 6, ground := Ground.data }], guard := none }) rfl (fun K' hK => ?_) AllReadyH.nil
      go_simp
      refine ((run_enc2 st gs g gl HCUR.out.1 HCUR.out.2 _ Hs_1.out (tt_of Hc_1.out) hng Hl_1.out (by omega))).mono ?_
      rintro e x02 ⟨rfl, h1, h2⟩
      have Hs_2 := Lib.hid h1
      have Hx_2 := Lib.hid ((grownBy_rowN h2 (rowN_lt Hx_1.out) (fun e => by injection e with e; omega)).trans Hx_1.out)
      have Hk_2 := Lib.hid ((grownBy_rowN h2 (rowN_lt Hk_1.out) (fun e => by injection e with e; omega)).trans Hk_1.out)
      have Hc_2 := Lib.hid ((grownBy_rowN h2 (rowN_lt Hc_1.out) (fun e => by injection e with e; omega)).trans Hc_1.out)
      have HG := Lib.hid (grownBy_trans (grown_of_below HL_1.out (some gs)) h2)
      clear h1 h2
      refine hK.out _ _ ⟨Hx_2.out, Hk_2.out⟩ (fun hHeld02 => ?_)
      clear hK K'
      try simp only [Act.put, List.setIfInBounds_toArray, List.set_cons_zero, List.set_cons_succ]
      refine wpAnyH_done (by kernel_rfl) ?_ _
      refine ⟨rfl, ?_⟩
      obtain ⟨Y0, hY⟩ : ∃ Y, Y = x02 := ⟨_, rfl⟩
      have HSn := Lib.hid (show rowN Y0 gs = some (blA (shL 1 (st.map (subW sb))) (stR g)) by rw [hY]; exact Hs_2.out)
      have HKn := Lib.hid (show rowN Y0 gk = some (arr .u32 kk) by rw [hY]; exact Hk_2.out)
      have HXn := Lib.hid (show rowN Y0 gx = some #[.pointer (some ⟨gs, 0, none⟩)] by rw [hY]; exact Hx_2.out)
      have HCn := Lib.hid (show rowN Y0 g = some (cphA TB K) by rw [hY]; exact Hc_2.out)
      have HGn := Lib.hid (show W.grownBy Y0 (some gs) by rw [hY]; exact HG.out)
      rw [← hY]
      clear hY hHeld02 HG Hs_2 Hk_2 Hx_2 Hc_2
      have HG0 := Lib.hid HGn.out
      have HS1 := HSn
      have HK1 := HKn
      have HX1 := HXn
      have HC1 := HCn
      have HCUR := Lib.hid (shift_lw (sub_lw HCUR0.out.1 HCUR0.out.2).1 (sub_lw HCUR0.out.1 HCUR0.out.2).2)
      clear HGn HSn HKn HXn HCn
      gi_wp2_with fail
      have Hs_0 := Lib.hid (show rowN Y0.drew gs = some (blA (shL 1 (st.map (subW sb))) (stR g)) from HS1.out)
      have Hk_0 := Lib.hid (show rowN Y0.drew gk = some (arr .u32 kk) from HK1.out)
      have Hx_0 := Lib.hid (show rowN Y0.drew gx = some #[.pointer (some ⟨gs, 0, none⟩)] from HX1.out)
      have Hc_0 := Lib.hid (show rowN Y0.drew g = some (cphA TB K) from HC1.out)
      have HL_0 := Lib.hid (show Below Y0.heap.size Y0 Y0.drew from (Below.refl _ _).drew)
      refine regionIn_held' (fun W => rowN W gx = some #[.pointer (some ⟨gs, 0, none⟩)] ∧ rowN W gk = some (arr .u32 kk)) (by kernel_rfl) (by kernel_rfl) ⟨Hx_0.out, Hk_0.out⟩ (fun hHeld010 => ?_)
      obtain ⟨x010, hx0⟩ : ∃ X, Y0.drew = X := ⟨_, rfl⟩
      rw [hx0] at Hx_0 Hk_0 Hs_0 Hc_0 HL_0 hHeld010 ⊢
      clear hx0
      refine wpAnyH_take (i := 0) (oi := { dst := some 48, op := Op.load 63 (Operand.tmp 6), type := 63, pos := "aes.go:65", after := #[], guard := none }) (v := .pointer (some ⟨gs, 0, none⟩)) rfl (by kernel_rfl) (by kernel_rfl) (by kernel_rfl) (fun _ _ _ h => Exit.noConfusion h.1) (Or.inl ⟨by rfl, fun W hW => ?_⟩) hHeld010 ?_
      · (have hW1 := (rowN_cell hW.1).1 0; clear hW; go_simp)
      try simp only [Act.put, List.setIfInBounds_toArray, List.set_cons_zero, List.set_cons_succ]
      refine wpAnyH_take (i := 1) (oi := { dst := some 49, op := Op.nilCheck (Operand.tmp 48), type := 0, pos := "aes.go:65", after := #[{ on := 0, ground := Ground.data }], guard := none }) (v := ?tk6) rfl (by kernel_rfl) (by kernel_rfl) (by kernel_rfl) (fun _ _ _ h => Exit.noConfusion h.1) (Or.inl ⟨by rfl, ?tw6⟩) hHeld010 ?_
      case tw6 => (intro W hW; clear hW; first | (go_simp; done) | (go_simp; with_reducible rfl))
      try simp only [Act.put, List.setIfInBounds_toArray, List.set_cons_zero, List.set_cons_succ]
      refine wpAnyH_take (i := 2) (oi := { dst := some 50, op := Op.fieldAddr 82 (Operand.tmp 49) 0, type := 0, pos := "aes.go:65", after := #[{ on := 1, ground := Ground.data }], guard := none }) (v := ?tk7) rfl (by kernel_rfl) (by kernel_rfl) (by kernel_rfl) (fun _ _ _ h => Exit.noConfusion h.1) (Or.inl ⟨by rfl, ?tw7⟩) hHeld010 ?_
      case tw7 => (intro W hW; clear hW; first | (go_simp; done) | (go_simp; with_reducible rfl))
      try simp only [Act.put, List.setIfInBounds_toArray, List.set_cons_zero, List.set_cons_succ]
      refine wpAnyH_take (i := 3) (oi := { dst := some 51, op := Op.load 72 (Operand.tmp 9), type := 72, pos := "aes.go:65", after := #[], guard := none }) (v := .agg (arr .u32 kk)) rfl (by kernel_rfl) (by kernel_rfl) (by kernel_rfl) (fun _ _ _ h => Exit.noConfusion h.1) (Or.inl ⟨by rfl, fun W hW => ?_⟩) hHeld010 ?_
      · (have hW1 := hW.2; clear hW; go_simp)
      try simp only [Act.put, List.setIfInBounds_toArray, List.set_cons_zero, List.set_cons_succ]
      refine wpAnyH_ready (rs := [4]) (by kernel_rfl) (by simp) ?_
      refine AllReadyH.cons (o := { dst := some 52, op := Op.call { callee := Callee.value (Operand.func 40), args := #[Operand.tmp 50, Operand.tmp 51], argTypes := #[72, 72] }, type := 0, pos := "aes.go:65", after := #[{ on := 2, ground := Ground.data }, { on := 3, ground := Ground.data }], guard := none }) rfl (fun K' hK => ?_) AllReadyH.nil
      go_simp
      refine ((add_any (shL 1 (st.map (subW sb))) kk (stR g) gs HCUR.out.1 HCUR.out.2 HKK.out.1 HKK.out.2 _ Hs_0.out)).mono ?_
      rintro e x011 ⟨rfl, h1, h2⟩
      have Hs_1 := Lib.hid h1
      have Hx_1 := Lib.hid ((grownBy_rowN h2 (rowN_lt Hx_0.out) (fun e => by injection e with e; omega)).trans Hx_0.out)
      have Hk_1 := Lib.hid ((grownBy_rowN h2 (rowN_lt Hk_0.out) (fun e => by injection e with e; omega)).trans Hk_0.out)
      have Hc_1 := Lib.hid ((grownBy_rowN h2 (rowN_lt Hc_0.out) (fun e => by injection e with e; omega)).trans Hc_0.out)
      have HG := Lib.hid (grownBy_trans (grown_of_below HL_0.out (some gs)) h2)
      clear h1 h2
      refine hK.out _ _ ⟨Hx_1.out, Hk_1.out⟩ (fun hHeld011 => ?_)
      clear hK K'
      try simp only [Act.put, List.setIfInBounds_toArray, List.set_cons_zero, List.set_cons_succ]
      refine wpAnyH_done (by kernel_rfl) ?_ _
      refine ⟨rfl, ?_⟩
      obtain ⟨Y1, hY⟩ : ∃ Y, Y = x011 := ⟨_, rfl⟩
      have HSn := Lib.hid (show rowN Y1 gs = some (blA (xorL (shL 1 (st.map (subW sb))) kk) (stR g)) by rw [hY]; exact Hs_1.out)
      have HKn := Lib.hid (show rowN Y1 gk = some (arr .u32 kk) by rw [hY]; exact Hk_1.out)
      have HXn := Lib.hid (show rowN Y1 gx = some #[.pointer (some ⟨gs, 0, none⟩)] by rw [hY]; exact Hx_1.out)
      have HCn := Lib.hid (show rowN Y1 g = some (cphA TB K) by rw [hY]; exact Hc_1.out)
      have HGn := Lib.hid (show Y0.grownBy Y1 (some gs) by rw [hY]; exact HG.out)
      rw [← hY]
      clear hY hHeld011 HG Hs_1 Hk_1 Hx_1 Hc_1
      have hKP : Keeps (fun j => j = gs) W Y1 := Keeps.of_grownBy (grownBy_trans HG0.out HGn.out) (fun r e => by cases e; rfl)
      have HE := Lib.hid (show RoundEnds V.heap.size (Keeps fun j => j = gs) (StI (encS (wordsL key) (wordsL zs)) K g gs gx w (k + 1)) (fun _ _ => False) W .normal Y1 from
        ⟨hKP.from (fun j hj h => by have := HSZ.out; have h2 : j = gs := h; omega), hKP, .inl ⟨rfl, by rw [HNEXT.out]; rw [if_neg hkz, if_pos hkt]; exact HSn.out, HXn.out, HCn.out, HBW.out.grown (grownBy_trans HG0.out HGn.out) HBW.out.size (fun r e => by cases e; exact hwgs)⟩⟩)
      clear hKP
      gi_wp2_with fail
      exact HE.out
    have hk0 : ¬ ((k : Nat) : Int) = 0 := by omega
    have hk10 : ¬ ((k : Nat) : Int) = 10 := by omega
    have HCUR := HCUR0
    gi_wp2_with fail
    have Hs_0 := Lib.hid (show rowN W.drew gs = some (blA st (stR g)) from HS0.out)
    have Hk_0 := Lib.hid (show rowN W.drew gk = some (arr .u32 kk) from HK0.out)
    have Hx_0 := Lib.hid (show rowN W.drew gx = some #[.pointer (some ⟨gs, 0, none⟩)] from HX0.out)
    have Hc_0 := Lib.hid (show rowN W.drew g = some (cphA TB K) from HC0.out)
    have HL_0 := Lib.hid (show Below W.heap.size W W.drew from (Below.refl _ _).drew)
    refine regionIn_held' (fun W => rowN W gx = some #[.pointer (some ⟨gs, 0, none⟩)] ∧ rowN W gk = some (arr .u32 kk)) (by kernel_rfl) (by kernel_rfl) ⟨Hx_0.out, Hk_0.out⟩ (fun hHeld00 => ?_)
    obtain ⟨x00, hx0⟩ : ∃ X, W.drew = X := ⟨_, rfl⟩
    rw [hx0] at Hx_0 Hk_0 Hs_0 Hc_0 HL_0 hHeld00 ⊢
    clear hx0
    refine wpAnyH_take (i := 0) (oi := { dst := some 24, op := Op.load 63 (Operand.tmp 6), type := 63, pos := "aes.go:63", after := #[], guard := none }) (v := .pointer (some ⟨gs, 0, none⟩)) rfl (by kernel_rfl) (by kernel_rfl) (by kernel_rfl) (fun _ _ _ h => Exit.noConfusion h.1) (Or.inl ⟨by rfl, fun W hW => ?_⟩) hHeld00 ?_
    · (have hW1 := (rowN_cell hW.1).1 0; clear hW; go_simp)
    try simp only [Act.put, List.setIfInBounds_toArray, List.set_cons_zero, List.set_cons_succ]
    refine wpAnyH_take (i := 1) (oi := { dst := some 25, op := Op.makeFunc (Fn.func 51) #[Operand.tmp 24] #[], type := 1, pos := "aes.go:63", after := #[{ on := 0, ground := Ground.data }], guard := none }) (v := ?tk8) rfl (by kernel_rfl) (by kernel_rfl) (by kernel_rfl) (fun _ _ _ h => Exit.noConfusion h.1) (Or.inl ⟨by rfl, ?tw8⟩) hHeld00 ?_
    case tw8 => (intro W hW; clear hW; first | (go_simp; done) | (go_simp; with_reducible rfl))
    try simp only [Act.put, List.setIfInBounds_toArray, List.set_cons_zero, List.set_cons_succ]
    refine wpAnyH_take (i := 2) (oi := { dst := some 26, op := Op.load 63 (Operand.tmp 6), type := 63, pos := "aes.go:63", after := #[], guard := none }) (v := .pointer (some ⟨gs, 0, none⟩)) rfl (by kernel_rfl) (by kernel_rfl) (by kernel_rfl) (fun _ _ _ h => Exit.noConfusion h.1) (Or.inl ⟨by rfl, fun W hW => ?_⟩) hHeld00 ?_
    · (have hW1 := (rowN_cell hW.1).1 0; clear hW; go_simp)
    try simp only [Act.put, List.setIfInBounds_toArray, List.set_cons_zero, List.set_cons_succ]
    refine wpAnyH_take (i := 3) (oi := { dst := some 27, op := Op.nilCheck (Operand.tmp 26), type := 0, pos := "aes.go:63", after := #[{ on := 2, ground := Ground.data }], guard := none }) (v := ?tk9) rfl (by kernel_rfl) (by kernel_rfl) (by kernel_rfl) (fun _ _ _ h => Exit.noConfusion h.1) (Or.inl ⟨by rfl, ?tw9⟩) hHeld00 ?_
    case tw9 => (intro W hW; clear hW; first | (go_simp; done) | (go_simp; with_reducible rfl))
    try simp only [Act.put, List.setIfInBounds_toArray, List.set_cons_zero, List.set_cons_succ]
    refine wpAnyH_take (i := 4) (oi := { dst := some 28, op := Op.fieldAddr 82 (Operand.tmp 27) 0, type := 0, pos := "aes.go:63", after := #[{ on := 3, ground := Ground.data }], guard := none }) (v := ?tk10) rfl (by kernel_rfl) (by kernel_rfl) (by kernel_rfl) (fun _ _ _ h => Exit.noConfusion h.1) (Or.inl ⟨by rfl, ?tw10⟩) hHeld00 ?_
    case tw10 => (intro W hW; clear hW; first | (go_simp; done) | (go_simp; with_reducible rfl))
    try simp only [Act.put, List.setIfInBounds_toArray, List.set_cons_zero, List.set_cons_succ]
    refine wpAnyH_take (i := 5) (oi := { dst := some 29, op := Op.makeFunc (Fn.func 52) #[Operand.tmp 28] #[], type := 1, pos := "aes.go:63", after := #[{ on := 4, ground := Ground.data }], guard := none }) (v := ?tk11) rfl (by kernel_rfl) (by kernel_rfl) (by kernel_rfl) (fun _ _ _ h => Exit.noConfusion h.1) (Or.inl ⟨by rfl, ?tw11⟩) hHeld00 ?_
    case tw11 => (intro W hW; clear hW; first | (go_simp; done) | (go_simp; with_reducible rfl))
    try simp only [Act.put, List.setIfInBounds_toArray, List.set_cons_zero, List.set_cons_succ]
    refine wpAnyH_take (i := 6) (oi := { dst := some 30, op := Op.load 63 (Operand.tmp 6), type := 63, pos := "aes.go:63", after := #[], guard := none }) (v := .pointer (some ⟨gs, 0, none⟩)) rfl (by kernel_rfl) (by kernel_rfl) (by kernel_rfl) (fun _ _ _ h => Exit.noConfusion h.1) (Or.inl ⟨by rfl, fun W hW => ?_⟩) hHeld00 ?_
    · (have hW1 := (rowN_cell hW.1).1 0; clear hW; go_simp)
    try simp only [Act.put, List.setIfInBounds_toArray, List.set_cons_zero, List.set_cons_succ]
    refine wpAnyH_take (i := 7) (oi := { dst := some 31, op := Op.nilCheck (Operand.tmp 30), type := 0, pos := "aes.go:63", after := #[{ on := 6, ground := Ground.data }], guard := none }) (v := ?tk12) rfl (by kernel_rfl) (by kernel_rfl) (by kernel_rfl) (fun _ _ _ h => Exit.noConfusion h.1) (Or.inl ⟨by rfl, ?tw12⟩) hHeld00 ?_
    case tw12 => (intro W hW; clear hW; first | (go_simp; done) | (go_simp; with_reducible rfl))
    try simp only [Act.put, List.setIfInBounds_toArray, List.set_cons_zero, List.set_cons_succ]
    refine wpAnyH_take (i := 8) (oi := { dst := some 32, op := Op.fieldAddr 82 (Operand.tmp 31) 0, type := 0, pos := "aes.go:63", after := #[{ on := 7, ground := Ground.data }], guard := none }) (v := ?tk13) rfl (by kernel_rfl) (by kernel_rfl) (by kernel_rfl) (fun _ _ _ h => Exit.noConfusion h.1) (Or.inl ⟨by rfl, ?tw13⟩) hHeld00 ?_
    case tw13 => (intro W hW; clear hW; first | (go_simp; done) | (go_simp; with_reducible rfl))
    try simp only [Act.put, List.setIfInBounds_toArray, List.set_cons_zero, List.set_cons_succ]
    refine wpAnyH_take (i := 9) (oi := { dst := some 33, op := Op.makeFunc (Fn.func 53) #[Operand.tmp 32] #[], type := 1, pos := "aes.go:63", after := #[{ on := 8, ground := Ground.data }], guard := none }) (v := ?tk14) rfl (by kernel_rfl) (by kernel_rfl) (by kernel_rfl) (fun _ _ _ h => Exit.noConfusion h.1) (Or.inl ⟨by rfl, ?tw14⟩) hHeld00 ?_
    case tw14 => (intro W hW; clear hW; first | (go_simp; done) | (go_simp; with_reducible rfl))
    try simp only [Act.put, List.setIfInBounds_toArray, List.set_cons_zero, List.set_cons_succ]
    refine wpAnyH_ready (rs := [10]) (by kernel_rfl) (by simp) ?_
    refine AllReadyH.cons (o := { dst := some 34, op := Op.buildSlice 92 3 #[(0, Operand.tmp 25), (1, Operand.tmp 29), (2, Operand.tmp 33)], type := 92, pos := "aes.go:63", after := #[{ on := 1, ground := Ground.data }, { on := 5, ground := Ground.data }, { on := 9, ground := Ground.data }], guard := none }) rfl (fun K' hK => ?_) AllReadyH.nil
    go_simp
    obtain ⟨x01, hx1⟩ : ∃ X, x00.alloc (.cells #[.func (.func 51) #[.pointer (some ⟨gs, 0, none⟩)] #[], .func (.func 52) #[.pointer (some ⟨gs, 0, none⟩)] #[], .func (.func 53) #[.pointer (some ⟨gs, 0, none⟩)] #[]] 1) = X := ⟨_, rfl⟩
    have hb : Below x00.heap.size x00 x01 := by rw [← hx1]; exact (Below.refl _ _).alloc (Nat.le_refl _) _
    have Hx_1 := Lib.hid (keptW hb Hx_0.out)
    have Hk_1 := Lib.hid (keptW hb Hk_0.out)
    have Hs_1 := Lib.hid (keptW hb Hs_0.out)
    have Hc_1 := Lib.hid (keptW hb Hc_0.out)
    have HL_1 := Lib.hid (HL_0.out.trans (hb.mono HL_0.out.size))
    have hnew : rowN x01 x00.heap.size = some #[.func (.func 51) #[.pointer (some ⟨gs, 0, none⟩)] #[], .func (.func 52) #[.pointer (some ⟨gs, 0, none⟩)] #[], .func (.func 53) #[.pointer (some ⟨gs, 0, none⟩)] #[]] := by rw [← hx1, rowN_alloc, if_pos rfl]
    have hgel : W.heap.size ≤ x00.heap.size := HL_0.out.size
    have hlx_l := rowN_lt Hx_0.out
    have hlk_l := rowN_lt Hk_0.out
    have hls_l := rowN_lt Hs_0.out
    have hlc_l := rowN_lt Hc_0.out
    rw [hx1]
    obtain ⟨gl, hgl⟩ : ∃ g, x00.heap.size = g := ⟨_, rfl⟩
    rw [hgl] at hnew hgel hlx_l hlk_l hls_l hlc_l ⊢
    have Hl_1 := Lib.hid hnew
    clear hb hnew hgl hx1
    refine hK.out _ _ ⟨Hx_1.out, Hk_1.out⟩ (fun hHeld01 => ?_)
    clear hK K'
    try simp only [Act.put, List.setIfInBounds_toArray, List.set_cons_zero, List.set_cons_succ]
    refine wpAnyH_ready (rs := [11]) (by kernel_rfl) (by simp) ?_
    refine AllReadyH.cons (o := { dst := some 35, op := Op.call { callee := Callee.value (Operand.func 41), args := #[Operand.tmp 34], argTypes := #[92] }, type := 0, pos := "aes.go:63", after := #[{ on := 10, ground := Ground.data }], guard := none }) rfl (fun K' hK => ?_) AllReadyH.nil
    go_simp
    refine ((run_enc3 st gs g gl HCUR.out.1 HCUR.out.2 _ Hs_1.out (tt_of Hc_1.out) hng Hl_1.out (by omega))).mono ?_
    rintro e x02 ⟨rfl, h1, h2⟩
    have Hs_2 := Lib.hid h1
    have Hx_2 := Lib.hid ((grownBy_rowN h2 (rowN_lt Hx_1.out) (fun e => by injection e with e; omega)).trans Hx_1.out)
    have Hk_2 := Lib.hid ((grownBy_rowN h2 (rowN_lt Hk_1.out) (fun e => by injection e with e; omega)).trans Hk_1.out)
    have Hc_2 := Lib.hid ((grownBy_rowN h2 (rowN_lt Hc_1.out) (fun e => by injection e with e; omega)).trans Hc_1.out)
    have HG := Lib.hid (grownBy_trans (grown_of_below HL_1.out (some gs)) h2)
    clear h1 h2
    refine hK.out _ _ ⟨Hx_2.out, Hk_2.out⟩ (fun hHeld02 => ?_)
    clear hK K'
    try simp only [Act.put, List.setIfInBounds_toArray, List.set_cons_zero, List.set_cons_succ]
    refine wpAnyH_done (by kernel_rfl) ?_ _
    refine ⟨rfl, ?_⟩
    obtain ⟨Y0, hY⟩ : ∃ Y, Y = x02 := ⟨_, rfl⟩
    have HSn := Lib.hid (show rowN Y0 gs = some (blA ((shL 1 (st.map (subW sb))).map mixW) (stR g)) by rw [hY]; exact Hs_2.out)
    have HKn := Lib.hid (show rowN Y0 gk = some (arr .u32 kk) by rw [hY]; exact Hk_2.out)
    have HXn := Lib.hid (show rowN Y0 gx = some #[.pointer (some ⟨gs, 0, none⟩)] by rw [hY]; exact Hx_2.out)
    have HCn := Lib.hid (show rowN Y0 g = some (cphA TB K) by rw [hY]; exact Hc_2.out)
    have HGn := Lib.hid (show W.grownBy Y0 (some gs) by rw [hY]; exact HG.out)
    rw [← hY]
    clear hY hHeld02 HG Hs_2 Hk_2 Hx_2 Hc_2
    have HG0 := Lib.hid HGn.out
    have HS1 := HSn
    have HK1 := HKn
    have HX1 := HXn
    have HC1 := HCn
    have HCUR := Lib.hid (mix_lw (shift_lw (sub_lw HCUR0.out.1 HCUR0.out.2).1 (sub_lw HCUR0.out.1 HCUR0.out.2).2).1 (shift_lw (sub_lw HCUR0.out.1 HCUR0.out.2).1 (sub_lw HCUR0.out.1 HCUR0.out.2).2).2)
    clear HGn HSn HKn HXn HCn
    gi_wp2_with fail
    have Hs_0 := Lib.hid (show rowN Y0.drew gs = some (blA ((shL 1 (st.map (subW sb))).map mixW) (stR g)) from HS1.out)
    have Hk_0 := Lib.hid (show rowN Y0.drew gk = some (arr .u32 kk) from HK1.out)
    have Hx_0 := Lib.hid (show rowN Y0.drew gx = some #[.pointer (some ⟨gs, 0, none⟩)] from HX1.out)
    have Hc_0 := Lib.hid (show rowN Y0.drew g = some (cphA TB K) from HC1.out)
    have HL_0 := Lib.hid (show Below Y0.heap.size Y0 Y0.drew from (Below.refl _ _).drew)
    refine regionIn_held' (fun W => rowN W gx = some #[.pointer (some ⟨gs, 0, none⟩)] ∧ rowN W gk = some (arr .u32 kk)) (by kernel_rfl) (by kernel_rfl) ⟨Hx_0.out, Hk_0.out⟩ (fun hHeld010 => ?_)
    obtain ⟨x010, hx0⟩ : ∃ X, Y0.drew = X := ⟨_, rfl⟩
    rw [hx0] at Hx_0 Hk_0 Hs_0 Hc_0 HL_0 hHeld010 ⊢
    clear hx0
    refine wpAnyH_take (i := 0) (oi := { dst := some 48, op := Op.load 63 (Operand.tmp 6), type := 63, pos := "aes.go:65", after := #[], guard := none }) (v := .pointer (some ⟨gs, 0, none⟩)) rfl (by kernel_rfl) (by kernel_rfl) (by kernel_rfl) (fun _ _ _ h => Exit.noConfusion h.1) (Or.inl ⟨by rfl, fun W hW => ?_⟩) hHeld010 ?_
    · (have hW1 := (rowN_cell hW.1).1 0; clear hW; go_simp)
    try simp only [Act.put, List.setIfInBounds_toArray, List.set_cons_zero, List.set_cons_succ]
    refine wpAnyH_take (i := 1) (oi := { dst := some 49, op := Op.nilCheck (Operand.tmp 48), type := 0, pos := "aes.go:65", after := #[{ on := 0, ground := Ground.data }], guard := none }) (v := ?tk15) rfl (by kernel_rfl) (by kernel_rfl) (by kernel_rfl) (fun _ _ _ h => Exit.noConfusion h.1) (Or.inl ⟨by rfl, ?tw15⟩) hHeld010 ?_
    case tw15 => (intro W hW; clear hW; first | (go_simp; done) | (go_simp; with_reducible rfl))
    try simp only [Act.put, List.setIfInBounds_toArray, List.set_cons_zero, List.set_cons_succ]
    refine wpAnyH_take (i := 2) (oi := { dst := some 50, op := Op.fieldAddr 82 (Operand.tmp 49) 0, type := 0, pos := "aes.go:65", after := #[{ on := 1, ground := Ground.data }], guard := none }) (v := ?tk16) rfl (by kernel_rfl) (by kernel_rfl) (by kernel_rfl) (fun _ _ _ h => Exit.noConfusion h.1) (Or.inl ⟨by rfl, ?tw16⟩) hHeld010 ?_
    case tw16 => (intro W hW; clear hW; first | (go_simp; done) | (go_simp; with_reducible rfl))
    try simp only [Act.put, List.setIfInBounds_toArray, List.set_cons_zero, List.set_cons_succ]
    refine wpAnyH_take (i := 3) (oi := { dst := some 51, op := Op.load 72 (Operand.tmp 9), type := 72, pos := "aes.go:65", after := #[], guard := none }) (v := .agg (arr .u32 kk)) rfl (by kernel_rfl) (by kernel_rfl) (by kernel_rfl) (fun _ _ _ h => Exit.noConfusion h.1) (Or.inl ⟨by rfl, fun W hW => ?_⟩) hHeld010 ?_
    · (have hW1 := hW.2; clear hW; go_simp)
    try simp only [Act.put, List.setIfInBounds_toArray, List.set_cons_zero, List.set_cons_succ]
    refine wpAnyH_ready (rs := [4]) (by kernel_rfl) (by simp) ?_
    refine AllReadyH.cons (o := { dst := some 52, op := Op.call { callee := Callee.value (Operand.func 40), args := #[Operand.tmp 50, Operand.tmp 51], argTypes := #[72, 72] }, type := 0, pos := "aes.go:65", after := #[{ on := 2, ground := Ground.data }, { on := 3, ground := Ground.data }], guard := none }) rfl (fun K' hK => ?_) AllReadyH.nil
    go_simp
    refine ((add_any ((shL 1 (st.map (subW sb))).map mixW) kk (stR g) gs HCUR.out.1 HCUR.out.2 HKK.out.1 HKK.out.2 _ Hs_0.out)).mono ?_
    rintro e x011 ⟨rfl, h1, h2⟩
    have Hs_1 := Lib.hid h1
    have Hx_1 := Lib.hid ((grownBy_rowN h2 (rowN_lt Hx_0.out) (fun e => by injection e with e; omega)).trans Hx_0.out)
    have Hk_1 := Lib.hid ((grownBy_rowN h2 (rowN_lt Hk_0.out) (fun e => by injection e with e; omega)).trans Hk_0.out)
    have Hc_1 := Lib.hid ((grownBy_rowN h2 (rowN_lt Hc_0.out) (fun e => by injection e with e; omega)).trans Hc_0.out)
    have HG := Lib.hid (grownBy_trans (grown_of_below HL_0.out (some gs)) h2)
    clear h1 h2
    refine hK.out _ _ ⟨Hx_1.out, Hk_1.out⟩ (fun hHeld011 => ?_)
    clear hK K'
    try simp only [Act.put, List.setIfInBounds_toArray, List.set_cons_zero, List.set_cons_succ]
    refine wpAnyH_done (by kernel_rfl) ?_ _
    refine ⟨rfl, ?_⟩
    obtain ⟨Y1, hY⟩ : ∃ Y, Y = x011 := ⟨_, rfl⟩
    have HSn := Lib.hid (show rowN Y1 gs = some (blA (xorL ((shL 1 (st.map (subW sb))).map mixW) kk) (stR g)) by rw [hY]; exact Hs_1.out)
    have HKn := Lib.hid (show rowN Y1 gk = some (arr .u32 kk) by rw [hY]; exact Hk_1.out)
    have HXn := Lib.hid (show rowN Y1 gx = some #[.pointer (some ⟨gs, 0, none⟩)] by rw [hY]; exact Hx_1.out)
    have HCn := Lib.hid (show rowN Y1 g = some (cphA TB K) by rw [hY]; exact Hc_1.out)
    have HGn := Lib.hid (show Y0.grownBy Y1 (some gs) by rw [hY]; exact HG.out)
    rw [← hY]
    clear hY hHeld011 HG Hs_1 Hk_1 Hx_1 Hc_1
    have hKP : Keeps (fun j => j = gs) W Y1 := Keeps.of_grownBy (grownBy_trans HG0.out HGn.out) (fun r e => by cases e; rfl)
    have HE := Lib.hid (show RoundEnds V.heap.size (Keeps fun j => j = gs) (StI (encS (wordsL key) (wordsL zs)) K g gs gx w (k + 1)) (fun _ _ => False) W .normal Y1 from
      ⟨hKP.from (fun j hj h => by have := HSZ.out; have h2 : j = gs := h; omega), hKP, .inl ⟨rfl, by rw [HNEXT.out]; rw [if_neg hkz, if_neg hkt]; exact HSn.out, HXn.out, HCn.out, HBW.out.grown (grownBy_trans HG0.out HGn.out) HBW.out.size (fun r e => by cases e; exact hwgs)⟩⟩)
    clear hKP
    gi_wp2_with fail
    exact HE.out
  case done =>
    rintro D U hD ⟨hs1, hx1, hc1, hb1⟩ hKD
    have HCUR := Lib.hid (encS_lw (wordsL_len key) HKW.out (wordsL_len zs) HZW.out 11)
    obtain ⟨st, hst⟩ : ∃ z, (encS (wordsL key) (wordsL zs)) 11 = z := ⟨_, rfl⟩
    rw [hst] at hs1 HCUR
    have HST := Lib.hid hst
    have HBY := Lib.hid (bytes_any st (stR g) gs HCUR.out.1 HCUR.out.2 U hs1)
    have hcx := (rowN_cell hx1).1 0
    have HBU := Lib.hid hb1
    have HKD := Lib.hid hKD
    have hDl : D < U.heap.size := (Array.getElem?_eq_some_iff.1 hKD).1
    have hwD : w.heap.size ≤ D := by have := HSZ.out; omega
    clear hs1 hx1 hc1 hb1 hKD hst
    go_wp2_with fail
    refine HBY.out.mono ?_
    rintro e U2 ⟨s', rfl, hby, hn0, hin, hnf, hb2⟩
    have HNF := Lib.hid hnf
    have HBY2 := Lib.hid hby
    have HN2 := Lib.hid hn0
    have HIN := Lib.hid hin
    have HB2 := Lib.hid (bthen HBU.out hb2)
    have HKD2 := Lib.hid ((hb2.block D hDl).trans HKD.out)
    have HUS := Lib.hid HBU.out.size
    clear hby hn0 hin hnf hb2 hcx HBY
    go_wp2_with fail
    refine ⟨by simp, .inl ⟨_, _, rfl, run_takeDeferred HKD2.out, ?_⟩⟩
    exact ⟨_, results_pair rfl rfl rfl, s', rfl, (by rw [HST.out]; exact HBY2.out.putObj _ HKD2.out rfl), HN2.out, fun j hj => Nat.le_trans HUS.out (HIN.out j hj), NF.putObj HBY2.out HNF.out _ HKD2.out rfl, HB2.out.grown (grownBy_putObj' _ _ _) HB2.out.size (fun r e => by cases e; exact hwD)⟩
  case stop =>
    rintro D k c V hD hk hx hK
    exact hx.elim
end Go.Proofs.YtjcdbjapadgdfaaDoor
