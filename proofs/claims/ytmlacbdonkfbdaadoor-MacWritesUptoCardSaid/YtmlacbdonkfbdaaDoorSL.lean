/- padded: the blocks of a padded string. -/
import Derived.Deep.RegionHeld3
import Derived.Test.YtmlacbdonkfbdaaDoorSJ
namespace Go.Proofs.YtmlacbdonkfbdaaDoor
open Go.RowKit Go.Shelf

attribute [local go_sem] Oper.semAt_some

theorem Yields.mono {n gf : Nat} {lb : Array Value} {N : Nat} {Φ Φ' : Nat → Value → World → Prop} {Rd : Nat → Prop} {own : Value → Nat → Prop} {w : World} (h : Yields n gf lb N Φ Rd own w) (hp : ∀ k v V, k < N → Φ k v V → Φ' k v V) : Yields n gf lb N Φ' Rd own w :=
  fun l J Jx M W hW hM hJ hJx hY h0 => h l J Jx M W hW hM hJ hJx (fun k v V hk hj hf => hY k v V hk hj (hp k v V hk hf)) h0

theorem whole_yields (n gb : Nat) (zs : List Nat) (s : Value) (w : World) (hB : BytesAt zs s w) (hg : rowN w gb = some #[s]) :
    Yields n 49 #[.pointer (some ⟨gb, 0, none⟩)] (zs.length / 64) (fun k v _ => ∃ b off c, s = .slice (some ⟨b, off, none⟩) zs.length c ∧ v = wblk b off k) (fun _ => False) (fun _ _ => False) w := by
  obtain ⟨h1, a, c, rfl, hc, h⟩ := hB
  by_cases hL : zs.length < 64
  · rw [Nat.div_eq_of_lt hL]
    exact whole1_yields0 n gb a zs.length c hL _ w hg
  · rcases h with h | ⟨b, off, rfl, hlt, hj⟩
    · omega
    · exact (whole1_yields n gb b off zs.length c _ rfl hc w hg).mono fun k v V _ e => ⟨b, off, c, rfl, e⟩

/-- What is left of a padded string of n bytes. -/
def padR (zs : List Nat) (n : Nat) : List Nat := zs.take (zs.length / 64 * 64) ++ endL (zs.drop (zs.length / 64 * 64)) n
theorem padR_q (zs : List Nat) : (zs.take (zs.length / 64 * 64)).length = zs.length / 64 * 64 := by rw [List.length_take]; omega
theorem padR_len (zs : List Nat) (n : Nat) : (padR zs n).length / 64 = zs.length / 64 + (endL (zs.drop (zs.length / 64 * 64)) n).length / 64 := by
  unfold padR; rw [List.length_append, padR_q]; omega
theorem padR_front (zs : List Nat) (n : Nat) {k : Nat} (hk : k < zs.length / 64) : ((padR zs n).drop (64 * k)).take 64 = (zs.drop (64 * k)).take 64 := by
  unfold padR
  rw [List.drop_append_of_le_length (by rw [padR_q]; omega), List.take_append_of_le_length (by rw [List.length_drop, padR_q]; omega), List.drop_take, List.take_take]
  congr 1; omega
theorem padR_back (zs : List Nat) (n k : Nat) : ((padR zs n).drop (64 * (zs.length / 64 + k))).take 64 = ((endL (zs.drop (zs.length / 64 * 64)) n).drop (64 * k)).take 64 := by
  unfold padR
  rw [List.drop_append, padR_q, List.drop_eq_nil_of_le (by rw [padR_q]; omega), List.nil_append]
  congr 2; omega

theorem OwnFrom.mono {β : Type} {B B' : Nat} {I : β → World → Prop} (h : OwnFrom B I) (hB : B ≤ B') : OwnFrom B' I := fun s W W' row hs hg hr => h s W W' row hs hg fun r e => by obtain ⟨h1, h2⟩ := hr r e; exact ⟨by omega, h2⟩
/-- Nothing but M has turned since W, and J is true. -/
theorem own_keeps {J : Nat → World → Prop} {M : Nat → Prop} {B B' : Nat} {V : World} (hJ : OwnFrom B J) (hB : B ≤ B') (hV : V.heap.size ≤ B') (f : Nat → Nat) : OwnFrom B' (fun k X => J (f k) X ∧ Keeps M V X) := by
  intro k X Y row hs hg hr
  refine ⟨(OwnFrom.mono hJ hB) (f k) X Y row hs.1 hg hr, ⟨Nat.le_trans hs.2.size hg.size, fun j hj hm => (hg.block j (Nat.lt_of_lt_of_le hj hs.2.size) fun e => ?_).trans (hs.2.same j hj hm)⟩⟩
  have := (hr j e.symm).1
  omega
theorem Keeps.put {M : Nat → Prop} {A B : World} (h : Keeps M A B) {D : Nat} (hD : A.heap.size ≤ D) (o : Obj) : Keeps M A (B.putObj D o) :=
  ⟨by simp; exact h.size, fun j hj hm => (World.putObj_heap_other (by omega)).trans (h.same j hj hm)⟩

set_option maxRecDepth 100000 in
set_option maxHeartbeats 1000000 in
theorem padded1_yields (m gb gn : Nat) (zs : List Nat) (s : Value) (n : Nat) (hn : n ≤ 140737488355328) (hL : zs.length ≤ 9223372036854775807) (w : World) (hgb : rowN w gb = some #[s]) (hgn : rowN w gn = some #[.int .i64 (n : Nat)])
    (hB : BytesAt zs s w) (hnil : Nil0 s) :
    Yields m 55 #[.pointer (some ⟨gb, 0, none⟩), .pointer (some ⟨gn, 0, none⟩)] ((padR zs n).length / 64) (fun k v V => BytesAt (((padR zs n).drop (64 * k)).take 64) v V) (fun j => j = gb ∨ j = gn ∨ (0 < zs.length ∧ InS s j)) (fun _ _ => False) w := by
  intro l J Jx M W hW hM hJ hJx hY h0
  have HM := Lib.hid hM
  have HOJ := Lib.hid hJ
  have HOX := Lib.hid hJx
  have HY := Lib.hid hY
  have H0 := Lib.hid h0
  have HGB := Lib.hid (keptW hW hgb)
  have HGN := Lib.hid (keptW hW hgn)
  have HB := Lib.hid (hB.kept hW)
  have HNIL := Lib.hid hnil
  have HS := Lib.hid (rfl : s = s)
  have c1 := (rowN_cell HGB.out).1 0
  have sb1 := rowN_lt HGB.out
  have sn1 := rowN_lt HGN.out
  clear hM hJ hJx hY h0 hgb hgn hB hnil hW HS
  refine callsIn_of_wp_marks Tryd.func55 rfl trivial ?_ rfl
  simp only [Tryd.ntmps55, List.size_toArray, List.length_cons, List.length_nil, Nat.reduceAdd, Nat.reduceSub, Array.replicate_succ, Array.replicate_zero, List.push_toArray, List.append_toArray, List.nil_append, List.cons_append]
  have HW3 := Lib.hid (fun V => show Calls Tryd.prog 37 #[s] V (fun e w' => e = .returned (.func (.func 49) #[] #[.pointer (some ⟨V.heap.size, 0, none⟩)]) ∧ w' = V.alloc (.cells #[s] 22)) by
    obtain ⟨_, a, c, rfl, _, _⟩ := HB.out
    exact whole_any a zs.length c V)
  refine wpIn_wide.2 ?_
  go_wp2_with fail
  refine (HW3.out _).mono ?_
  rintro e w1 ⟨rfl, rfl⟩
  go_wp2_with fail
  have hk0 : Keeps M W ((W.alloc (.cells #[.func (.yield l) #[] #[]] 58)).alloc (.cells #[s] 22)) := Keeps.of_below (((Below.refl _ W).alloc (Nat.le_refl _) _).alloc (by simp) _)
  have hy0 : rowN ((W.alloc (.cells #[.func (.yield l) #[] #[]] 58)).alloc (.cells #[s] 22)) W.heap.size = some #[.func (.yield l) #[] #[]] := by
    rw [rowN_alloc, if_neg (by simp), rowN_alloc, if_pos rfl]
  have hs0 : rowN ((W.alloc (.cells #[.func (.yield l) #[] #[]] 58)).alloc (.cells #[s] 22)) (W.heap.size + 1) = some #[s] := by
    rw [rowN_alloc, if_pos (by simp)]
  have hj0 : J 0 ((W.alloc (.cells #[.func (.yield l) #[] #[]] 58)).alloc (.cells #[s] 22)) := HOJ.out.alloc _ (HOJ.out.alloc _ H0.out)
  have hz0 : ((W.alloc (.cells #[.func (.yield l) #[] #[]] 58)).alloc (.cells #[s] 22)).heap.size = W.heap.size + 2 := by simp
  generalize (W.alloc (.cells #[.func (.yield l) #[] #[]] 58)).alloc (.cells #[s] 22) = W0 at *
  have HNM := Lib.hid (fun j => show (j = gb ∨ j = gn ∨ (0 < zs.length ∧ InS s j) ∨ W.heap.size ≤ j) → ¬ M j from fun h hm => by
    have := HM.out j hm
    rcases h with h | h | h | h
    · exact this.2 (.inl h)
    · exact this.2 (.inr (.inl h))
    · exact this.2 (.inr (.inr h))
    · omega)
  have HBK := Lib.hid (HB.out.keeps hk0 fun j h0 h => HNM.out j (.inr (.inr (.inl ⟨h0, h⟩))))
  have HKW := Lib.hid hk0
  have HREST := Lib.hid (fun V (h : BytesAt zs s V) => show Calls Tryd.prog 38 #[s] V (fun e w' => ∃ s', e = .returned s' ∧ BytesAt (zs.drop (zs.length / 64 * 64)) s' V ∧ Nil0 s' ∧ V = w') by
    obtain ⟨_, a, c, rfl, _, _⟩ := HB.out
    exact rest_any zs a c V h hL HNIL.out)
  have HEND := Lib.hid (fun V (s' : Value) (h : BytesAt (zs.drop (zs.length / 64 * 64)) s' V) (h2 : Nil0 s') => ending_any (zs.drop (zs.length / 64 * 64)) s' n (by rw [List.length_drop]; omega) hn V h h2)
  have HWH := Lib.hid (fun V (s' : Value) (zs' : List Nat) (h : BytesAt zs' s' V) => show Calls Tryd.prog 37 #[s'] V (fun e w' => e = .returned (.func (.func 49) #[] #[.pointer (some ⟨V.heap.size, 0, none⟩)]) ∧ w' = V.alloc (.cells #[s'] 22)) by
    obtain ⟨_, a, c, rfl, _, _⟩ := h
    exact whole_any a zs'.length c V)
  have HY0 := Lib.hid hy0
  have HS0 := Lib.hid hs0
  have HJ0 := Lib.hid hj0
  clear hk0 hy0 hs0 hj0 c1
  refine (wpIn_wide (n := 5)).1 ?_
  refine range_yields (by omega) (gf := 49) (lb := #[.pointer (some ⟨W.heap.size + 1, 0, none⟩)]) rfl (enters_of Tryd.func49 (by kernel_rfl) rfl) (whole_yields (5 - 1) (W.heap.size + 1) zs s W0 HBK.out HS0.out)
    M (fun j h => ⟨by have := (HM.out j h).1; omega, fun h => h⟩) (fun _ h => h.elim) (fun k v V l o o' h _ _ => h) (Below.refl _ _)
    (fun k V => J k V ∧ Keeps M W0 V) (fun c k V => c = .ret ∧ Jx k V) (own_keeps HOJ.out (by omega) (Nat.le_refl _) (fun k => k))
    (fun c k X Y row hs hg hr => ⟨hs.1, (OwnFrom.mono HOX.out (by omega)) k X Y row hs.2 hg hr⟩) ⟨HJ0.out, Keeps.refl _ _⟩ ?a1 ?assign ?body ?done ?stop
  case assign =>
    intro l2 v V k hk
    gi_wp2
    exact hk
  case body =>
    rintro l2 k v V hk ⟨hj, hkp⟩ ⟨b, off, c, hs, rfl⟩
    have hbk : BytesAt ((zs.drop (64 * k)).take 64) (wblk b off k) V := BytesAt.blk (by rw [← hs]; exact HBK.out.keeps hkp fun j h0 h => HNM.out j (.inr (.inr (.inl ⟨h0, h⟩)))) (by omega)
    rw [← padR_front zs n hk] at hbk
    have HKP := Lib.hid hkp
    have cy := (rowN_cell (hkp.row HY0.out (HNM.out _ (.inr (.inr (.inr (Nat.le_refl _))))))).1 0
    obtain ⟨fn, tmps, assign, body, hy, hR⟩ := YieldAt.wideTo (m := 5 - 1 - 1 - 1) (HY.out k (wblk b off k) V (by rw [padR_len]; omega) hj hbk) l2
    have HR := Lib.hid hR
    clear hbk hkp hR hs hj
    gi_wp2_with fail
    refine HR.out.mono ?_
    rintro e3 W3 ⟨hk3, (⟨rfl, hJ3⟩ | ⟨rfl, hJx3⟩)⟩
    · have HE := Lib.hid (show RoundEnds W0.heap.size (Keeps fun j => M j ∨ False) (fun X => J (k + 1) X ∧ Keeps M W0 X) (fun c X => c = .ret ∧ Jx (k + 1) X) V .normal W3 from
        ⟨hk3.from (fun j hj h => by rcases h with h | h; exact HNM.out j (.inr (.inr (.inr (by omega)))) h; exact h), hk3, .inl ⟨rfl, hJ3, HKP.out.trans (hk3.weaken fun j _ h => h.elim id False.elim)⟩⟩)
      clear hk3 hJ3
      gi_wp2_with fail
      exact HE.out
    · have HE := Lib.hid (show RoundEnds W0.heap.size (Keeps fun j => M j ∨ False) (fun X => J (k + 1) X ∧ Keeps M W0 X) (fun c X => c = .ret ∧ Jx (k + 1) X) V .ret W3 from
        ⟨hk3.from (fun j hj h => by rcases h with h | h; exact HNM.out j (.inr (.inr (.inr (by omega)))) h; exact h), hk3, .inr (.inl ⟨rfl, rfl, hJx3⟩)⟩)
      clear hk3 hJx3
      gi_wp2_with fail
      exact HE.out
  case done =>
    rintro D V hD ⟨hj, hkp⟩ hK
    have hgbV := hkp.row (HKW.out.row HGB.out (HNM.out _ (.inl rfl))) (HNM.out _ (.inl rfl))
    have hgnV := hkp.row (HKW.out.row HGN.out (HNM.out _ (.inr (.inl rfl)))) (HNM.out _ (.inr (.inl rfl)))
    have hyV := hkp.row HY0.out (HNM.out _ (.inr (.inr (.inr (Nat.le_refl _)))))
    have c1 := (rowN_cell hgbV).1 0
    have c2 := (rowN_cell hgnV).1 0
    have HBV := Lib.hid (HBK.out.keeps hkp fun j h0 h => HNM.out j (.inr (.inr (.inl ⟨h0, h⟩))))
    have HYV := Lib.hid hyV
    have HKV := Lib.hid (show V.heap[D]? = some (.deferred (some [])) from hK)
    have HJV := Lib.hid hj
    have hDV : D < V.heap.size := (Array.getElem?_eq_some_iff.1 hK).1
    have hq : W0.heap.size ≤ V.heap.size := hkp.size
    have HG1 := Lib.hid (show rowN V.drew gb = some #[s] from hgbV)
    have HG2 := Lib.hid (show rowN V.drew gn = some #[.int .i64 (n : Nat)] from hgnV)
    clear hkp hgbV hgnV hyV hK hj c1 c2
    go_wp2_with fail
    refine wp_region_noPanic ?_
    refine wp_region_held_drew (S := fun W => rowN W gb = some #[s] ∧ rowN W gn = some #[.int .i64 (n : Nat)]) (by kernel_rfl) ⟨HG1.out, HG2.out⟩ (fun hHeld0 => ?_)
    have HD := Lib.hid (show Below V.heap.size V V.drew from (Below.refl _ V).drew)
    obtain ⟨x0, hx0⟩ : ∃ X, V.drew = X := ⟨_, rfl⟩
    rw [hx0] at HG1 HG2 HD hHeld0 ⊢
    clear hx0
    have HBV0 := Lib.hid (HBV.out.kept HD.out)
    refine wpAnyH_take (i := 0) (oi := { dst := some 13, op := Op.load 22 (Operand.tmp 1), type := 22, pos := "blocks.go:35", after := #[], guard := none }) (v := s) rfl (by kernel_rfl) (by kernel_rfl) (by kernel_rfl) (fun _ _ _ h => h) (Or.inl ⟨by rfl, fun W hW => ?_⟩) hHeld0 ?_
    · (have hW1 := (rowN_cell hW.1).1 0; clear hW; go_simp)
    try simp only [Act.put, List.setIfInBounds_toArray, List.set_cons_zero, List.set_cons_succ]
    refine wpAnyH_take (i := 2) (oi := { dst := some 15, op := Op.load 3 (Operand.tmp 2), type := 3, pos := "blocks.go:35", after := #[], guard := none }) (v := .int .i64 (n : Nat)) rfl (by kernel_rfl) (by kernel_rfl) (by kernel_rfl) (fun _ _ _ h => h) (Or.inl ⟨by rfl, fun W hW => ?_⟩) hHeld0 ?_
    · (have hW1 := (rowN_cell hW.2).1 0; clear hW; go_simp)
    try simp only [Act.put, List.setIfInBounds_toArray, List.set_cons_zero, List.set_cons_succ]
    refine wpAnyH_ready (rs := [1]) (by kernel_rfl) (by simp) ?_
    refine AllReadyH.cons (o := { dst := some 14, op := Op.call { callee := Callee.value (Operand.func 38), args := #[Operand.tmp 13], argTypes := #[22] }, type := 22, pos := "blocks.go:35", after := #[{ on := 0, ground := Ground.data }], guard := none }) rfl (fun K' hK => ?_) AllReadyH.nil
    go_simp
    refine (HREST.out _ HBV0.out).mono ?_
    rintro e x1 ⟨s1, rfl, hb1, hn1, rfl⟩
    refine hK.out _ _ ⟨HG1.out, HG2.out⟩ (fun hHeld1 => ?_)
    clear hK K'
    try simp only [Act.put, List.setIfInBounds_toArray, List.set_cons_zero, List.set_cons_succ]
    refine wpAnyH_ready (rs := [3]) (by kernel_rfl) (by simp) ?_
    refine AllReadyH.cons (o := { dst := some 16, op := Op.call { callee := Callee.value (Operand.func 56), args := #[Operand.tmp 14, Operand.tmp 15], argTypes := #[22, 3] }, type := 22, pos := "blocks.go:35", after := #[{ on := 1, ground := Ground.data }, { on := 2, ground := Ground.data }, { on := 1, ground := Ground.chain }], guard := none }) rfl (fun K' hK => ?_) AllReadyH.nil
    go_simp
    refine (HEND.out _ _ hb1 hn1).mono ?_
    rintro e x2 ⟨s2, rfl, ⟨hb2, hf2⟩, hB2⟩
    have HF2 := Lib.hid (fun j (h : InS s2 j) => show ¬ M j from HNM.out j (.inr (.inr (.inr (by have := hf2 j h; have := HD.out.size; omega)))))
    clear hf2
    have HG12 := Lib.hid (keptW hB2 HG1.out)
    have HG22 := Lib.hid (keptW hB2 HG2.out)
    have HD2 := Lib.hid (HD.out.trans (hB2.mono HD.out.size))
    clear hb1 hn1 hB2
    refine hK.out _ _ ⟨HG12.out, HG22.out⟩ (fun hHeld2 => ?_)
    clear hK K'
    try simp only [Act.put, List.setIfInBounds_toArray, List.set_cons_zero, List.set_cons_succ]
    refine wpAnyH_ready (rs := [4]) (by kernel_rfl) (by simp) ?_
    refine AllReadyH.cons (o := { dst := some 17, op := Op.call { callee := Callee.value (Operand.func 37), args := #[Operand.tmp 16], argTypes := #[22] }, type := 76, pos := "blocks.go:35", after := #[{ on := 3, ground := Ground.data }, { on := 3, ground := Ground.chain }], guard := none }) rfl (fun K' hK => ?_) AllReadyH.nil
    go_simp
    refine (HWH.out _ _ _ hb2).mono ?_
    rintro e x3 ⟨rfl, hx3⟩
    have hB3 : Below x2.heap.size x2 x3 := by rw [hx3]; exact (Below.refl _ _).alloc (Nat.le_refl _) _
    have hs3 : rowN x3 x2.heap.size = some #[s2] := by rw [hx3, rowN_alloc, if_pos rfl]
    have hKX : Keeps M V x3 := Keeps.of_below (HD2.out.trans (hB3.mono HD2.out.size))
    have HB3 := Lib.hid (hb2.kept hB3)
    have HS3 := Lib.hid hs3
    have HYX := Lib.hid (hKX.row HYV.out (HNM.out _ (.inr (.inr (.inr (Nat.le_refl _))))))
    have HKX := Lib.hid ((hKX.same D hDV (HNM.out _ (.inr (.inr (.inr (by omega)))))).trans HKV.out)
    have HJX := Lib.hid (HOJ.out (zs.length / 64) V x3 none HJV.out (grown_of_below (HD2.out.trans (hB3.mono HD2.out.size))) (fun r e => by cases e))
    have hDX : D < x3.heap.size := Nat.lt_of_lt_of_le hDV hKX.size
    have hqX : W0.heap.size ≤ x3.heap.size := Nat.le_trans hq hKX.size
    have HG13 := Lib.hid (keptW hB3 HG12.out)
    have HG23 := Lib.hid (keptW hB3 HG22.out)
    have hx2 := rowN_lt hs3
    obtain ⟨gw, hgw⟩ : ∃ g, x2.heap.size = g := ⟨_, rfl⟩
    rw [hgw] at HS3 hx2 ⊢
    clear hb2 hB3 hs3 hKX hx3 hgw
    refine hK.out _ _ ⟨HG13.out, HG23.out⟩ (fun hHeld3 => ?_)
    clear hK K' hHeld3 hHeld2 hHeld1 hHeld0
    try simp only [Act.put, List.setIfInBounds_toArray, List.set_cons_zero, List.set_cons_succ]
    refine wpAnyH_done (by kernel_rfl) ?_ _
    refine NoPanic.normal ?_
    clear HG1 HG2 HG12 HG22 HG13 HG23 HBV0 HD HD2
    go_wp2_with fail
    refine (wpIn_wide (n := 5)).1 ?_
    refine range_yields (by omega) (gf := 49) (lb := #[.pointer (some ⟨gw, 0, none⟩)]) rfl (enters_of Tryd.func49 (by kernel_rfl) rfl) (whole_yields (5 - 1) gw (endL (zs.drop (zs.length / 64 * 64)) n) s2 x3 HB3.out HS3.out)
      M (fun j h => ⟨by have := (HM.out j h).1; omega, fun h => h⟩) (fun _ h => h.elim) (fun k v V l o o' h _ _ => h) (Below.refl _ _)
      (fun k V => J (zs.length / 64 + k) V ∧ Keeps M x3 V) (fun c k V => c = .ret ∧ Jx (zs.length / 64 + k) V ∧ Keeps M x3 V) (own_keeps HOJ.out (by omega) (Nat.le_refl _) (fun k => zs.length / 64 + k))
      (fun c k X Y row hs hg hr => ⟨hs.1, (own_keeps HOX.out (show W.heap.size ≤ x3.heap.size by omega) (Nat.le_refl _) (fun k => zs.length / 64 + k)) k X Y row hs.2 hg hr⟩) ⟨HJX.out, Keeps.refl _ _⟩ ?a2 ?assign2 ?body2 ?done2 ?stop2
    case assign2 =>
      intro l2 v V k hk
      gi_wp2
      exact hk
    case body2 =>
      rintro l2 k v U hk ⟨hj, hkp⟩ ⟨b, off, c, hs, rfl⟩
      have hnm : ∀ j, 0 < (endL (zs.drop (zs.length / 64 * 64)) n).length → InS s2 j → ¬ M j := fun j _ => HF2.out j
      have hbk : BytesAt (((endL (zs.drop (zs.length / 64 * 64)) n).drop (64 * k)).take 64) (wblk b off k) U := BytesAt.blk (by rw [← hs]; exact HB3.out.keeps hkp hnm) (by omega)
      rw [← padR_back zs n k] at hbk
      have HKP := Lib.hid hkp
      have cy := (rowN_cell (hkp.row HYX.out (HNM.out _ (.inr (.inr (.inr (Nat.le_refl _))))))).1 0
      obtain ⟨fn, tmps, assign, body, hy, hR⟩ := YieldAt.wideTo (m := 5 - 1 - 1 - 1) (HY.out (zs.length / 64 + k) (wblk b off k) U (by rw [padR_len]; omega) hj hbk) l2
      have HR := Lib.hid hR
      clear hbk hkp hR hs hj hnm
      gi_wp2_with fail
      refine HR.out.mono ?_
      rintro e3 W3 ⟨hk3, (⟨rfl, hJ3⟩ | ⟨rfl, hJx3⟩)⟩
      · have HE := Lib.hid (show RoundEnds x3.heap.size (Keeps fun j => M j ∨ False) (fun X => J (zs.length / 64 + (k + 1)) X ∧ Keeps M x3 X) (fun c X => c = .ret ∧ Jx (zs.length / 64 + (k + 1)) X ∧ Keeps M x3 X) U .normal W3 from
          ⟨hk3.from (fun j hj h => by rcases h with h | h; exact HNM.out j (.inr (.inr (.inr (by omega)))) h; exact h), hk3, .inl ⟨rfl, hJ3, HKP.out.trans (hk3.weaken fun j _ h => h.elim id False.elim)⟩⟩)
        clear hk3 hJ3
        gi_wp2_with fail
        exact HE.out
      · have HE := Lib.hid (show RoundEnds x3.heap.size (Keeps fun j => M j ∨ False) (fun X => J (zs.length / 64 + (k + 1)) X ∧ Keeps M x3 X) (fun c X => c = .ret ∧ Jx (zs.length / 64 + (k + 1)) X ∧ Keeps M x3 X) U .ret W3 from
          ⟨hk3.from (fun j hj h => by rcases h with h | h; exact HNM.out j (.inr (.inr (.inr (by omega)))) h; exact h), hk3, .inr (.inl ⟨rfl, rfl, hJx3, HKP.out.trans (hk3.weaken fun j _ h => h.elim id False.elim)⟩)⟩)
        clear hk3 hJx3
        gi_wp2_with fail
        exact HE.out
    case done2 =>
      rintro D2 U hD2 ⟨hj, hkp⟩ hK
      have hK1 : (U.putObj D2 (.deferred none)).heap[D]? = some (.deferred (some [])) := (World.putObj_heap_other (by omega)).trans ((hkp.same D hDX (HNM.out _ (.inr (.inr (.inr (by omega)))))).trans HKX.out)
      have HE := Lib.hid ((OwnFrom.mono HOJ.out (show W.heap.size ≤ D by omega)).putObj (.deferred none) (HOJ.out.putObj (.deferred none) hj (show W.heap.size ≤ D2 by omega) hK rfl) (Nat.le_refl _) hK1 rfl)
      have HK := Lib.hid hK
      have HK1 := Lib.hid hK1
      rw [← padR_len zs n] at HE
      clear hj hkp hK hK1
      go_wp2_with fail
      refine ⟨by simp, .inl ⟨_, _, rfl, run_takeDeferred HK.out, ?_⟩⟩
      refine ⟨by simp, .inl ⟨_, _, rfl, run_takeDeferred HK1.out, ?_⟩⟩
      exact ⟨_, results_none rfl _ _ _, ⟨_, rfl⟩, .inl HE.out⟩
    case stop2 =>
      rintro D2 k c U hD2 hk ⟨rfl, hx, hkp⟩ hK
      have hK1 : (U.putObj D2 (.deferred none)).heap[D]? = some (.deferred (some [])) := (World.putObj_heap_other (by omega)).trans ((hkp.same D hDX (HNM.out _ (.inr (.inr (.inr (by omega)))))).trans HKX.out)
      have HE := Lib.hid ((OwnFrom.mono HOX.out (show W.heap.size ≤ D by omega)).putObj (.deferred none) (HOX.out.putObj (.deferred none) hx (show W.heap.size ≤ D2 by omega) hK rfl) (Nat.le_refl _) hK1 rfl)
      have HK := Lib.hid hK
      have HK1 := Lib.hid hK1
      have hkN : zs.length / 64 + k ≤ (padR zs n).length / 64 := by rw [padR_len]; omega
      clear hx hkp hK hK1
      gi_wp2_with fail
      refine ⟨by simp, .inl ⟨_, _, rfl, run_takeDeferred HK.out, ?_⟩⟩
      refine ⟨by simp, .inl ⟨_, _, rfl, run_takeDeferred HK1.out, ?_⟩⟩
      exact ⟨_, results_none rfl _ _ _, ⟨_, rfl⟩, .inr ⟨_, hkN, HE.out⟩⟩
  case stop =>
    rintro D k c V hD hk ⟨rfl, hx⟩ hK
    have HE := Lib.hid ((OwnFrom.mono HOX.out (by omega)).putObj (.deferred none) hx hD hK rfl)
    have HK := Lib.hid hK
    have hkN : k ≤ (padR zs n).length / 64 := by rw [padR_len]; omega
    clear hx hK
    gi_wp2_with fail
    refine ⟨by simp, .inl ⟨_, _, rfl, run_takeDeferred HK.out, ?_⟩⟩
    exact ⟨_, results_none rfl _ _ _, ⟨_, rfl⟩, .inr ⟨k, hkN, HE.out⟩⟩
end Go.Proofs.YtmlacbdonkfbdaaDoor
