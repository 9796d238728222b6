/- Blocks: the iterator over the blocks of a padded string, each a copy. -/
import Derived.Test.YtjpieoepokakgaaDoorSP
namespace Go.Proofs.YtjpieoepokakgaaDoor
open Go.RowKit Go.Shelf

attribute [local go_sem] Oper.semAt_some

def BlI (J : Nat → World → Prop) (M : Nat → Prop) (W : World) (k : Nat) (X : World) : Prop := J k X ∧ Keeps M W X

set_option maxRecDepth 100000 in
set_option maxHeartbeats 1000000 in
theorem blocks1_yields (m gb : Nat) (zs : List Nat) (s : Value) (hL : zs.length ≤ 140737488355328) (w : World) (hgb : rowN w gb = some #[s]) (hB : BytesAt zs s w) (hnil : Nil0 s) :
    Yields m 20 #[.pointer (some ⟨gb, 0, none⟩)] ((padL zs).length / 64) (fun k v V => BytesAt (((padL zs).drop (64 * k)).take 64) v V ∧ ∀ j, InS v j → w.heap.size ≤ j ∧ j < V.heap.size) (fun j => j = gb ∨ (0 < zs.length ∧ InS s j)) InS w := by
  intro l J Jx M W hW hM hJ hJx hY h0
  have hmo : Tryd.prog.follows .mixedOrders = true := by kernel_rfl
  have HM := Lib.hid hM
  have HOJ := Lib.hid hJ
  have HOX := Lib.hid hJx
  have HY := Lib.hid hY
  have H0 := Lib.hid h0
  have HGB := Lib.hid (keptW hW hgb)
  have HB := Lib.hid (hB.kept hW)
  have HN := Lib.hid hnil
  have hwW := hW.size
  have c1 := (rowN_cell HGB.out).1 0
  have sb1 := rowN_lt HGB.out
  have HP3 := Lib.hid (fun V => show Calls Tryd.prog 21 #[s, .int .i64 (zs.length : Nat)] V (fun e w' => e = .returned (.func (.func 30) #[] #[.pointer (some ⟨V.heap.size, 0, none⟩), .pointer (some ⟨V.heap.size + 1, 0, none⟩)]) ∧
    w' = (V.alloc (.cells #[s] 22)).alloc (.cells #[.int .i64 (zs.length : Nat)] 3)) by
    obtain ⟨_, a, c, rfl, _, _⟩ := HB.out
    exact padded_any a zs.length c zs.length V)
  obtain ⟨a, c, rfl⟩ : ∃ a c, s = .slice a zs.length c := by obtain ⟨_, a, c, e, _, _⟩ := hB; exact ⟨a, c, e⟩
  clear hM hJ hJx hY h0 hgb hB hnil hW
  refine callsIn_of_wp_marks Tryd.func20 rfl trivial ?_ rfl
  simp only [Tryd.ntmps20, List.size_toArray, List.length_cons, List.length_nil, Nat.reduceAdd, Nat.reduceSub, Array.replicate_succ, Array.replicate_zero, List.push_toArray, List.append_toArray, List.nil_append, List.cons_append]
  refine wpIn_wide.2 ?_
  go_wp2_with fail
  refine (HP3.out _).mono ?_
  rintro e w1 ⟨rfl, rfl⟩
  go_wp2_with fail
  have hbe : Below W.heap.size W (((W.alloc (.cells #[.func (.yield l) #[] #[]] 26)).alloc (.cells #[.slice a zs.length c] 22)).alloc (.cells #[.int .i64 (zs.length : Nat)] 3)) := (((Below.refl _ W).alloc (Nat.le_refl _) _).alloc (by simp) _).alloc (by simp <;> omega) _
  have hy0 : rowN (((W.alloc (.cells #[.func (.yield l) #[] #[]] 26)).alloc (.cells #[.slice a zs.length c] 22)).alloc (.cells #[.int .i64 (zs.length : Nat)] 3)) W.heap.size = some #[.func (.yield l) #[] #[]] := by
    simp only [rowN_alloc, World.size_alloc, if_true]; (repeat rw [if_neg (by omega)])
  have hs0 : rowN (((W.alloc (.cells #[.func (.yield l) #[] #[]] 26)).alloc (.cells #[.slice a zs.length c] 22)).alloc (.cells #[.int .i64 (zs.length : Nat)] 3)) (W.heap.size + 1) = some #[.slice a zs.length c] := by
    simp only [rowN_alloc, World.size_alloc, if_true]; (repeat rw [if_neg (by omega)])
  have hn0 : rowN (((W.alloc (.cells #[.func (.yield l) #[] #[]] 26)).alloc (.cells #[.slice a zs.length c] 22)).alloc (.cells #[.int .i64 (zs.length : Nat)] 3)) (W.heap.size + 1 + 1) = some #[.int .i64 (zs.length : Nat)] := by
    simp only [rowN_alloc, World.size_alloc, if_true]
  have hz0 : (((W.alloc (.cells #[.func (.yield l) #[] #[]] 26)).alloc (.cells #[.slice a zs.length c] 22)).alloc (.cells #[.int .i64 (zs.length : Nat)] 3)).heap.size = W.heap.size + 3 := by simp
  generalize ((W.alloc (.cells #[.func (.yield l) #[] #[]] 26)).alloc (.cells #[.slice a zs.length c] 22)).alloc (.cells #[.int .i64 (zs.length : Nat)] 3) = W0 at *
  have HJ0 := Lib.hid (HOJ.out 0 W W0 none H0.out (grown_of_below hbe) (fun r e => by cases e))
  have HY0 := Lib.hid hy0
  have HBK := Lib.hid (HB.out.kept hbe)
  have HPY := Lib.hid (padded1_yields (5 - 1) (W.heap.size + 1) (W.heap.size + 1 + 1) zs (.slice a zs.length c) zs.length hL (by omega) W0 hs0 hn0 HBK.out HN.out)
  rw [padR_all] at HPY
  have HNM := Lib.hid (fun j (h : W.heap.size ≤ j) (hm : M j) => show False from by have := (HM.out j hm).1; omega)
  have HCL := Lib.hid (fun V (bs : List Nat) (v : Value) (h1 : bs.length = 64) (h2 : BytesAt bs v V) => show Calls Tryd.prog 19 #[v] V (fun e w' => ∃ s', e = .returned s' ∧ (BytesAt bs s' w' ∧ (∀ j, InS s' j → V.heap.size ≤ j) ∧ Nil0 s') ∧ Below V.heap.size V w') from
    clone_any bs v (by omega) V h2 (by obtain ⟨b, off, c, rfl, _⟩ := blk_slice h2 h1; intro L c e; cases e))
  obtain ⟨P, hP⟩ : ∃ P, padL zs = P := ⟨_, rfl⟩
  rw [hP] at HPY HY
  have HP := Lib.hid hP
  clear hbe hy0 hs0 hn0 c1 hP
  refine (wpIn_wide (n := 5)).1 ?_
  refine range_yields (by omega) (gf := 30) (lb := #[.pointer (some ⟨W.heap.size + 1, 0, none⟩), .pointer (some ⟨W.heap.size + 1 + 1, 0, none⟩)]) rfl (enters_of Tryd.func30 (by kernel_rfl) rfl) HPY.out
    M (fun j h => by
      have hm := HM.out j h
      refine ⟨by omega, fun h2 => ?_⟩
      rcases h2 with h2 | h2 | h2
      · omega
      · omega
      · exact hm.2 (.inr h2))
    (fun j h => by
      rcases h with h | h | ⟨h0, h⟩
      · omega
      · omega
      · exact HBK.out.lt h0 h) (fun k v V l o o' h hl ho => h.putObj o' hl ho) (Below.refl _ _)
    (fun k V => J k V ∧ Keeps M W0 V) (fun c k V => c = .ret ∧ Jx k V) (own_keeps HOJ.out (by omega) (Nat.le_refl _) (fun k => k))
    (fun c k X Y row hs hg hr => ⟨hs.1, (OwnFrom.mono HOX.out (by omega)) k X Y row hs.2 hg hr⟩) ⟨HJ0.out, Keeps.refl _ _⟩ ?a1 ?assign ?body ?done ?stop
  case assign =>
    intro l2 v V k hk
    gi_wp2
    exact hk
  case body =>
    rintro l2 k v V hk ⟨hj, hkp⟩ hphi
    have hl64 := pad_blk P hk
    have hcl := HCL.out V.drew _ v hl64 hphi
    have hVs : W0.heap.size ≤ V.heap.size := hkp.size
    have HCC := Lib.hid hcl
    have hy3 := hkp.row HY0.out (HNM.out _ (Nat.le_refl _))
    have cy := (rowN_cell hy3).1 0
    have HY3 := Lib.hid hy3
    have HKP := Lib.hid hkp
    have HJJ := Lib.hid hj
    clear hphi hcl hkp hj hy3
    gi_wp2_with fail
    gi_region_with_o (first
      | (refine ⟨trivial, ?_⟩; refine (CallsIn.inRound l2 (callsIn_wide.2 HCC.out)).mono ?_; rintro e V2 ⟨s2, rfl, ⟨hb2, hf2, hn2⟩, hB2⟩
         have hB2' : Below V.heap.size V V2 := (Below.refl _ V).drew.trans hB2
         have cy2 := (rowN_cell (keptW hB2' HY3.out)).1 0
         have hlt2 : ∀ j, InS s2 j → j < V2.heap.size := fun j h => hb2.lt (by omega) h
         obtain ⟨fn, tmps, assign, body, hy, hR⟩ := YieldAt.wideTo (m := 5 - 1 - 1 - 1) (HY.out k s2 V2 hk (HOJ.out k V V2 none HJJ.out (grown_of_below hB2') (fun r e => by cases e)) ⟨hb2, fun j h => ⟨by have := hf2 j h; simp at this; omega, hlt2 j h⟩⟩) l2
         have HR := Lib.hid hR
         have HB2 := Lib.hid hB2'
         have HF2 := Lib.hid (show ∀ j, InS s2 j → V.heap.size ≤ j from hf2)
         clear hR hB2 hB2' hf2 hlt2 hb2 hn2)
      | (refine HR.out.mono ?_; rintro e3 W3 ⟨hk3, h3⟩; obtain ⟨t, rfl, q3⟩ : ∃ t, e3 = .returned (.bool t) ∧ ((t = true ∧ J (k + 1) W3) ∨ (t = false ∧ Jx (k + 1) W3)) := (by rcases h3 with ⟨rfl, h⟩ | ⟨rfl, h⟩; exact ⟨true, rfl, .inl ⟨rfl, h⟩⟩; exact ⟨false, rfl, .inr ⟨rfl, h⟩⟩); have H3 := Lib.hid q3; clear q3 h3))
    all_goals
      have hK3 : Keeps (fun j => M j ∨ False) V W3 := ⟨Nat.le_trans HB2.out.size hk3.size, fun j hj hm => (hk3.same j (Nat.lt_of_lt_of_le hj HB2.out.size) (fun h => by
        rcases h with h | h
        · exact hm (.inl h)
        · have := HF2.out j h; omega)).trans (HB2.out.block j hj)⟩
      have hF3 : KeepsFrom W0.heap.size V W3 := hK3.from (fun j hj h => by rcases h with h | h; exact HNM.out j (by omega) h; exact h)
      have HKK := Lib.hid (show Keeps M W0 W3 from HKP.out.trans (hK3.weaken fun j _ h => h.elim id False.elim))
      have HK3 := Lib.hid hK3
      have HF3 := Lib.hid hF3
      clear hK3 hF3 hk3
    all_goals
      have q3 := H3.out
      clear H3
      rcases q3 with ⟨rfl, hJ3⟩ | ⟨rfl, hJx3⟩
    all_goals first
      | (have HE := Lib.hid (show RoundEnds W0.heap.size (Keeps fun j => M j ∨ False) (fun V => J (k + 1) V ∧ Keeps M W0 V) (fun c V => c = Code.ret ∧ Jx (k + 1) V) V .normal W3 from ⟨HF3.out, HK3.out, .inl ⟨rfl, hJ3, HKK.out⟩⟩); clear hJ3)
      | (have HE := Lib.hid (show RoundEnds W0.heap.size (Keeps fun j => M j ∨ False) (fun V => J (k + 1) V ∧ Keeps M W0 V) (fun c V => c = Code.ret ∧ Jx (k + 1) V) V .ret W3 from ⟨HF3.out, HK3.out, .inr (.inl ⟨rfl, rfl, hJx3⟩)⟩); clear hJx3)
    all_goals
      gi_wp2_with fail
      exact HE.out
  case done =>
    rintro D V hD ⟨hj, hkp⟩ hK
    have HE := Lib.hid ((OwnFrom.mono HOJ.out (by omega)).putObj (.deferred none) hj hD hK rfl)
    have HK := Lib.hid hK
    clear hj hkp hK
    rw [← HP.out] at HE
    go_wp2_with fail
    refine ⟨by simp, .inl ⟨_, _, rfl, run_takeDeferred HK.out, ?_⟩⟩
    exact ⟨_, results_none rfl _ _ _, ⟨_, rfl⟩, .inl HE.out⟩
  case stop =>
    rintro D k c V hD hk ⟨rfl, hx⟩ hK
    have HE := Lib.hid ((OwnFrom.mono HOX.out (by omega)).putObj (.deferred none) hx hD hK rfl)
    have HK := Lib.hid hK
    rw [← HP.out] at hk
    clear hx hK
    gi_wp2_with fail
    refine ⟨by simp, .inl ⟨_, _, rfl, run_takeDeferred HK.out, ?_⟩⟩
    exact ⟨_, results_none rfl _ _ _, ⟨_, rfl⟩, .inr ⟨k, hk, HE.out⟩⟩
end Go.Proofs.YtjpieoepokakgaaDoor
