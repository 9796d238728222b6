/- The law's blocks, Chain. -/
import Derived.Test.YtjcdbjapadgdfaaDoorCG
namespace Go.Proofs.YtjcdbjapadgdfaaDoor
open Go.RowKit Go.Shelf

attribute [local go_sem] Oper.semAt_some
theorem lblocks_any (a : Option Addr) (n c : Nat) (w : World) : Calls Tryd.prog 12 #[.slice a n c] w fun e w' => e = .returned (.func (.func 23) #[] #[.pointer (some ⟨w.heap.size, 0, none⟩)]) ∧ w' = w.alloc (.cells #[.slice a n c] 29) := by
  have hmf : ∀ (fn : Fn) (first cap : Array Value) (w : World), (Instr.makeFunc fn first cap).run Tryd.prog w = .ok (.func fn first cap) w := fun _ _ _ _ => rfl
  go_enter Tryd.func12, Tryd.ntmps12
  go_wp2_with fail
  go_ret
  exact ⟨rfl, rfl⟩
/-- n slices in a row. -/
def LsAt (n : Nat) (vs : Nat → Value) (s : Value) (W : World) : Prop :=
  ∃ a c, s = .slice a n c ∧ n ≤ c ∧ (n = 0 ∨ ∃ b off, a = some ⟨b, off, none⟩ ∧ b < W.heap.size ∧ ∀ k, k < n → W.cell? ⟨b, off + k, none⟩ = some (vs k))
theorem LsAt.same {n : Nat} {vs : Nat → Value} {s : Value} {W V : World} (h : LsAt n vs s W) (hz : W.heap.size ≤ V.heap.size) (hs : ∀ j, InS s j → j < W.heap.size → V.heap[j]? = W.heap[j]?) : LsAt n vs s V := by
  obtain ⟨a, c, e, hc, h⟩ := h
  refine ⟨a, c, e, hc, ?_⟩
  rcases h with h | ⟨b, off, rfl, hb, hj⟩
  · exact .inl h
  · refine .inr ⟨b, off, rfl, Nat.lt_of_lt_of_le hb hz, fun k hk => ?_⟩
    have h1 := hj k hk
    have h2 := hs b ⟨off, none, n, c, e⟩ hb
    unfold World.cell? at h1 ⊢
    rw [h2]; exact h1
def LbR (n gb : Nat) (vs : Nat → Value) (p : Nat → List Nat) (s : Value) (W0 : World) (J : Nat → World → Prop) (i : Value) (wr : World) : Prop :=
  ∃ k : Nat, k ≤ n ∧ i = .int .i64 (k : Nat) ∧ J k wr ∧ rowN wr gb = some #[s] ∧ LsAt n vs s wr ∧ (∀ k, k < n → BytesAt (p k) (vs k) wr) ∧ W0.heap.size ≤ wr.heap.size
set_option maxRecDepth 100000 in
set_option maxHeartbeats 2000000 in
theorem lblocks1_yields (m gb n : Nat) (vs : Nat → Value) (p : Nat → List Nat) (s : Value) (hn : n ≤ 100000) (w : World) (hgb : rowN w gb = some #[s]) (hL : LsAt n vs s w) (hB : ∀ k, k < n → BytesAt (p k) (vs k) w) :
    YieldsS m 23 #[.pointer (some ⟨gb, 0, none⟩)] n (fun k v V => BytesAt (p k) v V ∧ v = vs k) (fun j => j = gb ∨ (0 < n ∧ InS s j) ∨ ∃ k, k < n ∧ 0 < (p k).length ∧ InS (vs k) j) (fun _ _ => False) w := by
  intro l J Jx M W hW hM hJ hJx hY h0
  have HM := Lib.hid hM
  have HJ := Lib.hid hJ
  have HY := Lib.hid hY
  have HI0 := Lib.hid (show LbR n gb vs p s W J (.int .i64 0) W from ⟨0, by omega, rfl, h0, keptW hW hgb, hL.same hW.size (fun j _ hj => hW.block j hj), fun k hk => (hB k hk).kept hW, Nat.le_refl _⟩)
  obtain ⟨a, c, rfl, hcL⟩ : ∃ a c, s = .slice a n c ∧ n ≤ c := by obtain ⟨a, c, e, h, _⟩ := hL; exact ⟨a, c, e, h⟩
  clear hM hJ hJx hY h0 hgb hB hW hL
  refine callsIn_of_wp Tryd.func23 rfl trivial ?_ rfl
  simp only [Tryd.ntmps23, List.size_toArray, List.length_cons, List.length_nil, Nat.reduceAdd, Nat.reduceSub, Array.replicate_succ, Array.replicate_zero, List.push_toArray, List.append_toArray, List.nil_append, List.cons_append]
  gi_wp2_with fail
  gi_loopw [3] (fun i wr => LbR n gb vs p (.slice a n c) W J i wr) (fun i _ => n - (intOf i).toNat)
  case atStart => exact HI0.out
  case round =>
    obtain ⟨k, hk, rfl, hj, hrb, hls, hbs, hws⟩ := hrel
    have c1 := (rowN_cell hrb).1 0
    have HJK := Lib.hid hj
    have HRB := Lib.hid hrb
    have HLS := Lib.hid hls
    have HBS := Lib.hid hbs
    have HWS := Lib.hid hws
    by_cases hlt : k < n
    · have h1 : ((k : Nat) : Int) < ((n : Nat) : Int) := by omega
      obtain ⟨a', c', e, _, hh⟩ := hls
      cases e
      rcases hh with hh | ⟨b, off, rfl, hbl, hcell⟩
      · omega
      have hc2 := hcell k hlt
      have h2 : IntKind.i64.wrap (((k : Nat) : Int) + 1) = ((k : Nat) : Int) + 1 := IntWalk.i64_in _ (by omega)
      obtain ⟨fn, tmps, assign, body, hy, hR⟩ := HY.out k (vs k) wr hlt hj ⟨hbs k hlt, rfl⟩
      have HRR := Lib.hid hR
      clear hR hj hrb hbs hws hcell
      gi_wp2_with fail
      refine ⟨(fun h => by cases h), ?_⟩
      refine HRR.out.mono ?_
      rintro e3 W3 ⟨hk3, (⟨rfl, hJ3⟩ | ⟨rfl, hJx3⟩)⟩
      · have hk3 : Keeps M wr W3 := hk3.weaken (fun j _ h => h.elim id False.elim)
        have HJ3 := Lib.hid hJ3
        have HS3 := Lib.hid (hk3.row HRB.out (fun h => (HM.out _ h).2 (.inl rfl)))
        have HL3 := Lib.hid (HLS.out.same hk3.size (fun j hj hjl => hk3.same j hjl (fun h => (HM.out _ h).2 (.inr (.inl ⟨by omega, hj⟩)))))
        have HB3 := Lib.hid (show ∀ k, k < n → BytesAt (p k) (vs k) W3 from fun q hq => (HBS.out q hq).keeps hk3 (fun j h0 hj h => (HM.out _ h).2 (.inr (.inr ⟨q, hq, h0, hj⟩))))
        have HW3 := Lib.hid (Nat.le_trans HWS.out hk3.size)
        clear hJ3 hk3 c1 hc2
        gi_wp2_with fail
        exact ⟨⟨k + 1, by omega, rfl, HJ3.out, HS3.out, HL3.out, HB3.out, HW3.out⟩, by simp [intOf]; omega⟩
      · have HJX := Lib.hid hJx3
        clear hJx3 hk3
        gi_wp2_with fail
        refine bodyPost_ret (results_none rfl _ _ _) rfl ?_
        exact ⟨⟨_, rfl⟩, .inr ⟨k + 1, by omega, HJX.out⟩⟩
    · obtain rfl : k = n := by omega
      gi_wp2_with fail
      go_end0
      exact ⟨⟨_, rfl⟩, .inl HJK.out⟩
set_option maxRecDepth 100000 in
theorem lchain_any (key iv : List Nat) (ks vs : Value) (gf : Nat) (lb : Array Value) (hk : key.length = 16) (hv : iv.length = 16) (w : World) (hK : BytesAt key ks w) (hV : BytesAt iv vs w) :
    Calls Tryd.prog 11 #[ks, vs, .func (.func gf) #[] lb] w fun e w' => ∃ gm gc gb, e = .returned (.func (.func 35) #[] #[.pointer (some ⟨gb, 0, none⟩), .pointer (some ⟨gb + 1, 0, none⟩)]) ∧ MdAt key iv gm gc w' ∧ w.heap.size ≤ gm ∧ w.heap.size ≤ gc ∧ gm < gb ∧ gc < gb ∧ gb + 2 = w'.heap.size ∧ rowN w' gb = some #[.pointer (some ⟨gm, 0, none⟩)] ∧ rowN w' (gb + 1) = some #[.func (.func gf) #[] lb] ∧ Below w.heap.size w w' := by
  have H := Lib.hid (newMode_any key iv ks vs hk hv w hK hV)
  have hnf : ∀ W : World, (binOp BinOp.eql 31 (.func (.func gf) #[] lb) .nilFunc).run Tryd.prog W = .ok (.bool false) W := fun W => by kernel_rfl
  clear hk hv hK hV
  go_enter Tryd.func11, Tryd.ntmps11
  go_wp2_with fail
  refine H.out.mono ?_
  rintro e w1 ⟨gm, gc, rfl, hM, h1, h2, hb⟩
  have HM := Lib.hid hM
  have HB := Lib.hid hb
  have HC := Lib.hid (chain_any (some ⟨gm, 0, none⟩) gf lb w1)
  have HG := Lib.hid (show w.heap.size ≤ gm ∧ w.heap.size ≤ gc ∧ gm < w1.heap.size ∧ gc < w1.heap.size from ⟨h1, h2, rowN_lt hM.1, rowN_lt hM.2⟩)
  clear hM hb h1 h2 H
  go_wp2_with fail
  refine HC.out.mono ?_
  rintro e U ⟨rfl, hU⟩
  have hb3 : Below w1.heap.size w1 U := by rw [hU]; exact ((Below.refl _ w1).alloc (Nat.le_refl _) _).alloc (by simp) _
  have HZ3 := Lib.hid (show U.heap.size = w1.heap.size + 2 by rw [hU]; simp)
  have HQ3 := Lib.hid (show rowN U w1.heap.size = some #[.pointer (some ⟨gm, 0, none⟩)] by rw [hU, rowN_alloc, if_neg (by simp), rowN_alloc, if_pos rfl])
  have HQ4 := Lib.hid (show rowN U (w1.heap.size + 1) = some #[.func (.func gf) #[] lb] by rw [hU, rowN_alloc, if_pos (by simp)])
  have HM3 := Lib.hid (show MdAt key iv gm gc U from ⟨keptW hb3 HM.out.1, keptW hb3 HM.out.2⟩)
  have HB3 := Lib.hid (bthen HB.out hb3)
  clear hU hb3
  go_wp2_with fail
  go_ret
  have hz := HZ3.out
  have hg := HG.out
  exact ⟨gm, gc, w1.heap.size, rfl, HM3.out, hg.1, hg.2.1, hg.2.2.1, hg.2.2.2, hz.symm, HQ3.out, HQ4.out, HB3.out⟩
end Go.Proofs.YtjcdbjapadgdfaaDoor
