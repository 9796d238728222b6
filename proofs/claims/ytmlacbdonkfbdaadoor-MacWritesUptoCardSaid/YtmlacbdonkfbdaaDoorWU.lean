/- MacWrites walked. -/
import Derived.Deep.RegionHeld3
import Derived.Test.YtmlacbdonkfbdaaDoorWT
import Derived.Test.YtmlacbdonkfbdaaDoorWS
namespace Go.Proofs.YtmlacbdonkfbdaaDoor
open Go.RowKit Go.Shelf

attribute [local go_sem] Oper.semAt_some
theorem MacAt.keeps {key zs : List Nat} {g : Nat} {W V : World} (h : MacAt key zs g W) {M : Nat → Prop} (hk : Keeps M W V) (hm : ¬ M g) : MacAt key zs g V := by
  unfold MacAt at h ⊢; exact h.keeps hk hm
theorem MacAt.kept {key zs : List Nat} {g : Nat} {W V : World} (h : MacAt key zs g W) (hb : Below W.heap.size W V) : MacAt key zs g V := by
  unfold MacAt at h ⊢; exact h.kept hb
theorem MacAt.lt {key zs : List Nat} {g : Nat} {W : World} (h : MacAt key zs g W) : g < W.heap.size := by
  unfold MacAt at h; exact h.lt
def OM (key : List Nat) (ls : List (List Nat)) (cp G k : Nat) (o early : Value) (wr : World) : Prop :=
  (k ≤ cp ∧ o = .pointer none ∧ early = .slice none 0 0) ∨
  (cp < k ∧ ∃ go, o = .pointer (some ⟨go, 0, none⟩) ∧ G < go ∧ MacAt key (catL (ls.take cp)) go wr ∧ BytesAt (catL (ls.take cp)) early wr ∧ Nil0 early ∧ ∀ j, InS early j → G < j ∧ (0 < (catL (ls.take cp)).length → j ≠ go))
theorem OM.keeps {key : List Nat} {ls : List (List Nat)} {cp G k : Nat} {o early : Value} {wr V : World} (h : OM key ls cp G k o early wr) {M : Nat → Prop} (hk : Keeps M wr V) (hM : ∀ j, j < wr.heap.size → G < j → ¬ M j) : OM key ls cp G k o early V := by
  rcases h with h | ⟨h1, go, h2, h3, h4, h5, h6, h7⟩
  · exact .inl h
  · exact .inr ⟨h1, go, h2, h3, h4.keeps hk (hM go h4.lt h3), h5.keeps hk (fun j h0 hj => hM j (h5.lt h0 hj) (h7 j hj).1), h6, h7⟩
theorem OM.go {key : List Nat} {ls : List (List Nat)} {cp G k : Nat} {o early : Value} {wr : World} (h : OM key ls cp G k o early wr) : ∀ go, o = .pointer (some ⟨go, 0, none⟩) → go < wr.heap.size := by
  intro go e
  rcases h with ⟨_, h, _⟩ | ⟨_, g, h, _, hH, _⟩
  · rw [h] at e; cases e
  · rw [h] at e; cases e; exact hH.lt
theorem OM.succ {key : List Nat} {ls : List (List Nat)} {cp G k : Nat} {o early : Value} {wr : World} (h : OM key ls cp G k o early wr) (hk : k ≠ cp) : OM key ls cp G (k + 1) o early wr := by
  rcases h with ⟨h1, h2⟩ | ⟨h1, h2⟩
  · exact .inl ⟨by omega, h2⟩
  · exact .inr ⟨by omega, h2⟩
def WmRel (key : List Nat) (ls : List (List Nat)) (N cp G : Nat) (w : World) (o all early i : Value) (wr : World) : Prop :=
  ∃ (k : Nat), k ≤ N ∧ i = .int .i64 (k : Nat) ∧ MacAt key (catL (ls.take k)) G wr ∧ BytesAt (catL (ls.take k)) all wr ∧ Nil0 all ∧ (∀ j, InS all j → G < j) ∧ Below w.heap.size w wr ∧ OM key ls cp G k o early wr ∧ ∀ go, o = .pointer (some ⟨go, 0, none⟩) → ∀ j, InS all j → go < j
theorem cat_take200 {ls : List (List Nat)} (h : ∀ l ∈ ls, l.length ≤ 200) (h8 : ls.length ≤ 8) (k : Nat) : (catL (ls.take k)).length ≤ 1600 := by
  have := cat_len200 (ls.take k) (fun x hx => h x (List.mem_of_mem_take hx))
  have h2 : (ls.take k).length ≤ ls.length := by rw [List.length_take]; omega
  omega

set_option maxRecDepth 100000 in
set_option maxHeartbeats 16000000 in
theorem writes_walk (key : List Nat) (ls : List (List Nat)) (ks v : Value) (cp : Nat) (w : World) (hcp : cp < 256) (hKB : BytesAt key ks w) (hKn : Nil0 ks) (hK2 : key.length ≤ 2000000) (hLs : ListAt ls v w) (hN : ls.length ≤ 2000000) (hT : (catL ls).length ≤ 2000000) (h256 : ∀ l ∈ ls, ∀ x ∈ l, x < 256) (hK : KG w) (hG : RG w) :
    Calls Tryd.prog 5 #[ks, v, .int .u8 (cp : Nat)] w fun e w' => e = .returned (.bool true) ∧ Below w.heap.size w w' := by
  have HKB := Lib.hid hKB
  have HKN := Lib.hid hKn
  have HLS := Lib.hid hLs
  have HK := Lib.hid hK
  have HG := Lib.hid hG
  have HT := Lib.hid hT
  have HN6 := Lib.hid hN
  have HK256 := Lib.hid hKB.1
  have HW12 := Lib.hid (show 1 < w.heap.size from hK.1)
  have HJ := Lib.hid (joined_any ls v w hLs hN hT h256)
  obtain ⟨ka, kc, rfl, hkcap⟩ : ∃ a c, ks = .slice a key.length c ∧ key.length ≤ c := by obtain ⟨_, a, c, e, hc, _⟩ := hKB; exact ⟨a, c, e, hc⟩
  obtain ⟨K, hkl⟩ : ∃ K, key.length = K := ⟨_, rfl⟩
  have HKL := Lib.hid hkl
  rw [hkl] at HKB HKN hkcap hK2 ⊢
  obtain ⟨a, c, rfl, hcell⟩ := hLs
  obtain ⟨N, hNN⟩ : ∃ N, ls.length = N := ⟨_, rfl⟩
  have HNN := Lib.hid hNN
  rw [hNN] at HLS hcell HJ ⊢
  have HCELL := Lib.hid hcell
  have hq : ∀ w, (binOp BinOp.eql 38 (.pointer none) (.pointer none)).run Tryd.prog w = .ok (.bool true) w := fun w => by kernel_rfl
  clear hK hG hKB hKn hkl hT hN h256 hcell hNN
  go_enter Tryd.func5, Tryd.ntmps5
  go_wp2_with fail
  refine HJ.out.mono ?_
  rintro e w1 ⟨hd, hb1⟩
  have HB1 := Lib.hid hb1
  clear hb1 HJ
  rcases hd with ⟨_, rfl⟩ | ⟨hall, s', rfl, hbs, hns, _⟩
  · go_wp2_with fail
    refine (known_any _ (HK.out.kept HB1.out)).mono ?_
    rintro e w9 ⟨rfl, hb9⟩
    have HB9 := Lib.hid (HB1.out.trans (hb9.mono HB1.out.size))
    clear hb9
    go_wp2_with fail
    go_ret
    exact ⟨rfl, HB9.out⟩
  by_cases h8 : N ≤ 8
  case neg =>
    have hd : decide (N ≤ 8) = false := by simpa using h8
    rw [hd]
    go_wp2_with fail
    refine (known_any _ (HK.out.kept HB1.out)).mono ?_
    rintro e w9 ⟨rfl, hb9⟩
    have HB9 := Lib.hid (HB1.out.trans (hb9.mono HB1.out.size))
    clear hb9
    go_wp2_with fail
    go_ret
    exact ⟨rfl, HB9.out⟩
  have hd : decide (N ≤ 8) = true := by simpa using h8
  rw [hd]
  have HALL := Lib.hid hall
  have HCT := Lib.hid (cat_take200 hall (by rw [HNN.out]; exact h8))
  clear hbs hns hall hd
  by_cases hk200 : 200 < K
  · have hk200i : (200 : Int) < ((K : Nat) : Int) := by omega
    by_cases hk4 : K ≤ 4096
    · have hk4i : ((K : Nat) : Int) ≤ 4096 := by omega
      go_wp2_with fail
      refine (known_any _ (HK.out.kept HB1.out)).mono ?_
      rintro e w9 ⟨rfl, hb9⟩
      have HB9 := Lib.hid (HB1.out.trans (hb9.mono HB1.out.size))
      clear hb9
      go_wp2_with fail
      go_ret
      exact ⟨rfl, HB9.out⟩
    · have hk4i : ¬ ((K : Nat) : Int) ≤ 4096 := by omega
      have hk4j : (4096 : Int) < ((K : Nat) : Int) := by omega
      have hown2 : (w1.alloc (.cells #[] 5)).ownsRow w1.heap.size 5 1 (.slice (some ⟨w1.heap.size, 0, none⟩) 0 0) ([] : List Nat).length (cl []) := World.ownsRow_lit w1 #[] 0 (Nat.le_refl _) (by unfold maxLen; omega) rfl
      have hbel2 : Below w1.heap.size w1 (w1.alloc (.cells #[] 5)) := (Below.refl _ w1).alloc (Nat.le_refl _) _
      go_wp2_with (at_builtin; refine wpList_appX rfl _ _ rfl w1.heap.size rfl rfl hown2 (HKB.out.kept (HB1.out.trans (hbel2.mono HB1.out.size))) HKN.out (by rw [HKL.out]; simp; omega) hbel2.size ?_; intro v3 w3 hown3 hgrow3; rw [List.nil_append] at hown3; have hb3 := below_owned hbel2 hown2 hgrow3 hbel2.size)
      have hz3 := owns_both HK256.out hown3
      have HB3 := Lib.hid (HB1.out.trans (hb3.mono HB1.out.size))
      have HM := Lib.hid (new_big key v3 (by rw [HKL.out]; omega) w3 hz3.1)
      clear hz3 hown2 hbel2 hown3 hgrow3 hb3
      refine HM.out.mono ?_
      rintro e w4 ⟨rfl, hb4⟩
      have HB4 := Lib.hid (HB3.out.trans (hb4.mono HB3.out.size))
      clear hb4 HM
      go_wp2_with fail
      refine (known_any _ (HK.out.kept HB4.out)).mono ?_
      rintro e w9 ⟨rfl, hb9⟩
      have HB9 := Lib.hid (HB4.out.trans (hb9.mono HB4.out.size))
      clear hb9
      go_wp2_with fail
      go_ret
      exact ⟨rfl, HB9.out⟩
  have hk200i : ¬ (200 : Int) < ((K : Nat) : Int) := by omega
  have hk4j : ¬ (4096 : Int) < ((K : Nat) : Int) := by omega
  have hown2 : (w1.alloc (.cells #[] 5)).ownsRow w1.heap.size 5 1 (.slice (some ⟨w1.heap.size, 0, none⟩) 0 0) ([] : List Nat).length (cl []) := World.ownsRow_lit w1 #[] 0 (Nat.le_refl _) (by unfold maxLen; omega) rfl
  have hbel2 : Below w1.heap.size w1 (w1.alloc (.cells #[] 5)) := (Below.refl _ w1).alloc (Nat.le_refl _) _
  go_wp2_with (at_builtin; refine wpList_app rfl _ _ rfl w1.heap.size rfl rfl hown2 (HKB.out.kept (HB1.out.trans (hbel2.mono HB1.out.size))) HKN.out (by rw [HKL.out]; simp; omega) hbel2.size ?_; intro v3 w3 hown3 hgrow3; rw [List.nil_append] at hown3; have hb3 := below_owned hbel2 hown2 hgrow3 hbel2.size)
  have hz3 := owns_both HK256.out hown3
  have hn3 := owns_nil0 hown3
  obtain ⟨a3, c3, rfl⟩ : ∃ a c, v3 = .slice a K c := by obtain ⟨_, a, c, e, _⟩ := hz3.1; exact ⟨a, c, by rw [e, HKL.out]⟩
  have HB3 := Lib.hid (HB1.out.trans (hb3.mono HB1.out.size))
  have HM := Lib.hid (new_any key _ (by rw [HKL.out]; omega) w3 (HK.out.kept HB3.out) hz3.1 hn3)
  have HOWN := Lib.hid (show w3.ownsRow w1.heap.size 5 1 (.slice a3 K c3) K (cl key) by rw [HKL.out] at hown3; exact hown3)
  clear hz3 hown2 hbel2 hown3 hgrow3 hn3
  refine HM.out.mono ?_
  rintro e w4 ⟨G, rfl, hGe, hmac, hb4⟩
  have HB4 := Lib.hid (HB3.out.trans (hb4.mono HB3.out.size))
  have HMAC := Lib.hid hmac
  have hne3 : ∀ x, (Value.slice a3 K c3).ownBlock = some x → w1.heap.size ≤ x ∧ x < w3.heap.size := fun x e => HOWN.out.lt x e
  have HNE3 := Lib.hid hne3
  have HOWN4 := Lib.hid (show w4.ownsRow w1.heap.size 5 1 (.slice a3 K c3) K (cl key) from HOWN.out.kept (row := some G) ⟨hb4.os, hb4.tape, hb4.output, hb4.size, fun j hj _ => hb4.block j hj⟩ (.inr (fun e => by have := (hne3 _ e).2; omega)))
  have hwG : w.heap.size ≤ G := by have := HB3.out.size; omega
  have HGE := Lib.hid hGe
  have HW31 := Lib.hid hb3.size
  clear hmac hb4 HM HOWN hne3 hb3 HB3 hGe
  go_wp2_with fail
  go_loopw [12] (fun i wq => IncRel w1.heap.size K (.slice a3 K c3) w4 i wq) (fun i _ => K - (intOf i).toNat)
  case atStart => exact ⟨0, key, by omega, rfl, HKL.out, HK256.out, HOWN4.out, grownBy_refl _ _⟩
  case round =>
    obtain ⟨wq, rfl⟩ : ∃ W, W = wr := ⟨_, rfl⟩
    obtain ⟨m, ys, hm, rfl, hys, hy256, hyo, hyg⟩ := hrel
    by_cases hlt2 : m < K
    · obtain ⟨g3, rfl, hLc, hcm, hfm⟩ := inc_cell hys hyo hlt2
      have hy := byte_lt hy256 m
      have HST := Lib.hid (fun x hx => IncRel.step hlt2 hys hy256 hyo hyg x hx)
      obtain ⟨y, hyy⟩ : ∃ y, ys.getD m 0 = y := ⟨_, rfl⟩
      rw [hyy] at hcm hy
      have hm1 : ((m : Nat) : Int) < ((K : Nat) : Int) := by omega
      have ey : IntKind.u8.wrap (((y : Nat) : Int) + 1) = (((y + 1) % 256 : Nat) : Int) := by rw [IntKind.wrap_u8]; omega
      have HST2 := Lib.hid (HST.out ((y + 1) % 256) (Nat.mod_lt _ (by omega)))
      clear hyy hys hy256 hyo hyg HST
      go_wp2_with fail
      exact ⟨HST2.out, by simp [intOf]; omega⟩
    · obtain rfl : K = m := by omega
      have HY := Lib.hid hyg
      clear hys hy256 hyo hyg HOWN4
      have HMQ := Lib.hid (HMAC.out.keeps (Keeps.of_grownBy (M := fun j => j < w3.heap.size) HY.out (fun r e => (HNE3.out r e).2)) (by have := HGE.out; omega))
      have HBQ := Lib.hid (HB4.out.grown HY.out HB4.out.size (fun r e => by have := (HNE3.out r e).1; have := HB1.out.size; omega))
      have HI0 := Lib.hid (show WmRel key ls N cp G w (.pointer none) (.slice none 0 0) (.slice none 0 0) (.int .i64 0) wq from
        ⟨0, by omega, rfl, HMQ.out, ⟨fun x hx => (by cases hx), none, 0, rfl, Nat.le_refl _, .inl rfl⟩, (fun L c e => by injection e with h1 h2 h3; omega), (fun j h => by obtain ⟨_, _, _, _, e⟩ := h; cases e), HBQ.out, .inl ⟨by omega, rfl, rfl⟩, fun go e => by cases e⟩)
      have HWR := Lib.hid (fun g zs bs s W h1 h2 h3 h4 h5 h6 => mwrite_at key zs bs g s HK256.out W h1 h2 h3 h4 h5 h6)
      have HSM := Lib.hid (fun g zs W h1 h2 h3 => msum_at key zs g HK256.out W h1 h2 h3)
      have HRS := Lib.hid (fun zs s W (hw : Below w.heap.size w W) (h2 : BytesAt zs s W) (hn : Nil0 s) (hl : zs.length ≤ 90000) => rhmac_any key zs (.slice ka K kc) s (by rw [HKL.out]; omega) hl W (HG.out.kept hw) (HKB.out.kept hw) HKN.out h2 hn)
      have HCP := Lib.hid (fun g zs W (h1 : MacAt key zs g W) => mcopy_at key zs g HK256.out W h1)
      have ecp : IntKind.i64.wrap ((cp : Nat) : Int) = ((cp : Nat) : Int) := IntWalk.i64_in _ (by omega)
      have hz32 := z32_lit
      have hzl : z32.length = 32 := rfl
      have sz4 : (arr .u8 z32).size = 32 := by rw [arr_size]; rfl
      have hs24 := run_slice24_all
      have hG1 : G ≠ 1 := by have := HW12.out; omega
      clear HMAC HB4 HY HMQ HBQ hm HNE3 HGE HW31 hlt2
      go_wp2_with fail
      go_loopw [13, 14, 15, 16] (fun o all early i wr => WmRel key ls N cp G w o all early i wr) (fun _ _ _ i _ => N - (intOf i).toNat)
      case atStart => exact HI0.out
      case round => as_aux_lemma =>
        clear HI0
        obtain ⟨k, hk, rfl, hH, hA, hAn, hAi, hB, hOE, hAG⟩ := hrel
        have HH := Lib.hid hH
        have HA := Lib.hid hA
        have HAN := Lib.hid hAn
        have HAI := Lib.hid hAi
        have HB := Lib.hid hB
        have HOE := Lib.hid hOE
        by_cases hlt : k < N
        · obtain ⟨b0, off0, rfl, hb0, hcells⟩ : ∃ b off, a = some ⟨b, off, none⟩ ∧ b < w.heap.size ∧ ∀ i, i < N → ∃ s, w.cell? ⟨b, off + i, none⟩ = some s ∧ BytesAt (ls.getD i []) s w ∧ Nil0 s := by
            rcases HCELL.out with h | h
            · omega
            · exact h
          obtain ⟨sk, hsc, hsb, hsn⟩ := hcells k hlt
          have HSB := Lib.hid hsb
          have HSN := Lib.hid hsn
          have hcs := Lib.hid (fun W (hb : Below w.heap.size w W) => (hb.cell (p := ⟨b0, off0 + k, none⟩) hb0).trans hsc)
          have hsc1 : wr.cell? ⟨b0, off0 + k, none⟩ = some sk := hcs.out _ hB
          have hkN : ((k : Nat) : Int) < ((N : Nat) : Int) := by omega
          have hkls : k < ls.length := by rw [HNN.out]; exact hlt
          have HCAT := Lib.hid (catL_succ ls k hkls)
          have HLK2 := Lib.hid (show (ls.getD k []).length ≤ 200 by rw [List.getD, List.getElem?_eq_getElem hkls]; exact HALL.out _ (List.getElem_mem hkls))
          have HCL := Lib.hid (HCT.out k)
          obtain ⟨zk, hzk⟩ : ∃ z, ls.getD k [] = z := ⟨_, rfl⟩
          rw [hzk] at HSB HCAT HLK2
          obtain ⟨ak, ck, rfl, hck⟩ : ∃ ak ck, sk = .slice ak zk.length ck ∧ zk.length ≤ ck := by obtain ⟨_, a, c, e, hc, _⟩ := HSB.out; exact ⟨a, c, e, hc⟩
          obtain ⟨Lk, hLk⟩ : ∃ L, zk.length = L := ⟨_, rfl⟩
          have HLK := Lib.hid hLk
          rw [hLk] at HSB HSN hsc1 hcs HLK2
          obtain ⟨zs, hzs⟩ : ∃ z, catL (ls.take k) = z := ⟨_, rfl⟩
          have HZS := Lib.hid hzs
          rw [hzs] at HH HA HCL HCAT hA
          obtain ⟨aa, ca, rfl⟩ : ∃ aa ca, u14 = .slice aa zs.length ca := by obtain ⟨_, a, c, e, _⟩ := hA; exact ⟨a, c, e⟩
          obtain ⟨Lz, hLz⟩ : ∃ L, zs.length = L := ⟨_, rfl⟩
          have HLZ := Lib.hid hLz
          rw [hLz] at HA HAN HAI HCL ⊢
          clear hH hA hAn hAi hB hOE hcells hsc hsb hsn hkls hzk hLk hzs hLz hck
          by_cases hkc : k = cp
          · subst hkc
            go_wp2_with fail
            refine (HCP.out _ _ _ HH.out).mono ?_
            rintro e X ⟨go', rfl, hge, hh, hbX⟩
            have HHG := Lib.hid (HH.out.kept hbX)
            have HAX := Lib.hid (HA.out.kept hbX)
            have HBX := Lib.hid (HB.out.trans (hbX.mono HB.out.size))
            have HOX := Lib.hid (show OM key ls k G (k + 1) (.pointer (some ⟨go', 0, none⟩)) (.slice aa Lz ca) X from .inr ⟨by omega, _, rfl, by have := HH.out.lt; omega, by rw [HZS.out]; exact hh, by rw [HZS.out]; exact HAX.out, HAN.out, fun j hj => ⟨HAI.out j hj, fun h0 => by rw [HZS.out] at h0; have := HA.out.lt h0 hj; omega⟩⟩)
            clear hh hbX HH HA HB HOE hge
            have hscX := hcs.out _ HBX.out
            go_wp2_with fail
            refine (HWR.out _ _ _ _ _ HHG.out (by rw [HLZ.out, HLK.out]; have := HCL.out; have := HLK2.out; omega) (HK.out.kept HBX.out) hG1 (HSB.out.kept HBX.out) (fun j h0 hj e => by have := HSB.out.lt h0 hj; omega)).mono ?_
            rintro e w4 ⟨rfl, hh, hg⟩
            have HKP := Lib.hid (Keeps.of_grownBy (M := fun j => j = G) hg (fun r e => by cases e; rfl))
            rw [← HCAT.out] at hh
            have HHG5 := Lib.hid hh
            have HGO := Lib.hid HOX.out.go
            have HXQ := Lib.hid hg.size
            have HOX5 := Lib.hid (HOX.out.keeps HKP.out (fun j hj hG hM => by omega))
            have HA5 := Lib.hid (HAX.out.keeps HKP.out (fun j h0 hj hM => by have := HAI.out j hj; omega))
            have HB5 := Lib.hid (HBX.out.grown hg HBX.out.size (fun r e => by cases e; exact hwG))
            have HG4 := Lib.hid hh.lt
            clear hh hg HKP HHG HOX HAX HBX hsc1 hscX
            have hcq := hcs.out _ HB5.out
            have HL_0 := Lib.hid (show Below w4.heap.size w4 w4.drew from (Below.refl _ _).drew)
            have He_0 := Lib.hid (show w4.drew.cell? ⟨b0, off0 + k, none⟩ = some (.slice ak Lk ck) from hcq)
            clear hcq
            go_upto_region 23 with fail
            refine wp_region_noPanic ?_
            refine wp_region_held_drew (S := fun W => W.cell? ⟨b0, off0 + k, none⟩ = some (.slice ak Lk ck)) (by kernel_rfl) He_0.out (fun hHeld0 => ?_)
            obtain ⟨x0, hx0⟩ : ∃ X, w4.drew = X := ⟨_, rfl⟩
            rw [hx0] at He_0 HL_0 hHeld0 ⊢
            clear hx0
            refine wpAnyH_take (i := 1) (oi := { dst := some 100, op := Op.move (Operand.tmp 14), type := 22, pos := "law.go:108", after := #[], guard := none }) (v := ?tk0) rfl (by kernel_rfl) (by kernel_rfl) (by kernel_rfl) (fun _ _ _ h => h) (Or.inl ⟨by rfl, ?tw0⟩) hHeld0 ?_
            case tw0 => (intro W hW; clear hW; first | (go_simp; done) | (go_simp; with_reducible rfl))
            try simp only [Act.put, List.setIfInBounds_toArray, List.set_cons_zero, List.set_cons_succ]
            refine wpAnyH_take (i := 3) (oi := { dst := some 102, op := Op.move (Operand.tmp 1), type := 23, pos := "law.go:108", after := #[], guard := none }) (v := ?tk1) rfl (by kernel_rfl) (by kernel_rfl) (by kernel_rfl) (fun _ _ _ h => h) (Or.inl ⟨by rfl, ?tw1⟩) hHeld0 ?_
            case tw1 => (intro W hW; clear hW; first | (go_simp; done) | (go_simp; with_reducible rfl))
            try simp only [Act.put, List.setIfInBounds_toArray, List.set_cons_zero, List.set_cons_succ]
            refine wpAnyH_take (i := 4) (oi := { dst := some 103, op := Op.move (Operand.tmp 16), type := 3, pos := "law.go:108", after := #[], guard := none }) (v := ?tk2) rfl (by kernel_rfl) (by kernel_rfl) (by kernel_rfl) (fun _ _ _ h => h) (Or.inl ⟨by rfl, ?tw2⟩) hHeld0 ?_
            case tw2 => (intro W hW; clear hW; first | (go_simp; done) | (go_simp; with_reducible rfl))
            try simp only [Act.put, List.setIfInBounds_toArray, List.set_cons_zero, List.set_cons_succ]
            refine wpAnyH_take (i := 5) (oi := { dst := some 104, op := Op.indexAddr 23 (Operand.tmp 102) (Operand.tmp 103), type := 0, pos := "law.go:108", after := #[{ on := 3, ground := Ground.data }, { on := 4, ground := Ground.data }], guard := none }) (v := ?tk3) rfl (by kernel_rfl) (by kernel_rfl) (by kernel_rfl) (fun _ _ _ h => h) (Or.inl ⟨by rfl, ?tw3⟩) hHeld0 ?_
            case tw3 => (intro W hW; clear hW; first | (go_simp; done) | (go_simp; with_reducible rfl))
            try simp only [Act.put, List.setIfInBounds_toArray, List.set_cons_zero, List.set_cons_succ]
            refine wpAnyH_take (i := 6) (oi := { dst := some 105, op := Op.load 22 (Operand.tmp 104), type := 22, pos := "law.go:108", after := #[{ on := 5, ground := Ground.data }], guard := none }) (v := .slice ak Lk ck) rfl (by kernel_rfl) (by kernel_rfl) (by kernel_rfl) (fun _ _ _ h => h) (Or.inl ⟨by rfl, fun W hW => ?_⟩) hHeld0 ?_
            · (have hW1 := hW; clear hW; go_simp)
            try simp only [Act.put, List.setIfInBounds_toArray, List.set_cons_zero, List.set_cons_succ]
            refine wpAnyH_ready (rs := [0]) (by kernel_rfl) (by simp) ?_
            refine AllReadyH.cons (o := { dst := some 99, op := Op.buildSlice 22 0 #[], type := 22, pos := "law.go:108", after := #[], guard := none }) rfl (fun K' hK => ?_) AllReadyH.nil
            go_simp
            obtain ⟨x1, hx1⟩ : ∃ X, x0.alloc (.cells #[] 5) = X := ⟨_, rfl⟩
            have hb : Below x0.heap.size x0 x1 := by rw [← hx1]; exact (Below.refl _ _).alloc (Nat.le_refl _) _
            have Ho_1 := Lib.hid (show x1.ownsRow x0.heap.size 5 1 (.slice (some ⟨x0.heap.size, 0, none⟩) 0 0) ([] : List Nat).length (cl []) by rw [← hx1]; exact World.ownsRow_lit _ #[] 0 (Nat.le_refl _) (by unfold maxLen; omega) rfl)
            have HL_1 := Lib.hid (HL_0.out.trans (hb.mono HL_0.out.size))
            have HW_1 := Lib.hid (HB5.out.trans (HL_1.out.mono HB5.out.size))
            have He_1 := Lib.hid (hcs.out _ HW_1.out)
            have hx0s := HL_1.out.size
            have hx0q : w4.heap.size ≤ x0.heap.size := HL_0.out.size
            have hx0y : x0.heap.size ≤ x1.heap.size := hb.size
            clear hb
            rw [hx1]
            refine hK.out _ _ He_1.out (fun hHeld1 => ?_)
            clear hK K'
            try simp only [Act.put, List.setIfInBounds_toArray, List.set_cons_zero, List.set_cons_succ]
            refine wpAnyH_ready (rs := [2]) (by kernel_rfl) (by simp) ?_
            refine AllReadyH.cons (o := { dst := some 101, op := Op.call { callee := Callee.builtin Builtin.append, args := #[Operand.tmp 99, Operand.tmp 100], argTypes := #[22, 22] }, type := 22, pos := "law.go:108", after := #[{ on := 0, ground := Ground.data }, { on := 1, ground := Ground.data }], guard := none }) rfl (fun K' hK => ?_) AllReadyH.nil
            rw [if_pos (by rfl)]
            refine wp_app _ _ rfl x0.heap.size rfl rfl Ho_1.out (HA5.out.kept HL_1.out) HAN.out (by rw [HLZ.out]; simp; have := HCL.out; omega) hx0y ?_
            intro vb x2 hva hga
            have hbl := below_owned (Below.refl x0.heap.size x1) Ho_1.out hga hx0y
            rw [List.nil_append] at hva
            have Ho_2 := Lib.hid hva
            have HL_2 := Lib.hid (HL_1.out.trans (hbl.mono hx0q))
            have HW_2 := Lib.hid (HB5.out.trans (HL_2.out.mono HB5.out.size))
            have He_2 := Lib.hid (hcs.out _ HW_2.out)
            have hx0z := Nat.le_trans hx0y hbl.size
            clear hva hga hbl hx0y
            have hx0y := hx0z
            clear hx0z
            refine hK.out _ _ He_2.out (fun hHeld2 => ?_)
            clear hK K'
            try simp only [Act.put, List.setIfInBounds_toArray, List.set_cons_zero, List.set_cons_succ]
            refine wpAnyH_ready (rs := [7]) (by kernel_rfl) (by simp) ?_
            refine AllReadyH.cons (o := { dst := some 106, op := Op.call { callee := Callee.builtin Builtin.append, args := #[Operand.tmp 101, Operand.tmp 105], argTypes := #[22, 22] }, type := 22, pos := "law.go:108", after := #[{ on := 2, ground := Ground.data }, { on := 6, ground := Ground.data }, { on := 2, ground := Ground.chain }], guard := none }) rfl (fun K' hK => ?_) AllReadyH.nil
            rw [if_pos (by rfl)]
            refine wp_app _ _ rfl x0.heap.size rfl rfl Ho_2.out (HSB.out.kept HW_2.out) HSN.out (by rw [HLZ.out, HLK.out]; have := HCL.out; have := HLK2.out; omega) hx0y ?_
            intro vb x3 hva hga
            have hbl := below_owned (Below.refl x0.heap.size x2) Ho_2.out hga hx0y
            skip
            have Ho_3 := Lib.hid hva
            have HL_3 := Lib.hid (HL_2.out.trans (hbl.mono hx0q))
            have HW_3 := Lib.hid (HB5.out.trans (HL_3.out.mono HB5.out.size))
            have He_3 := Lib.hid (hcs.out _ HW_3.out)
            have hx0z := Nat.le_trans hx0y hbl.size
            clear hva hga hbl hx0y
            have hx0y := hx0z
            clear hx0z
            refine hK.out _ _ He_3.out (fun hHeld3 => ?_)
            clear hK K'
            try simp only [Act.put, List.setIfInBounds_toArray, List.set_cons_zero, List.set_cons_succ]
            refine wpAnyH_take (i := 8) (oi := { dst := some 14, op := Op.assign (Operand.tmp 106), type := 22, pos := "law.go:108", after := #[{ on := 7, ground := Ground.data }, { on := 7, ground := Ground.chain }, { on := 0, ground := Ground.phase }, { on := 1, ground := Ground.phase }, { on := 2, ground := Ground.phase }, { on := 3, ground := Ground.phase }, { on := 4, ground := Ground.phase }, { on := 5, ground := Ground.phase }, { on := 6, ground := Ground.phase }, { on := 7, ground := Ground.phase }], guard := none }) (v := ?tk4) rfl (by kernel_rfl) (by kernel_rfl) (by kernel_rfl) (fun _ _ _ h => h) (Or.inl ⟨by rfl, ?tw4⟩) hHeld3 ?_
            case tw4 => (intro W hW; clear hW; first | (go_simp; done) | (go_simp; with_reducible rfl))
            try simp only [Act.put, List.setIfInBounds_toArray, List.set_cons_zero, List.set_cons_succ]
            refine wpAnyH_done (by kernel_rfl) ?_ _
            refine NoPanic.normal ?_
            have hz8 := owns_both (fun y hy => by rcases List.mem_append.1 hy with hy | hy; exact HA5.out.1 y hy; exact HSB.out.1 y hy) Ho_3.out
            have hn8 := owns_nil0 Ho_3.out
            obtain ⟨a8, c8, rfl⟩ := owns_slice Ho_3.out
            have HZ8 := Lib.hid hz8
            have HZI := Lib.hid (show ∀ j, InS (.slice a8 (zs ++ zk).length c8) j → w4.heap.size ≤ j from fun j hj => Nat.le_trans hx0q (hz8.2 j hj))
            have HN8 := Lib.hid hn8
            have HHG8 := Lib.hid (HHG5.out.kept HL_3.out)
            have HOX8 := Lib.hid (HOX5.out.keeps (Keeps.of_below (M := fun _ => False) HL_3.out) (fun _ _ _ h => h))
            have HB8 := Lib.hid HW_3.out
            have hO : (macL key (zs ++ zk)).length = 32 := macL_len key _
            have HSM2 := Lib.hid (fun W h1 h3 => HSM.out G (zs ++ zk) W h1 (by rw [List.length_append, HLZ.out, HLK.out]; have := HCL.out; have := HLK2.out; omega) h3)
            have HRS2 := Lib.hid (fun s W h1 h2 h3 => HRS.out (zs ++ zk) s W h1 h2 h3 (by rw [List.length_append, HLZ.out, HLK.out]; have := HCL.out; have := HLK2.out; omega))
            obtain ⟨O, hOe⟩ : ∃ O, macL key (zs ++ zk) = O := ⟨_, rfl⟩
            rw [hOe] at hO HSM2 HRS2
            have HO32 := Lib.hid hO
            have sz2 : (arr .u8 O).size = 32 := by rw [arr_size, hO]
            have HHG9 := Lib.hid HHG8.out
            rw [HCAT.out] at HHG9
            obtain ⟨L8, hL8⟩ : ∃ L, (zs ++ zk).length = L := ⟨_, rfl⟩
            rw [hL8] at HZ8 HN8 HZI ⊢
            clear hz8 hn8 HHG5 HOX5 hOe HSM HRS HCP
            go_wp2_with fail
            refine (HSM2.out _ HHG9.out (HK.out.kept HB8.out)).mono ?_
            rintro e Y1 ⟨rfl, hb1⟩
            have HB9 := Lib.hid (HB8.out.trans (hb1.mono HB8.out.size))
            have HZ9 := Lib.hid (HZ8.out.1.kept hb1)
            have HHG19 := Lib.hid (HHG8.out.kept hb1)
            have HOX9 := Lib.hid (HOX8.out.keeps (Keeps.of_below (M := fun _ => False) hb1) (fun _ _ _ h => h))
            clear hb1 HB8 HHG8 HOX8 HHG9
            go_upto_region 25 with fail
            obtain ⟨V, hV⟩ : ∃ V, (Y1.alloc (.cells (arr .u8 z32) 27)).setRow Y1.heap.size (arr .u8 O) = V := ⟨_, rfl⟩
            have hbV : Below Y1.heap.size Y1 V := by rw [← hV]; exact below_setRow' ((Below.refl _ _).alloc (Nat.le_refl _) _) (Nat.le_refl _) _
            have hrV : rowN V Y1.heap.size = some (arr .u8 O) := by rw [← hV]; exact row_new (cs := arr .u8 z32) (by rw [rowN_alloc, if_pos rfl])
            rw [hV]
            have HBV := Lib.hid (HB9.out.trans (hbV.mono HB9.out.size))
            have HZV := Lib.hid (HZ9.out.kept hbV)
            have HHGV := Lib.hid (HHG19.out.kept hbV)
            have HOXV := Lib.hid (HOX9.out.keeps (Keeps.of_below (M := fun _ => False) hbV) (fun _ _ _ h => h))
            obtain ⟨g9, hg9⟩ : ∃ g, Y1.heap.size = g := ⟨_, rfl⟩
            rw [hg9] at hrV ⊢
            have HU_0 := Lib.hid hrV
            have HUL := Lib.hid (show Below V.heap.size V V.drew from (Below.refl _ V).drew)
            clear hV hbV hrV hg9 HB9 HZ9 HHG19 HOX9 HL_0 He_0 HL_3 He_3 HW_3 Ho_3 hHeld3
            have Hh_0 := Lib.hid (show rowN V.drew g9 = some (arr .u8 O) from HU_0.out)
            have HL_0 := HUL
            refine wp_region_noPanic ?_
            refine wp_region_held_drew (S := fun W => rowN W g9 = some (arr .u8 O)) (by kernel_rfl) Hh_0.out (fun hHeldq0 => ?_)
            obtain ⟨q0, hx0⟩ : ∃ X, V.drew = X := ⟨_, rfl⟩
            rw [hx0] at Hh_0 HL_0 hHeldq0 ⊢
            clear hx0
            refine wpAnyH_take (i := 0) (oi := { dst := some 112, op := Op.move (Operand.tmp 18), type := 28, pos := "law.go:110", after := #[], guard := none }) (v := ?tk5) rfl (by kernel_rfl) (by kernel_rfl) (by kernel_rfl) (fun _ _ _ h => h) (Or.inl ⟨by rfl, ?tw5⟩) hHeldq0 ?_
            case tw5 => (intro W hW; clear hW; first | (go_simp; done) | (go_simp; with_reducible rfl))
            try simp only [Act.put, List.setIfInBounds_toArray, List.set_cons_zero, List.set_cons_succ]
            refine wpAnyH_take (i := 1) (oi := { dst := some 113, op := Op.binOp BinOp.neq 28 (Operand.tmp 112) (Operand.const (Value.int IntKind.i64 0)) 28, type := 4, pos := "law.go:110", after := #[{ on := 0, ground := Ground.data }], guard := none }) (v := ?tk6) rfl (by kernel_rfl) (by kernel_rfl) (by kernel_rfl) (fun _ _ _ h => h) (Or.inl ⟨by rfl, ?tw6⟩) hHeldq0 ?_
            case tw6 => (intro W hW; clear hW; first | (go_simp; done) | (go_simp; with_reducible rfl))
            try simp only [Act.put, List.setIfInBounds_toArray, List.set_cons_zero, List.set_cons_succ]
            refine wpAnyH_take (i := 2) (oi := { dst := some 114, op := Op.move (Operand.tmp 113), type := 4, pos := "law.go:110", after := #[{ on := 1, ground := Ground.data }], guard := none }) (v := ?tk7) rfl (by kernel_rfl) (by kernel_rfl) (by kernel_rfl) (fun _ _ _ h => h) (Or.inl ⟨by rfl, ?tw7⟩) hHeldq0 ?_
            case tw7 => (intro W hW; clear hW; first | (go_simp; done) | (go_simp; with_reducible rfl))
            try simp only [Act.put, List.setIfInBounds_toArray, List.set_cons_zero, List.set_cons_succ]
            refine wpAnyH_take (i := 3) (oi := { dst := some 115, op := Op.slice 27 (Operand.tmp 17) none none none, type := 22, pos := "law.go:110", after := #[{ on := 2, ground := Ground.guard }], guard := some (2, false) }) (v := ?tk8) rfl (by kernel_rfl) (by kernel_rfl) (by kernel_rfl) (fun _ _ _ h => h) (Or.inl ⟨by rfl, ?tw8⟩) hHeldq0 ?_
            case tw8 => (intro W hW; clear hW; first | (go_simp; done) | (go_simp; with_reducible rfl))
            try simp only [Act.put, List.setIfInBounds_toArray, List.set_cons_zero, List.set_cons_succ]
            refine wpAnyH_take (i := 4) (oi := { dst := some 116, op := Op.convert 22 9 (Operand.tmp 115), type := 9, pos := "law.go:110", after := #[{ on := 3, ground := Ground.data }, { on := 2, ground := Ground.guard }], guard := some (2, false) }) (v := .string (strOf O)) rfl (by kernel_rfl) (by kernel_rfl) (by kernel_rfl) (fun _ _ _ h => h) (Or.inl ⟨by rfl, fun W hW => ?_⟩) hHeldq0 ?_
            · (have hst := str_arr hW HO32.out; clear hW; go_simp)
            try simp only [Act.put, List.setIfInBounds_toArray, List.set_cons_zero, List.set_cons_succ]
            refine wpAnyH_take (i := 5) (oi := { dst := some 117, op := Op.move (Operand.tmp 0), type := 22, pos := "law.go:110", after := #[{ on := 2, ground := Ground.guard }], guard := some (2, false) }) (v := ?tk9) rfl (by kernel_rfl) (by kernel_rfl) (by kernel_rfl) (fun _ _ _ h => h) (Or.inl ⟨by rfl, ?tw9⟩) hHeldq0 ?_
            case tw9 => (intro W hW; clear hW; first | (go_simp; done) | (go_simp; with_reducible rfl))
            try simp only [Act.put, List.setIfInBounds_toArray, List.set_cons_zero, List.set_cons_succ]
            refine wpAnyH_take (i := 6) (oi := { dst := some 118, op := Op.move (Operand.tmp 14), type := 22, pos := "law.go:110", after := #[{ on := 2, ground := Ground.guard }], guard := some (2, false) }) (v := ?tk10) rfl (by kernel_rfl) (by kernel_rfl) (by kernel_rfl) (fun _ _ _ h => h) (Or.inl ⟨by rfl, ?tw10⟩) hHeldq0 ?_
            case tw10 => (intro W hW; clear hW; first | (go_simp; done) | (go_simp; with_reducible rfl))
            try simp only [Act.put, List.setIfInBounds_toArray, List.set_cons_zero, List.set_cons_succ]
            refine wpAnyH_ready (rs := [7]) (by kernel_rfl) (by simp) ?_
            refine AllReadyH.cons (o := { dst := some 119, op := Op.call { callee := Callee.value (Operand.func 12), args := #[Operand.tmp 117, Operand.tmp 118], argTypes := #[22, 22] }, type := 22, pos := "law.go:110", after := #[{ on := 5, ground := Ground.data }, { on := 6, ground := Ground.data }, { on := 2, ground := Ground.chain }, { on := 2, ground := Ground.guard }], guard := some (2, false) }) rfl (fun K' hK => ?_) AllReadyH.nil
            go_simp
            refine ((HRS2.out _ _ (HBV.out.trans (HL_0.out.mono HBV.out.size)) (HZV.out.kept HL_0.out) HN8.out)).mono ?_
            rintro e q1 ⟨gr, rfl, _, hrr, hb⟩
            have Hh_1 := Lib.hid (keptW hb Hh_0.out)
            have Hr_1 := Lib.hid hrr
            have HL_1 := Lib.hid (HL_0.out.trans (hb.mono HL_0.out.size))
            clear hb hrr
            refine hK.out _ _ Hh_1.out (fun hHeldq1 => ?_)
            clear hK K'
            try simp only [Act.put, List.setIfInBounds_toArray, List.set_cons_zero, List.set_cons_succ]
            refine wpAnyH_ready (rs := [8]) (by kernel_rfl) (by simp) ?_
            refine AllReadyH.cons (o := { dst := some 120, op := Op.convert 22 9 (Operand.tmp 119), type := 9, pos := "law.go:110", after := #[{ on := 7, ground := Ground.data }, { on := 2, ground := Ground.guard }], guard := some (2, false) }) rfl (fun K' hK => ?_) AllReadyH.nil
            rw [if_pos (by rfl)]
            have hst := str_arr Hr_1.out HO32.out
            go_simp
            clear hst
            obtain ⟨q2, hxx⟩ : ∃ X, X = q1 := ⟨_, rfl⟩
            subst hxx
            have Hh_2 := Hh_1
            have HL_2 := HL_1
            refine hK.out _ _ Hh_2.out (fun hHeldq2 => ?_)
            clear hK K'
            try simp only [Act.put, List.setIfInBounds_toArray, List.set_cons_zero, List.set_cons_succ]
            refine wpAnyH_take (i := 9) (oi := { dst := some 121, op := Op.binOp BinOp.neq 9 (Operand.tmp 116) (Operand.tmp 120) 9, type := 4, pos := "law.go:110", after := #[{ on := 4, ground := Ground.data }, { on := 8, ground := Ground.data }, { on := 2, ground := Ground.guard }], guard := some (2, false) }) (v := ?tk11) rfl (by kernel_rfl) (by kernel_rfl) (by kernel_rfl) (fun _ _ _ h => h) (Or.inl ⟨by rfl, ?tw11⟩) hHeldq2 ?_
            case tw11 => (intro W hW; clear hW; first | (go_simp; done) | (go_simp; with_reducible rfl))
            try simp only [Act.put, List.setIfInBounds_toArray, List.set_cons_zero, List.set_cons_succ]
            refine wpAnyH_take (i := 10) (oi := { dst := some 122, op := Op.pick (Operand.tmp 114) (Operand.const (Value.bool true)) (Operand.tmp 121), type := 4, pos := "law.go:110", after := #[{ on := 2, ground := Ground.data }, { on := 9, ground := Ground.data }], guard := none }) (v := ?tk12) rfl (by kernel_rfl) (by kernel_rfl) (by kernel_rfl) (fun _ _ _ h => h) (Or.inl ⟨by rfl, ?tw12⟩) hHeldq2 ?_
            case tw12 => (intro W hW; clear hW; first | (go_simp; done) | (go_simp; with_reducible rfl))
            try simp only [Act.put, List.setIfInBounds_toArray, List.set_cons_zero, List.set_cons_succ]
            refine wpAnyH_done (by kernel_rfl) ?_ _
            refine NoPanic.normal ?_
            have HHG10 := Lib.hid (HHGV.out.kept HL_2.out)
            have HZ10 := Lib.hid (HZV.out.kept HL_2.out)
            have HOX10 := Lib.hid (HOXV.out.keeps (Keeps.of_below (M := fun _ => False) HL_2.out) (fun _ _ _ h => h))
            have HB10 := Lib.hid (HBV.out.trans (HL_2.out.mono HBV.out.size))
            go_wp2_with fail
            have hxx := HXQ.out
            have hk1 : k + 1 ≤ N := by omega
            have h1 := HHG10.out
            have h2 := HZ10.out
            rw [← HCAT.out] at h2
            have h3 : ∀ j, InS (.slice a8 L8 c8) j → G < j := fun j hj => by have := HZI.out j hj; have := HG4.out; omega
            refine ⟨?_, by simp [intOf]; omega⟩
            exact ⟨k + 1, hk1, rfl, h1, h2, HN8.out, h3, HB10.out, HOX10.out, fun go e j hj => by have := HGO.out go e; have := HZI.out j hj; omega⟩
          · have hkc1 : ¬ ((k : Nat) : Int) = ((cp : Nat) : Int) := by omega
            obtain ⟨X, rfl⟩ : ∃ X, X = wr := ⟨_, rfl⟩
            have HHG := HH
            have HAX := HA
            have HBX := HB
            have HOX := Lib.hid (HOE.out.succ hkc)
            clear HH HA HB HOE
            have hscX := hcs.out _ HBX.out
            go_wp2_with fail
            refine (HWR.out _ _ _ _ _ HHG.out (by rw [HLZ.out, HLK.out]; have := HCL.out; have := HLK2.out; omega) (HK.out.kept HBX.out) hG1 (HSB.out.kept HBX.out) (fun j h0 hj e => by have := HSB.out.lt h0 hj; omega)).mono ?_
            rintro e w4 ⟨rfl, hh, hg⟩
            have HKP := Lib.hid (Keeps.of_grownBy (M := fun j => j = G) hg (fun r e => by cases e; rfl))
            rw [← HCAT.out] at hh
            have HHG5 := Lib.hid hh
            have HGO := Lib.hid HOX.out.go
            have HXQ := Lib.hid hg.size
            have HOX5 := Lib.hid (HOX.out.keeps HKP.out (fun j hj hG hM => by omega))
            have HA5 := Lib.hid (HAX.out.keeps HKP.out (fun j h0 hj hM => by have := HAI.out j hj; omega))
            have HB5 := Lib.hid (HBX.out.grown hg HBX.out.size (fun r e => by cases e; exact hwG))
            have HG4 := Lib.hid hh.lt
            clear hh hg HKP HHG HOX HAX HBX hsc1 hscX
            have hcq := hcs.out _ HB5.out
            have HL_0 := Lib.hid (show Below w4.heap.size w4 w4.drew from (Below.refl _ _).drew)
            have He_0 := Lib.hid (show w4.drew.cell? ⟨b0, off0 + k, none⟩ = some (.slice ak Lk ck) from hcq)
            clear hcq
            go_upto_region 23 with fail
            refine wp_region_noPanic ?_
            refine wp_region_held_drew (S := fun W => W.cell? ⟨b0, off0 + k, none⟩ = some (.slice ak Lk ck)) (by kernel_rfl) He_0.out (fun hHeld0 => ?_)
            obtain ⟨x0, hx0⟩ : ∃ X, w4.drew = X := ⟨_, rfl⟩
            rw [hx0] at He_0 HL_0 hHeld0 ⊢
            clear hx0
            refine wpAnyH_take (i := 1) (oi := { dst := some 100, op := Op.move (Operand.tmp 14), type := 22, pos := "law.go:108", after := #[], guard := none }) (v := ?tk13) rfl (by kernel_rfl) (by kernel_rfl) (by kernel_rfl) (fun _ _ _ h => h) (Or.inl ⟨by rfl, ?tw13⟩) hHeld0 ?_
            case tw13 => (intro W hW; clear hW; first | (go_simp; done) | (go_simp; with_reducible rfl))
            try simp only [Act.put, List.setIfInBounds_toArray, List.set_cons_zero, List.set_cons_succ]
            refine wpAnyH_take (i := 3) (oi := { dst := some 102, op := Op.move (Operand.tmp 1), type := 23, pos := "law.go:108", after := #[], guard := none }) (v := ?tk14) rfl (by kernel_rfl) (by kernel_rfl) (by kernel_rfl) (fun _ _ _ h => h) (Or.inl ⟨by rfl, ?tw14⟩) hHeld0 ?_
            case tw14 => (intro W hW; clear hW; first | (go_simp; done) | (go_simp; with_reducible rfl))
            try simp only [Act.put, List.setIfInBounds_toArray, List.set_cons_zero, List.set_cons_succ]
            refine wpAnyH_take (i := 4) (oi := { dst := some 103, op := Op.move (Operand.tmp 16), type := 3, pos := "law.go:108", after := #[], guard := none }) (v := ?tk15) rfl (by kernel_rfl) (by kernel_rfl) (by kernel_rfl) (fun _ _ _ h => h) (Or.inl ⟨by rfl, ?tw15⟩) hHeld0 ?_
            case tw15 => (intro W hW; clear hW; first | (go_simp; done) | (go_simp; with_reducible rfl))
            try simp only [Act.put, List.setIfInBounds_toArray, List.set_cons_zero, List.set_cons_succ]
            refine wpAnyH_take (i := 5) (oi := { dst := some 104, op := Op.indexAddr 23 (Operand.tmp 102) (Operand.tmp 103), type := 0, pos := "law.go:108", after := #[{ on := 3, ground := Ground.data }, { on := 4, ground := Ground.data }], guard := none }) (v := ?tk16) rfl (by kernel_rfl) (by kernel_rfl) (by kernel_rfl) (fun _ _ _ h => h) (Or.inl ⟨by rfl, ?tw16⟩) hHeld0 ?_
            case tw16 => (intro W hW; clear hW; first | (go_simp; done) | (go_simp; with_reducible rfl))
            try simp only [Act.put, List.setIfInBounds_toArray, List.set_cons_zero, List.set_cons_succ]
            refine wpAnyH_take (i := 6) (oi := { dst := some 105, op := Op.load 22 (Operand.tmp 104), type := 22, pos := "law.go:108", after := #[{ on := 5, ground := Ground.data }], guard := none }) (v := .slice ak Lk ck) rfl (by kernel_rfl) (by kernel_rfl) (by kernel_rfl) (fun _ _ _ h => h) (Or.inl ⟨by rfl, fun W hW => ?_⟩) hHeld0 ?_
            · (have hW1 := hW; clear hW; go_simp)
            try simp only [Act.put, List.setIfInBounds_toArray, List.set_cons_zero, List.set_cons_succ]
            refine wpAnyH_ready (rs := [0]) (by kernel_rfl) (by simp) ?_
            refine AllReadyH.cons (o := { dst := some 99, op := Op.buildSlice 22 0 #[], type := 22, pos := "law.go:108", after := #[], guard := none }) rfl (fun K' hK => ?_) AllReadyH.nil
            go_simp
            obtain ⟨x1, hx1⟩ : ∃ X, x0.alloc (.cells #[] 5) = X := ⟨_, rfl⟩
            have hb : Below x0.heap.size x0 x1 := by rw [← hx1]; exact (Below.refl _ _).alloc (Nat.le_refl _) _
            have Ho_1 := Lib.hid (show x1.ownsRow x0.heap.size 5 1 (.slice (some ⟨x0.heap.size, 0, none⟩) 0 0) ([] : List Nat).length (cl []) by rw [← hx1]; exact World.ownsRow_lit _ #[] 0 (Nat.le_refl _) (by unfold maxLen; omega) rfl)
            have HL_1 := Lib.hid (HL_0.out.trans (hb.mono HL_0.out.size))
            have HW_1 := Lib.hid (HB5.out.trans (HL_1.out.mono HB5.out.size))
            have He_1 := Lib.hid (hcs.out _ HW_1.out)
            have hx0s := HL_1.out.size
            have hx0q : w4.heap.size ≤ x0.heap.size := HL_0.out.size
            have hx0y : x0.heap.size ≤ x1.heap.size := hb.size
            clear hb
            rw [hx1]
            refine hK.out _ _ He_1.out (fun hHeld1 => ?_)
            clear hK K'
            try simp only [Act.put, List.setIfInBounds_toArray, List.set_cons_zero, List.set_cons_succ]
            refine wpAnyH_ready (rs := [2]) (by kernel_rfl) (by simp) ?_
            refine AllReadyH.cons (o := { dst := some 101, op := Op.call { callee := Callee.builtin Builtin.append, args := #[Operand.tmp 99, Operand.tmp 100], argTypes := #[22, 22] }, type := 22, pos := "law.go:108", after := #[{ on := 0, ground := Ground.data }, { on := 1, ground := Ground.data }], guard := none }) rfl (fun K' hK => ?_) AllReadyH.nil
            rw [if_pos (by rfl)]
            refine wp_app _ _ rfl x0.heap.size rfl rfl Ho_1.out (HA5.out.kept HL_1.out) HAN.out (by rw [HLZ.out]; simp; have := HCL.out; omega) hx0y ?_
            intro vb x2 hva hga
            have hbl := below_owned (Below.refl x0.heap.size x1) Ho_1.out hga hx0y
            rw [List.nil_append] at hva
            have Ho_2 := Lib.hid hva
            have HL_2 := Lib.hid (HL_1.out.trans (hbl.mono hx0q))
            have HW_2 := Lib.hid (HB5.out.trans (HL_2.out.mono HB5.out.size))
            have He_2 := Lib.hid (hcs.out _ HW_2.out)
            have hx0z := Nat.le_trans hx0y hbl.size
            clear hva hga hbl hx0y
            have hx0y := hx0z
            clear hx0z
            refine hK.out _ _ He_2.out (fun hHeld2 => ?_)
            clear hK K'
            try simp only [Act.put, List.setIfInBounds_toArray, List.set_cons_zero, List.set_cons_succ]
            refine wpAnyH_ready (rs := [7]) (by kernel_rfl) (by simp) ?_
            refine AllReadyH.cons (o := { dst := some 106, op := Op.call { callee := Callee.builtin Builtin.append, args := #[Operand.tmp 101, Operand.tmp 105], argTypes := #[22, 22] }, type := 22, pos := "law.go:108", after := #[{ on := 2, ground := Ground.data }, { on := 6, ground := Ground.data }, { on := 2, ground := Ground.chain }], guard := none }) rfl (fun K' hK => ?_) AllReadyH.nil
            rw [if_pos (by rfl)]
            refine wp_app _ _ rfl x0.heap.size rfl rfl Ho_2.out (HSB.out.kept HW_2.out) HSN.out (by rw [HLZ.out, HLK.out]; have := HCL.out; have := HLK2.out; omega) hx0y ?_
            intro vb x3 hva hga
            have hbl := below_owned (Below.refl x0.heap.size x2) Ho_2.out hga hx0y
            skip
            have Ho_3 := Lib.hid hva
            have HL_3 := Lib.hid (HL_2.out.trans (hbl.mono hx0q))
            have HW_3 := Lib.hid (HB5.out.trans (HL_3.out.mono HB5.out.size))
            have He_3 := Lib.hid (hcs.out _ HW_3.out)
            have hx0z := Nat.le_trans hx0y hbl.size
            clear hva hga hbl hx0y
            have hx0y := hx0z
            clear hx0z
            refine hK.out _ _ He_3.out (fun hHeld3 => ?_)
            clear hK K'
            try simp only [Act.put, List.setIfInBounds_toArray, List.set_cons_zero, List.set_cons_succ]
            refine wpAnyH_take (i := 8) (oi := { dst := some 14, op := Op.assign (Operand.tmp 106), type := 22, pos := "law.go:108", after := #[{ on := 7, ground := Ground.data }, { on := 7, ground := Ground.chain }, { on := 0, ground := Ground.phase }, { on := 1, ground := Ground.phase }, { on := 2, ground := Ground.phase }, { on := 3, ground := Ground.phase }, { on := 4, ground := Ground.phase }, { on := 5, ground := Ground.phase }, { on := 6, ground := Ground.phase }, { on := 7, ground := Ground.phase }], guard := none }) (v := ?tk17) rfl (by kernel_rfl) (by kernel_rfl) (by kernel_rfl) (fun _ _ _ h => h) (Or.inl ⟨by rfl, ?tw17⟩) hHeld3 ?_
            case tw17 => (intro W hW; clear hW; first | (go_simp; done) | (go_simp; with_reducible rfl))
            try simp only [Act.put, List.setIfInBounds_toArray, List.set_cons_zero, List.set_cons_succ]
            refine wpAnyH_done (by kernel_rfl) ?_ _
            refine NoPanic.normal ?_
            have hz8 := owns_both (fun y hy => by rcases List.mem_append.1 hy with hy | hy; exact HA5.out.1 y hy; exact HSB.out.1 y hy) Ho_3.out
            have hn8 := owns_nil0 Ho_3.out
            obtain ⟨a8, c8, rfl⟩ := owns_slice Ho_3.out
            have HZ8 := Lib.hid hz8
            have HZI := Lib.hid (show ∀ j, InS (.slice a8 (zs ++ zk).length c8) j → w4.heap.size ≤ j from fun j hj => Nat.le_trans hx0q (hz8.2 j hj))
            have HN8 := Lib.hid hn8
            have HHG8 := Lib.hid (HHG5.out.kept HL_3.out)
            have HOX8 := Lib.hid (HOX5.out.keeps (Keeps.of_below (M := fun _ => False) HL_3.out) (fun _ _ _ h => h))
            have HB8 := Lib.hid HW_3.out
            have hO : (macL key (zs ++ zk)).length = 32 := macL_len key _
            have HSM2 := Lib.hid (fun W h1 h3 => HSM.out G (zs ++ zk) W h1 (by rw [List.length_append, HLZ.out, HLK.out]; have := HCL.out; have := HLK2.out; omega) h3)
            have HRS2 := Lib.hid (fun s W h1 h2 h3 => HRS.out (zs ++ zk) s W h1 h2 h3 (by rw [List.length_append, HLZ.out, HLK.out]; have := HCL.out; have := HLK2.out; omega))
            obtain ⟨O, hOe⟩ : ∃ O, macL key (zs ++ zk) = O := ⟨_, rfl⟩
            rw [hOe] at hO HSM2 HRS2
            have HO32 := Lib.hid hO
            have sz2 : (arr .u8 O).size = 32 := by rw [arr_size, hO]
            have HHG9 := Lib.hid HHG8.out
            rw [HCAT.out] at HHG9
            obtain ⟨L8, hL8⟩ : ∃ L, (zs ++ zk).length = L := ⟨_, rfl⟩
            rw [hL8] at HZ8 HN8 HZI ⊢
            clear hz8 hn8 HHG5 HOX5 hOe HSM HRS HCP
            go_wp2_with fail
            refine (HSM2.out _ HHG9.out (HK.out.kept HB8.out)).mono ?_
            rintro e Y1 ⟨rfl, hb1⟩
            have HB9 := Lib.hid (HB8.out.trans (hb1.mono HB8.out.size))
            have HZ9 := Lib.hid (HZ8.out.1.kept hb1)
            have HHG19 := Lib.hid (HHG8.out.kept hb1)
            have HOX9 := Lib.hid (HOX8.out.keeps (Keeps.of_below (M := fun _ => False) hb1) (fun _ _ _ h => h))
            clear hb1 HB8 HHG8 HOX8 HHG9
            go_upto_region 25 with fail
            obtain ⟨V, hV⟩ : ∃ V, (Y1.alloc (.cells (arr .u8 z32) 27)).setRow Y1.heap.size (arr .u8 O) = V := ⟨_, rfl⟩
            have hbV : Below Y1.heap.size Y1 V := by rw [← hV]; exact below_setRow' ((Below.refl _ _).alloc (Nat.le_refl _) _) (Nat.le_refl _) _
            have hrV : rowN V Y1.heap.size = some (arr .u8 O) := by rw [← hV]; exact row_new (cs := arr .u8 z32) (by rw [rowN_alloc, if_pos rfl])
            rw [hV]
            have HBV := Lib.hid (HB9.out.trans (hbV.mono HB9.out.size))
            have HZV := Lib.hid (HZ9.out.kept hbV)
            have HHGV := Lib.hid (HHG19.out.kept hbV)
            have HOXV := Lib.hid (HOX9.out.keeps (Keeps.of_below (M := fun _ => False) hbV) (fun _ _ _ h => h))
            obtain ⟨g9, hg9⟩ : ∃ g, Y1.heap.size = g := ⟨_, rfl⟩
            rw [hg9] at hrV ⊢
            have HU_0 := Lib.hid hrV
            have HUL := Lib.hid (show Below V.heap.size V V.drew from (Below.refl _ V).drew)
            clear hV hbV hrV hg9 HB9 HZ9 HHG19 HOX9 HL_0 He_0 HL_3 He_3 HW_3 Ho_3 hHeld3
            have Hh_0 := Lib.hid (show rowN V.drew g9 = some (arr .u8 O) from HU_0.out)
            have HL_0 := HUL
            refine wp_region_noPanic ?_
            refine wp_region_held_drew (S := fun W => rowN W g9 = some (arr .u8 O)) (by kernel_rfl) Hh_0.out (fun hHeldq0 => ?_)
            obtain ⟨q0, hx0⟩ : ∃ X, V.drew = X := ⟨_, rfl⟩
            rw [hx0] at Hh_0 HL_0 hHeldq0 ⊢
            clear hx0
            refine wpAnyH_take (i := 0) (oi := { dst := some 112, op := Op.move (Operand.tmp 18), type := 28, pos := "law.go:110", after := #[], guard := none }) (v := ?tk18) rfl (by kernel_rfl) (by kernel_rfl) (by kernel_rfl) (fun _ _ _ h => h) (Or.inl ⟨by rfl, ?tw18⟩) hHeldq0 ?_
            case tw18 => (intro W hW; clear hW; first | (go_simp; done) | (go_simp; with_reducible rfl))
            try simp only [Act.put, List.setIfInBounds_toArray, List.set_cons_zero, List.set_cons_succ]
            refine wpAnyH_take (i := 1) (oi := { dst := some 113, op := Op.binOp BinOp.neq 28 (Operand.tmp 112) (Operand.const (Value.int IntKind.i64 0)) 28, type := 4, pos := "law.go:110", after := #[{ on := 0, ground := Ground.data }], guard := none }) (v := ?tk19) rfl (by kernel_rfl) (by kernel_rfl) (by kernel_rfl) (fun _ _ _ h => h) (Or.inl ⟨by rfl, ?tw19⟩) hHeldq0 ?_
            case tw19 => (intro W hW; clear hW; first | (go_simp; done) | (go_simp; with_reducible rfl))
            try simp only [Act.put, List.setIfInBounds_toArray, List.set_cons_zero, List.set_cons_succ]
            refine wpAnyH_take (i := 2) (oi := { dst := some 114, op := Op.move (Operand.tmp 113), type := 4, pos := "law.go:110", after := #[{ on := 1, ground := Ground.data }], guard := none }) (v := ?tk20) rfl (by kernel_rfl) (by kernel_rfl) (by kernel_rfl) (fun _ _ _ h => h) (Or.inl ⟨by rfl, ?tw20⟩) hHeldq0 ?_
            case tw20 => (intro W hW; clear hW; first | (go_simp; done) | (go_simp; with_reducible rfl))
            try simp only [Act.put, List.setIfInBounds_toArray, List.set_cons_zero, List.set_cons_succ]
            refine wpAnyH_take (i := 3) (oi := { dst := some 115, op := Op.slice 27 (Operand.tmp 17) none none none, type := 22, pos := "law.go:110", after := #[{ on := 2, ground := Ground.guard }], guard := some (2, false) }) (v := ?tk21) rfl (by kernel_rfl) (by kernel_rfl) (by kernel_rfl) (fun _ _ _ h => h) (Or.inl ⟨by rfl, ?tw21⟩) hHeldq0 ?_
            case tw21 => (intro W hW; clear hW; first | (go_simp; done) | (go_simp; with_reducible rfl))
            try simp only [Act.put, List.setIfInBounds_toArray, List.set_cons_zero, List.set_cons_succ]
            refine wpAnyH_take (i := 4) (oi := { dst := some 116, op := Op.convert 22 9 (Operand.tmp 115), type := 9, pos := "law.go:110", after := #[{ on := 3, ground := Ground.data }, { on := 2, ground := Ground.guard }], guard := some (2, false) }) (v := .string (strOf O)) rfl (by kernel_rfl) (by kernel_rfl) (by kernel_rfl) (fun _ _ _ h => h) (Or.inl ⟨by rfl, fun W hW => ?_⟩) hHeldq0 ?_
            · (have hst := str_arr hW HO32.out; clear hW; go_simp)
            try simp only [Act.put, List.setIfInBounds_toArray, List.set_cons_zero, List.set_cons_succ]
            refine wpAnyH_take (i := 5) (oi := { dst := some 117, op := Op.move (Operand.tmp 0), type := 22, pos := "law.go:110", after := #[{ on := 2, ground := Ground.guard }], guard := some (2, false) }) (v := ?tk22) rfl (by kernel_rfl) (by kernel_rfl) (by kernel_rfl) (fun _ _ _ h => h) (Or.inl ⟨by rfl, ?tw22⟩) hHeldq0 ?_
            case tw22 => (intro W hW; clear hW; first | (go_simp; done) | (go_simp; with_reducible rfl))
            try simp only [Act.put, List.setIfInBounds_toArray, List.set_cons_zero, List.set_cons_succ]
            refine wpAnyH_take (i := 6) (oi := { dst := some 118, op := Op.move (Operand.tmp 14), type := 22, pos := "law.go:110", after := #[{ on := 2, ground := Ground.guard }], guard := some (2, false) }) (v := ?tk23) rfl (by kernel_rfl) (by kernel_rfl) (by kernel_rfl) (fun _ _ _ h => h) (Or.inl ⟨by rfl, ?tw23⟩) hHeldq0 ?_
            case tw23 => (intro W hW; clear hW; first | (go_simp; done) | (go_simp; with_reducible rfl))
            try simp only [Act.put, List.setIfInBounds_toArray, List.set_cons_zero, List.set_cons_succ]
            refine wpAnyH_ready (rs := [7]) (by kernel_rfl) (by simp) ?_
            refine AllReadyH.cons (o := { dst := some 119, op := Op.call { callee := Callee.value (Operand.func 12), args := #[Operand.tmp 117, Operand.tmp 118], argTypes := #[22, 22] }, type := 22, pos := "law.go:110", after := #[{ on := 5, ground := Ground.data }, { on := 6, ground := Ground.data }, { on := 2, ground := Ground.chain }, { on := 2, ground := Ground.guard }], guard := some (2, false) }) rfl (fun K' hK => ?_) AllReadyH.nil
            go_simp
            refine ((HRS2.out _ _ (HBV.out.trans (HL_0.out.mono HBV.out.size)) (HZV.out.kept HL_0.out) HN8.out)).mono ?_
            rintro e q1 ⟨gr, rfl, _, hrr, hb⟩
            have Hh_1 := Lib.hid (keptW hb Hh_0.out)
            have Hr_1 := Lib.hid hrr
            have HL_1 := Lib.hid (HL_0.out.trans (hb.mono HL_0.out.size))
            clear hb hrr
            refine hK.out _ _ Hh_1.out (fun hHeldq1 => ?_)
            clear hK K'
            try simp only [Act.put, List.setIfInBounds_toArray, List.set_cons_zero, List.set_cons_succ]
            refine wpAnyH_ready (rs := [8]) (by kernel_rfl) (by simp) ?_
            refine AllReadyH.cons (o := { dst := some 120, op := Op.convert 22 9 (Operand.tmp 119), type := 9, pos := "law.go:110", after := #[{ on := 7, ground := Ground.data }, { on := 2, ground := Ground.guard }], guard := some (2, false) }) rfl (fun K' hK => ?_) AllReadyH.nil
            rw [if_pos (by rfl)]
            have hst := str_arr Hr_1.out HO32.out
            go_simp
            clear hst
            obtain ⟨q2, hxx⟩ : ∃ X, X = q1 := ⟨_, rfl⟩
            subst hxx
            have Hh_2 := Hh_1
            have HL_2 := HL_1
            refine hK.out _ _ Hh_2.out (fun hHeldq2 => ?_)
            clear hK K'
            try simp only [Act.put, List.setIfInBounds_toArray, List.set_cons_zero, List.set_cons_succ]
            refine wpAnyH_take (i := 9) (oi := { dst := some 121, op := Op.binOp BinOp.neq 9 (Operand.tmp 116) (Operand.tmp 120) 9, type := 4, pos := "law.go:110", after := #[{ on := 4, ground := Ground.data }, { on := 8, ground := Ground.data }, { on := 2, ground := Ground.guard }], guard := some (2, false) }) (v := ?tk24) rfl (by kernel_rfl) (by kernel_rfl) (by kernel_rfl) (fun _ _ _ h => h) (Or.inl ⟨by rfl, ?tw24⟩) hHeldq2 ?_
            case tw24 => (intro W hW; clear hW; first | (go_simp; done) | (go_simp; with_reducible rfl))
            try simp only [Act.put, List.setIfInBounds_toArray, List.set_cons_zero, List.set_cons_succ]
            refine wpAnyH_take (i := 10) (oi := { dst := some 122, op := Op.pick (Operand.tmp 114) (Operand.const (Value.bool true)) (Operand.tmp 121), type := 4, pos := "law.go:110", after := #[{ on := 2, ground := Ground.data }, { on := 9, ground := Ground.data }], guard := none }) (v := ?tk25) rfl (by kernel_rfl) (by kernel_rfl) (by kernel_rfl) (fun _ _ _ h => h) (Or.inl ⟨by rfl, ?tw25⟩) hHeldq2 ?_
            case tw25 => (intro W hW; clear hW; first | (go_simp; done) | (go_simp; with_reducible rfl))
            try simp only [Act.put, List.setIfInBounds_toArray, List.set_cons_zero, List.set_cons_succ]
            refine wpAnyH_done (by kernel_rfl) ?_ _
            refine NoPanic.normal ?_
            have HHG10 := Lib.hid (HHGV.out.kept HL_2.out)
            have HZ10 := Lib.hid (HZV.out.kept HL_2.out)
            have HOX10 := Lib.hid (HOXV.out.keeps (Keeps.of_below (M := fun _ => False) HL_2.out) (fun _ _ _ h => h))
            have HB10 := Lib.hid (HBV.out.trans (HL_2.out.mono HBV.out.size))
            go_wp2_with fail
            have hxx := HXQ.out
            have hk1 : k + 1 ≤ N := by omega
            have h1 := HHG10.out
            have h2 := HZ10.out
            rw [← HCAT.out] at h2
            have h3 : ∀ j, InS (.slice a8 L8 c8) j → G < j := fun j hj => by have := HZI.out j hj; have := HG4.out; omega
            refine ⟨?_, by simp [intOf]; omega⟩
            exact ⟨k + 1, hk1, rfl, h1, h2, HN8.out, h3, HB10.out, HOX10.out, fun go e j hj => by have := HGO.out go e; have := HZI.out j hj; omega⟩
        · obtain rfl : N = k := by omega
          have hNN : ls.take N = ls := List.take_of_length_le (by rw [HNN.out]; exact Nat.le_refl _)
          rw [hNN] at hH hA
          have HCL := Lib.hid (show (catL ls).length ≤ 1600 by have h := HCT.out N; rw [hNN] at h; exact h)
          have HCL2 := Lib.hid (HCT.out cp)
          obtain ⟨zs, hzs⟩ : ∃ z, catL ls = z := ⟨_, rfl⟩
          rw [hzs] at hH hA HCL
          obtain ⟨ze, hze⟩ : ∃ z, catL (ls.take cp) = z := ⟨_, rfl⟩
          obtain ⟨aa, ca, rfl⟩ : ∃ aa ca, u14 = .slice aa zs.length ca := by obtain ⟨_, a, c, e, _⟩ := hA; exact ⟨a, c, e⟩
          obtain ⟨Lz, hLz⟩ : ∃ L, zs.length = L := ⟨_, rfl⟩
          have HLZ := Lib.hid hLz
          have hLz2 := Lib.hid hLz
          have HAF := Lib.hid hA
          have HANF := Lib.hid hAn
          have HHF := Lib.hid hH
          have HBF := Lib.hid hB
          have HKF := Lib.hid hAi
          rw [hLz] at HAF HANF HKF ⊢
          have hO : (macL key zs).length = 32 := macL_len key zs
          have HSMF := Lib.hid (fun W h1 h3 => HSM.out G zs W h1 (by have := HCL.out; omega) h3)
          have HRSF := Lib.hid (fun s W h1 h2 h3 => HRS.out zs s W h1 h2 h3 (by have := HCL.out; omega))
          obtain ⟨O, hOe⟩ : ∃ O, macL key zs = O := ⟨_, rfl⟩
          rw [hOe] at hO HSMF HRSF
          have HO32 := Lib.hid hO
          have sz2 : (arr .u8 O).size = 32 := by rw [arr_size, hO]
          have hOE2 := hOE
          clear hH hA hAn hAi hB hOE hzs hLz hOe hlt hk HH HA HAN HAI HB HOE hNN
          rcases hOE2 with ⟨hNc, rfl, rfl⟩ | ⟨hcN, go, rfl, hgo, hHo, hEo, hEn, hEi⟩
          · have hNc1 : ¬ ((cp : Nat) : Int) < ((N : Nat) : Int) := by omega
            go_wp2_with fail
            refine (HSMF.out _ HHF.out (HK.out.kept HBF.out)).mono ?_
            rintro e Z1 ⟨rfl, hb1⟩
            have HBF1 := Lib.hid (HBF.out.trans (hb1.mono HBF.out.size))
            have HAF1 := Lib.hid (HAF.out.kept hb1)
            clear hb1
            go_upto_region 34 with fail
            obtain ⟨U, hU⟩ : ∃ U, (Z1.alloc (.cells (arr .u8 z32) 27)).setRow Z1.heap.size (arr .u8 O) = U := ⟨_, rfl⟩
            have hbU : Below Z1.heap.size Z1 U := by rw [← hU]; exact below_setRow' ((Below.refl _ _).alloc (Nat.le_refl _) _) (Nat.le_refl _) _
            have hrU : rowN U Z1.heap.size = some (arr .u8 O) := by rw [← hU]; exact row_new (cs := arr .u8 z32) (by rw [rowN_alloc, if_pos rfl])
            rw [hU]
            have HBW := Lib.hid (HBF1.out.trans (hbU.mono HBF1.out.size))
            have HAW := Lib.hid (HAF1.out.kept hbU)
            obtain ⟨g8, hg8⟩ : ∃ g, Z1.heap.size = g := ⟨_, rfl⟩
            rw [hg8] at hrU ⊢
            have Hh_0 := Lib.hid (show rowN U.drew g8 = some (arr .u8 O) from hrU)
            have HL_0 := Lib.hid (show Below U.heap.size U U.drew from (Below.refl _ U).drew)
            clear hU hbU hrU hg8
            refine wp_region_noPanic ?_
            refine wp_region_held_drew (S := fun W => rowN W g8 = some (arr .u8 O)) (by kernel_rfl) Hh_0.out (fun hHeld0 => ?_)
            obtain ⟨x0, hx0⟩ : ∃ X, U.drew = X := ⟨_, rfl⟩
            rw [hx0] at Hh_0 HL_0 hHeld0 ⊢
            clear hx0
            refine wpAnyH_take (i := 0) (oi := { dst := some 161, op := Op.move (Operand.tmp 22), type := 28, pos := "law.go:124", after := #[], guard := none }) (v := ?tk26) rfl (by kernel_rfl) (by kernel_rfl) (by kernel_rfl) (fun _ _ _ h => h) (Or.inl ⟨by rfl, ?tw26⟩) hHeld0 ?_
            case tw26 => (intro W hW; clear hW; first | (go_simp; done) | (go_simp; with_reducible rfl))
            try simp only [Act.put, List.setIfInBounds_toArray, List.set_cons_zero, List.set_cons_succ]
            refine wpAnyH_take (i := 1) (oi := { dst := some 162, op := Op.binOp BinOp.eql 28 (Operand.tmp 161) (Operand.const (Value.int IntKind.i64 0)) 28, type := 4, pos := "law.go:124", after := #[{ on := 0, ground := Ground.data }], guard := none }) (v := ?tk27) rfl (by kernel_rfl) (by kernel_rfl) (by kernel_rfl) (fun _ _ _ h => h) (Or.inl ⟨by rfl, ?tw27⟩) hHeld0 ?_
            case tw27 => (intro W hW; clear hW; first | (go_simp; done) | (go_simp; with_reducible rfl))
            try simp only [Act.put, List.setIfInBounds_toArray, List.set_cons_zero, List.set_cons_succ]
            refine wpAnyH_take (i := 2) (oi := { dst := some 163, op := Op.move (Operand.tmp 162), type := 4, pos := "law.go:124", after := #[{ on := 1, ground := Ground.data }], guard := none }) (v := ?tk28) rfl (by kernel_rfl) (by kernel_rfl) (by kernel_rfl) (fun _ _ _ h => h) (Or.inl ⟨by rfl, ?tw28⟩) hHeld0 ?_
            case tw28 => (intro W hW; clear hW; first | (go_simp; done) | (go_simp; with_reducible rfl))
            try simp only [Act.put, List.setIfInBounds_toArray, List.set_cons_zero, List.set_cons_succ]
            refine wpAnyH_take (i := 3) (oi := { dst := some 164, op := Op.slice 27 (Operand.tmp 21) none none none, type := 22, pos := "law.go:124", after := #[{ on := 2, ground := Ground.guard }], guard := some (2, true) }) (v := ?tk29) rfl (by kernel_rfl) (by kernel_rfl) (by kernel_rfl) (fun _ _ _ h => h) (Or.inl ⟨by rfl, ?tw29⟩) hHeld0 ?_
            case tw29 => (intro W hW; clear hW; first | (go_simp; done) | (go_simp; with_reducible rfl))
            try simp only [Act.put, List.setIfInBounds_toArray, List.set_cons_zero, List.set_cons_succ]
            refine wpAnyH_take (i := 4) (oi := { dst := some 165, op := Op.convert 22 9 (Operand.tmp 164), type := 9, pos := "law.go:124", after := #[{ on := 3, ground := Ground.data }, { on := 2, ground := Ground.guard }], guard := some (2, true) }) (v := .string (strOf O)) rfl (by kernel_rfl) (by kernel_rfl) (by kernel_rfl) (fun _ _ _ h => h) (Or.inl ⟨by rfl, fun W hW => ?_⟩) hHeld0 ?_
            · (have hst := str_arr hW HO32.out; clear hW; go_simp)
            try simp only [Act.put, List.setIfInBounds_toArray, List.set_cons_zero, List.set_cons_succ]
            refine wpAnyH_take (i := 5) (oi := { dst := some 166, op := Op.move (Operand.tmp 0), type := 22, pos := "law.go:124", after := #[{ on := 2, ground := Ground.guard }], guard := some (2, true) }) (v := ?tk30) rfl (by kernel_rfl) (by kernel_rfl) (by kernel_rfl) (fun _ _ _ h => h) (Or.inl ⟨by rfl, ?tw30⟩) hHeld0 ?_
            case tw30 => (intro W hW; clear hW; first | (go_simp; done) | (go_simp; with_reducible rfl))
            try simp only [Act.put, List.setIfInBounds_toArray, List.set_cons_zero, List.set_cons_succ]
            refine wpAnyH_take (i := 6) (oi := { dst := some 167, op := Op.move (Operand.tmp 14), type := 22, pos := "law.go:124", after := #[{ on := 2, ground := Ground.guard }], guard := some (2, true) }) (v := ?tk31) rfl (by kernel_rfl) (by kernel_rfl) (by kernel_rfl) (fun _ _ _ h => h) (Or.inl ⟨by rfl, ?tw31⟩) hHeld0 ?_
            case tw31 => (intro W hW; clear hW; first | (go_simp; done) | (go_simp; with_reducible rfl))
            try simp only [Act.put, List.setIfInBounds_toArray, List.set_cons_zero, List.set_cons_succ]
            refine wpAnyH_ready (rs := [7]) (by kernel_rfl) (by simp) ?_
            refine AllReadyH.cons (o := { dst := some 168, op := Op.call { callee := Callee.value (Operand.func 12), args := #[Operand.tmp 166, Operand.tmp 167], argTypes := #[22, 22] }, type := 22, pos := "law.go:124", after := #[{ on := 5, ground := Ground.data }, { on := 6, ground := Ground.data }, { on := 2, ground := Ground.chain }, { on := 2, ground := Ground.guard }], guard := some (2, true) }) rfl (fun K' hK => ?_) AllReadyH.nil
            go_simp
            refine ((HRSF.out _ _ (HBW.out.trans (HL_0.out.mono HBW.out.size)) (HAW.out.kept HL_0.out) HANF.out)).mono ?_
            rintro e x1 ⟨gr, rfl, _, hrr, hb⟩
            have Hh_1 := Lib.hid (keptW hb Hh_0.out)
            have Hr_1 := Lib.hid hrr
            have HL_1 := Lib.hid (HL_0.out.trans (hb.mono HL_0.out.size))
            clear hb hrr
            refine hK.out _ _ Hh_1.out (fun hHeld1 => ?_)
            clear hK K'
            try simp only [Act.put, List.setIfInBounds_toArray, List.set_cons_zero, List.set_cons_succ]
            refine wpAnyH_ready (rs := [8]) (by kernel_rfl) (by simp) ?_
            refine AllReadyH.cons (o := { dst := some 169, op := Op.convert 22 9 (Operand.tmp 168), type := 9, pos := "law.go:124", after := #[{ on := 7, ground := Ground.data }, { on := 2, ground := Ground.guard }], guard := some (2, true) }) rfl (fun K' hK => ?_) AllReadyH.nil
            rw [if_pos (by rfl)]
            have hst := str_arr Hr_1.out HO32.out
            go_simp
            clear hst
            obtain ⟨x2, hxx⟩ : ∃ X, X = x1 := ⟨_, rfl⟩
            subst hxx
            have Hh_2 := Hh_1
            have HL_2 := HL_1
            refine hK.out _ _ Hh_2.out (fun hHeld2 => ?_)
            clear hK K'
            try simp only [Act.put, List.setIfInBounds_toArray, List.set_cons_zero, List.set_cons_succ]
            refine wpAnyH_take (i := 9) (oi := { dst := some 170, op := Op.binOp BinOp.eql 9 (Operand.tmp 165) (Operand.tmp 169) 9, type := 4, pos := "law.go:124", after := #[{ on := 4, ground := Ground.data }, { on := 8, ground := Ground.data }, { on := 2, ground := Ground.guard }], guard := some (2, true) }) (v := ?tk32) rfl (by kernel_rfl) (by kernel_rfl) (by kernel_rfl) (fun _ _ _ h => h) (Or.inl ⟨by rfl, ?tw32⟩) hHeld2 ?_
            case tw32 => (intro W hW; clear hW; first | (go_simp; done) | (go_simp; with_reducible rfl))
            try simp only [Act.put, List.setIfInBounds_toArray, List.set_cons_zero, List.set_cons_succ]
            refine wpAnyH_take (i := 10) (oi := { dst := some 171, op := Op.pick (Operand.tmp 163) (Operand.tmp 170) (Operand.const (Value.bool false)), type := 4, pos := "law.go:124", after := #[{ on := 2, ground := Ground.data }, { on := 9, ground := Ground.data }], guard := none }) (v := ?tk33) rfl (by kernel_rfl) (by kernel_rfl) (by kernel_rfl) (fun _ _ _ h => h) (Or.inl ⟨by rfl, ?tw33⟩) hHeld2 ?_
            case tw33 => (intro W hW; clear hW; first | (go_simp; done) | (go_simp; with_reducible rfl))
            try simp only [Act.put, List.setIfInBounds_toArray, List.set_cons_zero, List.set_cons_succ]
            refine wpAnyH_take (i := 11) (oi := { dst := some 172, op := Op.move (Operand.tmp 171), type := 4, pos := "law.go:124", after := #[{ on := 10, ground := Ground.data }, { on := 7, ground := Ground.chain }], guard := none }) (v := ?tk34) rfl (by kernel_rfl) (by kernel_rfl) (by kernel_rfl) (fun _ _ _ h => h) (Or.inl ⟨by rfl, ?tw34⟩) hHeld2 ?_
            case tw34 => (intro W hW; clear hW; first | (go_simp; done) | (go_simp; with_reducible rfl))
            try simp only [Act.put, List.setIfInBounds_toArray, List.set_cons_zero, List.set_cons_succ]
            refine wpAnyH_ready (rs := [12]) (by kernel_rfl) (by simp) ?_
            refine AllReadyH.cons (o := { dst := some 173, op := Op.call { callee := Callee.value (Operand.func 9), args := #[], argTypes := #[] }, type := 4, pos := "law.go:124", after := #[{ on := 11, ground := Ground.chain }, { on := 11, ground := Ground.guard }], guard := some (11, true) }) rfl (fun K' hK => ?_) AllReadyH.nil
            go_simp
            refine ((known_any _ (HK.out.kept (HBW.out.trans (HL_2.out.mono HBW.out.size))))).mono ?_
            rintro e x3 ⟨rfl, hb⟩
            have Hh_3 := Lib.hid (keptW hb Hh_2.out)
            have HL_3 := Lib.hid (HL_2.out.trans (hb.mono HL_2.out.size))
            clear hb
            refine hK.out _ _ Hh_3.out (fun hHeld3 => ?_)
            clear hK K'
            try simp only [Act.put, List.setIfInBounds_toArray, List.set_cons_zero, List.set_cons_succ]
            refine wpAnyH_take (i := 13) (oi := { dst := some 174, op := Op.pick (Operand.tmp 172) (Operand.tmp 173) (Operand.const (Value.bool false)), type := 4, pos := "law.go:124", after := #[{ on := 11, ground := Ground.data }, { on := 12, ground := Ground.data }], guard := none }) (v := ?tk35) rfl (by kernel_rfl) (by kernel_rfl) (by kernel_rfl) (fun _ _ _ h => h) (Or.inl ⟨by rfl, ?tw35⟩) hHeld3 ?_
            case tw35 => (intro W hW; clear hW; first | (go_simp; done) | (go_simp; with_reducible rfl))
            try simp only [Act.put, List.setIfInBounds_toArray, List.set_cons_zero, List.set_cons_succ]
            refine wpAnyH_take (i := 14) (oi := { dst := some 6, op := Op.assign (Operand.tmp 174), type := 4, pos := "law.go:124", after := #[{ on := 13, ground := Ground.data }, { on := 12, ground := Ground.chain }, { on := 0, ground := Ground.phase }, { on := 1, ground := Ground.phase }, { on := 2, ground := Ground.phase }, { on := 3, ground := Ground.phase }, { on := 4, ground := Ground.phase }, { on := 5, ground := Ground.phase }, { on := 6, ground := Ground.phase }, { on := 7, ground := Ground.phase }, { on := 8, ground := Ground.phase }, { on := 9, ground := Ground.phase }, { on := 10, ground := Ground.phase }, { on := 11, ground := Ground.phase }, { on := 12, ground := Ground.phase }, { on := 13, ground := Ground.phase }], guard := none }) (v := ?tk36) rfl (by kernel_rfl) (by kernel_rfl) (by kernel_rfl) (fun _ _ _ h => h) (Or.inl ⟨by rfl, ?tw36⟩) hHeld3 ?_
            case tw36 => (intro W hW; clear hW; first | (go_simp; done) | (go_simp; with_reducible rfl))
            try simp only [Act.put, List.setIfInBounds_toArray, List.set_cons_zero, List.set_cons_succ]
            refine wpAnyH_done (by kernel_rfl) ?_ _
            refine NoPanic.normal ?_
            go_wp2_with fail
            go_ret
            exact ⟨rfl, HBW.out.trans (HL_3.out.mono HBW.out.size)⟩
          · have hcN1 : ((cp : Nat) : Int) < ((N : Nat) : Int) := by omega
            rw [hze] at hHo hEo hEi HCL2
            obtain ⟨ae, ce, rfl⟩ : ∃ a c, u15 = .slice a ze.length c := by obtain ⟨_, a, c, e, _⟩ := hEo; exact ⟨a, c, e⟩
            obtain ⟨Le, hLe⟩ : ∃ L, ze.length = L := ⟨_, rfl⟩
            have HLE := Lib.hid hLe
            have HEO := Lib.hid hEo
            have HEN := Lib.hid hEn
            have HHO := Lib.hid hHo
            rw [hLe] at HEO HEN ⊢
            have HEI := Lib.hid hEi
            rw [hLe] at HEI
            have hO3 : (macL key (ze ++ [5])).length = 32 := macL_len key _
            have HSM3 := Lib.hid (fun W h1 h3 => HSM.out go (ze ++ [5]) W h1 (by rw [List.length_append]; have := HCL2.out; simp; omega) h3)
            have HRS3 := Lib.hid (fun s W h1 h2 h3 => HRS.out (ze ++ [5]) s W h1 h2 h3 (by rw [List.length_append]; have := HCL2.out; simp; omega))
            obtain ⟨O3, hOe3⟩ : ∃ O, macL key (ze ++ [5]) = O := ⟨_, rfl⟩
            rw [hOe3] at hO3 HSM3 HRS3
            have HO33 := Lib.hid hO3
            have sz3 : (arr .u8 O3).size = 32 := by rw [arr_size, hO3]
            have HLL3 := Lib.hid (fun (W : World) (g : Nat) (h : rowN W g = some #[.int .u8 5]) => show BytesAt [5] (.slice (some ⟨g, 0, none⟩) 1 1) W from
              bytes_row (fun x hx => by simp at hx; omega) (by rw [h, arr_lit]; rfl) 1 rfl)
            have HAG := Lib.hid (hAG go rfl)
            rw [hLz2.out] at HAG
            have HGO1 := Lib.hid (show go ≠ 1 by have := HW12.out; omega)
            clear hHo hEo hEn hEi hOe3 hLe hze hAG
            go_wp2_with fail
            have hb1 : Below wr.heap.size wr (wr.alloc (.cells #[.int .u8 5] 5)) := (Below.refl _ _).alloc (Nat.le_refl _) _
            have HB3 := Lib.hid (HBF.out.trans (hb1.mono HBF.out.size))
            have hgoY := HHO.out.lt
            refine (HWR.out go ze [5] _ _ (HHO.out.kept hb1) (by have := HCL2.out; simp; omega) (HK.out.kept HB3.out) HGO1.out (HLL3.out _ wr.heap.size (by rw [rowN_alloc, if_pos rfl])) (fun j _ hj e => by obtain ⟨_, _, _, _, e2⟩ := hj; cases e2; omega)).mono ?_
            rintro e Y3 ⟨rfl, hh, hg⟩
            have hkp : Keeps (fun j => j = go) wr Y3 := (Keeps.of_below hb1).trans (Keeps.of_grownBy hg (fun r e => by cases e; rfl))
            have HHO3 := Lib.hid hh
            have HEO3 := Lib.hid (HEO.out.keeps hkp (fun j h0 hj hM => (HEI.out j hj).2 (by rw [HLE.out] at h0; exact h0) hM))
            have HHF3 := Lib.hid (HHF.out.keeps hkp (by omega))
            have HAF3 := Lib.hid (HAF.out.keeps hkp (fun j h0 hj hM => by have := HAG.out j hj; omega))
            have HB4 := Lib.hid (HB3.out.grown hg HB3.out.size (fun r e => by cases e; omega))
            clear hb1 hh hg hkp HB3 HHO HEO HHF HAF HBF hgoY
            go_wp2_with fail
            refine (HSM3.out _ HHO3.out (HK.out.kept HB4.out)).mono ?_
            rintro e Y4 ⟨rfl, hb1⟩
            have HB5 := Lib.hid (HB4.out.trans (hb1.mono HB4.out.size))
            have HEO4 := Lib.hid (HEO3.out.kept hb1)
            have HHF4 := Lib.hid (HHF3.out.kept hb1)
            have HAF4 := Lib.hid (HAF3.out.kept hb1)
            clear hb1 HB4 HHO3 HEO3 HHF3 HAF3
            go_upto_region 31 with fail
            obtain ⟨V, hV⟩ : ∃ V, (Y4.alloc (.cells (arr .u8 z32) 27)).setRow Y4.heap.size (arr .u8 O3) = V := ⟨_, rfl⟩
            have hbV : Below Y4.heap.size Y4 V := by rw [← hV]; exact below_setRow' ((Below.refl _ _).alloc (Nat.le_refl _) _) (Nat.le_refl _) _
            have hrV : rowN V Y4.heap.size = some (arr .u8 O3) := by rw [← hV]; exact row_new (cs := arr .u8 z32) (by rw [rowN_alloc, if_pos rfl])
            rw [hV]
            have HBV := Lib.hid (HB5.out.trans (hbV.mono HB5.out.size))
            have HEV := Lib.hid (HEO4.out.kept hbV)
            have HHV := Lib.hid (HHF4.out.kept hbV)
            have HAV := Lib.hid (HAF4.out.kept hbV)
            obtain ⟨g9, hg9⟩ : ∃ g, Y4.heap.size = g := ⟨_, rfl⟩
            rw [hg9] at hrV ⊢
            have Hh_0 := Lib.hid (show rowN V.drew g9 = some (arr .u8 O3) from hrV)
            have HL_0 := Lib.hid (show Below V.heap.size V V.drew from (Below.refl _ V).drew)
            clear hV hbV hrV hg9 HB5 HEO4 HHF4 HAF4
            have Hh0 := Lib.hid (show rowN V g9 = some (arr .u8 O3) from Hh_0.out)
            refine wp_region_noPanic ?_
            refine wp_region_held_drew (S := fun W => rowN W g9 = some (arr .u8 O3)) (by kernel_rfl) Hh_0.out (fun hHeld0 => ?_)
            obtain ⟨x0, hx0⟩ : ∃ X, V.drew = X := ⟨_, rfl⟩
            rw [hx0] at Hh_0 HL_0 hHeld0 ⊢
            clear hx0
            refine wpAnyH_take (i := 0) (oi := { dst := some 141, op := Op.move (Operand.tmp 20), type := 28, pos := "law.go:119", after := #[], guard := none }) (v := ?tk37) rfl (by kernel_rfl) (by kernel_rfl) (by kernel_rfl) (fun _ _ _ h => h) (Or.inl ⟨by rfl, ?tw37⟩) hHeld0 ?_
            case tw37 => (intro W hW; clear hW; first | (go_simp; done) | (go_simp; with_reducible rfl))
            try simp only [Act.put, List.setIfInBounds_toArray, List.set_cons_zero, List.set_cons_succ]
            refine wpAnyH_take (i := 1) (oi := { dst := some 142, op := Op.binOp BinOp.neq 28 (Operand.tmp 141) (Operand.const (Value.int IntKind.i64 0)) 28, type := 4, pos := "law.go:119", after := #[{ on := 0, ground := Ground.data }], guard := none }) (v := ?tk38) rfl (by kernel_rfl) (by kernel_rfl) (by kernel_rfl) (fun _ _ _ h => h) (Or.inl ⟨by rfl, ?tw38⟩) hHeld0 ?_
            case tw38 => (intro W hW; clear hW; first | (go_simp; done) | (go_simp; with_reducible rfl))
            try simp only [Act.put, List.setIfInBounds_toArray, List.set_cons_zero, List.set_cons_succ]
            refine wpAnyH_take (i := 2) (oi := { dst := some 143, op := Op.move (Operand.tmp 142), type := 4, pos := "law.go:119", after := #[{ on := 1, ground := Ground.data }], guard := none }) (v := ?tk39) rfl (by kernel_rfl) (by kernel_rfl) (by kernel_rfl) (fun _ _ _ h => h) (Or.inl ⟨by rfl, ?tw39⟩) hHeld0 ?_
            case tw39 => (intro W hW; clear hW; first | (go_simp; done) | (go_simp; with_reducible rfl))
            try simp only [Act.put, List.setIfInBounds_toArray, List.set_cons_zero, List.set_cons_succ]
            refine wpAnyH_take (i := 3) (oi := { dst := some 144, op := Op.slice 27 (Operand.tmp 19) none none none, type := 22, pos := "law.go:119", after := #[{ on := 2, ground := Ground.guard }], guard := some (2, false) }) (v := ?tk40) rfl (by kernel_rfl) (by kernel_rfl) (by kernel_rfl) (fun _ _ _ h => h) (Or.inl ⟨by rfl, ?tw40⟩) hHeld0 ?_
            case tw40 => (intro W hW; clear hW; first | (go_simp; done) | (go_simp; with_reducible rfl))
            try simp only [Act.put, List.setIfInBounds_toArray, List.set_cons_zero, List.set_cons_succ]
            refine wpAnyH_take (i := 4) (oi := { dst := some 145, op := Op.convert 22 9 (Operand.tmp 144), type := 9, pos := "law.go:119", after := #[{ on := 3, ground := Ground.data }, { on := 2, ground := Ground.guard }], guard := some (2, false) }) (v := .string (strOf O3)) rfl (by kernel_rfl) (by kernel_rfl) (by kernel_rfl) (fun _ _ _ h => h) (Or.inl ⟨by rfl, fun W hW => ?_⟩) hHeld0 ?_
            · (have hst := str_arr hW HO33.out; clear hW; go_simp)
            try simp only [Act.put, List.setIfInBounds_toArray, List.set_cons_zero, List.set_cons_succ]
            refine wpAnyH_take (i := 5) (oi := { dst := some 146, op := Op.move (Operand.tmp 0), type := 22, pos := "law.go:119", after := #[{ on := 2, ground := Ground.guard }], guard := some (2, false) }) (v := ?tk41) rfl (by kernel_rfl) (by kernel_rfl) (by kernel_rfl) (fun _ _ _ h => h) (Or.inl ⟨by rfl, ?tw41⟩) hHeld0 ?_
            case tw41 => (intro W hW; clear hW; first | (go_simp; done) | (go_simp; with_reducible rfl))
            try simp only [Act.put, List.setIfInBounds_toArray, List.set_cons_zero, List.set_cons_succ]
            refine wpAnyH_take (i := 7) (oi := { dst := some 148, op := Op.move (Operand.tmp 15), type := 22, pos := "law.go:119", after := #[{ on := 2, ground := Ground.guard }], guard := some (2, false) }) (v := ?tk42) rfl (by kernel_rfl) (by kernel_rfl) (by kernel_rfl) (fun _ _ _ h => h) (Or.inl ⟨by rfl, ?tw42⟩) hHeld0 ?_
            case tw42 => (intro W hW; clear hW; first | (go_simp; done) | (go_simp; with_reducible rfl))
            try simp only [Act.put, List.setIfInBounds_toArray, List.set_cons_zero, List.set_cons_succ]
            refine wpAnyH_ready (rs := [6, 9]) (by kernel_rfl) (by simp) ?_
            refine AllReadyH.cons (o := { dst := some 147, op := Op.buildSlice 22 0 #[], type := 22, pos := "law.go:119", after := #[{ on := 2, ground := Ground.guard }], guard := some (2, false) }) rfl (fun K' hK => ?_) ?_
            · rw [if_pos (by rfl)]
              go_simp
              obtain ⟨x1, hx1⟩ : ∃ X, x0.alloc (.cells #[] 5) = X := ⟨_, rfl⟩
              have hb : Below x0.heap.size x0 x1 := by rw [← hx1]; exact (Below.refl _ _).alloc (Nat.le_refl _) _
              have Ho_1 := Lib.hid (show x1.ownsRow V.heap.size 5 1 (.slice (some ⟨x0.heap.size, 0, none⟩) 0 0) ([] : List Nat).length (cl []) by rw [← hx1]; exact World.ownsRow_lit _ #[] 0 HL_0.out.size (by unfold maxLen; omega) rfl)
              have Hh_1 := Lib.hid (keptW hb Hh_0.out)
              have HL_1 := Lib.hid (HL_0.out.trans (hb.mono HL_0.out.size))
              try have Hf_1 := Lib.hid (Hf_0.out.kept hb)
              try have HFO := Lib.hid (fun (r : Nat) (e : (Value.slice (some ⟨x0.heap.size, 0, none⟩) 0 0).ownBlock = some r) => (show gf ≠ r from by have h : x0.heap.size = r := (by simpa [Value.ownBlock] using e); have := Hfl_0.out; omega))
              try have Hfl_1 := Lib.hid (show gf < x1.heap.size by have := Hfl_0.out; have := hb.size; omega)
              clear hb
              rw [hx1]
              refine hK.out _ _ Hh_1.out (fun hHeld1 => ?_)
              clear hK K'
              try simp only [Act.put, List.setIfInBounds_toArray, List.set_cons_zero, List.set_cons_succ]
              refine wpAnyH_ready (rs := [8, 9]) (by kernel_rfl) (by simp) ?_
              refine AllReadyH.cons (o := { dst := some 149, op := Op.call { callee := Callee.builtin Builtin.append, args := #[Operand.tmp 147, Operand.tmp 148], argTypes := #[22, 22] }, type := 22, pos := "law.go:119", after := #[{ on := 6, ground := Ground.data }, { on := 7, ground := Ground.data }, { on := 2, ground := Ground.chain }, { on := 2, ground := Ground.guard }], guard := some (2, false) }) rfl (fun K' hK => ?_) ?_
              · rw [if_pos (by rfl)]
                refine wp_app _ _ rfl V.heap.size rfl rfl Ho_1.out (HEV.out.kept HL_1.out) HEN.out (by have h := HCL2.out; rw [HLE.out] at h ⊢; simp; omega) HL_1.out.size ?_
                intro vb x2 hva hga
                have hbl := below_owned (Below.refl V.heap.size x1) Ho_1.out hga HL_1.out.size
                rw [List.nil_append] at hva
                have Ho_2 := Lib.hid hva
                have HL_2 := Lib.hid (HL_1.out.trans hbl)
                have Hh_2 := Lib.hid (keptW (HL_2.out) Hh0.out)
                try have Hf_2 := Lib.hid (Hf_1.out.keeps (Keeps.of_grownBy (M := fun j => j ≠ gf) hga (fun r e => (HFO.out r e).symm)) (fun j _ hj hM => by obtain ⟨_, _, _, _, e2⟩ := hj; cases e2; exact hM rfl))
                try have Hfl_2 := Lib.hid (show gf < x2.heap.size by have := Hfl_1.out; have := hga.size; omega)
                clear hva hga hbl
                refine hK.out _ _ Hh_2.out (fun hHeld2 => ?_)
                clear hK K'
                try simp only [Act.put, List.setIfInBounds_toArray, List.set_cons_zero, List.set_cons_succ]
                refine wpAnyH_ready (rs := [9]) (by kernel_rfl) (by simp) ?_
                refine AllReadyH.cons (o := { dst := some 150, op := Op.buildSlice 22 1 #[(0, Operand.const (Value.int IntKind.u8 5))], type := 22, pos := "law.go:119", after := #[{ on := 2, ground := Ground.guard }], guard := some (2, false) }) rfl (fun K' hK => ?_) AllReadyH.nil
                rw [if_pos (by rfl)]
                go_simp
                obtain ⟨x3, hx3⟩ : ∃ X, x2.alloc (.cells #[.int .u8 5] 5) = X := ⟨_, rfl⟩
                have hb : Below x2.heap.size x2 x3 := by rw [← hx3]; exact (Below.refl _ _).alloc (Nat.le_refl _) _
                have Hf_3 := Lib.hid (HLL3.out x3 x2.heap.size (by rw [← hx3, rowN_alloc, if_pos rfl]))
                have Hh_3 := Lib.hid (keptW hb Hh_2.out)
                have HL_3 := Lib.hid (HL_2.out.trans (hb.mono HL_2.out.size))
                try have Ho_3 := Lib.hid (Ho_2.out.alloc (.cells #[.int .u8 5] 5))
                try rw [hx3] at Ho_3
                obtain ⟨gf, hgf⟩ : ∃ g, x2.heap.size = g := ⟨_, rfl⟩
                have Hfl_3 := Lib.hid (show gf < x3.heap.size by rw [← hgf, ← hx3]; simp)
                try have HFO := Lib.hid (fun (r : Nat) e => Nat.ne_of_gt (Nat.lt_of_lt_of_eq (Ho_2.out.lt r e).2 hgf))
                rw [hgf] at Hf_3 ⊢
                clear hb hgf
                rw [hx3]
                refine hK.out _ _ Hh_3.out (fun hHeld3 => ?_)
                clear hK K'
                try simp only [Act.put, List.setIfInBounds_toArray, List.set_cons_zero, List.set_cons_succ]
                refine wpAnyH_ready (rs := [10]) (by kernel_rfl) (by simp) ?_
                refine AllReadyH.cons (o := { dst := some 151, op := Op.call { callee := Callee.builtin Builtin.append, args := #[Operand.tmp 149, Operand.tmp 150], argTypes := #[22, 22] }, type := 22, pos := "law.go:119", after := #[{ on := 8, ground := Ground.data }, { on := 9, ground := Ground.data }, { on := 8, ground := Ground.chain }, { on := 2, ground := Ground.guard }], guard := some (2, false) }) rfl (fun K' hK => ?_) AllReadyH.nil
                rw [if_pos (by rfl)]
                refine wp_app _ _ rfl V.heap.size rfl rfl Ho_3.out Hf_3.out (fun L c e => by cases e) (by rw [HLE.out]; simp; have := HCL2.out; rw [HLE.out] at this; omega) HL_3.out.size ?_
                intro vc x4 hva hga
                have hbl := below_owned (Below.refl V.heap.size x3) Ho_3.out hga HL_3.out.size
                have HL_4 := Lib.hid (HL_3.out.trans hbl)
                have Hh_4 := Lib.hid (keptW (HL_4.out) Hh0.out)
                have hz8 := owns_both (fun y hy => by rcases List.mem_append.1 hy with hy | hy; exact HEV.out.1 y hy; simp at hy; omega) hva
                have HZ8_4 := Lib.hid hz8.1
                have HN8 := Lib.hid (owns_nil0 hva)
                obtain ⟨a8, c8, rfl⟩ := owns_slice hva
                clear hva hga hbl hz8
                obtain ⟨L8, hL8⟩ : ∃ L, (ze ++ [5]).length = L := ⟨_, rfl⟩
                rw [hL8] at HZ8_4 HN8 ⊢
                clear hL8
                refine hK.out _ _ Hh_4.out (fun hHeld4 => ?_)
                clear hK K'
                try simp only [Act.put, List.setIfInBounds_toArray, List.set_cons_zero, List.set_cons_succ]
                refine wpAnyH_ready (rs := [11]) (by kernel_rfl) (by simp) ?_
                refine AllReadyH.cons (o := { dst := some 152, op := Op.call { callee := Callee.value (Operand.func 12), args := #[Operand.tmp 146, Operand.tmp 151], argTypes := #[22, 22] }, type := 22, pos := "law.go:119", after := #[{ on := 5, ground := Ground.data }, { on := 10, ground := Ground.data }, { on := 10, ground := Ground.chain }, { on := 2, ground := Ground.guard }], guard := some (2, false) }) rfl (fun K' hK => ?_) AllReadyH.nil
                go_simp
                refine ((HRS3.out _ _ (HBV.out.trans (HL_4.out.mono HBV.out.size)) HZ8_4.out HN8.out)).mono ?_
                rintro e x5 ⟨gr, rfl, _, hrr, hb⟩
                have Hh_5 := Lib.hid (keptW hb Hh_4.out)
                have Hr_5 := Lib.hid hrr
                have HL_5 := Lib.hid (HL_4.out.trans (hb.mono HL_4.out.size))
                clear hb hrr
                refine hK.out _ _ Hh_5.out (fun hHeld5 => ?_)
                clear hK K'
                try simp only [Act.put, List.setIfInBounds_toArray, List.set_cons_zero, List.set_cons_succ]
                refine wpAnyH_ready (rs := [12]) (by kernel_rfl) (by simp) ?_
                refine AllReadyH.cons (o := { dst := some 153, op := Op.convert 22 9 (Operand.tmp 152), type := 9, pos := "law.go:119", after := #[{ on := 11, ground := Ground.data }, { on := 2, ground := Ground.guard }], guard := some (2, false) }) rfl (fun K' hK => ?_) AllReadyH.nil
                rw [if_pos (by rfl)]
                have hst := str_arr Hr_5.out HO33.out
                go_simp
                clear hst
                obtain ⟨x6, hxx⟩ : ∃ X, X = x5 := ⟨_, rfl⟩
                subst hxx
                have Hh_6 := Hh_5
                have HL_6 := HL_5
                refine hK.out _ _ Hh_6.out (fun hHeld6 => ?_)
                clear hK K'
                try simp only [Act.put, List.setIfInBounds_toArray, List.set_cons_zero, List.set_cons_succ]
                refine wpAnyH_take (i := 13) (oi := { dst := some 154, op := Op.binOp BinOp.neq 9 (Operand.tmp 145) (Operand.tmp 153) 9, type := 4, pos := "law.go:119", after := #[{ on := 4, ground := Ground.data }, { on := 12, ground := Ground.data }, { on := 2, ground := Ground.guard }], guard := some (2, false) }) (v := ?tk43) rfl (by kernel_rfl) (by kernel_rfl) (by kernel_rfl) (fun _ _ _ h => h) (Or.inl ⟨by rfl, ?tw43⟩) hHeld6 ?_
                case tw43 => (intro W hW; clear hW; first | (go_simp; done) | (go_simp; with_reducible rfl))
                try simp only [Act.put, List.setIfInBounds_toArray, List.set_cons_zero, List.set_cons_succ]
                refine wpAnyH_take (i := 14) (oi := { dst := some 155, op := Op.pick (Operand.tmp 143) (Operand.const (Value.bool true)) (Operand.tmp 154), type := 4, pos := "law.go:119", after := #[{ on := 2, ground := Ground.data }, { on := 13, ground := Ground.data }], guard := none }) (v := ?tk44) rfl (by kernel_rfl) (by kernel_rfl) (by kernel_rfl) (fun _ _ _ h => h) (Or.inl ⟨by rfl, ?tw44⟩) hHeld6 ?_
                case tw44 => (intro W hW; clear hW; first | (go_simp; done) | (go_simp; with_reducible rfl))
                try simp only [Act.put, List.setIfInBounds_toArray, List.set_cons_zero, List.set_cons_succ]
                refine wpAnyH_done (by kernel_rfl) ?_ _
                refine NoPanic.normal ?_
                have HHF := Lib.hid (HHV.out.kept HL_6.out)
                have HAF := Lib.hid (HAV.out.kept HL_6.out)
                have HBF := Lib.hid (HBV.out.trans (HL_6.out.mono HBV.out.size))
                clear HL_0 Hh_0 HL_6 Hh_6
                go_wp2_with fail
                refine (HSMF.out _ HHF.out (HK.out.kept HBF.out)).mono ?_
                rintro e Z1 ⟨rfl, hb1⟩
                have HBF1 := Lib.hid (HBF.out.trans (hb1.mono HBF.out.size))
                have HAF1 := Lib.hid (HAF.out.kept hb1)
                clear hb1
                go_upto_region 34 with fail
                obtain ⟨U, hU⟩ : ∃ U, (Z1.alloc (.cells (arr .u8 z32) 27)).setRow Z1.heap.size (arr .u8 O) = U := ⟨_, rfl⟩
                have hbU : Below Z1.heap.size Z1 U := by rw [← hU]; exact below_setRow' ((Below.refl _ _).alloc (Nat.le_refl _) _) (Nat.le_refl _) _
                have hrU : rowN U Z1.heap.size = some (arr .u8 O) := by rw [← hU]; exact row_new (cs := arr .u8 z32) (by rw [rowN_alloc, if_pos rfl])
                rw [hU]
                have HBW := Lib.hid (HBF1.out.trans (hbU.mono HBF1.out.size))
                have HAW := Lib.hid (HAF1.out.kept hbU)
                obtain ⟨g8, hg8⟩ : ∃ g, Z1.heap.size = g := ⟨_, rfl⟩
                rw [hg8] at hrU ⊢
                have Hh_0 := Lib.hid (show rowN U.drew g8 = some (arr .u8 O) from hrU)
                have HL_0 := Lib.hid (show Below U.heap.size U U.drew from (Below.refl _ U).drew)
                clear hU hbU hrU hg8
                refine wp_region_noPanic ?_
                refine wp_region_held_drew (S := fun W => rowN W g8 = some (arr .u8 O)) (by kernel_rfl) Hh_0.out (fun hHeldp0 => ?_)
                obtain ⟨p0, hx0⟩ : ∃ X, U.drew = X := ⟨_, rfl⟩
                rw [hx0] at Hh_0 HL_0 hHeldp0 ⊢
                clear hx0
                refine wpAnyH_take (i := 0) (oi := { dst := some 161, op := Op.move (Operand.tmp 22), type := 28, pos := "law.go:124", after := #[], guard := none }) (v := ?tk45) rfl (by kernel_rfl) (by kernel_rfl) (by kernel_rfl) (fun _ _ _ h => h) (Or.inl ⟨by rfl, ?tw45⟩) hHeldp0 ?_
                case tw45 => (intro W hW; clear hW; first | (go_simp; done) | (go_simp; with_reducible rfl))
                try simp only [Act.put, List.setIfInBounds_toArray, List.set_cons_zero, List.set_cons_succ]
                refine wpAnyH_take (i := 1) (oi := { dst := some 162, op := Op.binOp BinOp.eql 28 (Operand.tmp 161) (Operand.const (Value.int IntKind.i64 0)) 28, type := 4, pos := "law.go:124", after := #[{ on := 0, ground := Ground.data }], guard := none }) (v := ?tk46) rfl (by kernel_rfl) (by kernel_rfl) (by kernel_rfl) (fun _ _ _ h => h) (Or.inl ⟨by rfl, ?tw46⟩) hHeldp0 ?_
                case tw46 => (intro W hW; clear hW; first | (go_simp; done) | (go_simp; with_reducible rfl))
                try simp only [Act.put, List.setIfInBounds_toArray, List.set_cons_zero, List.set_cons_succ]
                refine wpAnyH_take (i := 2) (oi := { dst := some 163, op := Op.move (Operand.tmp 162), type := 4, pos := "law.go:124", after := #[{ on := 1, ground := Ground.data }], guard := none }) (v := ?tk47) rfl (by kernel_rfl) (by kernel_rfl) (by kernel_rfl) (fun _ _ _ h => h) (Or.inl ⟨by rfl, ?tw47⟩) hHeldp0 ?_
                case tw47 => (intro W hW; clear hW; first | (go_simp; done) | (go_simp; with_reducible rfl))
                try simp only [Act.put, List.setIfInBounds_toArray, List.set_cons_zero, List.set_cons_succ]
                refine wpAnyH_take (i := 3) (oi := { dst := some 164, op := Op.slice 27 (Operand.tmp 21) none none none, type := 22, pos := "law.go:124", after := #[{ on := 2, ground := Ground.guard }], guard := some (2, true) }) (v := ?tk48) rfl (by kernel_rfl) (by kernel_rfl) (by kernel_rfl) (fun _ _ _ h => h) (Or.inl ⟨by rfl, ?tw48⟩) hHeldp0 ?_
                case tw48 => (intro W hW; clear hW; first | (go_simp; done) | (go_simp; with_reducible rfl))
                try simp only [Act.put, List.setIfInBounds_toArray, List.set_cons_zero, List.set_cons_succ]
                refine wpAnyH_take (i := 4) (oi := { dst := some 165, op := Op.convert 22 9 (Operand.tmp 164), type := 9, pos := "law.go:124", after := #[{ on := 3, ground := Ground.data }, { on := 2, ground := Ground.guard }], guard := some (2, true) }) (v := .string (strOf O)) rfl (by kernel_rfl) (by kernel_rfl) (by kernel_rfl) (fun _ _ _ h => h) (Or.inl ⟨by rfl, fun W hW => ?_⟩) hHeldp0 ?_
                · (have hst := str_arr hW HO32.out; clear hW; go_simp)
                try simp only [Act.put, List.setIfInBounds_toArray, List.set_cons_zero, List.set_cons_succ]
                refine wpAnyH_take (i := 5) (oi := { dst := some 166, op := Op.move (Operand.tmp 0), type := 22, pos := "law.go:124", after := #[{ on := 2, ground := Ground.guard }], guard := some (2, true) }) (v := ?tk49) rfl (by kernel_rfl) (by kernel_rfl) (by kernel_rfl) (fun _ _ _ h => h) (Or.inl ⟨by rfl, ?tw49⟩) hHeldp0 ?_
                case tw49 => (intro W hW; clear hW; first | (go_simp; done) | (go_simp; with_reducible rfl))
                try simp only [Act.put, List.setIfInBounds_toArray, List.set_cons_zero, List.set_cons_succ]
                refine wpAnyH_take (i := 6) (oi := { dst := some 167, op := Op.move (Operand.tmp 14), type := 22, pos := "law.go:124", after := #[{ on := 2, ground := Ground.guard }], guard := some (2, true) }) (v := ?tk50) rfl (by kernel_rfl) (by kernel_rfl) (by kernel_rfl) (fun _ _ _ h => h) (Or.inl ⟨by rfl, ?tw50⟩) hHeldp0 ?_
                case tw50 => (intro W hW; clear hW; first | (go_simp; done) | (go_simp; with_reducible rfl))
                try simp only [Act.put, List.setIfInBounds_toArray, List.set_cons_zero, List.set_cons_succ]
                refine wpAnyH_ready (rs := [7]) (by kernel_rfl) (by simp) ?_
                refine AllReadyH.cons (o := { dst := some 168, op := Op.call { callee := Callee.value (Operand.func 12), args := #[Operand.tmp 166, Operand.tmp 167], argTypes := #[22, 22] }, type := 22, pos := "law.go:124", after := #[{ on := 5, ground := Ground.data }, { on := 6, ground := Ground.data }, { on := 2, ground := Ground.chain }, { on := 2, ground := Ground.guard }], guard := some (2, true) }) rfl (fun K' hK => ?_) AllReadyH.nil
                go_simp
                refine ((HRSF.out _ _ (HBW.out.trans (HL_0.out.mono HBW.out.size)) (HAW.out.kept HL_0.out) HANF.out)).mono ?_
                rintro e p1 ⟨gr, rfl, _, hrr, hb⟩
                have Hh_1 := Lib.hid (keptW hb Hh_0.out)
                have Hr_1 := Lib.hid hrr
                have HL_1 := Lib.hid (HL_0.out.trans (hb.mono HL_0.out.size))
                clear hb hrr
                refine hK.out _ _ Hh_1.out (fun hHeldp1 => ?_)
                clear hK K'
                try simp only [Act.put, List.setIfInBounds_toArray, List.set_cons_zero, List.set_cons_succ]
                refine wpAnyH_ready (rs := [8]) (by kernel_rfl) (by simp) ?_
                refine AllReadyH.cons (o := { dst := some 169, op := Op.convert 22 9 (Operand.tmp 168), type := 9, pos := "law.go:124", after := #[{ on := 7, ground := Ground.data }, { on := 2, ground := Ground.guard }], guard := some (2, true) }) rfl (fun K' hK => ?_) AllReadyH.nil
                rw [if_pos (by rfl)]
                have hst := str_arr Hr_1.out HO32.out
                go_simp
                clear hst
                obtain ⟨p2, hxx⟩ : ∃ X, X = p1 := ⟨_, rfl⟩
                subst hxx
                have Hh_2 := Hh_1
                have HL_2 := HL_1
                refine hK.out _ _ Hh_2.out (fun hHeldp2 => ?_)
                clear hK K'
                try simp only [Act.put, List.setIfInBounds_toArray, List.set_cons_zero, List.set_cons_succ]
                refine wpAnyH_take (i := 9) (oi := { dst := some 170, op := Op.binOp BinOp.eql 9 (Operand.tmp 165) (Operand.tmp 169) 9, type := 4, pos := "law.go:124", after := #[{ on := 4, ground := Ground.data }, { on := 8, ground := Ground.data }, { on := 2, ground := Ground.guard }], guard := some (2, true) }) (v := ?tk51) rfl (by kernel_rfl) (by kernel_rfl) (by kernel_rfl) (fun _ _ _ h => h) (Or.inl ⟨by rfl, ?tw51⟩) hHeldp2 ?_
                case tw51 => (intro W hW; clear hW; first | (go_simp; done) | (go_simp; with_reducible rfl))
                try simp only [Act.put, List.setIfInBounds_toArray, List.set_cons_zero, List.set_cons_succ]
                refine wpAnyH_take (i := 10) (oi := { dst := some 171, op := Op.pick (Operand.tmp 163) (Operand.tmp 170) (Operand.const (Value.bool false)), type := 4, pos := "law.go:124", after := #[{ on := 2, ground := Ground.data }, { on := 9, ground := Ground.data }], guard := none }) (v := ?tk52) rfl (by kernel_rfl) (by kernel_rfl) (by kernel_rfl) (fun _ _ _ h => h) (Or.inl ⟨by rfl, ?tw52⟩) hHeldp2 ?_
                case tw52 => (intro W hW; clear hW; first | (go_simp; done) | (go_simp; with_reducible rfl))
                try simp only [Act.put, List.setIfInBounds_toArray, List.set_cons_zero, List.set_cons_succ]
                refine wpAnyH_take (i := 11) (oi := { dst := some 172, op := Op.move (Operand.tmp 171), type := 4, pos := "law.go:124", after := #[{ on := 10, ground := Ground.data }, { on := 7, ground := Ground.chain }], guard := none }) (v := ?tk53) rfl (by kernel_rfl) (by kernel_rfl) (by kernel_rfl) (fun _ _ _ h => h) (Or.inl ⟨by rfl, ?tw53⟩) hHeldp2 ?_
                case tw53 => (intro W hW; clear hW; first | (go_simp; done) | (go_simp; with_reducible rfl))
                try simp only [Act.put, List.setIfInBounds_toArray, List.set_cons_zero, List.set_cons_succ]
                refine wpAnyH_ready (rs := [12]) (by kernel_rfl) (by simp) ?_
                refine AllReadyH.cons (o := { dst := some 173, op := Op.call { callee := Callee.value (Operand.func 9), args := #[], argTypes := #[] }, type := 4, pos := "law.go:124", after := #[{ on := 11, ground := Ground.chain }, { on := 11, ground := Ground.guard }], guard := some (11, true) }) rfl (fun K' hK => ?_) AllReadyH.nil
                go_simp
                refine ((known_any _ (HK.out.kept (HBW.out.trans (HL_2.out.mono HBW.out.size))))).mono ?_
                rintro e p3 ⟨rfl, hb⟩
                have Hh_3 := Lib.hid (keptW hb Hh_2.out)
                have HL_3 := Lib.hid (HL_2.out.trans (hb.mono HL_2.out.size))
                clear hb
                refine hK.out _ _ Hh_3.out (fun hHeldp3 => ?_)
                clear hK K'
                try simp only [Act.put, List.setIfInBounds_toArray, List.set_cons_zero, List.set_cons_succ]
                refine wpAnyH_take (i := 13) (oi := { dst := some 174, op := Op.pick (Operand.tmp 172) (Operand.tmp 173) (Operand.const (Value.bool false)), type := 4, pos := "law.go:124", after := #[{ on := 11, ground := Ground.data }, { on := 12, ground := Ground.data }], guard := none }) (v := ?tk54) rfl (by kernel_rfl) (by kernel_rfl) (by kernel_rfl) (fun _ _ _ h => h) (Or.inl ⟨by rfl, ?tw54⟩) hHeldp3 ?_
                case tw54 => (intro W hW; clear hW; first | (go_simp; done) | (go_simp; with_reducible rfl))
                try simp only [Act.put, List.setIfInBounds_toArray, List.set_cons_zero, List.set_cons_succ]
                refine wpAnyH_take (i := 14) (oi := { dst := some 6, op := Op.assign (Operand.tmp 174), type := 4, pos := "law.go:124", after := #[{ on := 13, ground := Ground.data }, { on := 12, ground := Ground.chain }, { on := 0, ground := Ground.phase }, { on := 1, ground := Ground.phase }, { on := 2, ground := Ground.phase }, { on := 3, ground := Ground.phase }, { on := 4, ground := Ground.phase }, { on := 5, ground := Ground.phase }, { on := 6, ground := Ground.phase }, { on := 7, ground := Ground.phase }, { on := 8, ground := Ground.phase }, { on := 9, ground := Ground.phase }, { on := 10, ground := Ground.phase }, { on := 11, ground := Ground.phase }, { on := 12, ground := Ground.phase }, { on := 13, ground := Ground.phase }], guard := none }) (v := ?tk55) rfl (by kernel_rfl) (by kernel_rfl) (by kernel_rfl) (fun _ _ _ h => h) (Or.inl ⟨by rfl, ?tw55⟩) hHeldp3 ?_
                case tw55 => (intro W hW; clear hW; first | (go_simp; done) | (go_simp; with_reducible rfl))
                try simp only [Act.put, List.setIfInBounds_toArray, List.set_cons_zero, List.set_cons_succ]
                refine wpAnyH_done (by kernel_rfl) ?_ _
                refine NoPanic.normal ?_
                go_wp2_with fail
                go_ret
                exact ⟨rfl, HBW.out.trans (HL_3.out.mono HBW.out.size)⟩
              refine AllReadyH.cons (o := { dst := some 150, op := Op.buildSlice 22 1 #[(0, Operand.const (Value.int IntKind.u8 5))], type := 22, pos := "law.go:119", after := #[{ on := 2, ground := Ground.guard }], guard := some (2, false) }) rfl (fun K' hK => ?_) AllReadyH.nil
              rw [if_pos (by rfl)]
              go_simp
              obtain ⟨x2, hx2⟩ : ∃ X, x1.alloc (.cells #[.int .u8 5] 5) = X := ⟨_, rfl⟩
              have hb : Below x1.heap.size x1 x2 := by rw [← hx2]; exact (Below.refl _ _).alloc (Nat.le_refl _) _
              have Hf_2 := Lib.hid (HLL3.out x2 x1.heap.size (by rw [← hx2, rowN_alloc, if_pos rfl]))
              have Hh_2 := Lib.hid (keptW hb Hh_1.out)
              have HL_2 := Lib.hid (HL_1.out.trans (hb.mono HL_1.out.size))
              try have Ho_2 := Lib.hid (Ho_1.out.alloc (.cells #[.int .u8 5] 5))
              try rw [hx2] at Ho_2
              obtain ⟨gf, hgf⟩ : ∃ g, x1.heap.size = g := ⟨_, rfl⟩
              have Hfl_2 := Lib.hid (show gf < x2.heap.size by rw [← hgf, ← hx2]; simp)
              try have HFO := Lib.hid (fun (r : Nat) e => Nat.ne_of_gt (Nat.lt_of_lt_of_eq (Ho_1.out.lt r e).2 hgf))
              rw [hgf] at Hf_2 ⊢
              clear hb hgf
              rw [hx2]
              refine hK.out _ _ Hh_2.out (fun hHeld2 => ?_)
              clear hK K'
              try simp only [Act.put, List.setIfInBounds_toArray, List.set_cons_zero, List.set_cons_succ]
              refine wpAnyH_ready (rs := [8]) (by kernel_rfl) (by simp) ?_
              refine AllReadyH.cons (o := { dst := some 149, op := Op.call { callee := Callee.builtin Builtin.append, args := #[Operand.tmp 147, Operand.tmp 148], argTypes := #[22, 22] }, type := 22, pos := "law.go:119", after := #[{ on := 6, ground := Ground.data }, { on := 7, ground := Ground.data }, { on := 2, ground := Ground.chain }, { on := 2, ground := Ground.guard }], guard := some (2, false) }) rfl (fun K' hK => ?_) AllReadyH.nil
              rw [if_pos (by rfl)]
              refine wp_app _ _ rfl V.heap.size rfl rfl Ho_2.out (HEV.out.kept HL_2.out) HEN.out (by have h := HCL2.out; rw [HLE.out] at h ⊢; simp; omega) HL_2.out.size ?_
              intro vb x3 hva hga
              have hbl := below_owned (Below.refl V.heap.size x2) Ho_2.out hga HL_2.out.size
              rw [List.nil_append] at hva
              have Ho_3 := Lib.hid hva
              have HL_3 := Lib.hid (HL_2.out.trans hbl)
              have Hh_3 := Lib.hid (keptW (HL_3.out) Hh0.out)
              try have Hf_3 := Lib.hid (Hf_2.out.keeps (Keeps.of_grownBy (M := fun j => j ≠ gf) hga (fun r e => (HFO.out r e).symm)) (fun j _ hj hM => by obtain ⟨_, _, _, _, e2⟩ := hj; cases e2; exact hM rfl))
              try have Hfl_3 := Lib.hid (show gf < x3.heap.size by have := Hfl_2.out; have := hga.size; omega)
              clear hva hga hbl
              refine hK.out _ _ Hh_3.out (fun hHeld3 => ?_)
              clear hK K'
              try simp only [Act.put, List.setIfInBounds_toArray, List.set_cons_zero, List.set_cons_succ]
              refine wpAnyH_ready (rs := [10]) (by kernel_rfl) (by simp) ?_
              refine AllReadyH.cons (o := { dst := some 151, op := Op.call { callee := Callee.builtin Builtin.append, args := #[Operand.tmp 149, Operand.tmp 150], argTypes := #[22, 22] }, type := 22, pos := "law.go:119", after := #[{ on := 8, ground := Ground.data }, { on := 9, ground := Ground.data }, { on := 8, ground := Ground.chain }, { on := 2, ground := Ground.guard }], guard := some (2, false) }) rfl (fun K' hK => ?_) AllReadyH.nil
              rw [if_pos (by rfl)]
              refine wp_app _ _ rfl V.heap.size rfl rfl Ho_3.out Hf_3.out (fun L c e => by cases e) (by rw [HLE.out]; simp; have := HCL2.out; rw [HLE.out] at this; omega) HL_3.out.size ?_
              intro vc x4 hva hga
              have hbl := below_owned (Below.refl V.heap.size x3) Ho_3.out hga HL_3.out.size
              have HL_4 := Lib.hid (HL_3.out.trans hbl)
              have Hh_4 := Lib.hid (keptW (HL_4.out) Hh0.out)
              have hz8 := owns_both (fun y hy => by rcases List.mem_append.1 hy with hy | hy; exact HEV.out.1 y hy; simp at hy; omega) hva
              have HZ8_4 := Lib.hid hz8.1
              have HN8 := Lib.hid (owns_nil0 hva)
              obtain ⟨a8, c8, rfl⟩ := owns_slice hva
              clear hva hga hbl hz8
              obtain ⟨L8, hL8⟩ : ∃ L, (ze ++ [5]).length = L := ⟨_, rfl⟩
              rw [hL8] at HZ8_4 HN8 ⊢
              clear hL8
              refine hK.out _ _ Hh_4.out (fun hHeld4 => ?_)
              clear hK K'
              try simp only [Act.put, List.setIfInBounds_toArray, List.set_cons_zero, List.set_cons_succ]
              refine wpAnyH_ready (rs := [11]) (by kernel_rfl) (by simp) ?_
              refine AllReadyH.cons (o := { dst := some 152, op := Op.call { callee := Callee.value (Operand.func 12), args := #[Operand.tmp 146, Operand.tmp 151], argTypes := #[22, 22] }, type := 22, pos := "law.go:119", after := #[{ on := 5, ground := Ground.data }, { on := 10, ground := Ground.data }, { on := 10, ground := Ground.chain }, { on := 2, ground := Ground.guard }], guard := some (2, false) }) rfl (fun K' hK => ?_) AllReadyH.nil
              go_simp
              refine ((HRS3.out _ _ (HBV.out.trans (HL_4.out.mono HBV.out.size)) HZ8_4.out HN8.out)).mono ?_
              rintro e x5 ⟨gr, rfl, _, hrr, hb⟩
              have Hh_5 := Lib.hid (keptW hb Hh_4.out)
              have Hr_5 := Lib.hid hrr
              have HL_5 := Lib.hid (HL_4.out.trans (hb.mono HL_4.out.size))
              clear hb hrr
              refine hK.out _ _ Hh_5.out (fun hHeld5 => ?_)
              clear hK K'
              try simp only [Act.put, List.setIfInBounds_toArray, List.set_cons_zero, List.set_cons_succ]
              refine wpAnyH_ready (rs := [12]) (by kernel_rfl) (by simp) ?_
              refine AllReadyH.cons (o := { dst := some 153, op := Op.convert 22 9 (Operand.tmp 152), type := 9, pos := "law.go:119", after := #[{ on := 11, ground := Ground.data }, { on := 2, ground := Ground.guard }], guard := some (2, false) }) rfl (fun K' hK => ?_) AllReadyH.nil
              rw [if_pos (by rfl)]
              have hst := str_arr Hr_5.out HO33.out
              go_simp
              clear hst
              obtain ⟨x6, hxx⟩ : ∃ X, X = x5 := ⟨_, rfl⟩
              subst hxx
              have Hh_6 := Hh_5
              have HL_6 := HL_5
              refine hK.out _ _ Hh_6.out (fun hHeld6 => ?_)
              clear hK K'
              try simp only [Act.put, List.setIfInBounds_toArray, List.set_cons_zero, List.set_cons_succ]
              refine wpAnyH_take (i := 13) (oi := { dst := some 154, op := Op.binOp BinOp.neq 9 (Operand.tmp 145) (Operand.tmp 153) 9, type := 4, pos := "law.go:119", after := #[{ on := 4, ground := Ground.data }, { on := 12, ground := Ground.data }, { on := 2, ground := Ground.guard }], guard := some (2, false) }) (v := ?tk56) rfl (by kernel_rfl) (by kernel_rfl) (by kernel_rfl) (fun _ _ _ h => h) (Or.inl ⟨by rfl, ?tw56⟩) hHeld6 ?_
              case tw56 => (intro W hW; clear hW; first | (go_simp; done) | (go_simp; with_reducible rfl))
              try simp only [Act.put, List.setIfInBounds_toArray, List.set_cons_zero, List.set_cons_succ]
              refine wpAnyH_take (i := 14) (oi := { dst := some 155, op := Op.pick (Operand.tmp 143) (Operand.const (Value.bool true)) (Operand.tmp 154), type := 4, pos := "law.go:119", after := #[{ on := 2, ground := Ground.data }, { on := 13, ground := Ground.data }], guard := none }) (v := ?tk57) rfl (by kernel_rfl) (by kernel_rfl) (by kernel_rfl) (fun _ _ _ h => h) (Or.inl ⟨by rfl, ?tw57⟩) hHeld6 ?_
              case tw57 => (intro W hW; clear hW; first | (go_simp; done) | (go_simp; with_reducible rfl))
              try simp only [Act.put, List.setIfInBounds_toArray, List.set_cons_zero, List.set_cons_succ]
              refine wpAnyH_done (by kernel_rfl) ?_ _
              refine NoPanic.normal ?_
              have HHF := Lib.hid (HHV.out.kept HL_6.out)
              have HAF := Lib.hid (HAV.out.kept HL_6.out)
              have HBF := Lib.hid (HBV.out.trans (HL_6.out.mono HBV.out.size))
              clear HL_0 Hh_0 HL_6 Hh_6
              go_wp2_with fail
              refine (HSMF.out _ HHF.out (HK.out.kept HBF.out)).mono ?_
              rintro e Z1 ⟨rfl, hb1⟩
              have HBF1 := Lib.hid (HBF.out.trans (hb1.mono HBF.out.size))
              have HAF1 := Lib.hid (HAF.out.kept hb1)
              clear hb1
              go_upto_region 34 with fail
              obtain ⟨U, hU⟩ : ∃ U, (Z1.alloc (.cells (arr .u8 z32) 27)).setRow Z1.heap.size (arr .u8 O) = U := ⟨_, rfl⟩
              have hbU : Below Z1.heap.size Z1 U := by rw [← hU]; exact below_setRow' ((Below.refl _ _).alloc (Nat.le_refl _) _) (Nat.le_refl _) _
              have hrU : rowN U Z1.heap.size = some (arr .u8 O) := by rw [← hU]; exact row_new (cs := arr .u8 z32) (by rw [rowN_alloc, if_pos rfl])
              rw [hU]
              have HBW := Lib.hid (HBF1.out.trans (hbU.mono HBF1.out.size))
              have HAW := Lib.hid (HAF1.out.kept hbU)
              obtain ⟨g8, hg8⟩ : ∃ g, Z1.heap.size = g := ⟨_, rfl⟩
              rw [hg8] at hrU ⊢
              have Hh_0 := Lib.hid (show rowN U.drew g8 = some (arr .u8 O) from hrU)
              have HL_0 := Lib.hid (show Below U.heap.size U U.drew from (Below.refl _ U).drew)
              clear hU hbU hrU hg8
              refine wp_region_noPanic ?_
              refine wp_region_held_drew (S := fun W => rowN W g8 = some (arr .u8 O)) (by kernel_rfl) Hh_0.out (fun hHeldp0 => ?_)
              obtain ⟨p0, hx0⟩ : ∃ X, U.drew = X := ⟨_, rfl⟩
              rw [hx0] at Hh_0 HL_0 hHeldp0 ⊢
              clear hx0
              refine wpAnyH_take (i := 0) (oi := { dst := some 161, op := Op.move (Operand.tmp 22), type := 28, pos := "law.go:124", after := #[], guard := none }) (v := ?tk58) rfl (by kernel_rfl) (by kernel_rfl) (by kernel_rfl) (fun _ _ _ h => h) (Or.inl ⟨by rfl, ?tw58⟩) hHeldp0 ?_
              case tw58 => (intro W hW; clear hW; first | (go_simp; done) | (go_simp; with_reducible rfl))
              try simp only [Act.put, List.setIfInBounds_toArray, List.set_cons_zero, List.set_cons_succ]
              refine wpAnyH_take (i := 1) (oi := { dst := some 162, op := Op.binOp BinOp.eql 28 (Operand.tmp 161) (Operand.const (Value.int IntKind.i64 0)) 28, type := 4, pos := "law.go:124", after := #[{ on := 0, ground := Ground.data }], guard := none }) (v := ?tk59) rfl (by kernel_rfl) (by kernel_rfl) (by kernel_rfl) (fun _ _ _ h => h) (Or.inl ⟨by rfl, ?tw59⟩) hHeldp0 ?_
              case tw59 => (intro W hW; clear hW; first | (go_simp; done) | (go_simp; with_reducible rfl))
              try simp only [Act.put, List.setIfInBounds_toArray, List.set_cons_zero, List.set_cons_succ]
              refine wpAnyH_take (i := 2) (oi := { dst := some 163, op := Op.move (Operand.tmp 162), type := 4, pos := "law.go:124", after := #[{ on := 1, ground := Ground.data }], guard := none }) (v := ?tk60) rfl (by kernel_rfl) (by kernel_rfl) (by kernel_rfl) (fun _ _ _ h => h) (Or.inl ⟨by rfl, ?tw60⟩) hHeldp0 ?_
              case tw60 => (intro W hW; clear hW; first | (go_simp; done) | (go_simp; with_reducible rfl))
              try simp only [Act.put, List.setIfInBounds_toArray, List.set_cons_zero, List.set_cons_succ]
              refine wpAnyH_take (i := 3) (oi := { dst := some 164, op := Op.slice 27 (Operand.tmp 21) none none none, type := 22, pos := "law.go:124", after := #[{ on := 2, ground := Ground.guard }], guard := some (2, true) }) (v := ?tk61) rfl (by kernel_rfl) (by kernel_rfl) (by kernel_rfl) (fun _ _ _ h => h) (Or.inl ⟨by rfl, ?tw61⟩) hHeldp0 ?_
              case tw61 => (intro W hW; clear hW; first | (go_simp; done) | (go_simp; with_reducible rfl))
              try simp only [Act.put, List.setIfInBounds_toArray, List.set_cons_zero, List.set_cons_succ]
              refine wpAnyH_take (i := 4) (oi := { dst := some 165, op := Op.convert 22 9 (Operand.tmp 164), type := 9, pos := "law.go:124", after := #[{ on := 3, ground := Ground.data }, { on := 2, ground := Ground.guard }], guard := some (2, true) }) (v := .string (strOf O)) rfl (by kernel_rfl) (by kernel_rfl) (by kernel_rfl) (fun _ _ _ h => h) (Or.inl ⟨by rfl, fun W hW => ?_⟩) hHeldp0 ?_
              · (have hst := str_arr hW HO32.out; clear hW; go_simp)
              try simp only [Act.put, List.setIfInBounds_toArray, List.set_cons_zero, List.set_cons_succ]
              refine wpAnyH_take (i := 5) (oi := { dst := some 166, op := Op.move (Operand.tmp 0), type := 22, pos := "law.go:124", after := #[{ on := 2, ground := Ground.guard }], guard := some (2, true) }) (v := ?tk62) rfl (by kernel_rfl) (by kernel_rfl) (by kernel_rfl) (fun _ _ _ h => h) (Or.inl ⟨by rfl, ?tw62⟩) hHeldp0 ?_
              case tw62 => (intro W hW; clear hW; first | (go_simp; done) | (go_simp; with_reducible rfl))
              try simp only [Act.put, List.setIfInBounds_toArray, List.set_cons_zero, List.set_cons_succ]
              refine wpAnyH_take (i := 6) (oi := { dst := some 167, op := Op.move (Operand.tmp 14), type := 22, pos := "law.go:124", after := #[{ on := 2, ground := Ground.guard }], guard := some (2, true) }) (v := ?tk63) rfl (by kernel_rfl) (by kernel_rfl) (by kernel_rfl) (fun _ _ _ h => h) (Or.inl ⟨by rfl, ?tw63⟩) hHeldp0 ?_
              case tw63 => (intro W hW; clear hW; first | (go_simp; done) | (go_simp; with_reducible rfl))
              try simp only [Act.put, List.setIfInBounds_toArray, List.set_cons_zero, List.set_cons_succ]
              refine wpAnyH_ready (rs := [7]) (by kernel_rfl) (by simp) ?_
              refine AllReadyH.cons (o := { dst := some 168, op := Op.call { callee := Callee.value (Operand.func 12), args := #[Operand.tmp 166, Operand.tmp 167], argTypes := #[22, 22] }, type := 22, pos := "law.go:124", after := #[{ on := 5, ground := Ground.data }, { on := 6, ground := Ground.data }, { on := 2, ground := Ground.chain }, { on := 2, ground := Ground.guard }], guard := some (2, true) }) rfl (fun K' hK => ?_) AllReadyH.nil
              go_simp
              refine ((HRSF.out _ _ (HBW.out.trans (HL_0.out.mono HBW.out.size)) (HAW.out.kept HL_0.out) HANF.out)).mono ?_
              rintro e p1 ⟨gr, rfl, _, hrr, hb⟩
              have Hh_1 := Lib.hid (keptW hb Hh_0.out)
              have Hr_1 := Lib.hid hrr
              have HL_1 := Lib.hid (HL_0.out.trans (hb.mono HL_0.out.size))
              clear hb hrr
              refine hK.out _ _ Hh_1.out (fun hHeldp1 => ?_)
              clear hK K'
              try simp only [Act.put, List.setIfInBounds_toArray, List.set_cons_zero, List.set_cons_succ]
              refine wpAnyH_ready (rs := [8]) (by kernel_rfl) (by simp) ?_
              refine AllReadyH.cons (o := { dst := some 169, op := Op.convert 22 9 (Operand.tmp 168), type := 9, pos := "law.go:124", after := #[{ on := 7, ground := Ground.data }, { on := 2, ground := Ground.guard }], guard := some (2, true) }) rfl (fun K' hK => ?_) AllReadyH.nil
              rw [if_pos (by rfl)]
              have hst := str_arr Hr_1.out HO32.out
              go_simp
              clear hst
              obtain ⟨p2, hxx⟩ : ∃ X, X = p1 := ⟨_, rfl⟩
              subst hxx
              have Hh_2 := Hh_1
              have HL_2 := HL_1
              refine hK.out _ _ Hh_2.out (fun hHeldp2 => ?_)
              clear hK K'
              try simp only [Act.put, List.setIfInBounds_toArray, List.set_cons_zero, List.set_cons_succ]
              refine wpAnyH_take (i := 9) (oi := { dst := some 170, op := Op.binOp BinOp.eql 9 (Operand.tmp 165) (Operand.tmp 169) 9, type := 4, pos := "law.go:124", after := #[{ on := 4, ground := Ground.data }, { on := 8, ground := Ground.data }, { on := 2, ground := Ground.guard }], guard := some (2, true) }) (v := ?tk64) rfl (by kernel_rfl) (by kernel_rfl) (by kernel_rfl) (fun _ _ _ h => h) (Or.inl ⟨by rfl, ?tw64⟩) hHeldp2 ?_
              case tw64 => (intro W hW; clear hW; first | (go_simp; done) | (go_simp; with_reducible rfl))
              try simp only [Act.put, List.setIfInBounds_toArray, List.set_cons_zero, List.set_cons_succ]
              refine wpAnyH_take (i := 10) (oi := { dst := some 171, op := Op.pick (Operand.tmp 163) (Operand.tmp 170) (Operand.const (Value.bool false)), type := 4, pos := "law.go:124", after := #[{ on := 2, ground := Ground.data }, { on := 9, ground := Ground.data }], guard := none }) (v := ?tk65) rfl (by kernel_rfl) (by kernel_rfl) (by kernel_rfl) (fun _ _ _ h => h) (Or.inl ⟨by rfl, ?tw65⟩) hHeldp2 ?_
              case tw65 => (intro W hW; clear hW; first | (go_simp; done) | (go_simp; with_reducible rfl))
              try simp only [Act.put, List.setIfInBounds_toArray, List.set_cons_zero, List.set_cons_succ]
              refine wpAnyH_take (i := 11) (oi := { dst := some 172, op := Op.move (Operand.tmp 171), type := 4, pos := "law.go:124", after := #[{ on := 10, ground := Ground.data }, { on := 7, ground := Ground.chain }], guard := none }) (v := ?tk66) rfl (by kernel_rfl) (by kernel_rfl) (by kernel_rfl) (fun _ _ _ h => h) (Or.inl ⟨by rfl, ?tw66⟩) hHeldp2 ?_
              case tw66 => (intro W hW; clear hW; first | (go_simp; done) | (go_simp; with_reducible rfl))
              try simp only [Act.put, List.setIfInBounds_toArray, List.set_cons_zero, List.set_cons_succ]
              refine wpAnyH_ready (rs := [12]) (by kernel_rfl) (by simp) ?_
              refine AllReadyH.cons (o := { dst := some 173, op := Op.call { callee := Callee.value (Operand.func 9), args := #[], argTypes := #[] }, type := 4, pos := "law.go:124", after := #[{ on := 11, ground := Ground.chain }, { on := 11, ground := Ground.guard }], guard := some (11, true) }) rfl (fun K' hK => ?_) AllReadyH.nil
              go_simp
              refine ((known_any _ (HK.out.kept (HBW.out.trans (HL_2.out.mono HBW.out.size))))).mono ?_
              rintro e p3 ⟨rfl, hb⟩
              have Hh_3 := Lib.hid (keptW hb Hh_2.out)
              have HL_3 := Lib.hid (HL_2.out.trans (hb.mono HL_2.out.size))
              clear hb
              refine hK.out _ _ Hh_3.out (fun hHeldp3 => ?_)
              clear hK K'
              try simp only [Act.put, List.setIfInBounds_toArray, List.set_cons_zero, List.set_cons_succ]
              refine wpAnyH_take (i := 13) (oi := { dst := some 174, op := Op.pick (Operand.tmp 172) (Operand.tmp 173) (Operand.const (Value.bool false)), type := 4, pos := "law.go:124", after := #[{ on := 11, ground := Ground.data }, { on := 12, ground := Ground.data }], guard := none }) (v := ?tk67) rfl (by kernel_rfl) (by kernel_rfl) (by kernel_rfl) (fun _ _ _ h => h) (Or.inl ⟨by rfl, ?tw67⟩) hHeldp3 ?_
              case tw67 => (intro W hW; clear hW; first | (go_simp; done) | (go_simp; with_reducible rfl))
              try simp only [Act.put, List.setIfInBounds_toArray, List.set_cons_zero, List.set_cons_succ]
              refine wpAnyH_take (i := 14) (oi := { dst := some 6, op := Op.assign (Operand.tmp 174), type := 4, pos := "law.go:124", after := #[{ on := 13, ground := Ground.data }, { on := 12, ground := Ground.chain }, { on := 0, ground := Ground.phase }, { on := 1, ground := Ground.phase }, { on := 2, ground := Ground.phase }, { on := 3, ground := Ground.phase }, { on := 4, ground := Ground.phase }, { on := 5, ground := Ground.phase }, { on := 6, ground := Ground.phase }, { on := 7, ground := Ground.phase }, { on := 8, ground := Ground.phase }, { on := 9, ground := Ground.phase }, { on := 10, ground := Ground.phase }, { on := 11, ground := Ground.phase }, { on := 12, ground := Ground.phase }, { on := 13, ground := Ground.phase }], guard := none }) (v := ?tk68) rfl (by kernel_rfl) (by kernel_rfl) (by kernel_rfl) (fun _ _ _ h => h) (Or.inl ⟨by rfl, ?tw68⟩) hHeldp3 ?_
              case tw68 => (intro W hW; clear hW; first | (go_simp; done) | (go_simp; with_reducible rfl))
              try simp only [Act.put, List.setIfInBounds_toArray, List.set_cons_zero, List.set_cons_succ]
              refine wpAnyH_done (by kernel_rfl) ?_ _
              refine NoPanic.normal ?_
              go_wp2_with fail
              go_ret
              exact ⟨rfl, HBW.out.trans (HL_3.out.mono HBW.out.size)⟩
            refine AllReadyH.cons (o := { dst := some 150, op := Op.buildSlice 22 1 #[(0, Operand.const (Value.int IntKind.u8 5))], type := 22, pos := "law.go:119", after := #[{ on := 2, ground := Ground.guard }], guard := some (2, false) }) rfl (fun K' hK => ?_) AllReadyH.nil
            rw [if_pos (by rfl)]
            go_simp
            obtain ⟨x1, hx1⟩ : ∃ X, x0.alloc (.cells #[.int .u8 5] 5) = X := ⟨_, rfl⟩
            have hb : Below x0.heap.size x0 x1 := by rw [← hx1]; exact (Below.refl _ _).alloc (Nat.le_refl _) _
            have Hf_1 := Lib.hid (HLL3.out x1 x0.heap.size (by rw [← hx1, rowN_alloc, if_pos rfl]))
            have Hh_1 := Lib.hid (keptW hb Hh_0.out)
            have HL_1 := Lib.hid (HL_0.out.trans (hb.mono HL_0.out.size))
            try have Ho_1 := Lib.hid (Ho_0.out.alloc (.cells #[.int .u8 5] 5))
            try rw [hx1] at Ho_1
            obtain ⟨gf, hgf⟩ : ∃ g, x0.heap.size = g := ⟨_, rfl⟩
            have Hfl_1 := Lib.hid (show gf < x1.heap.size by rw [← hgf, ← hx1]; simp)
            try have HFO := Lib.hid (fun (r : Nat) e => Nat.ne_of_gt (Nat.lt_of_lt_of_eq (Ho_0.out.lt r e).2 hgf))
            rw [hgf] at Hf_1 ⊢
            clear hb hgf
            rw [hx1]
            refine hK.out _ _ Hh_1.out (fun hHeld1 => ?_)
            clear hK K'
            try simp only [Act.put, List.setIfInBounds_toArray, List.set_cons_zero, List.set_cons_succ]
            refine wpAnyH_ready (rs := [6]) (by kernel_rfl) (by simp) ?_
            refine AllReadyH.cons (o := { dst := some 147, op := Op.buildSlice 22 0 #[], type := 22, pos := "law.go:119", after := #[{ on := 2, ground := Ground.guard }], guard := some (2, false) }) rfl (fun K' hK => ?_) AllReadyH.nil
            rw [if_pos (by rfl)]
            go_simp
            obtain ⟨x2, hx2⟩ : ∃ X, x1.alloc (.cells #[] 5) = X := ⟨_, rfl⟩
            have hb : Below x1.heap.size x1 x2 := by rw [← hx2]; exact (Below.refl _ _).alloc (Nat.le_refl _) _
            have Ho_2 := Lib.hid (show x2.ownsRow V.heap.size 5 1 (.slice (some ⟨x1.heap.size, 0, none⟩) 0 0) ([] : List Nat).length (cl []) by rw [← hx2]; exact World.ownsRow_lit _ #[] 0 HL_1.out.size (by unfold maxLen; omega) rfl)
            have Hh_2 := Lib.hid (keptW hb Hh_1.out)
            have HL_2 := Lib.hid (HL_1.out.trans (hb.mono HL_1.out.size))
            try have Hf_2 := Lib.hid (Hf_1.out.kept hb)
            try have HFO := Lib.hid (fun (r : Nat) (e : (Value.slice (some ⟨x1.heap.size, 0, none⟩) 0 0).ownBlock = some r) => (show gf ≠ r from by have h : x1.heap.size = r := (by simpa [Value.ownBlock] using e); have := Hfl_1.out; omega))
            try have Hfl_2 := Lib.hid (show gf < x2.heap.size by have := Hfl_1.out; have := hb.size; omega)
            clear hb
            rw [hx2]
            refine hK.out _ _ Hh_2.out (fun hHeld2 => ?_)
            clear hK K'
            try simp only [Act.put, List.setIfInBounds_toArray, List.set_cons_zero, List.set_cons_succ]
            refine wpAnyH_ready (rs := [8]) (by kernel_rfl) (by simp) ?_
            refine AllReadyH.cons (o := { dst := some 149, op := Op.call { callee := Callee.builtin Builtin.append, args := #[Operand.tmp 147, Operand.tmp 148], argTypes := #[22, 22] }, type := 22, pos := "law.go:119", after := #[{ on := 6, ground := Ground.data }, { on := 7, ground := Ground.data }, { on := 2, ground := Ground.chain }, { on := 2, ground := Ground.guard }], guard := some (2, false) }) rfl (fun K' hK => ?_) AllReadyH.nil
            rw [if_pos (by rfl)]
            refine wp_app _ _ rfl V.heap.size rfl rfl Ho_2.out (HEV.out.kept HL_2.out) HEN.out (by have h := HCL2.out; rw [HLE.out] at h ⊢; simp; omega) HL_2.out.size ?_
            intro vb x3 hva hga
            have hbl := below_owned (Below.refl V.heap.size x2) Ho_2.out hga HL_2.out.size
            rw [List.nil_append] at hva
            have Ho_3 := Lib.hid hva
            have HL_3 := Lib.hid (HL_2.out.trans hbl)
            have Hh_3 := Lib.hid (keptW (HL_3.out) Hh0.out)
            try have Hf_3 := Lib.hid (Hf_2.out.keeps (Keeps.of_grownBy (M := fun j => j ≠ gf) hga (fun r e => (HFO.out r e).symm)) (fun j _ hj hM => by obtain ⟨_, _, _, _, e2⟩ := hj; cases e2; exact hM rfl))
            try have Hfl_3 := Lib.hid (show gf < x3.heap.size by have := Hfl_2.out; have := hga.size; omega)
            clear hva hga hbl
            refine hK.out _ _ Hh_3.out (fun hHeld3 => ?_)
            clear hK K'
            try simp only [Act.put, List.setIfInBounds_toArray, List.set_cons_zero, List.set_cons_succ]
            refine wpAnyH_ready (rs := [10]) (by kernel_rfl) (by simp) ?_
            refine AllReadyH.cons (o := { dst := some 151, op := Op.call { callee := Callee.builtin Builtin.append, args := #[Operand.tmp 149, Operand.tmp 150], argTypes := #[22, 22] }, type := 22, pos := "law.go:119", after := #[{ on := 8, ground := Ground.data }, { on := 9, ground := Ground.data }, { on := 8, ground := Ground.chain }, { on := 2, ground := Ground.guard }], guard := some (2, false) }) rfl (fun K' hK => ?_) AllReadyH.nil
            rw [if_pos (by rfl)]
            refine wp_app _ _ rfl V.heap.size rfl rfl Ho_3.out Hf_3.out (fun L c e => by cases e) (by rw [HLE.out]; simp; have := HCL2.out; rw [HLE.out] at this; omega) HL_3.out.size ?_
            intro vc x4 hva hga
            have hbl := below_owned (Below.refl V.heap.size x3) Ho_3.out hga HL_3.out.size
            have HL_4 := Lib.hid (HL_3.out.trans hbl)
            have Hh_4 := Lib.hid (keptW (HL_4.out) Hh0.out)
            have hz8 := owns_both (fun y hy => by rcases List.mem_append.1 hy with hy | hy; exact HEV.out.1 y hy; simp at hy; omega) hva
            have HZ8_4 := Lib.hid hz8.1
            have HN8 := Lib.hid (owns_nil0 hva)
            obtain ⟨a8, c8, rfl⟩ := owns_slice hva
            clear hva hga hbl hz8
            obtain ⟨L8, hL8⟩ : ∃ L, (ze ++ [5]).length = L := ⟨_, rfl⟩
            rw [hL8] at HZ8_4 HN8 ⊢
            clear hL8
            refine hK.out _ _ Hh_4.out (fun hHeld4 => ?_)
            clear hK K'
            try simp only [Act.put, List.setIfInBounds_toArray, List.set_cons_zero, List.set_cons_succ]
            refine wpAnyH_ready (rs := [11]) (by kernel_rfl) (by simp) ?_
            refine AllReadyH.cons (o := { dst := some 152, op := Op.call { callee := Callee.value (Operand.func 12), args := #[Operand.tmp 146, Operand.tmp 151], argTypes := #[22, 22] }, type := 22, pos := "law.go:119", after := #[{ on := 5, ground := Ground.data }, { on := 10, ground := Ground.data }, { on := 10, ground := Ground.chain }, { on := 2, ground := Ground.guard }], guard := some (2, false) }) rfl (fun K' hK => ?_) AllReadyH.nil
            go_simp
            refine ((HRS3.out _ _ (HBV.out.trans (HL_4.out.mono HBV.out.size)) HZ8_4.out HN8.out)).mono ?_
            rintro e x5 ⟨gr, rfl, _, hrr, hb⟩
            have Hh_5 := Lib.hid (keptW hb Hh_4.out)
            have Hr_5 := Lib.hid hrr
            have HL_5 := Lib.hid (HL_4.out.trans (hb.mono HL_4.out.size))
            clear hb hrr
            refine hK.out _ _ Hh_5.out (fun hHeld5 => ?_)
            clear hK K'
            try simp only [Act.put, List.setIfInBounds_toArray, List.set_cons_zero, List.set_cons_succ]
            refine wpAnyH_ready (rs := [12]) (by kernel_rfl) (by simp) ?_
            refine AllReadyH.cons (o := { dst := some 153, op := Op.convert 22 9 (Operand.tmp 152), type := 9, pos := "law.go:119", after := #[{ on := 11, ground := Ground.data }, { on := 2, ground := Ground.guard }], guard := some (2, false) }) rfl (fun K' hK => ?_) AllReadyH.nil
            rw [if_pos (by rfl)]
            have hst := str_arr Hr_5.out HO33.out
            go_simp
            clear hst
            obtain ⟨x6, hxx⟩ : ∃ X, X = x5 := ⟨_, rfl⟩
            subst hxx
            have Hh_6 := Hh_5
            have HL_6 := HL_5
            refine hK.out _ _ Hh_6.out (fun hHeld6 => ?_)
            clear hK K'
            try simp only [Act.put, List.setIfInBounds_toArray, List.set_cons_zero, List.set_cons_succ]
            refine wpAnyH_take (i := 13) (oi := { dst := some 154, op := Op.binOp BinOp.neq 9 (Operand.tmp 145) (Operand.tmp 153) 9, type := 4, pos := "law.go:119", after := #[{ on := 4, ground := Ground.data }, { on := 12, ground := Ground.data }, { on := 2, ground := Ground.guard }], guard := some (2, false) }) (v := ?tk69) rfl (by kernel_rfl) (by kernel_rfl) (by kernel_rfl) (fun _ _ _ h => h) (Or.inl ⟨by rfl, ?tw69⟩) hHeld6 ?_
            case tw69 => (intro W hW; clear hW; first | (go_simp; done) | (go_simp; with_reducible rfl))
            try simp only [Act.put, List.setIfInBounds_toArray, List.set_cons_zero, List.set_cons_succ]
            refine wpAnyH_take (i := 14) (oi := { dst := some 155, op := Op.pick (Operand.tmp 143) (Operand.const (Value.bool true)) (Operand.tmp 154), type := 4, pos := "law.go:119", after := #[{ on := 2, ground := Ground.data }, { on := 13, ground := Ground.data }], guard := none }) (v := ?tk70) rfl (by kernel_rfl) (by kernel_rfl) (by kernel_rfl) (fun _ _ _ h => h) (Or.inl ⟨by rfl, ?tw70⟩) hHeld6 ?_
            case tw70 => (intro W hW; clear hW; first | (go_simp; done) | (go_simp; with_reducible rfl))
            try simp only [Act.put, List.setIfInBounds_toArray, List.set_cons_zero, List.set_cons_succ]
            refine wpAnyH_done (by kernel_rfl) ?_ _
            refine NoPanic.normal ?_
            have HHF := Lib.hid (HHV.out.kept HL_6.out)
            have HAF := Lib.hid (HAV.out.kept HL_6.out)
            have HBF := Lib.hid (HBV.out.trans (HL_6.out.mono HBV.out.size))
            clear HL_0 Hh_0 HL_6 Hh_6
            go_wp2_with fail
            refine (HSMF.out _ HHF.out (HK.out.kept HBF.out)).mono ?_
            rintro e Z1 ⟨rfl, hb1⟩
            have HBF1 := Lib.hid (HBF.out.trans (hb1.mono HBF.out.size))
            have HAF1 := Lib.hid (HAF.out.kept hb1)
            clear hb1
            go_upto_region 34 with fail
            obtain ⟨U, hU⟩ : ∃ U, (Z1.alloc (.cells (arr .u8 z32) 27)).setRow Z1.heap.size (arr .u8 O) = U := ⟨_, rfl⟩
            have hbU : Below Z1.heap.size Z1 U := by rw [← hU]; exact below_setRow' ((Below.refl _ _).alloc (Nat.le_refl _) _) (Nat.le_refl _) _
            have hrU : rowN U Z1.heap.size = some (arr .u8 O) := by rw [← hU]; exact row_new (cs := arr .u8 z32) (by rw [rowN_alloc, if_pos rfl])
            rw [hU]
            have HBW := Lib.hid (HBF1.out.trans (hbU.mono HBF1.out.size))
            have HAW := Lib.hid (HAF1.out.kept hbU)
            obtain ⟨g8, hg8⟩ : ∃ g, Z1.heap.size = g := ⟨_, rfl⟩
            rw [hg8] at hrU ⊢
            have Hh_0 := Lib.hid (show rowN U.drew g8 = some (arr .u8 O) from hrU)
            have HL_0 := Lib.hid (show Below U.heap.size U U.drew from (Below.refl _ U).drew)
            clear hU hbU hrU hg8
            refine wp_region_noPanic ?_
            refine wp_region_held_drew (S := fun W => rowN W g8 = some (arr .u8 O)) (by kernel_rfl) Hh_0.out (fun hHeldp0 => ?_)
            obtain ⟨p0, hx0⟩ : ∃ X, U.drew = X := ⟨_, rfl⟩
            rw [hx0] at Hh_0 HL_0 hHeldp0 ⊢
            clear hx0
            refine wpAnyH_take (i := 0) (oi := { dst := some 161, op := Op.move (Operand.tmp 22), type := 28, pos := "law.go:124", after := #[], guard := none }) (v := ?tk71) rfl (by kernel_rfl) (by kernel_rfl) (by kernel_rfl) (fun _ _ _ h => h) (Or.inl ⟨by rfl, ?tw71⟩) hHeldp0 ?_
            case tw71 => (intro W hW; clear hW; first | (go_simp; done) | (go_simp; with_reducible rfl))
            try simp only [Act.put, List.setIfInBounds_toArray, List.set_cons_zero, List.set_cons_succ]
            refine wpAnyH_take (i := 1) (oi := { dst := some 162, op := Op.binOp BinOp.eql 28 (Operand.tmp 161) (Operand.const (Value.int IntKind.i64 0)) 28, type := 4, pos := "law.go:124", after := #[{ on := 0, ground := Ground.data }], guard := none }) (v := ?tk72) rfl (by kernel_rfl) (by kernel_rfl) (by kernel_rfl) (fun _ _ _ h => h) (Or.inl ⟨by rfl, ?tw72⟩) hHeldp0 ?_
            case tw72 => (intro W hW; clear hW; first | (go_simp; done) | (go_simp; with_reducible rfl))
            try simp only [Act.put, List.setIfInBounds_toArray, List.set_cons_zero, List.set_cons_succ]
            refine wpAnyH_take (i := 2) (oi := { dst := some 163, op := Op.move (Operand.tmp 162), type := 4, pos := "law.go:124", after := #[{ on := 1, ground := Ground.data }], guard := none }) (v := ?tk73) rfl (by kernel_rfl) (by kernel_rfl) (by kernel_rfl) (fun _ _ _ h => h) (Or.inl ⟨by rfl, ?tw73⟩) hHeldp0 ?_
            case tw73 => (intro W hW; clear hW; first | (go_simp; done) | (go_simp; with_reducible rfl))
            try simp only [Act.put, List.setIfInBounds_toArray, List.set_cons_zero, List.set_cons_succ]
            refine wpAnyH_take (i := 3) (oi := { dst := some 164, op := Op.slice 27 (Operand.tmp 21) none none none, type := 22, pos := "law.go:124", after := #[{ on := 2, ground := Ground.guard }], guard := some (2, true) }) (v := ?tk74) rfl (by kernel_rfl) (by kernel_rfl) (by kernel_rfl) (fun _ _ _ h => h) (Or.inl ⟨by rfl, ?tw74⟩) hHeldp0 ?_
            case tw74 => (intro W hW; clear hW; first | (go_simp; done) | (go_simp; with_reducible rfl))
            try simp only [Act.put, List.setIfInBounds_toArray, List.set_cons_zero, List.set_cons_succ]
            refine wpAnyH_take (i := 4) (oi := { dst := some 165, op := Op.convert 22 9 (Operand.tmp 164), type := 9, pos := "law.go:124", after := #[{ on := 3, ground := Ground.data }, { on := 2, ground := Ground.guard }], guard := some (2, true) }) (v := .string (strOf O)) rfl (by kernel_rfl) (by kernel_rfl) (by kernel_rfl) (fun _ _ _ h => h) (Or.inl ⟨by rfl, fun W hW => ?_⟩) hHeldp0 ?_
            · (have hst := str_arr hW HO32.out; clear hW; go_simp)
            try simp only [Act.put, List.setIfInBounds_toArray, List.set_cons_zero, List.set_cons_succ]
            refine wpAnyH_take (i := 5) (oi := { dst := some 166, op := Op.move (Operand.tmp 0), type := 22, pos := "law.go:124", after := #[{ on := 2, ground := Ground.guard }], guard := some (2, true) }) (v := ?tk75) rfl (by kernel_rfl) (by kernel_rfl) (by kernel_rfl) (fun _ _ _ h => h) (Or.inl ⟨by rfl, ?tw75⟩) hHeldp0 ?_
            case tw75 => (intro W hW; clear hW; first | (go_simp; done) | (go_simp; with_reducible rfl))
            try simp only [Act.put, List.setIfInBounds_toArray, List.set_cons_zero, List.set_cons_succ]
            refine wpAnyH_take (i := 6) (oi := { dst := some 167, op := Op.move (Operand.tmp 14), type := 22, pos := "law.go:124", after := #[{ on := 2, ground := Ground.guard }], guard := some (2, true) }) (v := ?tk76) rfl (by kernel_rfl) (by kernel_rfl) (by kernel_rfl) (fun _ _ _ h => h) (Or.inl ⟨by rfl, ?tw76⟩) hHeldp0 ?_
            case tw76 => (intro W hW; clear hW; first | (go_simp; done) | (go_simp; with_reducible rfl))
            try simp only [Act.put, List.setIfInBounds_toArray, List.set_cons_zero, List.set_cons_succ]
            refine wpAnyH_ready (rs := [7]) (by kernel_rfl) (by simp) ?_
            refine AllReadyH.cons (o := { dst := some 168, op := Op.call { callee := Callee.value (Operand.func 12), args := #[Operand.tmp 166, Operand.tmp 167], argTypes := #[22, 22] }, type := 22, pos := "law.go:124", after := #[{ on := 5, ground := Ground.data }, { on := 6, ground := Ground.data }, { on := 2, ground := Ground.chain }, { on := 2, ground := Ground.guard }], guard := some (2, true) }) rfl (fun K' hK => ?_) AllReadyH.nil
            go_simp
            refine ((HRSF.out _ _ (HBW.out.trans (HL_0.out.mono HBW.out.size)) (HAW.out.kept HL_0.out) HANF.out)).mono ?_
            rintro e p1 ⟨gr, rfl, _, hrr, hb⟩
            have Hh_1 := Lib.hid (keptW hb Hh_0.out)
            have Hr_1 := Lib.hid hrr
            have HL_1 := Lib.hid (HL_0.out.trans (hb.mono HL_0.out.size))
            clear hb hrr
            refine hK.out _ _ Hh_1.out (fun hHeldp1 => ?_)
            clear hK K'
            try simp only [Act.put, List.setIfInBounds_toArray, List.set_cons_zero, List.set_cons_succ]
            refine wpAnyH_ready (rs := [8]) (by kernel_rfl) (by simp) ?_
            refine AllReadyH.cons (o := { dst := some 169, op := Op.convert 22 9 (Operand.tmp 168), type := 9, pos := "law.go:124", after := #[{ on := 7, ground := Ground.data }, { on := 2, ground := Ground.guard }], guard := some (2, true) }) rfl (fun K' hK => ?_) AllReadyH.nil
            rw [if_pos (by rfl)]
            have hst := str_arr Hr_1.out HO32.out
            go_simp
            clear hst
            obtain ⟨p2, hxx⟩ : ∃ X, X = p1 := ⟨_, rfl⟩
            subst hxx
            have Hh_2 := Hh_1
            have HL_2 := HL_1
            refine hK.out _ _ Hh_2.out (fun hHeldp2 => ?_)
            clear hK K'
            try simp only [Act.put, List.setIfInBounds_toArray, List.set_cons_zero, List.set_cons_succ]
            refine wpAnyH_take (i := 9) (oi := { dst := some 170, op := Op.binOp BinOp.eql 9 (Operand.tmp 165) (Operand.tmp 169) 9, type := 4, pos := "law.go:124", after := #[{ on := 4, ground := Ground.data }, { on := 8, ground := Ground.data }, { on := 2, ground := Ground.guard }], guard := some (2, true) }) (v := ?tk77) rfl (by kernel_rfl) (by kernel_rfl) (by kernel_rfl) (fun _ _ _ h => h) (Or.inl ⟨by rfl, ?tw77⟩) hHeldp2 ?_
            case tw77 => (intro W hW; clear hW; first | (go_simp; done) | (go_simp; with_reducible rfl))
            try simp only [Act.put, List.setIfInBounds_toArray, List.set_cons_zero, List.set_cons_succ]
            refine wpAnyH_take (i := 10) (oi := { dst := some 171, op := Op.pick (Operand.tmp 163) (Operand.tmp 170) (Operand.const (Value.bool false)), type := 4, pos := "law.go:124", after := #[{ on := 2, ground := Ground.data }, { on := 9, ground := Ground.data }], guard := none }) (v := ?tk78) rfl (by kernel_rfl) (by kernel_rfl) (by kernel_rfl) (fun _ _ _ h => h) (Or.inl ⟨by rfl, ?tw78⟩) hHeldp2 ?_
            case tw78 => (intro W hW; clear hW; first | (go_simp; done) | (go_simp; with_reducible rfl))
            try simp only [Act.put, List.setIfInBounds_toArray, List.set_cons_zero, List.set_cons_succ]
            refine wpAnyH_take (i := 11) (oi := { dst := some 172, op := Op.move (Operand.tmp 171), type := 4, pos := "law.go:124", after := #[{ on := 10, ground := Ground.data }, { on := 7, ground := Ground.chain }], guard := none }) (v := ?tk79) rfl (by kernel_rfl) (by kernel_rfl) (by kernel_rfl) (fun _ _ _ h => h) (Or.inl ⟨by rfl, ?tw79⟩) hHeldp2 ?_
            case tw79 => (intro W hW; clear hW; first | (go_simp; done) | (go_simp; with_reducible rfl))
            try simp only [Act.put, List.setIfInBounds_toArray, List.set_cons_zero, List.set_cons_succ]
            refine wpAnyH_ready (rs := [12]) (by kernel_rfl) (by simp) ?_
            refine AllReadyH.cons (o := { dst := some 173, op := Op.call { callee := Callee.value (Operand.func 9), args := #[], argTypes := #[] }, type := 4, pos := "law.go:124", after := #[{ on := 11, ground := Ground.chain }, { on := 11, ground := Ground.guard }], guard := some (11, true) }) rfl (fun K' hK => ?_) AllReadyH.nil
            go_simp
            refine ((known_any _ (HK.out.kept (HBW.out.trans (HL_2.out.mono HBW.out.size))))).mono ?_
            rintro e p3 ⟨rfl, hb⟩
            have Hh_3 := Lib.hid (keptW hb Hh_2.out)
            have HL_3 := Lib.hid (HL_2.out.trans (hb.mono HL_2.out.size))
            clear hb
            refine hK.out _ _ Hh_3.out (fun hHeldp3 => ?_)
            clear hK K'
            try simp only [Act.put, List.setIfInBounds_toArray, List.set_cons_zero, List.set_cons_succ]
            refine wpAnyH_take (i := 13) (oi := { dst := some 174, op := Op.pick (Operand.tmp 172) (Operand.tmp 173) (Operand.const (Value.bool false)), type := 4, pos := "law.go:124", after := #[{ on := 11, ground := Ground.data }, { on := 12, ground := Ground.data }], guard := none }) (v := ?tk80) rfl (by kernel_rfl) (by kernel_rfl) (by kernel_rfl) (fun _ _ _ h => h) (Or.inl ⟨by rfl, ?tw80⟩) hHeldp3 ?_
            case tw80 => (intro W hW; clear hW; first | (go_simp; done) | (go_simp; with_reducible rfl))
            try simp only [Act.put, List.setIfInBounds_toArray, List.set_cons_zero, List.set_cons_succ]
            refine wpAnyH_take (i := 14) (oi := { dst := some 6, op := Op.assign (Operand.tmp 174), type := 4, pos := "law.go:124", after := #[{ on := 13, ground := Ground.data }, { on := 12, ground := Ground.chain }, { on := 0, ground := Ground.phase }, { on := 1, ground := Ground.phase }, { on := 2, ground := Ground.phase }, { on := 3, ground := Ground.phase }, { on := 4, ground := Ground.phase }, { on := 5, ground := Ground.phase }, { on := 6, ground := Ground.phase }, { on := 7, ground := Ground.phase }, { on := 8, ground := Ground.phase }, { on := 9, ground := Ground.phase }, { on := 10, ground := Ground.phase }, { on := 11, ground := Ground.phase }, { on := 12, ground := Ground.phase }, { on := 13, ground := Ground.phase }], guard := none }) (v := ?tk81) rfl (by kernel_rfl) (by kernel_rfl) (by kernel_rfl) (fun _ _ _ h => h) (Or.inl ⟨by rfl, ?tw81⟩) hHeldp3 ?_
            case tw81 => (intro W hW; clear hW; first | (go_simp; done) | (go_simp; with_reducible rfl))
            try simp only [Act.put, List.setIfInBounds_toArray, List.set_cons_zero, List.set_cons_succ]
            refine wpAnyH_done (by kernel_rfl) ?_ _
            refine NoPanic.normal ?_
            go_wp2_with fail
            go_ret
            exact ⟨rfl, HBW.out.trans (HL_3.out.mono HBW.out.size)⟩
end Go.Proofs.YtmlacbdonkfbdaaDoor
