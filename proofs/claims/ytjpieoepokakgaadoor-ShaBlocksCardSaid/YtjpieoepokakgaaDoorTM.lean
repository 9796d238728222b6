/- ShaWrites walked. -/
import Derived.Deep.RegionHeld3
import Derived.Test.YtjpieoepokakgaaDoorTL
namespace Go.Proofs.YtjpieoepokakgaaDoor
open Go.RowKit Go.Shelf

def OE (ls : List (List Nat)) (cp G k : Nat) (o early : Value) (wr : World) : Prop :=
  (k ≤ cp ∧ o = .pointer none ∧ early = .slice none 0 0) ∨
  (cp < k ∧ ∃ go, o = .pointer (some ⟨go, 0, none⟩) ∧ G < go ∧ HashAt (catL (ls.take cp)) go wr ∧ BytesAt (catL (ls.take cp)) early wr ∧ Nil0 early ∧ ∀ j, InS early j → G < j ∧ (0 < (catL (ls.take cp)).length → j ≠ go))
theorem OE.keeps {ls : List (List Nat)} {cp G k : Nat} {o early : Value} {wr V : World} (h : OE ls cp G k o early wr) {M : Nat → Prop} (hk : Keeps M wr V) (hM : ∀ j, j < wr.heap.size → G < j → ¬ M j) : OE ls cp G k o early V := by
  rcases h with h | ⟨h1, go, h2, h3, h4, h5, h6, h7⟩
  · exact .inl h
  · exact .inr ⟨h1, go, h2, h3, h4.keeps hk (hM go h4.lt h3), h5.keeps hk (fun j h0 hj => hM j (h5.lt h0 hj) (h7 j hj).1), h6, h7⟩
theorem OE.go {ls : List (List Nat)} {cp G k : Nat} {o early : Value} {wr : World} (h : OE ls cp G k o early wr) : ∀ go, o = .pointer (some ⟨go, 0, none⟩) → go < wr.heap.size := by
  intro go e
  rcases h with ⟨_, h, _⟩ | ⟨_, g, h, _, hH, _⟩
  · rw [h] at e; cases e
  · rw [h] at e; cases e; exact hH.lt
theorem OE.succ {ls : List (List Nat)} {cp G k : Nat} {o early : Value} {wr : World} (h : OE ls cp G k o early wr) (hk : k ≠ cp) : OE ls cp G (k + 1) o early wr := by
  rcases h with ⟨h1, h2⟩ | ⟨h1, h2⟩
  · exact .inl ⟨by omega, h2⟩
  · exact .inr ⟨by omega, h2⟩
def WrRel (ls : List (List Nat)) (N cp G : Nat) (w : World) (o all early i : Value) (wr : World) : Prop :=
  ∃ (k : Nat), k ≤ N ∧ i = .int .i64 (k : Nat) ∧ (∀ x ∈ ls.take k, x.length ≤ 150) ∧ HashAt (catL (ls.take k)) G wr ∧ BytesAt (catL (ls.take k)) all wr ∧ Nil0 all ∧ (∀ j, InS all j → G < j) ∧ Below w.heap.size w wr ∧ OE ls cp G k o early wr ∧ ∀ go, o = .pointer (some ⟨go, 0, none⟩) → ∀ j, InS all j → go < j
theorem keeps_two {A B C : World} {g : Nat} {n : Nat} (h1 : A.grownBy B (some g)) (r : Option Nat) (h2 : B.grownBy C r) (hr : ∀ x, r = some x → n ≤ x) : Keeps (fun j => j = g ∨ n ≤ j) A C :=
  (Keeps.of_grownBy h1 (fun x e => by cases e; exact .inl rfl)).trans (Keeps.of_grownBy h2 (fun x e => .inr (hr x e)))

theorem run_app {w : World} (ty : TypeId) (base : Nat) {l zs : List Nat} {v src : Value} (hown : w.ownsRow base 5 1 v l.length (cl l)) (hB : BytesAt zs src w) (hnil : Nil0 src) (hL : l.length + zs.length ≤ 1000000) (hbase : base ≤ w.heap.size) :
    ∃ v' w', (Builtin.append_ #[22, 22] ty #[v, src]).run Tryd.prog w = .ok v' w' ∧ w'.ownsRow base 5 1 v' (l ++ zs).length (cl (l ++ zs)) ∧ w.grownBy w' v.ownBlock := by
  obtain ⟨i0, hi, hz0, hz1, hz2⟩ := info_parts Tryd.info5
  obtain ⟨ad, c, rfl⟩ : ∃ ad c, src = .slice ad zs.length c := by obtain ⟨_, a, c, e, _⟩ := hB; exact ⟨a, c, e⟩
  cases ad with
  | none =>
    have h0 : zs = [] := by
      obtain ⟨_, a0, c0, e, _, h2⟩ := hB
      cases e
      rcases h2 with h2 | ⟨b, off, ea, _⟩
      · exact List.length_eq_zero_iff.1 h2
      · cases ea
    obtain rfl := hnil _ _ rfl
    subst h0
    rw [List.append_nil]
    exact ⟨v, w, run_append_owned_none (P := Tryd.prog) (w := w) base 22 ty 5 i0 1 Tryd.underlying22 hi v _ _ hown, hown, grownBy_refl _ _⟩
  | some ad =>
    have hc := (bytes_cells hB).2
    obtain ⟨v', w', h1, h2, h3, _⟩ := run_append_own (P := Tryd.prog) w base 22 ty 5 i0 (.int .u8 0) 1 1 Tryd.underlying22 hi hz0 hz1 hz2 rfl (by decide) v _ _ hown ad zs.length c (cl zs) (by rw [cl_len, Nat.mul_one]) hc (cl_one zs) (by unfold maxLen; omega) (by omega) hbase
    exact ⟨v', w', h1, by rw [List.length_append, cl_app]; exact h2, h3⟩

set_option maxRecDepth 100000 in
set_option maxHeartbeats 8000000 in
theorem writes_walk (ls : List (List Nat)) (v : Value) (cp : Nat) (w : World) (hcp : cp < 256) (hLs : ListAt ls v w) (hK : KG w) (hG : RG w) :
    Calls Tryd.prog 5 #[v, .int .u8 (cp : Nat)] w fun e w' => e = .returned (.bool true) ∧ Below w.heap.size w w' := by
  have HK := Lib.hid hK
  have HG := Lib.hid hG
  have HLS := Lib.hid hLs
  obtain ⟨a, c, rfl, hcell⟩ := hLs
  obtain ⟨N, hN⟩ : ∃ N, ls.length = N := ⟨_, rfl⟩
  have HNN := Lib.hid hN
  rw [hN] at HLS hcell ⊢
  have HCELL := Lib.hid hcell
  clear hcell hK hG hN
  by_cases hbig : 12 < N
  · have hb : (12 : Int) < ((N : Nat) : Int) := by omega
    go_enter Tryd.func5, Tryd.ntmps5
    go_wp2_with fail
    refine (known_any _ HK.out).mono ?_
    rintro e w1 ⟨rfl, hb1⟩
    have HB1 := Lib.hid hb1
    clear hb1
    go_wp2_with fail
    go_ret
    exact ⟨rfl, HB1.out⟩
  · have hb : ¬ (12 : Int) < ((N : Nat) : Int) := by omega
    have HW12 := Lib.hid (show 1 < w.heap.size from HK.out.1)
    obtain ⟨W0, hW0⟩ : ∃ W, w.alloc (.cells (hashA zero8 z64 0) 38) = W := ⟨_, rfl⟩
    have hbA : Below w.heap.size w W0 := by rw [← hW0]; exact (Below.refl _ w).alloc (Nat.le_refl _) _
    have HI0 := Lib.hid (show WrRel ls N cp w.heap.size w (.pointer none) (.slice none 0 0) (.slice none 0 0) (.int .i64 0) W0 from
      ⟨0, by omega, rfl, fun x hx => (by cases hx), HashAt.zero (by rw [← hW0, rowN_alloc, if_pos rfl]), ⟨fun x hx => (by cases hx), none, 0, rfl, Nat.le_refl _, .inl rfl⟩, (fun L c e => by injection e with h1 h2 h3; omega), (fun j h => by obtain ⟨_, _, _, _, e⟩ := h; cases e), hbA, .inl ⟨by omega, rfl, rfl⟩, fun go e => by cases e⟩)
    have HWR := Lib.hid (fun g zs bs s W h1 h2 h3 h4 h5 h6 => write_at g zs bs s W h1 h2 h3 h4 h5 h6)
    have HSM := Lib.hid (fun g zs W h1 h2 h3 => hsum_at g zs W h1 h2 h3)
    have HRS := Lib.hid (fun zs s W (h1 : RG W) (h2 : BytesAt zs s W) (hn : Nil0 s) (hl : zs.length ≤ 100000) => rsum_any zs s hl W h1 h2 hn)
    have HLN := Lib.hid (fun g zs W (h1 : HashAt zs g W) => len_at g zs W h1)
    have HCP := Lib.hid (fun g zs W (h1 : HashAt zs g W) => copy_at g zs W h1)
    have hq : ∀ w, (binOp BinOp.eql 39 (.pointer none) (.pointer none)).run Tryd.prog w = .ok (.bool true) w := fun w => by kernel_rfl
    have ecp : IntKind.i64.wrap ((cp : Nat) : Int) = ((cp : Nat) : Int) := IntWalk.i64_in _ (by omega)
    go_enter Tryd.func5, Tryd.ntmps5
    go_wp2_with fail
    try rw [hW0]
    clear hbA hW0
    go_loopw [6, 7, 8, 9] (fun o all early i wr => WrRel ls N cp w.heap.size w o all early i wr) (fun _ _ _ i _ => N - (intOf i).toNat)
    case atStart => exact HI0.out
    case round => as_aux_lemma =>
      clear HI0
      obtain ⟨k, hk, rfl, h150, hH, hA, hAn, hAi, hB, hOE, hAG⟩ := hrel
      have HH := Lib.hid hH
      have HA := Lib.hid hA
      have HAN := Lib.hid hAn
      have HAI := Lib.hid hAi
      have HB := Lib.hid hB
      have HOE := Lib.hid hOE
      have H150 := Lib.hid h150
      by_cases hlt : k < N
      · obtain ⟨b0, off0, rfl, hb0, hcells⟩ : ∃ b off, a = some ⟨b, off, none⟩ ∧ b < w.heap.size ∧ ∀ i, i < N → ∃ s, w.cell? ⟨b, off + i, none⟩ = some s ∧ BytesAt (ls.getD i []) s w ∧ Nil0 s := by
          rcases HCELL.out with h | h
          · omega
          · exact h
        obtain ⟨sk, hsc, hsb, hsn⟩ := hcells k hlt
        have HSB := Lib.hid hsb
        have HSN := Lib.hid hsn
        have hcs := Lib.hid (fun W (hb : Below w.heap.size w W) => (hb.cell (p := ⟨b0, off0 + k, none⟩) hb0).trans hsc)
        have hsc1 : wr.cell? ⟨b0, off0 + k, none⟩ = some sk := hcs.out _ hB
        have hkN : ((k : Nat) : Int) < ((N : Nat) : Int) := by omega
        have HCAT := Lib.hid (catL_succ ls k (by rw [HNN.out]; exact hlt))
        have hkls : k < ls.length := by rw [HNN.out]; exact hlt
        have hmem : ∀ x ∈ ls.take (k + 1), (ls.getD k []).length ≤ 150 → x.length ≤ 150 := fun x hx h => by
          rw [List.take_succ_eq_append_getElem hkls] at hx
          rcases List.mem_append.1 hx with hx | hx
          · exact H150.out x hx
          · have : x = ls[k] := by simpa using hx
            rw [this]; rw [List.getD, List.getElem?_eq_getElem hkls] at h; exact h
        have HMEM := Lib.hid hmem
        have HCL := Lib.hid (show (catL (ls.take k)).length ≤ 1800 by
          have := catL_len (ls.take k) H150.out
          rw [List.length_take] at this; omega)
        obtain ⟨zk, hzk⟩ : ∃ z, ls.getD k [] = z := ⟨_, rfl⟩
        rw [hzk] at HSB HCAT HMEM
        obtain ⟨ak, ck, rfl, hck⟩ : ∃ ak ck, sk = .slice ak zk.length ck ∧ zk.length ≤ ck := by obtain ⟨_, a, c, e, hc, _⟩ := HSB.out; exact ⟨a, c, e, hc⟩
        obtain ⟨Lk, hLk⟩ : ∃ L, zk.length = L := ⟨_, rfl⟩
        have HLK := Lib.hid hLk
        rw [hLk] at HSB HSN hsc1 hcs HMEM
        obtain ⟨zs, hzs⟩ : ∃ z, catL (ls.take k) = z := ⟨_, rfl⟩
        have HZS := Lib.hid hzs
        rw [hzs] at HH HA HCL HCAT hA
        obtain ⟨aa, ca, rfl⟩ : ∃ aa ca, u7 = .slice aa zs.length ca := by obtain ⟨_, a, c, e, _⟩ := hA; exact ⟨a, c, e⟩
        obtain ⟨Lz, hLz⟩ : ∃ L, zs.length = L := ⟨_, rfl⟩
        have HLZ := Lib.hid hLz
        rw [hLz] at HA HAN HAI HCL ⊢
        clear hH hA hAn hAi hB hOE h150 hcells hsc hsb hsn hmem hkls hzk hLk hzs hLz hck
        by_cases hlong : 150 < Lk
        · have hl1 : (150 : Int) < ((Lk : Nat) : Int) := by omega
          go_wp2_with fail
          refine (known_any _ (HK.out.kept HB.out)).mono ?_
          rintro e w1 ⟨rfl, hb1⟩
          have HB1 := Lib.hid (HB.out.trans (hb1.mono HB.out.size))
          clear hb1
          go_wp2_with fail
          go_ret
          exact ⟨rfl, HB1.out⟩
        · have hl1 : ¬ (150 : Int) < ((Lk : Nat) : Int) := by omega
          by_cases hkc : k = cp
          · subst hkc
            go_wp2_with fail
            refine (HCP.out _ _ _ HH.out).mono ?_
            rintro e X ⟨rfl, hh, hbX⟩
            have HHG := Lib.hid (HH.out.kept hbX)
            have HAX := Lib.hid (HA.out.kept hbX)
            have HBX := Lib.hid (HB.out.trans (hbX.mono HB.out.size))
            have HOX := Lib.hid (show OE ls k w.heap.size (k + 1) (.pointer (some ⟨wr.heap.size, 0, none⟩)) (.slice aa Lz ca) X from .inr ⟨by omega, _, rfl, HH.out.lt, by rw [HZS.out]; exact hh, by rw [HZS.out]; exact HAX.out, HAN.out, fun j hj => ⟨HAI.out j hj, fun h0 => by rw [HZS.out] at h0; have := HA.out.lt h0 hj; omega⟩⟩)
            clear hh hbX HH HA HB HOE
            have hscX := hcs.out _ HBX.out
            have hown0 : (X.alloc (.cells #[] 5)).ownsRow X.heap.size 5 1 (.slice (some ⟨X.heap.size, 0, none⟩) 0 0) ([] : List Nat).length (cl []) := World.ownsRow_lit X #[] 0 (Nat.le_refl _) (by unfold maxLen; omega) rfl
            have hbel0 : Below X.heap.size X (X.alloc (.cells #[] 5)) := (Below.refl _ X).alloc (Nat.le_refl _) _
            have hwX := HBX.out.size
            have hGX : w.heap.size < X.heap.size := HHG.out.lt
            have hsc3 : (X.alloc (.cells #[] 5)).cell? ⟨b0, off0 + k, none⟩ = some (.slice ak Lk ck) := hcs.out _ (HBX.out.trans (hbel0.mono hwX))
            go_wp2_with (at_builtin; refine wpList_app rfl _ _ rfl X.heap.size rfl rfl hown0 (HSB.out.kept (HBX.out.trans (hbel0.mono hwX))) HSN.out (by rw [HLK.out]; simp; omega) hbel0.size ?_; intro v3 w3 hown3 hgrow3)
            have hb3 := below_owned hbel0 hown0 hgrow3 hbel0.size
            rw [List.nil_append] at hown3
            have hz3 := owns_both HSB.out.1 hown3
            have hn3 := owns_nil0 hown3
            obtain ⟨a3, c3, rfl⟩ : ∃ a c, v3 = .slice a Lk c := by obtain ⟨_, a, c, e, _⟩ := hz3.1; exact ⟨a, c, by rw [e, HLK.out]⟩
            have HHG3 := Lib.hid (HHG.out.kept hb3)
            have HB3 := Lib.hid (HBX.out.trans (hb3.mono HBX.out.size))
            have HB3X := Lib.hid hb3
            have HOWN := Lib.hid (show w3.ownsRow X.heap.size 5 1 (.slice a3 Lk c3) Lk (cl zk) by rw [HLK.out] at hown3; exact hown3)
            have HZ3 := Lib.hid hz3
            have HW3S := Lib.hid hb3.size
            clear hscX hown0 hbel0 hsc3 hown3 hgrow3 hb3 hz3 hn3 HHG HBX hsc1
            refine (HWR.out _ _ _ _ _ HHG3.out (by rw [HLZ.out, HLK.out]; have := HCL.out; omega) (HK.out.kept HB3.out) (by have := HW12.out; omega) HZ3.out.1 (fun j _ hj e => by have := HZ3.out.2 j hj; omega)).mono ?_
            rintro e w4 ⟨rfl, hh, hg⟩
            rw [← HCAT.out] at hh
            have hne3 : ∀ x, (Value.slice a3 Lk c3).ownBlock = some x → X.heap.size ≤ x := fun x e => (HOWN.out.lt x e).1
            have HOWN4 := Lib.hid (HOWN.out.kept hg (.inr (fun e => by have := hne3 _ e; omega)))
            have HHG4 := Lib.hid hh
            have HKP := Lib.hid hg
            have HNE3 := Lib.hid hne3
            clear hh hg HHG3 HOWN hne3
            go_wp2_with fail
            go_loopw [11] (fun i wq => IncRel X.heap.size Lk (.slice a3 Lk c3) w4 i wq) (fun i _ => Lk - (intOf i).toNat)
            case atStart => exact ⟨0, zk, by omega, rfl, HLK.out, HSB.out.1, HOWN4.out, grownBy_refl _ _⟩
            case round => as_aux_lemma =>
              obtain ⟨wq, rfl⟩ : ∃ W, W = wr := ⟨_, rfl⟩
              obtain ⟨m, ys, hm, rfl, hys, hy256, hyo, hyg⟩ := hrel
              by_cases hlt2 : m < Lk
              · obtain ⟨g3, rfl, hLc, hcm, hfm⟩ := inc_cell hys hyo hlt2
                have hy := byte_lt hy256 m
                have HST := Lib.hid (fun x hx => IncRel.step hlt2 hys hy256 hyo hyg x hx)
                obtain ⟨y, hyy⟩ : ∃ y, ys.getD m 0 = y := ⟨_, rfl⟩
                rw [hyy] at hcm hy
                have hm1 : ((m : Nat) : Int) < ((Lk : Nat) : Int) := by omega
                have ey : IntKind.u8.wrap (((y : Nat) : Int) + 1) = (((y + 1) % 256 : Nat) : Int) := by rw [IntKind.wrap_u8]; omega
                have HST2 := Lib.hid (HST.out ((y + 1) % 256) (Nat.mod_lt _ (by omega)))
                clear hyy hys hy256 hyo hyg HST
                go_wp2_with fail
                exact ⟨HST2.out, by simp [intOf]; omega⟩
              · obtain rfl : Lk = m := by omega
                have HY := Lib.hid hyg
                clear hys hy256 hyo hyg HOWN4
                have hkp5 : Keeps (fun j => j = w.heap.size ∨ X.heap.size ≤ j) X wq := (Keeps.of_below HB3X.out).trans (keeps_two (n := X.heap.size) HKP.out _ HY.out HNE3.out)
                have HGO := Lib.hid HOX.out.go
                have HXQ := Lib.hid (show X.heap.size ≤ wq.heap.size from Nat.le_trans HB3X.out.size (Nat.le_trans HKP.out.size HY.out.size))
                have HHG5 := Lib.hid (HHG4.out.keeps (Keeps.of_grownBy (M := fun j => X.heap.size ≤ j) HY.out HNE3.out) (by omega))
                have HOX5 := Lib.hid (HOX.out.keeps hkp5 (fun j hj hG hM => by omega))
                have HA5 := Lib.hid (HAX.out.keeps hkp5 (fun j h0 hj hM => by have := HAX.out.lt h0 hj; have := HAI.out j hj; omega))
                have hB4 := HB3.out.grown HKP.out HB3.out.size (fun r e => by cases e; exact Nat.le_refl _)
                have HB5 := Lib.hid (hB4.grown HY.out hB4.size (fun r e => by have := HNE3.out r e; omega))
                have hwq := HB5.out.size
                clear hkp5 hB4 HHG4 HOX HAX HB3 HKP HY HB3X HNE3 HWR
                have hcq := hcs.out _ HB5.out
                have HL_0 := Lib.hid (show Below wq.heap.size wq wq.drew from (Below.refl _ _).drew)
                have He_0 := Lib.hid (show wq.drew.cell? ⟨b0, off0 + k, none⟩ = some (.slice ak Lk ck) from hcq)
                clear hcq
                go_upto_region 20 with fail
                refine wp_region_noPanic ?_
                refine wp_region_held_drew (S := fun W => W.cell? ⟨b0, off0 + k, none⟩ = some (.slice ak Lk ck)) (by kernel_rfl) He_0.out (fun hHeld0 => ?_)
                obtain ⟨x0, hx0⟩ : ∃ X, wq.drew = X := ⟨_, rfl⟩
                rw [hx0] at He_0 HL_0 hHeld0 ⊢
                clear hx0
                refine wpAnyH_take (i := 1) (oi := { dst := some 57, op := Op.move (Operand.tmp 7), type := 22, pos := "law.go:96", after := #[], guard := none }) (v := ?tk0) rfl (by kernel_rfl) (by kernel_rfl) (by kernel_rfl) (fun _ _ _ h => h) (Or.inl ⟨by rfl, ?tw0⟩) hHeld0 ?_
                case tw0 => (intro W hW; clear hW; first | (go_simp; done) | (go_simp; with_reducible rfl))
                try simp only [Act.put, List.setIfInBounds_toArray, List.set_cons_zero, List.set_cons_succ]
                refine wpAnyH_take (i := 3) (oi := { dst := some 59, op := Op.move (Operand.tmp 0), type := 32, pos := "law.go:96", after := #[], guard := none }) (v := ?tk1) rfl (by kernel_rfl) (by kernel_rfl) (by kernel_rfl) (fun _ _ _ h => h) (Or.inl ⟨by rfl, ?tw1⟩) hHeld0 ?_
                case tw1 => (intro W hW; clear hW; first | (go_simp; done) | (go_simp; with_reducible rfl))
                try simp only [Act.put, List.setIfInBounds_toArray, List.set_cons_zero, List.set_cons_succ]
                refine wpAnyH_take (i := 4) (oi := { dst := some 60, op := Op.move (Operand.tmp 9), type := 3, pos := "law.go:96", after := #[], guard := none }) (v := ?tk2) rfl (by kernel_rfl) (by kernel_rfl) (by kernel_rfl) (fun _ _ _ h => h) (Or.inl ⟨by rfl, ?tw2⟩) hHeld0 ?_
                case tw2 => (intro W hW; clear hW; first | (go_simp; done) | (go_simp; with_reducible rfl))
                try simp only [Act.put, List.setIfInBounds_toArray, List.set_cons_zero, List.set_cons_succ]
                refine wpAnyH_take (i := 5) (oi := { dst := some 61, op := Op.indexAddr 32 (Operand.tmp 59) (Operand.tmp 60), type := 0, pos := "law.go:96", after := #[{ on := 3, ground := Ground.data }, { on := 4, ground := Ground.data }], guard := none }) (v := ?tk3) rfl (by kernel_rfl) (by kernel_rfl) (by kernel_rfl) (fun _ _ _ h => h) (Or.inl ⟨by rfl, ?tw3⟩) hHeld0 ?_
                case tw3 => (intro W hW; clear hW; first | (go_simp; done) | (go_simp; with_reducible rfl))
                try simp only [Act.put, List.setIfInBounds_toArray, List.set_cons_zero, List.set_cons_succ]
                refine wpAnyH_take (i := 6) (oi := { dst := some 62, op := Op.load 22 (Operand.tmp 61), type := 22, pos := "law.go:96", after := #[{ on := 5, ground := Ground.data }], guard := none }) (v := .slice ak Lk ck) rfl (by kernel_rfl) (by kernel_rfl) (by kernel_rfl) (fun _ _ _ h => h) (Or.inl ⟨by rfl, fun W hW => ?_⟩) hHeld0 ?_
                · (have hW1 := hW; clear hW; go_simp)
                try simp only [Act.put, List.setIfInBounds_toArray, List.set_cons_zero, List.set_cons_succ]
                refine wpAnyH_ready (rs := [0]) (by kernel_rfl) (by simp) ?_
                refine AllReadyH.cons (o := { dst := some 56, op := Op.buildSlice 22 0 #[], type := 22, pos := "law.go:96", after := #[], guard := none }) rfl (fun K' hK => ?_) AllReadyH.nil
                go_simp
                obtain ⟨x1, hx1⟩ : ∃ X, x0.alloc (.cells #[] 5) = X := ⟨_, rfl⟩
                have hb : Below x0.heap.size x0 x1 := by rw [← hx1]; exact (Below.refl _ _).alloc (Nat.le_refl _) _
                have Ho_1 := Lib.hid (show x1.ownsRow x0.heap.size 5 1 (.slice (some ⟨x0.heap.size, 0, none⟩) 0 0) ([] : List Nat).length (cl []) by rw [← hx1]; exact World.ownsRow_lit _ #[] 0 (Nat.le_refl _) (by unfold maxLen; omega) rfl)
                have HL_1 := Lib.hid (HL_0.out.trans (hb.mono HL_0.out.size))
                have HW_1 := Lib.hid (HB5.out.trans (HL_1.out.mono HB5.out.size))
                have He_1 := Lib.hid (hcs.out _ HW_1.out)
                have hx0s := HL_1.out.size
                have hx0q : wq.heap.size ≤ x0.heap.size := HL_0.out.size
                have hx0y : x0.heap.size ≤ x1.heap.size := hb.size
                clear hb
                rw [hx1]
                refine hK.out _ _ He_1.out (fun hHeld1 => ?_)
                clear hK K'
                try simp only [Act.put, List.setIfInBounds_toArray, List.set_cons_zero, List.set_cons_succ]
                refine wpAnyH_ready (rs := [2]) (by kernel_rfl) (by simp) ?_
                refine AllReadyH.cons (o := { dst := some 58, op := Op.call { callee := Callee.builtin Builtin.append, args := #[Operand.tmp 56, Operand.tmp 57], argTypes := #[22, 22] }, type := 22, pos := "law.go:96", after := #[{ on := 0, ground := Ground.data }, { on := 1, ground := Ground.data }], guard := none }) rfl (fun K' hK => ?_) AllReadyH.nil
                rw [if_pos (by rfl)]
                refine wp_app _ _ rfl x0.heap.size rfl rfl Ho_1.out (HA5.out.kept HL_1.out) HAN.out (by rw [HLZ.out]; simp; have := HCL.out; omega) hx0y ?_
                intro vb x2 hva hga
                have hbl := below_owned (Below.refl x0.heap.size x1) Ho_1.out hga hx0y
                rw [List.nil_append] at hva
                have Ho_2 := Lib.hid hva
                have HL_2 := Lib.hid (HL_1.out.trans (hbl.mono hx0q))
                have HW_2 := Lib.hid (HB5.out.trans (HL_2.out.mono HB5.out.size))
                have He_2 := Lib.hid (hcs.out _ HW_2.out)
                have hx0z := Nat.le_trans hx0y hbl.size
                clear hva hga hbl hx0y
                have hx0y := hx0z
                clear hx0z
                refine hK.out _ _ He_2.out (fun hHeld2 => ?_)
                clear hK K'
                try simp only [Act.put, List.setIfInBounds_toArray, List.set_cons_zero, List.set_cons_succ]
                refine wpAnyH_ready (rs := [7]) (by kernel_rfl) (by simp) ?_
                refine AllReadyH.cons (o := { dst := some 63, op := Op.call { callee := Callee.builtin Builtin.append, args := #[Operand.tmp 58, Operand.tmp 62], argTypes := #[22, 22] }, type := 22, pos := "law.go:96", after := #[{ on := 2, ground := Ground.data }, { on := 6, ground := Ground.data }, { on := 2, ground := Ground.chain }], guard := none }) rfl (fun K' hK => ?_) AllReadyH.nil
                rw [if_pos (by rfl)]
                refine wp_app _ _ rfl x0.heap.size rfl rfl Ho_2.out (HSB.out.kept HW_2.out) HSN.out (by rw [HLZ.out, HLK.out]; have := HCL.out; omega) hx0y ?_
                intro vb x3 hva hga
                have hbl := below_owned (Below.refl x0.heap.size x2) Ho_2.out hga hx0y
                skip
                have Ho_3 := Lib.hid hva
                have HL_3 := Lib.hid (HL_2.out.trans (hbl.mono hx0q))
                have HW_3 := Lib.hid (HB5.out.trans (HL_3.out.mono HB5.out.size))
                have He_3 := Lib.hid (hcs.out _ HW_3.out)
                have hx0z := Nat.le_trans hx0y hbl.size
                clear hva hga hbl hx0y
                have hx0y := hx0z
                clear hx0z
                refine hK.out _ _ He_3.out (fun hHeld3 => ?_)
                clear hK K'
                try simp only [Act.put, List.setIfInBounds_toArray, List.set_cons_zero, List.set_cons_succ]
                refine wpAnyH_take (i := 8) (oi := { dst := some 7, op := Op.assign (Operand.tmp 63), type := 22, pos := "law.go:96", after := #[{ on := 7, ground := Ground.data }, { on := 7, ground := Ground.chain }, { on := 0, ground := Ground.phase }, { on := 1, ground := Ground.phase }, { on := 2, ground := Ground.phase }, { on := 3, ground := Ground.phase }, { on := 4, ground := Ground.phase }, { on := 5, ground := Ground.phase }, { on := 6, ground := Ground.phase }, { on := 7, ground := Ground.phase }], guard := none }) (v := ?tk4) rfl (by kernel_rfl) (by kernel_rfl) (by kernel_rfl) (fun _ _ _ h => h) (Or.inl ⟨by rfl, ?tw4⟩) hHeld3 ?_
                case tw4 => (intro W hW; clear hW; first | (go_simp; done) | (go_simp; with_reducible rfl))
                try simp only [Act.put, List.setIfInBounds_toArray, List.set_cons_zero, List.set_cons_succ]
                refine wpAnyH_done (by kernel_rfl) ?_ _
                refine NoPanic.normal ?_
                have hz8 := owns_both (fun y hy => by rcases List.mem_append.1 hy with hy | hy; exact HA5.out.1 y hy; exact HSB.out.1 y hy) Ho_3.out
                have hn8 := owns_nil0 Ho_3.out
                obtain ⟨a8, c8, rfl⟩ := owns_slice Ho_3.out
                have HZ8 := Lib.hid hz8
                have HN8 := Lib.hid hn8
                have HHG8 := Lib.hid (HHG5.out.kept HL_3.out)
                have HOX8 := Lib.hid (HOX5.out.keeps (Keeps.of_below (M := fun _ => False) HL_3.out) (fun _ _ _ h => h))
                have HB8 := Lib.hid HW_3.out
                have hO : (shaL (zs ++ zk)).length = 32 := outB_len (absB_len rfl _ _)
                have HSM2 := Lib.hid (fun W h1 h3 => HSM.out w.heap.size (zs ++ zk) W h1 (by rw [List.length_append, HLZ.out, HLK.out]; have := HCL.out; omega) h3)
                have HRS2 := Lib.hid (fun s W h1 h2 h3 => HRS.out (zs ++ zk) s W h1 h2 h3 (by rw [List.length_append, HLZ.out, HLK.out]; have := HCL.out; omega))
                obtain ⟨O, hOe⟩ : ∃ O, shaL (zs ++ zk) = O := ⟨_, rfl⟩
                rw [hOe] at hO HSM2 HRS2
                rw [HCAT.out] at HHG8
                have HLN2 := Lib.hid (fun W h => HLN.out w.heap.size (zs ++ zk) W h)
                obtain ⟨L8, hL8⟩ : ∃ L, (zs ++ zk).length = L := ⟨_, rfl⟩
                rw [hL8] at HLN2 HZ8 HN8 ⊢
                clear hz8 hn8 HHG5 HOX5 hOe HSM HRS HLN HCP
                go_wp2_with fail
                refine (HSM2.out _ HHG8.out (HK.out.kept HB8.out)).mono ?_
                rintro e Y1 ⟨rfl, hb1⟩
                have HB9 := Lib.hid (HB8.out.trans (hb1.mono HB8.out.size))
                have HZ9 := Lib.hid (HZ8.out.1.kept hb1)
                have HHG9 := Lib.hid (HHG8.out.kept hb1)
                have HOX9 := Lib.hid (HOX8.out.keeps (Keeps.of_below (M := fun _ => False) hb1) (fun _ _ _ h => h))
                clear hb1 HB8 HHG8 HOX8
                go_wp2_with fail
                refine (HRS2.out _ _ (HG.out.kept HB9.out) HZ9.out HN8.out).mono ?_
                rintro e Y2 ⟨rfl, hb1⟩
                have HB10 := Lib.hid (HB9.out.trans (hb1.mono HB9.out.size))
                have HZ10 := Lib.hid (HZ9.out.kept hb1)
                have HHG10 := Lib.hid (HHG9.out.kept hb1)
                have HOX10 := Lib.hid (HOX9.out.keeps (Keeps.of_below (M := fun _ => False) hb1) (fun _ _ _ h => h))
                clear hb1 HB9 HHG9 HOX9 HZ9
                go_wp2_with fail
                refine (HLN2.out _ HHG10.out).mono ?_
                rintro e Y3 ⟨rfl, rfl⟩
                go_wp2_with fail
                have hxx := HXQ.out
                have hk1 : k + 1 ≤ N := by omega
                have h1 := HHG10.out
                rw [← HCAT.out] at h1
                have h2 := HZ10.out
                rw [← HCAT.out] at h2
                have h3 : ∀ j, InS (.slice a8 L8 c8) j → w.heap.size < j := fun j hj => by have := HZ8.out.2 j hj; omega
                have h4 : ∀ x ∈ ls.take (k + 1), x.length ≤ 150 := fun x hx => HMEM.out x hx (by omega)
                refine ⟨?_, by simp [intOf]; omega⟩
                exact ⟨k + 1, hk1, rfl, h4, h1, h2, HN8.out, h3, HB10.out, HOX10.out, fun go e j hj => by have := HGO.out go e; have := HZ8.out.2 j hj; omega⟩
          · have hkc1 : ¬ ((k : Nat) : Int) = ((cp : Nat) : Int) := by omega
            obtain ⟨X, rfl⟩ : ∃ X, X = wr := ⟨_, rfl⟩
            have HHG := HH
            have HAX := HA
            have HBX := HB
            have HOX := Lib.hid (HOE.out.succ hkc)
            clear HH HA HB HOE
            have hscX := hcs.out _ HBX.out
            have hown0 : (X.alloc (.cells #[] 5)).ownsRow X.heap.size 5 1 (.slice (some ⟨X.heap.size, 0, none⟩) 0 0) ([] : List Nat).length (cl []) := World.ownsRow_lit X #[] 0 (Nat.le_refl _) (by unfold maxLen; omega) rfl
            have hbel0 : Below X.heap.size X (X.alloc (.cells #[] 5)) := (Below.refl _ X).alloc (Nat.le_refl _) _
            have hwX := HBX.out.size
            have hGX : w.heap.size < X.heap.size := HHG.out.lt
            have hsc3 : (X.alloc (.cells #[] 5)).cell? ⟨b0, off0 + k, none⟩ = some (.slice ak Lk ck) := hcs.out _ (HBX.out.trans (hbel0.mono hwX))
            go_wp2_with (at_builtin; refine wpList_app rfl _ _ rfl X.heap.size rfl rfl hown0 (HSB.out.kept (HBX.out.trans (hbel0.mono hwX))) HSN.out (by rw [HLK.out]; simp; omega) hbel0.size ?_; intro v3 w3 hown3 hgrow3)
            have hb3 := below_owned hbel0 hown0 hgrow3 hbel0.size
            rw [List.nil_append] at hown3
            have hz3 := owns_both HSB.out.1 hown3
            have hn3 := owns_nil0 hown3
            obtain ⟨a3, c3, rfl⟩ : ∃ a c, v3 = .slice a Lk c := by obtain ⟨_, a, c, e, _⟩ := hz3.1; exact ⟨a, c, by rw [e, HLK.out]⟩
            have HHG3 := Lib.hid (HHG.out.kept hb3)
            have HB3 := Lib.hid (HBX.out.trans (hb3.mono HBX.out.size))
            have HB3X := Lib.hid hb3
            have HOWN := Lib.hid (show w3.ownsRow X.heap.size 5 1 (.slice a3 Lk c3) Lk (cl zk) by rw [HLK.out] at hown3; exact hown3)
            have HZ3 := Lib.hid hz3
            have HW3S := Lib.hid hb3.size
            clear hscX hown0 hbel0 hsc3 hown3 hgrow3 hb3 hz3 hn3 HHG HBX hsc1
            refine (HWR.out _ _ _ _ _ HHG3.out (by rw [HLZ.out, HLK.out]; have := HCL.out; omega) (HK.out.kept HB3.out) (by have := HW12.out; omega) HZ3.out.1 (fun j _ hj e => by have := HZ3.out.2 j hj; omega)).mono ?_
            rintro e w4 ⟨rfl, hh, hg⟩
            rw [← HCAT.out] at hh
            have hne3 : ∀ x, (Value.slice a3 Lk c3).ownBlock = some x → X.heap.size ≤ x := fun x e => (HOWN.out.lt x e).1
            have HOWN4 := Lib.hid (HOWN.out.kept hg (.inr (fun e => by have := hne3 _ e; omega)))
            have HHG4 := Lib.hid hh
            have HKP := Lib.hid hg
            have HNE3 := Lib.hid hne3
            clear hh hg HHG3 HOWN hne3
            go_wp2_with fail
            go_loopw [11] (fun i wq => IncRel X.heap.size Lk (.slice a3 Lk c3) w4 i wq) (fun i _ => Lk - (intOf i).toNat)
            case atStart => exact ⟨0, zk, by omega, rfl, HLK.out, HSB.out.1, HOWN4.out, grownBy_refl _ _⟩
            case round => as_aux_lemma =>
              obtain ⟨wq, rfl⟩ : ∃ W, W = wr := ⟨_, rfl⟩
              obtain ⟨m, ys, hm, rfl, hys, hy256, hyo, hyg⟩ := hrel
              by_cases hlt2 : m < Lk
              · obtain ⟨g3, rfl, hLc, hcm, hfm⟩ := inc_cell hys hyo hlt2
                have hy := byte_lt hy256 m
                have HST := Lib.hid (fun x hx => IncRel.step hlt2 hys hy256 hyo hyg x hx)
                obtain ⟨y, hyy⟩ : ∃ y, ys.getD m 0 = y := ⟨_, rfl⟩
                rw [hyy] at hcm hy
                have hm1 : ((m : Nat) : Int) < ((Lk : Nat) : Int) := by omega
                have ey : IntKind.u8.wrap (((y : Nat) : Int) + 1) = (((y + 1) % 256 : Nat) : Int) := by rw [IntKind.wrap_u8]; omega
                have HST2 := Lib.hid (HST.out ((y + 1) % 256) (Nat.mod_lt _ (by omega)))
                clear hyy hys hy256 hyo hyg HST
                go_wp2_with fail
                exact ⟨HST2.out, by simp [intOf]; omega⟩
              · obtain rfl : Lk = m := by omega
                have HY := Lib.hid hyg
                clear hys hy256 hyo hyg HOWN4
                have hkp5 : Keeps (fun j => j = w.heap.size ∨ X.heap.size ≤ j) X wq := (Keeps.of_below HB3X.out).trans (keeps_two (n := X.heap.size) HKP.out _ HY.out HNE3.out)
                have HGO := Lib.hid HOX.out.go
                have HXQ := Lib.hid (show X.heap.size ≤ wq.heap.size from Nat.le_trans HB3X.out.size (Nat.le_trans HKP.out.size HY.out.size))
                have HHG5 := Lib.hid (HHG4.out.keeps (Keeps.of_grownBy (M := fun j => X.heap.size ≤ j) HY.out HNE3.out) (by omega))
                have HOX5 := Lib.hid (HOX.out.keeps hkp5 (fun j hj hG hM => by omega))
                have HA5 := Lib.hid (HAX.out.keeps hkp5 (fun j h0 hj hM => by have := HAX.out.lt h0 hj; have := HAI.out j hj; omega))
                have hB4 := HB3.out.grown HKP.out HB3.out.size (fun r e => by cases e; exact Nat.le_refl _)
                have HB5 := Lib.hid (hB4.grown HY.out hB4.size (fun r e => by have := HNE3.out r e; omega))
                have hwq := HB5.out.size
                clear hkp5 hB4 HHG4 HOX HAX HB3 HKP HY HB3X HNE3 HWR
                have hcq := hcs.out _ HB5.out
                have HL_0 := Lib.hid (show Below wq.heap.size wq wq.drew from (Below.refl _ _).drew)
                have He_0 := Lib.hid (show wq.drew.cell? ⟨b0, off0 + k, none⟩ = some (.slice ak Lk ck) from hcq)
                clear hcq
                go_upto_region 20 with fail
                refine wp_region_noPanic ?_
                refine wp_region_held_drew (S := fun W => W.cell? ⟨b0, off0 + k, none⟩ = some (.slice ak Lk ck)) (by kernel_rfl) He_0.out (fun hHeld0 => ?_)
                obtain ⟨x0, hx0⟩ : ∃ X, wq.drew = X := ⟨_, rfl⟩
                rw [hx0] at He_0 HL_0 hHeld0 ⊢
                clear hx0
                refine wpAnyH_take (i := 1) (oi := { dst := some 57, op := Op.move (Operand.tmp 7), type := 22, pos := "law.go:96", after := #[], guard := none }) (v := ?tkb0) rfl (by kernel_rfl) (by kernel_rfl) (by kernel_rfl) (fun _ _ _ h => h) (Or.inl ⟨by rfl, ?twb0⟩) hHeld0 ?_
                case twb0 => (intro W hW; clear hW; first | (go_simp; done) | (go_simp; with_reducible rfl))
                try simp only [Act.put, List.setIfInBounds_toArray, List.set_cons_zero, List.set_cons_succ]
                refine wpAnyH_take (i := 3) (oi := { dst := some 59, op := Op.move (Operand.tmp 0), type := 32, pos := "law.go:96", after := #[], guard := none }) (v := ?tkb1) rfl (by kernel_rfl) (by kernel_rfl) (by kernel_rfl) (fun _ _ _ h => h) (Or.inl ⟨by rfl, ?twb1⟩) hHeld0 ?_
                case twb1 => (intro W hW; clear hW; first | (go_simp; done) | (go_simp; with_reducible rfl))
                try simp only [Act.put, List.setIfInBounds_toArray, List.set_cons_zero, List.set_cons_succ]
                refine wpAnyH_take (i := 4) (oi := { dst := some 60, op := Op.move (Operand.tmp 9), type := 3, pos := "law.go:96", after := #[], guard := none }) (v := ?tkb2) rfl (by kernel_rfl) (by kernel_rfl) (by kernel_rfl) (fun _ _ _ h => h) (Or.inl ⟨by rfl, ?twb2⟩) hHeld0 ?_
                case twb2 => (intro W hW; clear hW; first | (go_simp; done) | (go_simp; with_reducible rfl))
                try simp only [Act.put, List.setIfInBounds_toArray, List.set_cons_zero, List.set_cons_succ]
                refine wpAnyH_take (i := 5) (oi := { dst := some 61, op := Op.indexAddr 32 (Operand.tmp 59) (Operand.tmp 60), type := 0, pos := "law.go:96", after := #[{ on := 3, ground := Ground.data }, { on := 4, ground := Ground.data }], guard := none }) (v := ?tkb3) rfl (by kernel_rfl) (by kernel_rfl) (by kernel_rfl) (fun _ _ _ h => h) (Or.inl ⟨by rfl, ?twb3⟩) hHeld0 ?_
                case twb3 => (intro W hW; clear hW; first | (go_simp; done) | (go_simp; with_reducible rfl))
                try simp only [Act.put, List.setIfInBounds_toArray, List.set_cons_zero, List.set_cons_succ]
                refine wpAnyH_take (i := 6) (oi := { dst := some 62, op := Op.load 22 (Operand.tmp 61), type := 22, pos := "law.go:96", after := #[{ on := 5, ground := Ground.data }], guard := none }) (v := .slice ak Lk ck) rfl (by kernel_rfl) (by kernel_rfl) (by kernel_rfl) (fun _ _ _ h => h) (Or.inl ⟨by rfl, fun W hW => ?_⟩) hHeld0 ?_
                · (have hW1 := hW; clear hW; go_simp)
                try simp only [Act.put, List.setIfInBounds_toArray, List.set_cons_zero, List.set_cons_succ]
                refine wpAnyH_ready (rs := [0]) (by kernel_rfl) (by simp) ?_
                refine AllReadyH.cons (o := { dst := some 56, op := Op.buildSlice 22 0 #[], type := 22, pos := "law.go:96", after := #[], guard := none }) rfl (fun K' hK => ?_) AllReadyH.nil
                go_simp
                obtain ⟨x1, hx1⟩ : ∃ X, x0.alloc (.cells #[] 5) = X := ⟨_, rfl⟩
                have hb : Below x0.heap.size x0 x1 := by rw [← hx1]; exact (Below.refl _ _).alloc (Nat.le_refl _) _
                have Ho_1 := Lib.hid (show x1.ownsRow x0.heap.size 5 1 (.slice (some ⟨x0.heap.size, 0, none⟩) 0 0) ([] : List Nat).length (cl []) by rw [← hx1]; exact World.ownsRow_lit _ #[] 0 (Nat.le_refl _) (by unfold maxLen; omega) rfl)
                have HL_1 := Lib.hid (HL_0.out.trans (hb.mono HL_0.out.size))
                have HW_1 := Lib.hid (HB5.out.trans (HL_1.out.mono HB5.out.size))
                have He_1 := Lib.hid (hcs.out _ HW_1.out)
                have hx0s := HL_1.out.size
                have hx0q : wq.heap.size ≤ x0.heap.size := HL_0.out.size
                have hx0y : x0.heap.size ≤ x1.heap.size := hb.size
                clear hb
                rw [hx1]
                refine hK.out _ _ He_1.out (fun hHeld1 => ?_)
                clear hK K'
                try simp only [Act.put, List.setIfInBounds_toArray, List.set_cons_zero, List.set_cons_succ]
                refine wpAnyH_ready (rs := [2]) (by kernel_rfl) (by simp) ?_
                refine AllReadyH.cons (o := { dst := some 58, op := Op.call { callee := Callee.builtin Builtin.append, args := #[Operand.tmp 56, Operand.tmp 57], argTypes := #[22, 22] }, type := 22, pos := "law.go:96", after := #[{ on := 0, ground := Ground.data }, { on := 1, ground := Ground.data }], guard := none }) rfl (fun K' hK => ?_) AllReadyH.nil
                rw [if_pos (by rfl)]
                refine wp_app _ _ rfl x0.heap.size rfl rfl Ho_1.out (HA5.out.kept HL_1.out) HAN.out (by rw [HLZ.out]; simp; have := HCL.out; omega) hx0y ?_
                intro vb x2 hva hga
                have hbl := below_owned (Below.refl x0.heap.size x1) Ho_1.out hga hx0y
                rw [List.nil_append] at hva
                have Ho_2 := Lib.hid hva
                have HL_2 := Lib.hid (HL_1.out.trans (hbl.mono hx0q))
                have HW_2 := Lib.hid (HB5.out.trans (HL_2.out.mono HB5.out.size))
                have He_2 := Lib.hid (hcs.out _ HW_2.out)
                have hx0z := Nat.le_trans hx0y hbl.size
                clear hva hga hbl hx0y
                have hx0y := hx0z
                clear hx0z
                refine hK.out _ _ He_2.out (fun hHeld2 => ?_)
                clear hK K'
                try simp only [Act.put, List.setIfInBounds_toArray, List.set_cons_zero, List.set_cons_succ]
                refine wpAnyH_ready (rs := [7]) (by kernel_rfl) (by simp) ?_
                refine AllReadyH.cons (o := { dst := some 63, op := Op.call { callee := Callee.builtin Builtin.append, args := #[Operand.tmp 58, Operand.tmp 62], argTypes := #[22, 22] }, type := 22, pos := "law.go:96", after := #[{ on := 2, ground := Ground.data }, { on := 6, ground := Ground.data }, { on := 2, ground := Ground.chain }], guard := none }) rfl (fun K' hK => ?_) AllReadyH.nil
                rw [if_pos (by rfl)]
                refine wp_app _ _ rfl x0.heap.size rfl rfl Ho_2.out (HSB.out.kept HW_2.out) HSN.out (by rw [HLZ.out, HLK.out]; have := HCL.out; omega) hx0y ?_
                intro vb x3 hva hga
                have hbl := below_owned (Below.refl x0.heap.size x2) Ho_2.out hga hx0y
                skip
                have Ho_3 := Lib.hid hva
                have HL_3 := Lib.hid (HL_2.out.trans (hbl.mono hx0q))
                have HW_3 := Lib.hid (HB5.out.trans (HL_3.out.mono HB5.out.size))
                have He_3 := Lib.hid (hcs.out _ HW_3.out)
                have hx0z := Nat.le_trans hx0y hbl.size
                clear hva hga hbl hx0y
                have hx0y := hx0z
                clear hx0z
                refine hK.out _ _ He_3.out (fun hHeld3 => ?_)
                clear hK K'
                try simp only [Act.put, List.setIfInBounds_toArray, List.set_cons_zero, List.set_cons_succ]
                refine wpAnyH_take (i := 8) (oi := { dst := some 7, op := Op.assign (Operand.tmp 63), type := 22, pos := "law.go:96", after := #[{ on := 7, ground := Ground.data }, { on := 7, ground := Ground.chain }, { on := 0, ground := Ground.phase }, { on := 1, ground := Ground.phase }, { on := 2, ground := Ground.phase }, { on := 3, ground := Ground.phase }, { on := 4, ground := Ground.phase }, { on := 5, ground := Ground.phase }, { on := 6, ground := Ground.phase }, { on := 7, ground := Ground.phase }], guard := none }) (v := ?tkb4) rfl (by kernel_rfl) (by kernel_rfl) (by kernel_rfl) (fun _ _ _ h => h) (Or.inl ⟨by rfl, ?twb4⟩) hHeld3 ?_
                case twb4 => (intro W hW; clear hW; first | (go_simp; done) | (go_simp; with_reducible rfl))
                try simp only [Act.put, List.setIfInBounds_toArray, List.set_cons_zero, List.set_cons_succ]
                refine wpAnyH_done (by kernel_rfl) ?_ _
                refine NoPanic.normal ?_
                have hz8 := owns_both (fun y hy => by rcases List.mem_append.1 hy with hy | hy; exact HA5.out.1 y hy; exact HSB.out.1 y hy) Ho_3.out
                have hn8 := owns_nil0 Ho_3.out
                obtain ⟨a8, c8, rfl⟩ := owns_slice Ho_3.out
                have HZ8 := Lib.hid hz8
                have HN8 := Lib.hid hn8
                have HHG8 := Lib.hid (HHG5.out.kept HL_3.out)
                have HOX8 := Lib.hid (HOX5.out.keeps (Keeps.of_below (M := fun _ => False) HL_3.out) (fun _ _ _ h => h))
                have HB8 := Lib.hid HW_3.out
                have hO : (shaL (zs ++ zk)).length = 32 := outB_len (absB_len rfl _ _)
                have HSM2 := Lib.hid (fun W h1 h3 => HSM.out w.heap.size (zs ++ zk) W h1 (by rw [List.length_append, HLZ.out, HLK.out]; have := HCL.out; omega) h3)
                have HRS2 := Lib.hid (fun s W h1 h2 h3 => HRS.out (zs ++ zk) s W h1 h2 h3 (by rw [List.length_append, HLZ.out, HLK.out]; have := HCL.out; omega))
                obtain ⟨O, hOe⟩ : ∃ O, shaL (zs ++ zk) = O := ⟨_, rfl⟩
                rw [hOe] at hO HSM2 HRS2
                rw [HCAT.out] at HHG8
                have HLN2 := Lib.hid (fun W h => HLN.out w.heap.size (zs ++ zk) W h)
                obtain ⟨L8, hL8⟩ : ∃ L, (zs ++ zk).length = L := ⟨_, rfl⟩
                rw [hL8] at HLN2 HZ8 HN8 ⊢
                clear hz8 hn8 HHG5 HOX5 hOe HSM HRS HLN HCP
                go_wp2_with fail
                refine (HSM2.out _ HHG8.out (HK.out.kept HB8.out)).mono ?_
                rintro e Y1 ⟨rfl, hb1⟩
                have HB9 := Lib.hid (HB8.out.trans (hb1.mono HB8.out.size))
                have HZ9 := Lib.hid (HZ8.out.1.kept hb1)
                have HHG9 := Lib.hid (HHG8.out.kept hb1)
                have HOX9 := Lib.hid (HOX8.out.keeps (Keeps.of_below (M := fun _ => False) hb1) (fun _ _ _ h => h))
                clear hb1 HB8 HHG8 HOX8
                go_wp2_with fail
                refine (HRS2.out _ _ (HG.out.kept HB9.out) HZ9.out HN8.out).mono ?_
                rintro e Y2 ⟨rfl, hb1⟩
                have HB10 := Lib.hid (HB9.out.trans (hb1.mono HB9.out.size))
                have HZ10 := Lib.hid (HZ9.out.kept hb1)
                have HHG10 := Lib.hid (HHG9.out.kept hb1)
                have HOX10 := Lib.hid (HOX9.out.keeps (Keeps.of_below (M := fun _ => False) hb1) (fun _ _ _ h => h))
                clear hb1 HB9 HHG9 HOX9 HZ9
                go_wp2_with fail
                refine (HLN2.out _ HHG10.out).mono ?_
                rintro e Y3 ⟨rfl, rfl⟩
                go_wp2_with fail
                have hxx := HXQ.out
                have hk1 : k + 1 ≤ N := by omega
                have h1 := HHG10.out
                rw [← HCAT.out] at h1
                have h2 := HZ10.out
                rw [← HCAT.out] at h2
                have h3 : ∀ j, InS (.slice a8 L8 c8) j → w.heap.size < j := fun j hj => by have := HZ8.out.2 j hj; omega
                have h4 : ∀ x ∈ ls.take (k + 1), x.length ≤ 150 := fun x hx => HMEM.out x hx (by omega)
                refine ⟨?_, by simp [intOf]; omega⟩
                exact ⟨k + 1, hk1, rfl, h4, h1, h2, HN8.out, h3, HB10.out, HOX10.out, fun go e j hj => by have := HGO.out go e; have := HZ8.out.2 j hj; omega⟩
      · obtain rfl : N = k := by omega
        have hNN : ls.take N = ls := List.take_of_length_le (by rw [HNN.out]; exact Nat.le_refl _)
        rw [hNN] at hH hA h150
        have HCL := Lib.hid (show (catL ls).length ≤ 1800 by
          have := catL_len ls h150
          rw [HNN.out] at this; omega)
        have HCL2 := Lib.hid (show (catL (ls.take cp)).length ≤ 1800 by
          have := catL_len (ls.take cp) (fun x hx => h150 x (List.mem_of_mem_take hx))
          rw [List.length_take, HNN.out] at this; omega)
        obtain ⟨zs, hzs⟩ : ∃ z, catL ls = z := ⟨_, rfl⟩
        rw [hzs] at hH hA HCL
        obtain ⟨ze, hze⟩ : ∃ z, catL (ls.take cp) = z := ⟨_, rfl⟩
        obtain ⟨aa, ca, rfl⟩ : ∃ aa ca, u7 = .slice aa zs.length ca := by obtain ⟨_, a, c, e, _⟩ := hA; exact ⟨a, c, e⟩
        obtain ⟨Lz, hLz⟩ : ∃ L, zs.length = L := ⟨_, rfl⟩
        have HLZ := Lib.hid hLz
        have hLz2 := Lib.hid hLz
        have HAF := Lib.hid hA
        have HANF := Lib.hid hAn
        have HHF := Lib.hid hH
        have HBF := Lib.hid hB
        have HKF := Lib.hid hAi
        rw [hLz] at HAF HANF HKF ⊢
        have hO : (shaL zs).length = 32 := outB_len (absB_len rfl _ _)
        have HSMF := Lib.hid (fun W h1 h3 => HSM.out w.heap.size zs W h1 (by rw [HLZ.out]; have := HCL.out; rw [HLZ.out] at this; omega) h3)
        have HRSF := Lib.hid (fun s W h1 h2 h3 => HRS.out zs s W h1 h2 h3 (by have := HCL.out; omega))
        obtain ⟨O, hOe⟩ : ∃ O, shaL zs = O := ⟨_, rfl⟩
        rw [hOe] at hO HSMF HRSF
        have hOE2 := hOE
        clear hH hA hAn hAi hB hOE h150 hzs hLz hOe hlt hk HH HA HAN HAI HB HOE H150
        rcases hOE2 with ⟨hNc, rfl, rfl⟩ | ⟨hcN, go, rfl, hgo, hHo, hEo, hEn, hEi⟩
        · have hNc1 : ¬ ((cp : Nat) : Int) < ((N : Nat) : Int) := by omega
          go_wp2_with fail
          refine (HSMF.out _ HHF.out (HK.out.kept HBF.out)).mono ?_
          rintro e Z1 ⟨rfl, hb1⟩
          have HBF1 := Lib.hid (HBF.out.trans (hb1.mono HBF.out.size))
          have HAF1 := Lib.hid (HAF.out.kept hb1)
          clear hb1
          go_wp2_with fail
          refine (HRSF.out _ _ (HG.out.kept HBF1.out) HAF1.out HANF.out).mono ?_
          rintro e Z2 ⟨rfl, hb1⟩
          have HBF2 := Lib.hid (HBF1.out.trans (hb1.mono HBF1.out.size))
          clear hb1
          go_wp2_with fail
          refine (known_any _ (HK.out.kept HBF2.out)).mono ?_
          rintro e Z3 ⟨rfl, hb1⟩
          have HBF3 := Lib.hid (HBF2.out.trans (hb1.mono HBF2.out.size))
          clear hb1
          go_wp2_with fail
          go_ret
          exact ⟨rfl, HBF3.out⟩
        · have hcN1 : ((cp : Nat) : Int) < ((N : Nat) : Int) := by omega
          rw [hze] at hHo hEo hEi HCL2
          obtain ⟨ae, ce, rfl⟩ : ∃ a c, u8 = .slice a ze.length c := by obtain ⟨_, a, c, e, _⟩ := hEo; exact ⟨a, c, e⟩
          obtain ⟨Le, hLe⟩ : ∃ L, ze.length = L := ⟨_, rfl⟩
          have HLE := Lib.hid hLe
          have HEO := Lib.hid hEo
          have HEN := Lib.hid hEn
          have HHO := Lib.hid hHo
          rw [hLe] at HEO HEN ⊢
          have HEI := Lib.hid hEi
          rw [hLe] at HEI
          have hO2 : (shaL ze).length = 32 := outB_len (absB_len rfl _ _)
          have hO3 : (shaL (ze ++ [1, 2, 3])).length = 32 := outB_len (absB_len rfl _ _)
          have hl3 : ([1, 2, 3] : List Nat).length = 3 := rfl
          have HLNE := Lib.hid (fun W h => HLN.out go ze W h)
          have HSME := Lib.hid (fun W h1 h3 => HSM.out go ze W h1 (by have := HCL2.out; omega) h3)
          have HRSE := Lib.hid (fun s W h1 h2 h3 => HRS.out ze s W h1 h2 h3 (by have := HCL2.out; omega))
          have HSM3 := Lib.hid (fun W h1 h3 => HSM.out go (ze ++ [1, 2, 3]) W h1 (by rw [List.length_append]; have := HCL2.out; omega) h3)
          have HRS3 := Lib.hid (fun s W h1 h2 h3 => HRS.out (ze ++ [1, 2, 3]) s W h1 h2 h3 (by rw [List.length_append]; have := HCL2.out; omega))
          obtain ⟨O2, hOe2⟩ : ∃ O, shaL ze = O := ⟨_, rfl⟩
          obtain ⟨O3, hOe3⟩ : ∃ O, shaL (ze ++ [1, 2, 3]) = O := ⟨_, rfl⟩
          rw [hOe2] at hO2 HSME HRSE
          rw [hOe3] at hO3 HSM3 HRS3
          have HL3 : ∀ W : World, BytesAt [1, 2, 3] (.slice (some ⟨W.heap.size, 0, none⟩) 3 3) (W.alloc (.cells #[.int .u8 1, .int .u8 2, .int .u8 3] 5)) := fun W =>
            bytes_row (fun x hx => by simp at hx; omega) (by rw [rowN_alloc, if_pos rfl, arr_lit]; rfl) 3 rfl
          have HLL3 := Lib.hid HL3
          rw [hLe] at HLNE
          have HAG := Lib.hid (hAG go rfl)
          rw [hLz2.out] at HAG
          clear hHo hEo hEn hEi hOe2 hOe3 hLe hze HL3 hAG
          go_wp2_with fail
          refine (HLNE.out _ HHO.out).mono ?_
          rintro e Y0 ⟨rfl, rfl⟩
          go_wp2_with fail
          refine (HSME.out _ HHO.out (HK.out.kept HBF.out)).mono ?_
          rintro e Y1 ⟨rfl, hb1⟩
          have HB1 := Lib.hid (HBF.out.trans (hb1.mono HBF.out.size))
          have HHO1 := Lib.hid (HHO.out.kept hb1)
          have HEO1 := Lib.hid (HEO.out.kept hb1)
          have HHF1 := Lib.hid (HHF.out.kept hb1)
          have HAF1 := Lib.hid (HAF.out.kept hb1)
          clear hb1 HBF HHO HEO HHF HAF
          go_wp2_with fail
          refine (HRSE.out _ _ (HG.out.kept HB1.out) HEO1.out HEN.out).mono ?_
          rintro e Y2 ⟨rfl, hb1⟩
          have HB2 := Lib.hid (HB1.out.trans (hb1.mono HB1.out.size))
          have HHO2 := Lib.hid (HHO1.out.kept hb1)
          have HEO2 := Lib.hid (HEO1.out.kept hb1)
          have HHF2 := Lib.hid (HHF1.out.kept hb1)
          have HAF2 := Lib.hid (HAF1.out.kept hb1)
          clear hb1 HB1 HHO1 HEO1 HHF1 HAF1
          go_wp2_with fail
          have hb1 : Below Y2.heap.size Y2 (Y2.alloc (.cells #[.int .u8 1, .int .u8 2, .int .u8 3] 5)) := (Below.refl _ _).alloc (Nat.le_refl _) _
          have HB3 := Lib.hid (HB2.out.trans (hb1.mono HB2.out.size))
          have hgoY := HHO2.out.lt
          refine (HWR.out go ze [1, 2, 3] _ _ (HHO2.out.kept hb1) (by have := HCL2.out; simp; omega) (HK.out.kept HB3.out) (by have := HW12.out; omega) (HLL3.out Y2) (fun j _ hj e => by obtain ⟨_, _, _, _, e2⟩ := hj; cases e2; omega)).mono ?_
          rintro e Y3 ⟨rfl, hh, hg⟩
          have hkp : Keeps (fun j => j = go) Y2 Y3 := (Keeps.of_below hb1).trans (Keeps.of_grownBy hg (fun r e => by cases e; rfl))
          have HHO3 := Lib.hid hh
          have HEO3 := Lib.hid (HEO2.out.keeps hkp (fun j h0 hj hM => (HEI.out j hj).2 (by rw [HLE.out] at h0; exact h0) hM))
          have HHF3 := Lib.hid (HHF2.out.keeps hkp (by omega))
          have HAF3 := Lib.hid (HAF2.out.keeps hkp (fun j h0 hj hM => by have := HAG.out j hj; omega))
          have HB4 := Lib.hid (HB3.out.grown hg HB3.out.size (fun r e => by cases e; omega))
          clear hb1 hh hg hkp HB2 HB3 HHO2 HEO2 HHF2 HAF2
          go_wp2_with fail
          refine (HSM3.out _ HHO3.out (HK.out.kept HB4.out)).mono ?_
          rintro e Y4 ⟨rfl, hb1⟩
          have HB5 := Lib.hid (HB4.out.trans (hb1.mono HB4.out.size))
          have HEO4 := Lib.hid (HEO3.out.kept hb1)
          have HHF4 := Lib.hid (HHF3.out.kept hb1)
          have HAF4 := Lib.hid (HAF3.out.kept hb1)
          clear hb1 HB4 HHO3 HEO3 HHF3 HAF3
          have hown0 : (Y4.alloc (.cells #[] 5)).ownsRow Y4.heap.size 5 1 (.slice (some ⟨Y4.heap.size, 0, none⟩) 0 0) ([] : List Nat).length (cl []) := World.ownsRow_lit Y4 #[] 0 (Nat.le_refl _) (by unfold maxLen; omega) rfl
          have hbel0 : Below Y4.heap.size Y4 (Y4.alloc (.cells #[] 5)) := (Below.refl _ Y4).alloc (Nat.le_refl _) _
          go_wp2_with (first
            | (at_builtin; (refine wpList_appW (by kernel_rfl) _ _ rfl Y4.heap.size rfl rfl hown0 (HEO4.out.kept hbel0) HEN.out (by have h := HCL2.out; rw [HLE.out] at h ⊢; simp; omega) hbel0.size ?_; intro v5 Y5 hown5 hgrow5; have hb5 := below_owned hbel0 hown0 hgrow5 hbel0.size; have hy45 := hb5.size; rw [List.nil_append] at hown5))
            | (at_builtin; (refine wpList_appW (by kernel_rfl) _ _ rfl Y4.heap.size rfl rfl (hown5.alloc (.cells #[.int .u8 1, .int .u8 2, .int .u8 3] 5)) (HLL3.out Y5) (fun L' c' e => by cases e) (by have h := HCL2.out; rw [HLE.out] at h; simp [HLE.out]; omega) (by simp; omega) ?_; intro v6 Y6 hown6 hgrow6; have hb6 := below_owned (hb5.alloc hy45 _) (hown5.alloc (.cells #[.int .u8 1, .int .u8 2, .int .u8 3] 5)) hgrow6 (by simp; omega))))
          have HZ6 := Lib.hid (owns_both (fun y hy => by rcases List.mem_append.1 hy with hy | hy; exact HEO4.out.1 y hy; simp at hy; omega) hown6)
          have HN6 := Lib.hid (owns_nil0 hown6)
          have HB6 := Lib.hid (HB5.out.trans (hb6.mono HB5.out.size))
          have HHF6 := Lib.hid (HHF4.out.kept hb6)
          have HAF6 := Lib.hid (HAF4.out.kept hb6)
          obtain ⟨a6, c6, e6⟩ := owns_slice hown6
          subst e6
          have hl6 : (ze ++ [1, 2, 3]).length = Le + 3 := by rw [List.length_append, HLE.out]; rfl
          rw [hl6] at HZ6 HN6 ⊢
          clear hown0 hbel0 hown5 hgrow5 hb5 hy45 hown6 hgrow6 hb6 HB5 HEO4 HHF4 HAF4 hl6
          refine (HRS3.out _ _ (HG.out.kept HB6.out) HZ6.out.1 HN6.out).mono ?_
          rintro e Y7 ⟨rfl, hb1⟩
          have HBF := Lib.hid (HB6.out.trans (hb1.mono HB6.out.size))
          have HHF := Lib.hid (HHF6.out.kept hb1)
          have HAF := Lib.hid (HAF6.out.kept hb1)
          clear hb1 HB6 HHF6 HAF6 HZ6 HN6
          go_wp2_with fail
          refine (HSMF.out _ HHF.out (HK.out.kept HBF.out)).mono ?_
          rintro e Z1 ⟨rfl, hb1⟩
          have HBF1 := Lib.hid (HBF.out.trans (hb1.mono HBF.out.size))
          have HAF1 := Lib.hid (HAF.out.kept hb1)
          clear hb1
          go_wp2_with fail
          refine (HRSF.out _ _ (HG.out.kept HBF1.out) HAF1.out HANF.out).mono ?_
          rintro e Z2 ⟨rfl, hb1⟩
          have HBF2 := Lib.hid (HBF1.out.trans (hb1.mono HBF1.out.size))
          clear hb1
          go_wp2_with fail
          refine (known_any _ (HK.out.kept HBF2.out)).mono ?_
          rintro e Z3 ⟨rfl, hb1⟩
          have HBF3 := Lib.hid (HBF2.out.trans (hb1.mono HBF2.out.size))
          clear hb1
          go_wp2_with fail
          go_ret
          exact ⟨rfl, HBF3.out⟩
end Go.Proofs.YtjpieoepokakgaaDoor
