/- MacChecks walked. -/
import Derived.Deep.RegionHeld3
import Derived.Test.YtmlacbdonkfbdaaDoorWQ
import Derived.Test.YtmlacbdonkfbdaaDoorWM
namespace Go.Proofs.YtmlacbdonkfbdaaDoor
open Go.RowKit Go.Shelf

attribute [local go_sem] Oper.semAt_some
theorem owns_pos {base n : Nat} {W : World} {v : Value} {xs : List Nat} (h : W.ownsRow base 5 1 v n (cl xs)) (hn : 0 < n) : ∃ g c, v = .slice (some ⟨g, 0, none⟩) n c ∧ n ≤ c ∧ base ≤ g ∧ g < W.heap.size := by
  rcases h.2 with ⟨_, h0⟩ | ⟨g, cap, cur, e, hb, hg, hc, _⟩
  · omega
  · refine ⟨g, cap, e, hc, hb, ?_⟩
    by_cases hl : g < W.heap.size
    · exact hl
    · rw [Array.getElem?_eq_none (by omega)] at hg; cases hg
theorem strOf_inj {a b : List Nat} (ha : ∀ x ∈ a, x < 256) (hb : ∀ x ∈ b, x < 256) (h : strOf a = strOf b) : a = b := by
  have h1 : (a.map UInt8.ofNat) = (b.map UInt8.ofNat) := by
    have h2 := congrArg (fun s : ByteArray => s.data.toList) h
    simpa [strOf] using h2
  induction a generalizing b with
  | nil => cases b with
    | nil => rfl
    | cons y b => cases h1
  | cons x a ih => cases b with
    | nil => cases h1
    | cons y b =>
      rw [List.map_cons, List.map_cons] at h1
      injection h1 with h3 h4
      have hx := ha x (by simp)
      have hy := hb y (by simp)
      have h5 : x = y := by
        have h6 := congrArg UInt8.toNat h3
        simp at h6
        omega
      rw [h5, ih (fun z hz => ha z (by simp [hz])) (fun z hz => hb z (by simp [hz])) (by unfold strOf; rw [h4]) h4]
theorem str_dec {a b : List Nat} (ha : ∀ x ∈ a, x < 256) (hb : ∀ x ∈ b, x < 256) : ((strOf a).toList == (strOf b).toList) = decide (a = b) := by
  rw [ByteArray.toList_eq, ByteArray.toList_eq]
  by_cases h : a = b
  · subst h; simp
  · have h2 : ¬ (strOf a).data.toList = (strOf b).data.toList := fun e => h (strOf_inj ha hb (by
      have : (strOf a).data = (strOf b).data := Array.ext' e
      cases ha2 : strOf a; cases hb2 : strOf b; rw [ha2, hb2] at this; cases this; rfl))
    rw [decide_eq_false h, beq_eq_false_iff_ne]
    exact h2
theorem bthen {A X Y : World} (h : Below A.heap.size A X) (hb : Below X.heap.size X Y) : Below A.heap.size A Y := h.trans (hb.mono h.size)
theorem cl_at (ys : List Nat) (k : Nat) (h : k < ys.length) : (cl ys)[k]? = some (.int .u8 (ys.getD k 0 : Nat)) := by
  unfold cl
  rw [List.getElem?_map, List.getElem?_eq_getElem h]
  simp [List.getD, List.getElem?_eq_getElem h]
theorem zl_256 (n : Nat) : ∀ x ∈ zl n, x < 256 := fun x hx => by rw [zl_eq] at hx; have := List.eq_of_mem_replicate hx; omega
set_option maxRecDepth 100000 in
set_option maxHeartbeats 16000000 in
theorem checks_walk (key zsum : List Nat) (ls : List (List Nat)) (ks sv v : Value) (n y : Nat) (w : World) (hn : n < 256) (hKB : BytesAt key ks w) (hKn : Nil0 ks) (hSB : BytesAt zsum sv w) (hSn : Nil0 sv) (hLs : ListAt ls v w) (hN : ls.length ≤ 2000000) (hT : (catL ls).length ≤ 2000000) (h256 : ∀ l ∈ ls, ∀ x ∈ l, x < 256) (hK : KG w) (hG : RG w) :
    Calls Tryd.prog 4 #[ks, sv, v, .int .u8 (n : Nat), .int .u8 (y : Nat)] w fun e w' => e = .returned (.bool true) ∧ Below w.heap.size w w' := by
  have HKB := Lib.hid hKB
  have HKN := Lib.hid hKn
  have HSB := Lib.hid hSB
  have HSNN := Lib.hid hSn
  have HLS := Lib.hid hLs
  have HK := Lib.hid hK
  have HG := Lib.hid hG
  have HT := Lib.hid hT
  have HN6 := Lib.hid hN
  have HJ := Lib.hid (joined_any ls v w hLs hN hT h256)
  obtain ⟨ka, kc, rfl, hkcap⟩ : ∃ a c, ks = .slice a key.length c ∧ key.length ≤ c := by obtain ⟨_, a, c, e, hc, _⟩ := hKB; exact ⟨a, c, e, hc⟩
  obtain ⟨K, hkl⟩ : ∃ K, key.length = K := ⟨_, rfl⟩
  have HKL := Lib.hid hkl
  rw [hkl] at HKB HKN hkcap ⊢
  obtain ⟨sa, sc, rfl, hscap⟩ : ∃ a c, sv = .slice a zsum.length c ∧ zsum.length ≤ c := by obtain ⟨_, a, c, e, hc, _⟩ := hSB; exact ⟨a, c, e, hc⟩
  obtain ⟨S, hsl⟩ : ∃ S, zsum.length = S := ⟨_, rfl⟩
  have HSL := Lib.hid hsl
  rw [hsl] at HSB HSNN hscap ⊢
  clear hK hG hLs hKB hKn hkl hT hN h256 hSB hSn hsl
  go_enter Tryd.func4, Tryd.ntmps4
  go_wp2_with fail
  refine HJ.out.mono ?_
  rintro e w1 ⟨hd, hb1⟩
  have HB1 := Lib.hid hb1
  clear hb1 HJ
  rcases hd with ⟨_, rfl⟩ | ⟨hall, s', rfl, hbs, hns, _⟩
  · go_wp2_with fail
    refine (known_any _ (HK.out.kept HB1.out)).mono ?_
    rintro e w9 ⟨rfl, hb9⟩
    have HB9 := Lib.hid (HB1.out.trans (hb9.mono HB1.out.size))
    clear hb9
    go_wp2_with fail
    go_ret
    exact ⟨rfl, HB9.out⟩
  by_cases h8 : ls.length ≤ 8
  case neg =>
    have hd : decide (ls.length ≤ 8) = false := by simpa using h8
    rw [hd]
    go_wp2_with fail
    refine (known_any _ (HK.out.kept HB1.out)).mono ?_
    rintro e w9 ⟨rfl, hb9⟩
    have HB9 := Lib.hid (HB1.out.trans (hb9.mono HB1.out.size))
    clear hb9
    go_wp2_with fail
    go_ret
    exact ⟨rfl, HB9.out⟩
  have hd : decide (ls.length ≤ 8) = true := by simpa using h8
  rw [hd]
  have HS := Lib.hid hbs
  have HSN := Lib.hid hns
  have HALL := Lib.hid (cat_len200 ls hall)
  clear hbs hns hall hd
  by_cases hk200 : 200 < K
  · have hk200i : (200 : Int) < ((K : Nat) : Int) := by omega
    by_cases hk4 : K ≤ 4096
    · have hk4i : ((K : Nat) : Int) ≤ 4096 := by omega
      go_wp2_with fail
      refine (known_any _ (HK.out.kept HB1.out)).mono ?_
      rintro e w9 ⟨rfl, hb9⟩
      have HB9 := Lib.hid (HB1.out.trans (hb9.mono HB1.out.size))
      clear hb9
      go_wp2_with fail
      go_ret
      exact ⟨rfl, HB9.out⟩
    · have hk4i : ¬ ((K : Nat) : Int) ≤ 4096 := by omega
      have hk4j : (4096 : Int) < ((K : Nat) : Int) := by omega
      by_cases hs40 : 40 < S
      · have hs40i : (40 : Int) < ((S : Nat) : Int) := by omega
        go_wp2_with fail
        refine (known_any _ (HK.out.kept HB1.out)).mono ?_
        rintro e w9 ⟨rfl, hb9⟩
        have HB9 := Lib.hid (HB1.out.trans (hb9.mono HB1.out.size))
        clear hb9
        go_wp2_with fail
        go_ret
        exact ⟨rfl, HB9.out⟩
      · have hs40i : ¬ (40 : Int) < ((S : Nat) : Int) := by omega
        have HM := Lib.hid (check_big key (.slice ka K kc) (.slice sa S sc) v (by rw [HKL.out]; omega) w1 (HKB.out.kept HB1.out))
        go_wp2_with fail
        refine HM.out.mono ?_
        rintro e w2 ⟨rfl, hb2⟩
        have HB2 := Lib.hid (HB1.out.trans (hb2.mono HB1.out.size))
        clear hb2
        go_wp2_with fail
        refine (known_any _ (HK.out.kept HB2.out)).mono ?_
        rintro e w9 ⟨rfl, hb9⟩
        have HB9 := Lib.hid (HB2.out.trans (hb9.mono HB2.out.size))
        clear hb9
        go_wp2_with fail
        go_ret
        exact ⟨rfl, HB9.out⟩
  have hk200i : ¬ (200 : Int) < ((K : Nat) : Int) := by omega
  have hk4j : ¬ (4096 : Int) < ((K : Nat) : Int) := by omega
  by_cases hs40 : 40 < S
  · have hs40i : (40 : Int) < ((S : Nat) : Int) := by omega
    go_wp2_with fail
    refine (known_any _ (HK.out.kept HB1.out)).mono ?_
    rintro e w9 ⟨rfl, hb9⟩
    have HB9 := Lib.hid (HB1.out.trans (hb9.mono HB1.out.size))
    clear hb9
    go_wp2_with fail
    go_ret
    exact ⟨rfl, HB9.out⟩
  have hs40i : ¬ (40 : Int) < ((S : Nat) : Int) := by omega
  have HCAT := Lib.hid (show (catL ls).length ≤ 200 * ls.length from HALL.out)
  have HR := Lib.hid (fun (X : World) (hb : Below w.heap.size w X) (hs : BytesAt (catL ls) s' X) => rhmac_any key (catL ls) (.slice ka K kc) s' (by rw [HKL.out]; omega) (by
    have h1 : (catL ls).length ≤ 200 * ls.length := HCAT.out
    omega) X (HG.out.kept hb) (HKB.out.kept hb) HKN.out hs HSN.out)
  have HCL := Lib.hid (fun (zq : List Nat) (q : Value) (hq : zq.length < 1 ∨ 32 < zq.length) (X : World) (hb : Below w.heap.size w X) (hQ : BytesAt zq q X) => check_len zq q hq key ls (.slice ka K kc) v (by rw [HKL.out]; omega) (by have := HT.out; omega) (by omega) X (HK.out.kept hb) (HKB.out.kept hb) HKN.out (HLS.out.kept hb) hQ)
  have HCA := Lib.hid (fun (zq : List Nat) (q : Value) (h1 : 1 ≤ zq.length) (h2 : zq.length ≤ 32) (X : World) (hb : Below w.heap.size w X) (hQ : BytesAt zq q X) => check_any zq q h1 h2 key ls (.slice ka K kc) v (by rw [HKL.out]; omega) (by have := HT.out; omega) (by omega) X (HK.out.kept hb) (HKB.out.kept hb) HKN.out (HLS.out.kept hb) hQ)
  have hO32 := macL_len key (catL ls)
  have hO256 := Lib.hid (macL_256 key (catL ls))
  obtain ⟨O, hO⟩ : ∃ O, macL key (catL ls) = O := ⟨_, rfl⟩
  rw [hO] at HR HCA hO32 hO256
  have HO32 := Lib.hid hO32
  clear hO
  obtain ⟨m, hm⟩ : ∃ m, n % 40 = m := ⟨_, rfl⟩
  have hm40 : m < 40 := by omega
  have e0 : IntKind.i64.wrap ((n : Nat) : Int) = ((n : Nat) : Int) := IntWalk.i64_in _ (by omega)
  have e40 : ((n : Nat) : Int) % 40 = ((m : Nat) : Int) := by omega
  have et : ((n : Nat) : Int).tmod 40 = ((m : Nat) : Int) := by rw [Int.tmod_eq_emod_of_nonneg (by omega)]; omega
  clear hm
  go_wp2_with fail
  refine (HR.out _ HB1.out HS.out).mono ?_
  rintro e w4 ⟨gw, rfl, hgw, hrw, hb4⟩
  have HB4 := Lib.hid (HB1.out.trans (hb4.mono HB1.out.size))
  have HRW := Lib.hid hrw
  have HWB := Lib.hid (bytes_row hO256.out hrw 32 hO32)
  have HWN := Lib.hid (nil0_some ⟨gw, 0, none⟩ 32 32)
  have hown2 : (w4.alloc (.cells #[] 5)).ownsRow w4.heap.size 5 1 (.slice (some ⟨w4.heap.size, 0, none⟩) 0 0) ([] : List Nat).length (cl []) := World.ownsRow_lit w4 #[] 0 (Nat.le_refl _) (by unfold maxLen; omega) rfl
  have hbel2 : Below w4.heap.size w4 (w4.alloc (.cells #[] 5)) := (Below.refl _ w4).alloc (Nat.le_refl _) _
  have hOl : (O ++ zl 8).length = 40 := by rw [List.length_append, zl_len, hO32]
  clear hgw hrw hb4 HS HR HSN
  by_cases hm0 : m = 0
  · have hm0i : ¬ (0 : Int) < ((m : Nat) : Int) := by omega
    have HM0 := Lib.hid hm0
    clear hm0
    go_wp2_with (first
      | (at_builtin; refine wpList_app rfl _ _ rfl w4.heap.size rfl rfl hown2 (HWB.out.kept hbel2) HWN.out (by rw [HO32.out]; simp) hbel2.size ?_; intro v3 w3 hown3 hgrow3; rw [List.nil_append] at hown3; have hb3 := below_owned hbel2 hown2 hgrow3 hbel2.size)
      | (at_builtin; refine wpList_app0 (n := 8) rfl _ _ rfl w4.heap.size rfl rfl hown3 (by rw [HO32.out]; omega) hb3.size ?_; intro v5 w5 hown5 hgrow5; have hb5 := below_owned hb3 hown3 hgrow5 hb3.size; rw [hOl] at hown5; obtain ⟨g5, c5, hv5, hc5, hg5, hg5l⟩ := owns_pos hown5 (by omega); subst hv5; have hsl5 := fun W => run_slice22_h (some ⟨g5, 0, none⟩) 40 c5 m (by omega) (fun h => by cases h) W))
    have HB5 := Lib.hid (HB4.out.trans (hb5.mono HB4.out.size))
    have HRW5 := Lib.hid (keptW hb5 HRW.out)
    obtain ⟨zo, hzo⟩ : ∃ z : List Nat, z = [] := ⟨_, rfl⟩
    have hzl : zo.length = m := by rw [hzo, HM0.out]; rfl
    have hzl0 : zo.length = 0 := by rw [hzo]; rfl
    have HOW := Lib.hid (show BytesAt zo (.slice (some ⟨g5, 0, none⟩) m c5) w5 from ⟨fun x hx => by (rw [hzo] at hx; cases hx), _, _, by rw [hzl], by omega, .inl hzl0⟩)
    obtain ⟨V, hV⟩ : ∃ V, w5.alloc (.cells #[.slice sa S sc, .slice (some ⟨g5, 0, none⟩) m c5] 22) = V := ⟨_, rfl⟩
    have hzl2 : zo.length ≤ 40 := by omega
    have hbV : Below w5.heap.size w5 V := by rw [← hV]; exact (Below.refl _ _).alloc (Nat.le_refl _) _
    have HBV := Lib.hid (HB5.out.trans (hbV.mono HB5.out.size))
    have hrl : rowN V w5.heap.size = some #[.slice sa S sc, .slice (some ⟨g5, 0, none⟩) m c5] := by rw [← hV, rowN_alloc, if_pos rfl]
    have HRWV := Lib.hid (keptW hbV HRW5.out)
    have HCELLS := Lib.hid (show ∀ k, k < 2 → ∃ (zs : List Nat) (a : Option Addr) (c : Nat), V.cell? ⟨w5.heap.size, k, none⟩ = some (.slice a zs.length c) ∧ BytesAt zs (.slice a zs.length c) V ∧ Nil0 (.slice a zs.length c) ∧ zs.length ≤ 40 from fun k hk => by
      rcases (by omega : k = 0 ∨ k = 1) with rfl | rfl
      · exact ⟨zsum, sa, sc, by rw [HSL.out]; exact (rowN_cell hrl).1 0, by rw [HSL.out]; exact HSB.out.kept HBV.out, by rw [HSL.out]; exact HSNN.out, by rw [HSL.out]; omega⟩
      · exact ⟨zo, _, c5, by rw [hzl]; exact (rowN_cell hrl).1 1, by rw [hzl]; exact HOW.out.kept hbV, by rw [hzl]; exact nil0_some _ _ _, hzl2⟩)
    obtain ⟨gl, hgl⟩ : ∃ g, w5.heap.size = g := ⟨_, rfl⟩
    have HGL := Lib.hid (rowN_lt hrl)
    rw [hgl] at HCELLS HGL
    try rw [hV]
    try rw [hgl]
    clear hbV hV hgl hrl hzo hzl hzl2 HOW HB5 HRW5 HRW HWB HWN hown2 hbel2 hown3 hgrow3 hb3 hown5 hgrow5 hb5 HSB HSNN HB4 HB1
    go_loopw [80] (fun i wr => ∃ k : Nat, k ≤ 2 ∧ i = .int .i64 (k : Nat) ∧ Below V.heap.size V wr) (fun i _ => 2 - (intOf i).toNat)
    case atStart => exact ⟨0, by omega, rfl, Below.refl _ _⟩
    case round => as_aux_lemma =>
      obtain ⟨k, hk, rfl, hB⟩ := hrel
      have HB := Lib.hid hB
      by_cases hlt : k < 2
      · have hkN : ((k : Nat) : Int) < 2 := by omega
        obtain ⟨zs, ak, ck, hcell, hzb, hzn, hz40⟩ := HCELLS.out k hlt
        have hsc1 : wr.cell? ⟨gl, k, none⟩ = some (.slice ak zs.length ck) := (hB.cell (p := ⟨gl, k, none⟩) HGL.out).trans hcell
        have HZB := Lib.hid (hzb.kept hB)
        have HZN := Lib.hid hzn
        have HZ256 := Lib.hid hzb.1
        have HRK := Lib.hid (keptW hB HRWV.out)
        have HBW := Lib.hid (HBV.out.trans (hB.mono HBV.out.size))
        obtain ⟨b1, hb1⟩ : ∃ b, decide (zs = O) = b := ⟨_, rfl⟩
        obtain ⟨b2, hb2⟩ : ∃ b, decide (zs = key) = b := ⟨_, rfl⟩
        have HE1 := Lib.hid (fun (X : World) (h1 : BytesAt zs (.slice ak zs.length ck) X) (h2 : rowN X gw = some (arr .u8 O)) => show Calls Tryd.prog 14 #[.slice ak zs.length ck, .slice (some ⟨gw, 0, none⟩) 32 32] X (fun e w' => e = .returned (.bool b1) ∧ Below X.heap.size X w') from by
          rw [← hb1]; exact equal_any zs O _ _ (by omega) X h1 (bytes_row hO256.out h2 32 HO32.out))
        have HE2 := Lib.hid (fun (X : World) (h1 : BytesAt zs (.slice ak zs.length ck) X) (hb : Below w.heap.size w X) => show Calls Tryd.prog 14 #[.slice ak zs.length ck, .slice ka K kc] X (fun e w' => e = .returned (.bool b2) ∧ Below X.heap.size X w') from by
          rw [← hb2]; exact equal_any zs key _ _ (by omega) X h1 (HKB.out.kept hb))
        have HQ1 := Lib.hid (show ((strOf zs).toList == (strOf O).toList) = b1 by rw [← hb1]; exact str_dec hzb.1 hO256.out)
        have HQ2 := Lib.hid (show ((strOf zs).toList == (strOf key).toList) = b2 by rw [← hb2]; exact str_dec hzb.1 HKB.out.1)
        have HCK1 := Lib.hid (fun (X : World) (hb : Below w.heap.size w X) (h1 : BytesAt zs (.slice ak zs.length ck) X) (hq : zs.length < 1 ∨ 32 < zs.length) => HCL.out zs _ hq X hb h1)
        have HCK2 := Lib.hid (fun (X : World) (hb : Below w.heap.size w X) (h1 : BytesAt zs (.slice ak zs.length ck) X) (hq1 : 1 ≤ zs.length) (hq2 : zs.length ≤ 32) => HCA.out zs _ hq1 hq2 X hb h1)
        have hcs : (1 ≤ zs.length ∧ zs.length ≤ 32 → ((strOf zs).toList == (strOf (O.take zs.length)).toList) = decide (zs = O.take zs.length)) := fun _ => str_dec hzb.1 (fun x hx => hO256.out x (List.mem_of_mem_take hx))
        obtain ⟨L, hL⟩ : ∃ L, zs.length = L := ⟨_, rfl⟩
        rw [hL] at hsc1 HZB HZN HE1 HE2 HCK1 HCK2 hcs hz40
        clear hb1 hb2 hcell hzb hzn hB HCL HCA
        by_cases hc1 : L = 0
        · subst hc1
          have hL0 : ¬ (0 : Int) < ((0 : Nat) : Int) := by omega
          go_upto_region 13 with fail
          have Hs_0 := Lib.hid (show BytesAt zs (.slice ak 0 ck) wr.drew from HZB.out.kept (Below.refl _ _).drew)
          have Hw_0 := Lib.hid (show rowN wr.drew gw = some (arr .u8 O) from HRK.out)
          have HL_0 := Lib.hid (show Below w.heap.size w wr.drew from HBW.out.drew)
          clear hsc1
          have HbX_0 := Lib.hid (show Below V.heap.size V wr.drew from HB.out.drew)
          refine wp_region_noPanic ?_
          refine wp_region_held_drew (S := fun W => rowN W gw = some (arr .u8 O) ∧ BytesAt zs (.slice ak 0 ck) W) (by kernel_rfl) ⟨Hw_0.out, Hs_0.out⟩ (fun hHeld0 => ?_)
          obtain ⟨x0, hx0⟩ : ∃ X, wr.drew = X := ⟨_, rfl⟩
          rw [hx0] at Hw_0 Hs_0 HbX_0 HL_0 hHeld0 ⊢
          clear hx0
          refine wpAnyH_take (i := 0) (oi := { dst := some 84, op := Op.move (Operand.tmp 16), type := 22, pos := "law.go:70", after := #[], guard := none }) (v := ?tk0) rfl (by kernel_rfl) (by kernel_rfl) (by kernel_rfl) (fun _ _ _ h => h) (Or.inl ⟨by rfl, ?tw0⟩) hHeld0 ?_
          case tw0 => (intro W hW; clear hW; first | (go_simp; done) | (go_simp; with_reducible rfl))
          try simp only [Act.put, List.setIfInBounds_toArray, List.set_cons_zero, List.set_cons_succ]
          refine wpAnyH_take (i := 1) (oi := { dst := some 85, op := Op.call { callee := Callee.builtin Builtin.len, args := #[Operand.tmp 84], argTypes := #[22] }, type := 3, pos := "law.go:70", after := #[{ on := 0, ground := Ground.data }], guard := none }) (v := ?tk1) rfl (by kernel_rfl) (by kernel_rfl) (by kernel_rfl) (fun _ _ _ h => h) (Or.inl ⟨by rfl, ?tw1⟩) hHeld0 ?_
          case tw1 => (intro W hW; clear hW; first | (go_simp; done) | (go_simp; with_reducible rfl))
          try simp only [Act.put, List.setIfInBounds_toArray, List.set_cons_zero, List.set_cons_succ]
          refine wpAnyH_take (i := 2) (oi := { dst := some 86, op := Op.binOp BinOp.gtr 3 (Operand.tmp 85) (Operand.const (Value.int IntKind.i64 0)) 3, type := 4, pos := "law.go:70", after := #[{ on := 1, ground := Ground.data }], guard := none }) (v := .bool false) rfl (by kernel_rfl) (by kernel_rfl) (by kernel_rfl) (fun _ _ _ h => h) (Or.inl ⟨by rfl, fun W hW => ?_⟩) hHeld0 ?_
          · (clear hW; go_simp)
          try simp only [Act.put, List.setIfInBounds_toArray, List.set_cons_zero, List.set_cons_succ]
          refine wpAnyH_take (i := 3) (oi := { dst := some 87, op := Op.move (Operand.tmp 86), type := 4, pos := "law.go:70", after := #[{ on := 2, ground := Ground.data }], guard := none }) (v := .bool false) rfl (by kernel_rfl) (by kernel_rfl) (by kernel_rfl) (fun _ _ _ h => h) (Or.inl ⟨by rfl, fun W hW => ?_⟩) hHeld0 ?_
          · (clear hW; go_simp)
          try simp only [Act.put, List.setIfInBounds_toArray, List.set_cons_zero, List.set_cons_succ]
          refine wpAnyH_take (i := 4) (oi := { dst := some 88, op := Op.move (Operand.tmp 16), type := 22, pos := "law.go:70", after := #[{ on := 3, ground := Ground.guard }], guard := some (3, true) }) (v := undef) rfl (by kernel_rfl) (by kernel_rfl) (by kernel_rfl) (fun _ _ _ h => h) (Or.inr ⟨by rfl, rfl⟩) hHeld0 ?_
          try simp only [Act.put, List.setIfInBounds_toArray, List.set_cons_zero, List.set_cons_succ]
          refine wpAnyH_take (i := 5) (oi := { dst := some 89, op := Op.call { callee := Callee.builtin Builtin.len, args := #[Operand.tmp 88], argTypes := #[22] }, type := 3, pos := "law.go:70", after := #[{ on := 4, ground := Ground.data }, { on := 3, ground := Ground.guard }], guard := some (3, true) }) (v := undef) rfl (by kernel_rfl) (by kernel_rfl) (by kernel_rfl) (fun _ _ _ h => h) (Or.inr ⟨by rfl, rfl⟩) hHeld0 ?_
          try simp only [Act.put, List.setIfInBounds_toArray, List.set_cons_zero, List.set_cons_succ]
          refine wpAnyH_take (i := 6) (oi := { dst := some 90, op := Op.binOp BinOp.leq 3 (Operand.tmp 89) (Operand.const (Value.int IntKind.i64 32)) 3, type := 4, pos := "law.go:70", after := #[{ on := 5, ground := Ground.data }, { on := 3, ground := Ground.guard }], guard := some (3, true) }) (v := undef) rfl (by kernel_rfl) (by kernel_rfl) (by kernel_rfl) (fun _ _ _ h => h) (Or.inr ⟨by rfl, rfl⟩) hHeld0 ?_
          try simp only [Act.put, List.setIfInBounds_toArray, List.set_cons_zero, List.set_cons_succ]
          refine wpAnyH_take (i := 7) (oi := { dst := some 91, op := Op.pick (Operand.tmp 87) (Operand.tmp 90) (Operand.const (Value.bool false)), type := 4, pos := "law.go:70", after := #[{ on := 3, ground := Ground.data }, { on := 6, ground := Ground.data }], guard := none }) (v := .bool false) rfl (by kernel_rfl) (by kernel_rfl) (by kernel_rfl) (fun _ _ _ h => h) (Or.inl ⟨by rfl, fun W hW => ?_⟩) hHeld0 ?_
          · (clear hW; go_simp)
          try simp only [Act.put, List.setIfInBounds_toArray, List.set_cons_zero, List.set_cons_succ]
          refine wpAnyH_take (i := 8) (oi := { dst := some 92, op := Op.move (Operand.tmp 91), type := 4, pos := "law.go:70", after := #[{ on := 7, ground := Ground.data }, { on := 3, ground := Ground.chain }], guard := none }) (v := .bool false) rfl (by kernel_rfl) (by kernel_rfl) (by kernel_rfl) (fun _ _ _ h => h) (Or.inl ⟨by rfl, fun W hW => ?_⟩) hHeld0 ?_
          · (clear hW; go_simp)
          try simp only [Act.put, List.setIfInBounds_toArray, List.set_cons_zero, List.set_cons_succ]
          refine wpAnyH_take (i := 9) (oi := { dst := some 93, op := Op.move (Operand.tmp 16), type := 22, pos := "law.go:70", after := #[{ on := 8, ground := Ground.guard }], guard := some (8, true) }) (v := undef) rfl (by kernel_rfl) (by kernel_rfl) (by kernel_rfl) (fun _ _ _ h => h) (Or.inr ⟨by rfl, rfl⟩) hHeld0 ?_
          try simp only [Act.put, List.setIfInBounds_toArray, List.set_cons_zero, List.set_cons_succ]
          refine wpAnyH_take (i := 10) (oi := { dst := some 94, op := Op.convert 22 9 (Operand.tmp 93), type := 9, pos := "law.go:70", after := #[{ on := 9, ground := Ground.data }, { on := 8, ground := Ground.guard }], guard := some (8, true) }) (v := undef) rfl (by kernel_rfl) (by kernel_rfl) (by kernel_rfl) (fun _ _ _ h => h) (Or.inr ⟨by rfl, rfl⟩) hHeld0 ?_
          try simp only [Act.put, List.setIfInBounds_toArray, List.set_cons_zero, List.set_cons_succ]
          refine wpAnyH_take (i := 11) (oi := { dst := some 95, op := Op.move (Operand.tmp 13), type := 22, pos := "law.go:70", after := #[{ on := 8, ground := Ground.guard }], guard := some (8, true) }) (v := undef) rfl (by kernel_rfl) (by kernel_rfl) (by kernel_rfl) (fun _ _ _ h => h) (Or.inr ⟨by rfl, rfl⟩) hHeld0 ?_
          try simp only [Act.put, List.setIfInBounds_toArray, List.set_cons_zero, List.set_cons_succ]
          refine wpAnyH_take (i := 12) (oi := { dst := some 96, op := Op.move (Operand.tmp 16), type := 22, pos := "law.go:70", after := #[{ on := 8, ground := Ground.guard }], guard := some (8, true) }) (v := undef) rfl (by kernel_rfl) (by kernel_rfl) (by kernel_rfl) (fun _ _ _ h => h) (Or.inr ⟨by rfl, rfl⟩) hHeld0 ?_
          try simp only [Act.put, List.setIfInBounds_toArray, List.set_cons_zero, List.set_cons_succ]
          refine wpAnyH_take (i := 13) (oi := { dst := some 97, op := Op.call { callee := Callee.builtin Builtin.len, args := #[Operand.tmp 96], argTypes := #[22] }, type := 3, pos := "law.go:70", after := #[{ on := 12, ground := Ground.data }, { on := 8, ground := Ground.guard }], guard := some (8, true) }) (v := undef) rfl (by kernel_rfl) (by kernel_rfl) (by kernel_rfl) (fun _ _ _ h => h) (Or.inr ⟨by rfl, rfl⟩) hHeld0 ?_
          try simp only [Act.put, List.setIfInBounds_toArray, List.set_cons_zero, List.set_cons_succ]
          refine wpAnyH_take (i := 14) (oi := { dst := some 98, op := Op.call { callee := Callee.builtin Builtin.min, args := #[Operand.tmp 97, Operand.const (Value.int IntKind.i64 32)], argTypes := #[3, 3] }, type := 3, pos := "law.go:70", after := #[{ on := 13, ground := Ground.data }, { on := 8, ground := Ground.guard }], guard := some (8, true) }) (v := undef) rfl (by kernel_rfl) (by kernel_rfl) (by kernel_rfl) (fun _ _ _ h => h) (Or.inr ⟨by rfl, rfl⟩) hHeld0 ?_
          try simp only [Act.put, List.setIfInBounds_toArray, List.set_cons_zero, List.set_cons_succ]
          refine wpAnyH_take (i := 15) (oi := { dst := some 99, op := Op.slice 22 (Operand.tmp 95) none (some (Operand.tmp 98)) none, type := 22, pos := "law.go:70", after := #[{ on := 11, ground := Ground.data }, { on := 14, ground := Ground.data }, { on := 8, ground := Ground.guard }], guard := some (8, true) }) (v := undef) rfl (by kernel_rfl) (by kernel_rfl) (by kernel_rfl) (fun _ _ _ h => h) (Or.inr ⟨by rfl, rfl⟩) hHeld0 ?_
          try simp only [Act.put, List.setIfInBounds_toArray, List.set_cons_zero, List.set_cons_succ]
          refine wpAnyH_take (i := 16) (oi := { dst := some 100, op := Op.convert 22 9 (Operand.tmp 99), type := 9, pos := "law.go:70", after := #[{ on := 15, ground := Ground.data }, { on := 8, ground := Ground.guard }], guard := some (8, true) }) (v := undef) rfl (by kernel_rfl) (by kernel_rfl) (by kernel_rfl) (fun _ _ _ h => h) (Or.inr ⟨by rfl, rfl⟩) hHeld0 ?_
          try simp only [Act.put, List.setIfInBounds_toArray, List.set_cons_zero, List.set_cons_succ]
          refine wpAnyH_take (i := 17) (oi := { dst := some 101, op := Op.binOp BinOp.eql 9 (Operand.tmp 94) (Operand.tmp 100) 9, type := 4, pos := "law.go:70", after := #[{ on := 10, ground := Ground.data }, { on := 16, ground := Ground.data }, { on := 8, ground := Ground.guard }], guard := some (8, true) }) (v := undef) rfl (by kernel_rfl) (by kernel_rfl) (by kernel_rfl) (fun _ _ _ h => h) (Or.inr ⟨by rfl, rfl⟩) hHeld0 ?_
          try simp only [Act.put, List.setIfInBounds_toArray, List.set_cons_zero, List.set_cons_succ]
          refine wpAnyH_take (i := 18) (oi := { dst := some 102, op := Op.pick (Operand.tmp 92) (Operand.tmp 101) (Operand.const (Value.bool false)), type := 4, pos := "law.go:70", after := #[{ on := 8, ground := Ground.data }, { on := 17, ground := Ground.data }], guard := none }) (v := ?tk2) rfl (by kernel_rfl) (by kernel_rfl) (by kernel_rfl) (fun _ _ _ h => h) (Or.inl ⟨by rfl, ?tw2⟩) hHeld0 ?_
          case tw2 => (intro W hW; clear hW; first | (go_simp; done) | (go_simp; with_reducible rfl))
          try simp only [Act.put, List.setIfInBounds_toArray, List.set_cons_zero, List.set_cons_succ]
          refine wpAnyH_take (i := 19) (oi := { dst := some 17, op := Op.assign (Operand.tmp 102), type := 4, pos := "law.go:70", after := #[{ on := 18, ground := Ground.data }, { on := 8, ground := Ground.chain }, { on := 0, ground := Ground.phase }, { on := 1, ground := Ground.phase }, { on := 2, ground := Ground.phase }, { on := 3, ground := Ground.phase }, { on := 4, ground := Ground.phase }, { on := 5, ground := Ground.phase }, { on := 6, ground := Ground.phase }, { on := 7, ground := Ground.phase }, { on := 8, ground := Ground.phase }, { on := 9, ground := Ground.phase }, { on := 10, ground := Ground.phase }, { on := 11, ground := Ground.phase }, { on := 12, ground := Ground.phase }, { on := 13, ground := Ground.phase }, { on := 14, ground := Ground.phase }, { on := 15, ground := Ground.phase }, { on := 16, ground := Ground.phase }, { on := 17, ground := Ground.phase }, { on := 18, ground := Ground.phase }], guard := none }) (v := ?tk3) rfl (by kernel_rfl) (by kernel_rfl) (by kernel_rfl) (fun _ _ _ h => h) (Or.inl ⟨by rfl, ?tw3⟩) hHeld0 ?_
          case tw3 => (intro W hW; clear hW; first | (go_simp; done) | (go_simp; with_reducible rfl))
          try simp only [Act.put, List.setIfInBounds_toArray, List.set_cons_zero, List.set_cons_succ]
          refine wpAnyH_done (by kernel_rfl) ?_ _
          refine NoPanic.normal ?_
          have Hb13 := Lib.hid (show Below V.heap.size V x0 from HbX_0.out)
          have HS13 := Lib.hid Hs_0.out
          have HW13 := Lib.hid Hw_0.out
          have HL13 := Lib.hid HL_0.out
          clear Hs_0 Hw_0 HL_0 hHeld0
          go_wp2_with fail
          refine (HCK1.out _ HL13.out HS13.out (by omega)).mono ?_
          rintro e x8 ⟨rfl, hb8⟩
          have HS8 := Lib.hid (HS13.out.kept hb8)
          have HW8 := Lib.hid (keptW hb8 HW13.out)
          have HL8 := Lib.hid (HL13.out.trans (hb8.mono HL13.out.size))
          have HVB8 := Lib.hid ((Hb13.out).trans (hb8.mono Hb13.out.size))
          clear hb8 HS13 HW13 HL13
          go_upto_region 17 with fail
          have Hs_0 := Lib.hid (show BytesAt zs (.slice ak 0 ck) x8.drew from HS8.out.kept (Below.refl _ _).drew)
          have Hw_0 := Lib.hid (show rowN x8.drew gw = some (arr .u8 O) from HW8.out)
          have Hk_0 := Lib.hid (show BytesAt key (.slice ka K kc) x8.drew from HKB.out.kept HL8.out.drew)
          have HL_0 := Lib.hid (show Below w.heap.size w x8.drew from HL8.out.drew)
          clear HS8 HW8 HL8
          have Hb_0 := Lib.hid (show Below V.heap.size V x8.drew from HVB8.out.drew)
          refine wp_region_noPanic ?_
          refine wp_region_held_drew (S := fun W => rowN W gw = some (arr .u8 O) ∧ BytesAt zs (.slice ak 0 ck) W ∧ BytesAt key (.slice ka K kc) W) (by kernel_rfl) ⟨Hw_0.out, Hs_0.out, Hk_0.out⟩ (fun hHeld0 => ?_)
          obtain ⟨x0, hx0⟩ : ∃ X, x8.drew = X := ⟨_, rfl⟩
          rw [hx0] at Hw_0 Hs_0 Hk_0 Hb_0 HL_0 hHeld0 ⊢
          clear hx0
          refine wpAnyH_take (i := 0) (oi := { dst := some 120, op := Op.move (Operand.tmp 16), type := 22, pos := "law.go:75", after := #[], guard := none }) (v := ?tk4) rfl (by kernel_rfl) (by kernel_rfl) (by kernel_rfl) (fun _ _ _ h => h) (Or.inl ⟨by rfl, ?tw4⟩) hHeld0 ?_
          case tw4 => (intro W hW; clear hW; first | (go_simp; done) | (go_simp; with_reducible rfl))
          try simp only [Act.put, List.setIfInBounds_toArray, List.set_cons_zero, List.set_cons_succ]
          refine wpAnyH_take (i := 1) (oi := { dst := some 121, op := Op.move (Operand.tmp 13), type := 22, pos := "law.go:75", after := #[], guard := none }) (v := ?tk5) rfl (by kernel_rfl) (by kernel_rfl) (by kernel_rfl) (fun _ _ _ h => h) (Or.inl ⟨by rfl, ?tw5⟩) hHeld0 ?_
          case tw5 => (intro W hW; clear hW; first | (go_simp; done) | (go_simp; with_reducible rfl))
          try simp only [Act.put, List.setIfInBounds_toArray, List.set_cons_zero, List.set_cons_succ]
          refine wpAnyH_take (i := 3) (oi := { dst := some 123, op := Op.move (Operand.tmp 16), type := 22, pos := "law.go:75", after := #[], guard := none }) (v := ?tk6) rfl (by kernel_rfl) (by kernel_rfl) (by kernel_rfl) (fun _ _ _ h => h) (Or.inl ⟨by rfl, ?tw6⟩) hHeld0 ?_
          case tw6 => (intro W hW; clear hW; first | (go_simp; done) | (go_simp; with_reducible rfl))
          try simp only [Act.put, List.setIfInBounds_toArray, List.set_cons_zero, List.set_cons_succ]
          refine wpAnyH_take (i := 4) (oi := { dst := some 124, op := Op.convert 22 9 (Operand.tmp 123), type := 9, pos := "law.go:75", after := #[{ on := 3, ground := Ground.data }], guard := none }) (v := .string (strOf zs)) rfl (by kernel_rfl) (by kernel_rfl) (by kernel_rfl) (fun _ _ _ h => h) (Or.inl ⟨by rfl, fun W hW => ?_⟩) hHeld0 ?_
          · (have hst := str_bytes hW.2.1 HZN.out; clear hW; go_simp)
          try simp only [Act.put, List.setIfInBounds_toArray, List.set_cons_zero, List.set_cons_succ]
          refine wpAnyH_take (i := 5) (oi := { dst := some 125, op := Op.move (Operand.tmp 13), type := 22, pos := "law.go:75", after := #[], guard := none }) (v := ?tk7) rfl (by kernel_rfl) (by kernel_rfl) (by kernel_rfl) (fun _ _ _ h => h) (Or.inl ⟨by rfl, ?tw7⟩) hHeld0 ?_
          case tw7 => (intro W hW; clear hW; first | (go_simp; done) | (go_simp; with_reducible rfl))
          try simp only [Act.put, List.setIfInBounds_toArray, List.set_cons_zero, List.set_cons_succ]
          refine wpAnyH_take (i := 6) (oi := { dst := some 126, op := Op.convert 22 9 (Operand.tmp 125), type := 9, pos := "law.go:75", after := #[{ on := 5, ground := Ground.data }], guard := none }) (v := .string (strOf O)) rfl (by kernel_rfl) (by kernel_rfl) (by kernel_rfl) (fun _ _ _ h => h) (Or.inl ⟨by rfl, fun W hW => ?_⟩) hHeld0 ?_
          · (have hst := str_arr hW.1 HO32.out; clear hW; go_simp)
          try simp only [Act.put, List.setIfInBounds_toArray, List.set_cons_zero, List.set_cons_succ]
          refine wpAnyH_take (i := 7) (oi := { dst := some 127, op := Op.binOp BinOp.eql 9 (Operand.tmp 124) (Operand.tmp 126) 9, type := 4, pos := "law.go:75", after := #[{ on := 4, ground := Ground.data }, { on := 6, ground := Ground.data }], guard := none }) (v := .bool b1) rfl (by kernel_rfl) (by kernel_rfl) (by kernel_rfl) (fun _ _ _ h => h) (Or.inl ⟨by rfl, fun W hW => ?_⟩) hHeld0 ?_
          · (have hst := HQ1.out; clear hW; go_simp)
          try simp only [Act.put, List.setIfInBounds_toArray, List.set_cons_zero, List.set_cons_succ]
          refine wpAnyH_ready (rs := [2]) (by kernel_rfl) (by simp) ?_
          refine AllReadyH.cons (o := { dst := some 122, op := Op.call { callee := Callee.value (Operand.func 14), args := #[Operand.tmp 120, Operand.tmp 121], argTypes := #[22, 22] }, type := 4, pos := "law.go:75", after := #[{ on := 0, ground := Ground.data }, { on := 1, ground := Ground.data }], guard := none }) rfl (fun K' hK => ?_) AllReadyH.nil
          go_simp
          refine ((HE1.out _ Hs_0.out Hw_0.out)).mono ?_
          rintro e x1 ⟨rfl, hb⟩
          have Hw_1 := Lib.hid (keptW hb Hw_0.out)
          have Hs_1 := Lib.hid (Hs_0.out.kept hb)
          have Hk_1 := Lib.hid (Hk_0.out.kept hb)
          have Hb_1 := Lib.hid (bthen Hb_0.out hb)
          have HL_1 := Lib.hid (HL_0.out.trans (hb.mono HL_0.out.size))
          clear hb
          refine hK.out _ _ ⟨Hw_1.out, Hs_1.out, Hk_1.out⟩ (fun hHeld1 => ?_)
          clear hK K'
          try simp only [Act.put, List.setIfInBounds_toArray, List.set_cons_zero, List.set_cons_succ]
          refine wpAnyH_take (i := 8) (oi := { dst := some 128, op := Op.binOp BinOp.neq 4 (Operand.tmp 122) (Operand.tmp 127) 4, type := 4, pos := "law.go:75", after := #[{ on := 2, ground := Ground.data }, { on := 7, ground := Ground.data }], guard := none }) (v := .bool false) rfl (by kernel_rfl) (by kernel_rfl) (by kernel_rfl) (fun _ _ _ h => h) (Or.inl ⟨by rfl, fun W hW => ?_⟩) hHeld1 ?_
          · (clear hW; cases b1 <;> go_simp)
          try simp only [Act.put, List.setIfInBounds_toArray, List.set_cons_zero, List.set_cons_succ]
          refine wpAnyH_take (i := 9) (oi := { dst := some 129, op := Op.move (Operand.tmp 128), type := 4, pos := "law.go:75", after := #[{ on := 8, ground := Ground.data }, { on := 2, ground := Ground.chain }], guard := none }) (v := ?tk8) rfl (by kernel_rfl) (by kernel_rfl) (by kernel_rfl) (fun _ _ _ h => h) (Or.inl ⟨by rfl, ?tw8⟩) hHeld1 ?_
          case tw8 => (intro W hW; clear hW; first | (go_simp; done) | (go_simp; with_reducible rfl))
          try simp only [Act.put, List.setIfInBounds_toArray, List.set_cons_zero, List.set_cons_succ]
          refine wpAnyH_take (i := 10) (oi := { dst := some 130, op := Op.move (Operand.tmp 16), type := 22, pos := "law.go:75", after := #[{ on := 9, ground := Ground.guard }], guard := some (9, false) }) (v := ?tk9) rfl (by kernel_rfl) (by kernel_rfl) (by kernel_rfl) (fun _ _ _ h => h) (Or.inl ⟨by rfl, ?tw9⟩) hHeld1 ?_
          case tw9 => (intro W hW; clear hW; first | (go_simp; done) | (go_simp; with_reducible rfl))
          try simp only [Act.put, List.setIfInBounds_toArray, List.set_cons_zero, List.set_cons_succ]
          refine wpAnyH_take (i := 11) (oi := { dst := some 131, op := Op.move (Operand.tmp 0), type := 22, pos := "law.go:75", after := #[{ on := 9, ground := Ground.guard }], guard := some (9, false) }) (v := ?tk10) rfl (by kernel_rfl) (by kernel_rfl) (by kernel_rfl) (fun _ _ _ h => h) (Or.inl ⟨by rfl, ?tw10⟩) hHeld1 ?_
          case tw10 => (intro W hW; clear hW; first | (go_simp; done) | (go_simp; with_reducible rfl))
          try simp only [Act.put, List.setIfInBounds_toArray, List.set_cons_zero, List.set_cons_succ]
          refine wpAnyH_take (i := 13) (oi := { dst := some 133, op := Op.move (Operand.tmp 16), type := 22, pos := "law.go:75", after := #[{ on := 9, ground := Ground.guard }], guard := some (9, false) }) (v := ?tk11) rfl (by kernel_rfl) (by kernel_rfl) (by kernel_rfl) (fun _ _ _ h => h) (Or.inl ⟨by rfl, ?tw11⟩) hHeld1 ?_
          case tw11 => (intro W hW; clear hW; first | (go_simp; done) | (go_simp; with_reducible rfl))
          try simp only [Act.put, List.setIfInBounds_toArray, List.set_cons_zero, List.set_cons_succ]
          refine wpAnyH_take (i := 14) (oi := { dst := some 134, op := Op.convert 22 9 (Operand.tmp 133), type := 9, pos := "law.go:75", after := #[{ on := 13, ground := Ground.data }, { on := 9, ground := Ground.guard }], guard := some (9, false) }) (v := .string (strOf zs)) rfl (by kernel_rfl) (by kernel_rfl) (by kernel_rfl) (fun _ _ _ h => h) (Or.inl ⟨by rfl, fun W hW => ?_⟩) hHeld1 ?_
          · (have hst := str_bytes hW.2.1 HZN.out; clear hW; go_simp)
          try simp only [Act.put, List.setIfInBounds_toArray, List.set_cons_zero, List.set_cons_succ]
          refine wpAnyH_take (i := 15) (oi := { dst := some 135, op := Op.move (Operand.tmp 0), type := 22, pos := "law.go:75", after := #[{ on := 9, ground := Ground.guard }], guard := some (9, false) }) (v := ?tk12) rfl (by kernel_rfl) (by kernel_rfl) (by kernel_rfl) (fun _ _ _ h => h) (Or.inl ⟨by rfl, ?tw12⟩) hHeld1 ?_
          case tw12 => (intro W hW; clear hW; first | (go_simp; done) | (go_simp; with_reducible rfl))
          try simp only [Act.put, List.setIfInBounds_toArray, List.set_cons_zero, List.set_cons_succ]
          refine wpAnyH_take (i := 16) (oi := { dst := some 136, op := Op.convert 22 9 (Operand.tmp 135), type := 9, pos := "law.go:75", after := #[{ on := 15, ground := Ground.data }, { on := 9, ground := Ground.guard }], guard := some (9, false) }) (v := .string (strOf key)) rfl (by kernel_rfl) (by kernel_rfl) (by kernel_rfl) (fun _ _ _ h => h) (Or.inl ⟨by rfl, fun W hW => ?_⟩) hHeld1 ?_
          · (have hst := str_bytes hW.2.2 HKN.out; clear hW; go_simp)
          try simp only [Act.put, List.setIfInBounds_toArray, List.set_cons_zero, List.set_cons_succ]
          refine wpAnyH_take (i := 17) (oi := { dst := some 137, op := Op.binOp BinOp.eql 9 (Operand.tmp 134) (Operand.tmp 136) 9, type := 4, pos := "law.go:75", after := #[{ on := 14, ground := Ground.data }, { on := 16, ground := Ground.data }, { on := 9, ground := Ground.guard }], guard := some (9, false) }) (v := .bool b2) rfl (by kernel_rfl) (by kernel_rfl) (by kernel_rfl) (fun _ _ _ h => h) (Or.inl ⟨by rfl, fun W hW => ?_⟩) hHeld1 ?_
          · (have hst := HQ2.out; clear hW; go_simp)
          try simp only [Act.put, List.setIfInBounds_toArray, List.set_cons_zero, List.set_cons_succ]
          refine wpAnyH_ready (rs := [12]) (by kernel_rfl) (by simp) ?_
          refine AllReadyH.cons (o := { dst := some 132, op := Op.call { callee := Callee.value (Operand.func 14), args := #[Operand.tmp 130, Operand.tmp 131], argTypes := #[22, 22] }, type := 4, pos := "law.go:75", after := #[{ on := 10, ground := Ground.data }, { on := 11, ground := Ground.data }, { on := 9, ground := Ground.chain }, { on := 9, ground := Ground.guard }], guard := some (9, false) }) rfl (fun K' hK => ?_) AllReadyH.nil
          go_simp
          refine ((HE2.out _ Hs_1.out HL_1.out)).mono ?_
          rintro e x2 ⟨rfl, hb⟩
          have Hw_2 := Lib.hid (keptW hb Hw_1.out)
          have Hs_2 := Lib.hid (Hs_1.out.kept hb)
          have Hk_2 := Lib.hid (Hk_1.out.kept hb)
          have Hb_2 := Lib.hid (bthen Hb_1.out hb)
          have HL_2 := Lib.hid (HL_1.out.trans (hb.mono HL_1.out.size))
          clear hb
          refine hK.out _ _ ⟨Hw_2.out, Hs_2.out, Hk_2.out⟩ (fun hHeld2 => ?_)
          clear hK K'
          try simp only [Act.put, List.setIfInBounds_toArray, List.set_cons_zero, List.set_cons_succ]
          refine wpAnyH_take (i := 18) (oi := { dst := some 138, op := Op.binOp BinOp.neq 4 (Operand.tmp 132) (Operand.tmp 137) 4, type := 4, pos := "law.go:75", after := #[{ on := 12, ground := Ground.data }, { on := 17, ground := Ground.data }, { on := 9, ground := Ground.guard }], guard := some (9, false) }) (v := .bool false) rfl (by kernel_rfl) (by kernel_rfl) (by kernel_rfl) (fun _ _ _ h => h) (Or.inl ⟨by rfl, fun W hW => ?_⟩) hHeld2 ?_
          · (clear hW; cases b2 <;> go_simp)
          try simp only [Act.put, List.setIfInBounds_toArray, List.set_cons_zero, List.set_cons_succ]
          refine wpAnyH_take (i := 19) (oi := { dst := some 139, op := Op.pick (Operand.tmp 129) (Operand.const (Value.bool true)) (Operand.tmp 138), type := 4, pos := "law.go:75", after := #[{ on := 9, ground := Ground.data }, { on := 18, ground := Ground.data }], guard := none }) (v := ?tk13) rfl (by kernel_rfl) (by kernel_rfl) (by kernel_rfl) (fun _ _ _ h => h) (Or.inl ⟨by rfl, ?tw13⟩) hHeld2 ?_
          case tw13 => (intro W hW; clear hW; first | (go_simp; done) | (go_simp; with_reducible rfl))
          try simp only [Act.put, List.setIfInBounds_toArray, List.set_cons_zero, List.set_cons_succ]
          refine wpAnyH_done (by kernel_rfl) ?_ _
          refine NoPanic.normal ?_
          have HLE := Lib.hid HL_2.out
          have HBE := Lib.hid Hb_2.out
          clear hHeld2
          go_wp2_with fail
          first | (refine ⟨?_, by simp [intOf]; omega⟩; exact ⟨k + 1, by omega, rfl, HBE.out⟩) | trace_state
        by_cases hc2 : 32 < L
        · have hL1 : (0 : Int) < ((L : Nat) : Int) := by omega
          have hLp : 0 < L := by omega
          have hL2 : ¬ ((L : Nat) : Int) ≤ 32 := by omega
          have hL3 : (32 : Int) < ((L : Nat) : Int) := by omega
          go_upto_region 13 with fail
          have Hs_0 := Lib.hid (show BytesAt zs (.slice ak L ck) wr.drew from HZB.out.kept (Below.refl _ _).drew)
          have Hw_0 := Lib.hid (show rowN wr.drew gw = some (arr .u8 O) from HRK.out)
          have HL_0 := Lib.hid (show Below w.heap.size w wr.drew from HBW.out.drew)
          clear hsc1
          have HbX_0 := Lib.hid (show Below V.heap.size V wr.drew from HB.out.drew)
          refine wp_region_noPanic ?_
          refine wp_region_held_drew (S := fun W => rowN W gw = some (arr .u8 O) ∧ BytesAt zs (.slice ak L ck) W) (by kernel_rfl) ⟨Hw_0.out, Hs_0.out⟩ (fun hHeld0 => ?_)
          obtain ⟨x0, hx0⟩ : ∃ X, wr.drew = X := ⟨_, rfl⟩
          rw [hx0] at Hw_0 Hs_0 HbX_0 HL_0 hHeld0 ⊢
          clear hx0
          refine wpAnyH_take (i := 0) (oi := { dst := some 84, op := Op.move (Operand.tmp 16), type := 22, pos := "law.go:70", after := #[], guard := none }) (v := ?tk14) rfl (by kernel_rfl) (by kernel_rfl) (by kernel_rfl) (fun _ _ _ h => h) (Or.inl ⟨by rfl, ?tw14⟩) hHeld0 ?_
          case tw14 => (intro W hW; clear hW; first | (go_simp; done) | (go_simp; with_reducible rfl))
          try simp only [Act.put, List.setIfInBounds_toArray, List.set_cons_zero, List.set_cons_succ]
          refine wpAnyH_take (i := 1) (oi := { dst := some 85, op := Op.call { callee := Callee.builtin Builtin.len, args := #[Operand.tmp 84], argTypes := #[22] }, type := 3, pos := "law.go:70", after := #[{ on := 0, ground := Ground.data }], guard := none }) (v := ?tk15) rfl (by kernel_rfl) (by kernel_rfl) (by kernel_rfl) (fun _ _ _ h => h) (Or.inl ⟨by rfl, ?tw15⟩) hHeld0 ?_
          case tw15 => (intro W hW; clear hW; first | (go_simp; done) | (go_simp; with_reducible rfl))
          try simp only [Act.put, List.setIfInBounds_toArray, List.set_cons_zero, List.set_cons_succ]
          refine wpAnyH_take (i := 2) (oi := { dst := some 86, op := Op.binOp BinOp.gtr 3 (Operand.tmp 85) (Operand.const (Value.int IntKind.i64 0)) 3, type := 4, pos := "law.go:70", after := #[{ on := 1, ground := Ground.data }], guard := none }) (v := .bool true) rfl (by kernel_rfl) (by kernel_rfl) (by kernel_rfl) (fun _ _ _ h => h) (Or.inl ⟨by rfl, fun W hW => ?_⟩) hHeld0 ?_
          · (clear hW; go_simp)
          try simp only [Act.put, List.setIfInBounds_toArray, List.set_cons_zero, List.set_cons_succ]
          refine wpAnyH_take (i := 3) (oi := { dst := some 87, op := Op.move (Operand.tmp 86), type := 4, pos := "law.go:70", after := #[{ on := 2, ground := Ground.data }], guard := none }) (v := ?tk16) rfl (by kernel_rfl) (by kernel_rfl) (by kernel_rfl) (fun _ _ _ h => h) (Or.inl ⟨by rfl, ?tw16⟩) hHeld0 ?_
          case tw16 => (intro W hW; clear hW; first | (go_simp; done) | (go_simp; with_reducible rfl))
          try simp only [Act.put, List.setIfInBounds_toArray, List.set_cons_zero, List.set_cons_succ]
          refine wpAnyH_take (i := 4) (oi := { dst := some 88, op := Op.move (Operand.tmp 16), type := 22, pos := "law.go:70", after := #[{ on := 3, ground := Ground.guard }], guard := some (3, true) }) (v := ?tk17) rfl (by kernel_rfl) (by kernel_rfl) (by kernel_rfl) (fun _ _ _ h => h) (Or.inl ⟨by rfl, ?tw17⟩) hHeld0 ?_
          case tw17 => (intro W hW; clear hW; first | (go_simp; done) | (go_simp; with_reducible rfl))
          try simp only [Act.put, List.setIfInBounds_toArray, List.set_cons_zero, List.set_cons_succ]
          refine wpAnyH_take (i := 5) (oi := { dst := some 89, op := Op.call { callee := Callee.builtin Builtin.len, args := #[Operand.tmp 88], argTypes := #[22] }, type := 3, pos := "law.go:70", after := #[{ on := 4, ground := Ground.data }, { on := 3, ground := Ground.guard }], guard := some (3, true) }) (v := ?tk18) rfl (by kernel_rfl) (by kernel_rfl) (by kernel_rfl) (fun _ _ _ h => h) (Or.inl ⟨by rfl, ?tw18⟩) hHeld0 ?_
          case tw18 => (intro W hW; clear hW; first | (go_simp; done) | (go_simp; with_reducible rfl))
          try simp only [Act.put, List.setIfInBounds_toArray, List.set_cons_zero, List.set_cons_succ]
          refine wpAnyH_take (i := 6) (oi := { dst := some 90, op := Op.binOp BinOp.leq 3 (Operand.tmp 89) (Operand.const (Value.int IntKind.i64 32)) 3, type := 4, pos := "law.go:70", after := #[{ on := 5, ground := Ground.data }, { on := 3, ground := Ground.guard }], guard := some (3, true) }) (v := .bool false) rfl (by kernel_rfl) (by kernel_rfl) (by kernel_rfl) (fun _ _ _ h => h) (Or.inl ⟨by rfl, fun W hW => ?_⟩) hHeld0 ?_
          · (clear hW; go_simp)
          try simp only [Act.put, List.setIfInBounds_toArray, List.set_cons_zero, List.set_cons_succ]
          refine wpAnyH_take (i := 7) (oi := { dst := some 91, op := Op.pick (Operand.tmp 87) (Operand.tmp 90) (Operand.const (Value.bool false)), type := 4, pos := "law.go:70", after := #[{ on := 3, ground := Ground.data }, { on := 6, ground := Ground.data }], guard := none }) (v := ?tk19) rfl (by kernel_rfl) (by kernel_rfl) (by kernel_rfl) (fun _ _ _ h => h) (Or.inl ⟨by rfl, ?tw19⟩) hHeld0 ?_
          case tw19 => (intro W hW; clear hW; first | (go_simp; done) | (go_simp; with_reducible rfl))
          try simp only [Act.put, List.setIfInBounds_toArray, List.set_cons_zero, List.set_cons_succ]
          refine wpAnyH_take (i := 8) (oi := { dst := some 92, op := Op.move (Operand.tmp 91), type := 4, pos := "law.go:70", after := #[{ on := 7, ground := Ground.data }, { on := 3, ground := Ground.chain }], guard := none }) (v := ?tk20) rfl (by kernel_rfl) (by kernel_rfl) (by kernel_rfl) (fun _ _ _ h => h) (Or.inl ⟨by rfl, ?tw20⟩) hHeld0 ?_
          case tw20 => (intro W hW; clear hW; first | (go_simp; done) | (go_simp; with_reducible rfl))
          try simp only [Act.put, List.setIfInBounds_toArray, List.set_cons_zero, List.set_cons_succ]
          refine wpAnyH_take (i := 9) (oi := { dst := some 93, op := Op.move (Operand.tmp 16), type := 22, pos := "law.go:70", after := #[{ on := 8, ground := Ground.guard }], guard := some (8, true) }) (v := undef) rfl (by kernel_rfl) (by kernel_rfl) (by kernel_rfl) (fun _ _ _ h => h) (Or.inr ⟨by rfl, rfl⟩) hHeld0 ?_
          try simp only [Act.put, List.setIfInBounds_toArray, List.set_cons_zero, List.set_cons_succ]
          refine wpAnyH_take (i := 10) (oi := { dst := some 94, op := Op.convert 22 9 (Operand.tmp 93), type := 9, pos := "law.go:70", after := #[{ on := 9, ground := Ground.data }, { on := 8, ground := Ground.guard }], guard := some (8, true) }) (v := undef) rfl (by kernel_rfl) (by kernel_rfl) (by kernel_rfl) (fun _ _ _ h => h) (Or.inr ⟨by rfl, rfl⟩) hHeld0 ?_
          try simp only [Act.put, List.setIfInBounds_toArray, List.set_cons_zero, List.set_cons_succ]
          refine wpAnyH_take (i := 11) (oi := { dst := some 95, op := Op.move (Operand.tmp 13), type := 22, pos := "law.go:70", after := #[{ on := 8, ground := Ground.guard }], guard := some (8, true) }) (v := undef) rfl (by kernel_rfl) (by kernel_rfl) (by kernel_rfl) (fun _ _ _ h => h) (Or.inr ⟨by rfl, rfl⟩) hHeld0 ?_
          try simp only [Act.put, List.setIfInBounds_toArray, List.set_cons_zero, List.set_cons_succ]
          refine wpAnyH_take (i := 12) (oi := { dst := some 96, op := Op.move (Operand.tmp 16), type := 22, pos := "law.go:70", after := #[{ on := 8, ground := Ground.guard }], guard := some (8, true) }) (v := undef) rfl (by kernel_rfl) (by kernel_rfl) (by kernel_rfl) (fun _ _ _ h => h) (Or.inr ⟨by rfl, rfl⟩) hHeld0 ?_
          try simp only [Act.put, List.setIfInBounds_toArray, List.set_cons_zero, List.set_cons_succ]
          refine wpAnyH_take (i := 13) (oi := { dst := some 97, op := Op.call { callee := Callee.builtin Builtin.len, args := #[Operand.tmp 96], argTypes := #[22] }, type := 3, pos := "law.go:70", after := #[{ on := 12, ground := Ground.data }, { on := 8, ground := Ground.guard }], guard := some (8, true) }) (v := undef) rfl (by kernel_rfl) (by kernel_rfl) (by kernel_rfl) (fun _ _ _ h => h) (Or.inr ⟨by rfl, rfl⟩) hHeld0 ?_
          try simp only [Act.put, List.setIfInBounds_toArray, List.set_cons_zero, List.set_cons_succ]
          refine wpAnyH_take (i := 14) (oi := { dst := some 98, op := Op.call { callee := Callee.builtin Builtin.min, args := #[Operand.tmp 97, Operand.const (Value.int IntKind.i64 32)], argTypes := #[3, 3] }, type := 3, pos := "law.go:70", after := #[{ on := 13, ground := Ground.data }, { on := 8, ground := Ground.guard }], guard := some (8, true) }) (v := undef) rfl (by kernel_rfl) (by kernel_rfl) (by kernel_rfl) (fun _ _ _ h => h) (Or.inr ⟨by rfl, rfl⟩) hHeld0 ?_
          try simp only [Act.put, List.setIfInBounds_toArray, List.set_cons_zero, List.set_cons_succ]
          refine wpAnyH_take (i := 15) (oi := { dst := some 99, op := Op.slice 22 (Operand.tmp 95) none (some (Operand.tmp 98)) none, type := 22, pos := "law.go:70", after := #[{ on := 11, ground := Ground.data }, { on := 14, ground := Ground.data }, { on := 8, ground := Ground.guard }], guard := some (8, true) }) (v := undef) rfl (by kernel_rfl) (by kernel_rfl) (by kernel_rfl) (fun _ _ _ h => h) (Or.inr ⟨by rfl, rfl⟩) hHeld0 ?_
          try simp only [Act.put, List.setIfInBounds_toArray, List.set_cons_zero, List.set_cons_succ]
          refine wpAnyH_take (i := 16) (oi := { dst := some 100, op := Op.convert 22 9 (Operand.tmp 99), type := 9, pos := "law.go:70", after := #[{ on := 15, ground := Ground.data }, { on := 8, ground := Ground.guard }], guard := some (8, true) }) (v := undef) rfl (by kernel_rfl) (by kernel_rfl) (by kernel_rfl) (fun _ _ _ h => h) (Or.inr ⟨by rfl, rfl⟩) hHeld0 ?_
          try simp only [Act.put, List.setIfInBounds_toArray, List.set_cons_zero, List.set_cons_succ]
          refine wpAnyH_take (i := 17) (oi := { dst := some 101, op := Op.binOp BinOp.eql 9 (Operand.tmp 94) (Operand.tmp 100) 9, type := 4, pos := "law.go:70", after := #[{ on := 10, ground := Ground.data }, { on := 16, ground := Ground.data }, { on := 8, ground := Ground.guard }], guard := some (8, true) }) (v := undef) rfl (by kernel_rfl) (by kernel_rfl) (by kernel_rfl) (fun _ _ _ h => h) (Or.inr ⟨by rfl, rfl⟩) hHeld0 ?_
          try simp only [Act.put, List.setIfInBounds_toArray, List.set_cons_zero, List.set_cons_succ]
          refine wpAnyH_take (i := 18) (oi := { dst := some 102, op := Op.pick (Operand.tmp 92) (Operand.tmp 101) (Operand.const (Value.bool false)), type := 4, pos := "law.go:70", after := #[{ on := 8, ground := Ground.data }, { on := 17, ground := Ground.data }], guard := none }) (v := ?tk21) rfl (by kernel_rfl) (by kernel_rfl) (by kernel_rfl) (fun _ _ _ h => h) (Or.inl ⟨by rfl, ?tw21⟩) hHeld0 ?_
          case tw21 => (intro W hW; clear hW; first | (go_simp; done) | (go_simp; with_reducible rfl))
          try simp only [Act.put, List.setIfInBounds_toArray, List.set_cons_zero, List.set_cons_succ]
          refine wpAnyH_take (i := 19) (oi := { dst := some 17, op := Op.assign (Operand.tmp 102), type := 4, pos := "law.go:70", after := #[{ on := 18, ground := Ground.data }, { on := 8, ground := Ground.chain }, { on := 0, ground := Ground.phase }, { on := 1, ground := Ground.phase }, { on := 2, ground := Ground.phase }, { on := 3, ground := Ground.phase }, { on := 4, ground := Ground.phase }, { on := 5, ground := Ground.phase }, { on := 6, ground := Ground.phase }, { on := 7, ground := Ground.phase }, { on := 8, ground := Ground.phase }, { on := 9, ground := Ground.phase }, { on := 10, ground := Ground.phase }, { on := 11, ground := Ground.phase }, { on := 12, ground := Ground.phase }, { on := 13, ground := Ground.phase }, { on := 14, ground := Ground.phase }, { on := 15, ground := Ground.phase }, { on := 16, ground := Ground.phase }, { on := 17, ground := Ground.phase }, { on := 18, ground := Ground.phase }], guard := none }) (v := ?tk22) rfl (by kernel_rfl) (by kernel_rfl) (by kernel_rfl) (fun _ _ _ h => h) (Or.inl ⟨by rfl, ?tw22⟩) hHeld0 ?_
          case tw22 => (intro W hW; clear hW; first | (go_simp; done) | (go_simp; with_reducible rfl))
          try simp only [Act.put, List.setIfInBounds_toArray, List.set_cons_zero, List.set_cons_succ]
          refine wpAnyH_done (by kernel_rfl) ?_ _
          refine NoPanic.normal ?_
          have Hb13 := Lib.hid (show Below V.heap.size V x0 from HbX_0.out)
          have HS13 := Lib.hid Hs_0.out
          have HW13 := Lib.hid Hw_0.out
          have HL13 := Lib.hid HL_0.out
          clear Hs_0 Hw_0 HL_0 hHeld0
          go_wp2_with fail
          refine (HCK1.out _ HL13.out HS13.out (by omega)).mono ?_
          rintro e x8 ⟨rfl, hb8⟩
          have HS8 := Lib.hid (HS13.out.kept hb8)
          have HW8 := Lib.hid (keptW hb8 HW13.out)
          have HL8 := Lib.hid (HL13.out.trans (hb8.mono HL13.out.size))
          have HVB8 := Lib.hid ((Hb13.out).trans (hb8.mono Hb13.out.size))
          clear hb8 HS13 HW13 HL13
          go_upto_region 17 with fail
          have Hs_0 := Lib.hid (show BytesAt zs (.slice ak L ck) x8.drew from HS8.out.kept (Below.refl _ _).drew)
          have Hw_0 := Lib.hid (show rowN x8.drew gw = some (arr .u8 O) from HW8.out)
          have Hk_0 := Lib.hid (show BytesAt key (.slice ka K kc) x8.drew from HKB.out.kept HL8.out.drew)
          have HL_0 := Lib.hid (show Below w.heap.size w x8.drew from HL8.out.drew)
          clear HS8 HW8 HL8
          have Hb_0 := Lib.hid (show Below V.heap.size V x8.drew from HVB8.out.drew)
          refine wp_region_noPanic ?_
          refine wp_region_held_drew (S := fun W => rowN W gw = some (arr .u8 O) ∧ BytesAt zs (.slice ak L ck) W ∧ BytesAt key (.slice ka K kc) W) (by kernel_rfl) ⟨Hw_0.out, Hs_0.out, Hk_0.out⟩ (fun hHeld0 => ?_)
          obtain ⟨x0, hx0⟩ : ∃ X, x8.drew = X := ⟨_, rfl⟩
          rw [hx0] at Hw_0 Hs_0 Hk_0 Hb_0 HL_0 hHeld0 ⊢
          clear hx0
          refine wpAnyH_take (i := 0) (oi := { dst := some 120, op := Op.move (Operand.tmp 16), type := 22, pos := "law.go:75", after := #[], guard := none }) (v := ?tk23) rfl (by kernel_rfl) (by kernel_rfl) (by kernel_rfl) (fun _ _ _ h => h) (Or.inl ⟨by rfl, ?tw23⟩) hHeld0 ?_
          case tw23 => (intro W hW; clear hW; first | (go_simp; done) | (go_simp; with_reducible rfl))
          try simp only [Act.put, List.setIfInBounds_toArray, List.set_cons_zero, List.set_cons_succ]
          refine wpAnyH_take (i := 1) (oi := { dst := some 121, op := Op.move (Operand.tmp 13), type := 22, pos := "law.go:75", after := #[], guard := none }) (v := ?tk24) rfl (by kernel_rfl) (by kernel_rfl) (by kernel_rfl) (fun _ _ _ h => h) (Or.inl ⟨by rfl, ?tw24⟩) hHeld0 ?_
          case tw24 => (intro W hW; clear hW; first | (go_simp; done) | (go_simp; with_reducible rfl))
          try simp only [Act.put, List.setIfInBounds_toArray, List.set_cons_zero, List.set_cons_succ]
          refine wpAnyH_take (i := 3) (oi := { dst := some 123, op := Op.move (Operand.tmp 16), type := 22, pos := "law.go:75", after := #[], guard := none }) (v := ?tk25) rfl (by kernel_rfl) (by kernel_rfl) (by kernel_rfl) (fun _ _ _ h => h) (Or.inl ⟨by rfl, ?tw25⟩) hHeld0 ?_
          case tw25 => (intro W hW; clear hW; first | (go_simp; done) | (go_simp; with_reducible rfl))
          try simp only [Act.put, List.setIfInBounds_toArray, List.set_cons_zero, List.set_cons_succ]
          refine wpAnyH_take (i := 4) (oi := { dst := some 124, op := Op.convert 22 9 (Operand.tmp 123), type := 9, pos := "law.go:75", after := #[{ on := 3, ground := Ground.data }], guard := none }) (v := .string (strOf zs)) rfl (by kernel_rfl) (by kernel_rfl) (by kernel_rfl) (fun _ _ _ h => h) (Or.inl ⟨by rfl, fun W hW => ?_⟩) hHeld0 ?_
          · (have hst := str_bytes hW.2.1 HZN.out; clear hW; go_simp)
          try simp only [Act.put, List.setIfInBounds_toArray, List.set_cons_zero, List.set_cons_succ]
          refine wpAnyH_take (i := 5) (oi := { dst := some 125, op := Op.move (Operand.tmp 13), type := 22, pos := "law.go:75", after := #[], guard := none }) (v := ?tk26) rfl (by kernel_rfl) (by kernel_rfl) (by kernel_rfl) (fun _ _ _ h => h) (Or.inl ⟨by rfl, ?tw26⟩) hHeld0 ?_
          case tw26 => (intro W hW; clear hW; first | (go_simp; done) | (go_simp; with_reducible rfl))
          try simp only [Act.put, List.setIfInBounds_toArray, List.set_cons_zero, List.set_cons_succ]
          refine wpAnyH_take (i := 6) (oi := { dst := some 126, op := Op.convert 22 9 (Operand.tmp 125), type := 9, pos := "law.go:75", after := #[{ on := 5, ground := Ground.data }], guard := none }) (v := .string (strOf O)) rfl (by kernel_rfl) (by kernel_rfl) (by kernel_rfl) (fun _ _ _ h => h) (Or.inl ⟨by rfl, fun W hW => ?_⟩) hHeld0 ?_
          · (have hst := str_arr hW.1 HO32.out; clear hW; go_simp)
          try simp only [Act.put, List.setIfInBounds_toArray, List.set_cons_zero, List.set_cons_succ]
          refine wpAnyH_take (i := 7) (oi := { dst := some 127, op := Op.binOp BinOp.eql 9 (Operand.tmp 124) (Operand.tmp 126) 9, type := 4, pos := "law.go:75", after := #[{ on := 4, ground := Ground.data }, { on := 6, ground := Ground.data }], guard := none }) (v := .bool b1) rfl (by kernel_rfl) (by kernel_rfl) (by kernel_rfl) (fun _ _ _ h => h) (Or.inl ⟨by rfl, fun W hW => ?_⟩) hHeld0 ?_
          · (have hst := HQ1.out; clear hW; go_simp)
          try simp only [Act.put, List.setIfInBounds_toArray, List.set_cons_zero, List.set_cons_succ]
          refine wpAnyH_ready (rs := [2]) (by kernel_rfl) (by simp) ?_
          refine AllReadyH.cons (o := { dst := some 122, op := Op.call { callee := Callee.value (Operand.func 14), args := #[Operand.tmp 120, Operand.tmp 121], argTypes := #[22, 22] }, type := 4, pos := "law.go:75", after := #[{ on := 0, ground := Ground.data }, { on := 1, ground := Ground.data }], guard := none }) rfl (fun K' hK => ?_) AllReadyH.nil
          go_simp
          refine ((HE1.out _ Hs_0.out Hw_0.out)).mono ?_
          rintro e x1 ⟨rfl, hb⟩
          have Hw_1 := Lib.hid (keptW hb Hw_0.out)
          have Hs_1 := Lib.hid (Hs_0.out.kept hb)
          have Hk_1 := Lib.hid (Hk_0.out.kept hb)
          have Hb_1 := Lib.hid (bthen Hb_0.out hb)
          have HL_1 := Lib.hid (HL_0.out.trans (hb.mono HL_0.out.size))
          clear hb
          refine hK.out _ _ ⟨Hw_1.out, Hs_1.out, Hk_1.out⟩ (fun hHeld1 => ?_)
          clear hK K'
          try simp only [Act.put, List.setIfInBounds_toArray, List.set_cons_zero, List.set_cons_succ]
          refine wpAnyH_take (i := 8) (oi := { dst := some 128, op := Op.binOp BinOp.neq 4 (Operand.tmp 122) (Operand.tmp 127) 4, type := 4, pos := "law.go:75", after := #[{ on := 2, ground := Ground.data }, { on := 7, ground := Ground.data }], guard := none }) (v := .bool false) rfl (by kernel_rfl) (by kernel_rfl) (by kernel_rfl) (fun _ _ _ h => h) (Or.inl ⟨by rfl, fun W hW => ?_⟩) hHeld1 ?_
          · (clear hW; cases b1 <;> go_simp)
          try simp only [Act.put, List.setIfInBounds_toArray, List.set_cons_zero, List.set_cons_succ]
          refine wpAnyH_take (i := 9) (oi := { dst := some 129, op := Op.move (Operand.tmp 128), type := 4, pos := "law.go:75", after := #[{ on := 8, ground := Ground.data }, { on := 2, ground := Ground.chain }], guard := none }) (v := ?tk27) rfl (by kernel_rfl) (by kernel_rfl) (by kernel_rfl) (fun _ _ _ h => h) (Or.inl ⟨by rfl, ?tw27⟩) hHeld1 ?_
          case tw27 => (intro W hW; clear hW; first | (go_simp; done) | (go_simp; with_reducible rfl))
          try simp only [Act.put, List.setIfInBounds_toArray, List.set_cons_zero, List.set_cons_succ]
          refine wpAnyH_take (i := 10) (oi := { dst := some 130, op := Op.move (Operand.tmp 16), type := 22, pos := "law.go:75", after := #[{ on := 9, ground := Ground.guard }], guard := some (9, false) }) (v := ?tk28) rfl (by kernel_rfl) (by kernel_rfl) (by kernel_rfl) (fun _ _ _ h => h) (Or.inl ⟨by rfl, ?tw28⟩) hHeld1 ?_
          case tw28 => (intro W hW; clear hW; first | (go_simp; done) | (go_simp; with_reducible rfl))
          try simp only [Act.put, List.setIfInBounds_toArray, List.set_cons_zero, List.set_cons_succ]
          refine wpAnyH_take (i := 11) (oi := { dst := some 131, op := Op.move (Operand.tmp 0), type := 22, pos := "law.go:75", after := #[{ on := 9, ground := Ground.guard }], guard := some (9, false) }) (v := ?tk29) rfl (by kernel_rfl) (by kernel_rfl) (by kernel_rfl) (fun _ _ _ h => h) (Or.inl ⟨by rfl, ?tw29⟩) hHeld1 ?_
          case tw29 => (intro W hW; clear hW; first | (go_simp; done) | (go_simp; with_reducible rfl))
          try simp only [Act.put, List.setIfInBounds_toArray, List.set_cons_zero, List.set_cons_succ]
          refine wpAnyH_take (i := 13) (oi := { dst := some 133, op := Op.move (Operand.tmp 16), type := 22, pos := "law.go:75", after := #[{ on := 9, ground := Ground.guard }], guard := some (9, false) }) (v := ?tk30) rfl (by kernel_rfl) (by kernel_rfl) (by kernel_rfl) (fun _ _ _ h => h) (Or.inl ⟨by rfl, ?tw30⟩) hHeld1 ?_
          case tw30 => (intro W hW; clear hW; first | (go_simp; done) | (go_simp; with_reducible rfl))
          try simp only [Act.put, List.setIfInBounds_toArray, List.set_cons_zero, List.set_cons_succ]
          refine wpAnyH_take (i := 14) (oi := { dst := some 134, op := Op.convert 22 9 (Operand.tmp 133), type := 9, pos := "law.go:75", after := #[{ on := 13, ground := Ground.data }, { on := 9, ground := Ground.guard }], guard := some (9, false) }) (v := .string (strOf zs)) rfl (by kernel_rfl) (by kernel_rfl) (by kernel_rfl) (fun _ _ _ h => h) (Or.inl ⟨by rfl, fun W hW => ?_⟩) hHeld1 ?_
          · (have hst := str_bytes hW.2.1 HZN.out; clear hW; go_simp)
          try simp only [Act.put, List.setIfInBounds_toArray, List.set_cons_zero, List.set_cons_succ]
          refine wpAnyH_take (i := 15) (oi := { dst := some 135, op := Op.move (Operand.tmp 0), type := 22, pos := "law.go:75", after := #[{ on := 9, ground := Ground.guard }], guard := some (9, false) }) (v := ?tk31) rfl (by kernel_rfl) (by kernel_rfl) (by kernel_rfl) (fun _ _ _ h => h) (Or.inl ⟨by rfl, ?tw31⟩) hHeld1 ?_
          case tw31 => (intro W hW; clear hW; first | (go_simp; done) | (go_simp; with_reducible rfl))
          try simp only [Act.put, List.setIfInBounds_toArray, List.set_cons_zero, List.set_cons_succ]
          refine wpAnyH_take (i := 16) (oi := { dst := some 136, op := Op.convert 22 9 (Operand.tmp 135), type := 9, pos := "law.go:75", after := #[{ on := 15, ground := Ground.data }, { on := 9, ground := Ground.guard }], guard := some (9, false) }) (v := .string (strOf key)) rfl (by kernel_rfl) (by kernel_rfl) (by kernel_rfl) (fun _ _ _ h => h) (Or.inl ⟨by rfl, fun W hW => ?_⟩) hHeld1 ?_
          · (have hst := str_bytes hW.2.2 HKN.out; clear hW; go_simp)
          try simp only [Act.put, List.setIfInBounds_toArray, List.set_cons_zero, List.set_cons_succ]
          refine wpAnyH_take (i := 17) (oi := { dst := some 137, op := Op.binOp BinOp.eql 9 (Operand.tmp 134) (Operand.tmp 136) 9, type := 4, pos := "law.go:75", after := #[{ on := 14, ground := Ground.data }, { on := 16, ground := Ground.data }, { on := 9, ground := Ground.guard }], guard := some (9, false) }) (v := .bool b2) rfl (by kernel_rfl) (by kernel_rfl) (by kernel_rfl) (fun _ _ _ h => h) (Or.inl ⟨by rfl, fun W hW => ?_⟩) hHeld1 ?_
          · (have hst := HQ2.out; clear hW; go_simp)
          try simp only [Act.put, List.setIfInBounds_toArray, List.set_cons_zero, List.set_cons_succ]
          refine wpAnyH_ready (rs := [12]) (by kernel_rfl) (by simp) ?_
          refine AllReadyH.cons (o := { dst := some 132, op := Op.call { callee := Callee.value (Operand.func 14), args := #[Operand.tmp 130, Operand.tmp 131], argTypes := #[22, 22] }, type := 4, pos := "law.go:75", after := #[{ on := 10, ground := Ground.data }, { on := 11, ground := Ground.data }, { on := 9, ground := Ground.chain }, { on := 9, ground := Ground.guard }], guard := some (9, false) }) rfl (fun K' hK => ?_) AllReadyH.nil
          go_simp
          refine ((HE2.out _ Hs_1.out HL_1.out)).mono ?_
          rintro e x2 ⟨rfl, hb⟩
          have Hw_2 := Lib.hid (keptW hb Hw_1.out)
          have Hs_2 := Lib.hid (Hs_1.out.kept hb)
          have Hk_2 := Lib.hid (Hk_1.out.kept hb)
          have Hb_2 := Lib.hid (bthen Hb_1.out hb)
          have HL_2 := Lib.hid (HL_1.out.trans (hb.mono HL_1.out.size))
          clear hb
          refine hK.out _ _ ⟨Hw_2.out, Hs_2.out, Hk_2.out⟩ (fun hHeld2 => ?_)
          clear hK K'
          try simp only [Act.put, List.setIfInBounds_toArray, List.set_cons_zero, List.set_cons_succ]
          refine wpAnyH_take (i := 18) (oi := { dst := some 138, op := Op.binOp BinOp.neq 4 (Operand.tmp 132) (Operand.tmp 137) 4, type := 4, pos := "law.go:75", after := #[{ on := 12, ground := Ground.data }, { on := 17, ground := Ground.data }, { on := 9, ground := Ground.guard }], guard := some (9, false) }) (v := .bool false) rfl (by kernel_rfl) (by kernel_rfl) (by kernel_rfl) (fun _ _ _ h => h) (Or.inl ⟨by rfl, fun W hW => ?_⟩) hHeld2 ?_
          · (clear hW; cases b2 <;> go_simp)
          try simp only [Act.put, List.setIfInBounds_toArray, List.set_cons_zero, List.set_cons_succ]
          refine wpAnyH_take (i := 19) (oi := { dst := some 139, op := Op.pick (Operand.tmp 129) (Operand.const (Value.bool true)) (Operand.tmp 138), type := 4, pos := "law.go:75", after := #[{ on := 9, ground := Ground.data }, { on := 18, ground := Ground.data }], guard := none }) (v := ?tk32) rfl (by kernel_rfl) (by kernel_rfl) (by kernel_rfl) (fun _ _ _ h => h) (Or.inl ⟨by rfl, ?tw32⟩) hHeld2 ?_
          case tw32 => (intro W hW; clear hW; first | (go_simp; done) | (go_simp; with_reducible rfl))
          try simp only [Act.put, List.setIfInBounds_toArray, List.set_cons_zero, List.set_cons_succ]
          refine wpAnyH_done (by kernel_rfl) ?_ _
          refine NoPanic.normal ?_
          have HLE := Lib.hid HL_2.out
          have HBE := Lib.hid Hb_2.out
          clear hHeld2
          go_wp2_with fail
          first | (refine ⟨?_, by simp [intOf]; omega⟩; exact ⟨k + 1, by omega, rfl, HBE.out⟩) | trace_state
        have hL1 : (0 : Int) < ((L : Nat) : Int) := by omega
        have hL2 : ((L : Nat) : Int) ≤ 32 := by omega
        have hL3 : ¬ (32 : Int) < ((L : Nat) : Int) := by omega
        have hLp : 0 < L := by omega
        have hLo : 1 ≤ L := by omega
        have hLu : L ≤ 32 := by omega
        have hsw := fun W => run_slice22_h (some ⟨gw, 0, none⟩) 32 32 L hLu (fun h => by cases h) W
        have HTK := Lib.hid (fun (X : World) (h2 : rowN X gw = some (arr .u8 O)) => str_bytes (bytes_take_row hO256.out h2 L (by rw [HO32.out]; exact hLu) hLu) (nil0_some ⟨gw, 0, none⟩ L 32))
        have hcs := hcs ⟨hLo, hLu⟩
        by_cases hc3 : zs = O.take L
        · have hQ3 : ((strOf zs).toList == (strOf (O.take L)).toList) = true := by rw [hcs]; exact decide_eq_true hc3
          have HQ3 := Lib.hid hQ3
          have HC3 := Lib.hid hc3
          have HCK3 := Lib.hid (fun (X : World) (hb : Below w.heap.size w X) (h1 : BytesAt zs (.slice ak L ck) X) => show Calls Tryd.prog 13 #[.slice ka K kc, .slice ak L ck, v] X (fun e w' => e = .returned (.int .i64 0) ∧ Below X.heap.size X w') from by
            have h := HCK2.out X hb h1 hLo hLu
            rw [if_pos hc3] at h; exact h)
          clear hc3 hcs hQ3
          go_upto_region 13 with fail
          have Hs_0 := Lib.hid (show BytesAt zs (.slice ak L ck) wr.drew from HZB.out.kept (Below.refl _ _).drew)
          have Hw_0 := Lib.hid (show rowN wr.drew gw = some (arr .u8 O) from HRK.out)
          have HL_0 := Lib.hid (show Below w.heap.size w wr.drew from HBW.out.drew)
          clear hsc1
          have HbX_0 := Lib.hid (show Below V.heap.size V wr.drew from HB.out.drew)
          refine wp_region_noPanic ?_
          refine wp_region_held_drew (S := fun W => rowN W gw = some (arr .u8 O) ∧ BytesAt zs (.slice ak L ck) W) (by kernel_rfl) ⟨Hw_0.out, Hs_0.out⟩ (fun hHeld0 => ?_)
          obtain ⟨x0, hx0⟩ : ∃ X, wr.drew = X := ⟨_, rfl⟩
          rw [hx0] at Hw_0 Hs_0 HbX_0 HL_0 hHeld0 ⊢
          clear hx0
          refine wpAnyH_take (i := 0) (oi := { dst := some 84, op := Op.move (Operand.tmp 16), type := 22, pos := "law.go:70", after := #[], guard := none }) (v := ?tk33) rfl (by kernel_rfl) (by kernel_rfl) (by kernel_rfl) (fun _ _ _ h => h) (Or.inl ⟨by rfl, ?tw33⟩) hHeld0 ?_
          case tw33 => (intro W hW; clear hW; first | (go_simp; done) | (go_simp; with_reducible rfl))
          try simp only [Act.put, List.setIfInBounds_toArray, List.set_cons_zero, List.set_cons_succ]
          refine wpAnyH_take (i := 1) (oi := { dst := some 85, op := Op.call { callee := Callee.builtin Builtin.len, args := #[Operand.tmp 84], argTypes := #[22] }, type := 3, pos := "law.go:70", after := #[{ on := 0, ground := Ground.data }], guard := none }) (v := ?tk34) rfl (by kernel_rfl) (by kernel_rfl) (by kernel_rfl) (fun _ _ _ h => h) (Or.inl ⟨by rfl, ?tw34⟩) hHeld0 ?_
          case tw34 => (intro W hW; clear hW; first | (go_simp; done) | (go_simp; with_reducible rfl))
          try simp only [Act.put, List.setIfInBounds_toArray, List.set_cons_zero, List.set_cons_succ]
          refine wpAnyH_take (i := 2) (oi := { dst := some 86, op := Op.binOp BinOp.gtr 3 (Operand.tmp 85) (Operand.const (Value.int IntKind.i64 0)) 3, type := 4, pos := "law.go:70", after := #[{ on := 1, ground := Ground.data }], guard := none }) (v := .bool true) rfl (by kernel_rfl) (by kernel_rfl) (by kernel_rfl) (fun _ _ _ h => h) (Or.inl ⟨by rfl, fun W hW => ?_⟩) hHeld0 ?_
          · (clear hW; go_simp)
          try simp only [Act.put, List.setIfInBounds_toArray, List.set_cons_zero, List.set_cons_succ]
          refine wpAnyH_take (i := 3) (oi := { dst := some 87, op := Op.move (Operand.tmp 86), type := 4, pos := "law.go:70", after := #[{ on := 2, ground := Ground.data }], guard := none }) (v := ?tk35) rfl (by kernel_rfl) (by kernel_rfl) (by kernel_rfl) (fun _ _ _ h => h) (Or.inl ⟨by rfl, ?tw35⟩) hHeld0 ?_
          case tw35 => (intro W hW; clear hW; first | (go_simp; done) | (go_simp; with_reducible rfl))
          try simp only [Act.put, List.setIfInBounds_toArray, List.set_cons_zero, List.set_cons_succ]
          refine wpAnyH_take (i := 4) (oi := { dst := some 88, op := Op.move (Operand.tmp 16), type := 22, pos := "law.go:70", after := #[{ on := 3, ground := Ground.guard }], guard := some (3, true) }) (v := ?tk36) rfl (by kernel_rfl) (by kernel_rfl) (by kernel_rfl) (fun _ _ _ h => h) (Or.inl ⟨by rfl, ?tw36⟩) hHeld0 ?_
          case tw36 => (intro W hW; clear hW; first | (go_simp; done) | (go_simp; with_reducible rfl))
          try simp only [Act.put, List.setIfInBounds_toArray, List.set_cons_zero, List.set_cons_succ]
          refine wpAnyH_take (i := 5) (oi := { dst := some 89, op := Op.call { callee := Callee.builtin Builtin.len, args := #[Operand.tmp 88], argTypes := #[22] }, type := 3, pos := "law.go:70", after := #[{ on := 4, ground := Ground.data }, { on := 3, ground := Ground.guard }], guard := some (3, true) }) (v := ?tk37) rfl (by kernel_rfl) (by kernel_rfl) (by kernel_rfl) (fun _ _ _ h => h) (Or.inl ⟨by rfl, ?tw37⟩) hHeld0 ?_
          case tw37 => (intro W hW; clear hW; first | (go_simp; done) | (go_simp; with_reducible rfl))
          try simp only [Act.put, List.setIfInBounds_toArray, List.set_cons_zero, List.set_cons_succ]
          refine wpAnyH_take (i := 6) (oi := { dst := some 90, op := Op.binOp BinOp.leq 3 (Operand.tmp 89) (Operand.const (Value.int IntKind.i64 32)) 3, type := 4, pos := "law.go:70", after := #[{ on := 5, ground := Ground.data }, { on := 3, ground := Ground.guard }], guard := some (3, true) }) (v := .bool true) rfl (by kernel_rfl) (by kernel_rfl) (by kernel_rfl) (fun _ _ _ h => h) (Or.inl ⟨by rfl, fun W hW => ?_⟩) hHeld0 ?_
          · (clear hW; go_simp)
          try simp only [Act.put, List.setIfInBounds_toArray, List.set_cons_zero, List.set_cons_succ]
          refine wpAnyH_take (i := 7) (oi := { dst := some 91, op := Op.pick (Operand.tmp 87) (Operand.tmp 90) (Operand.const (Value.bool false)), type := 4, pos := "law.go:70", after := #[{ on := 3, ground := Ground.data }, { on := 6, ground := Ground.data }], guard := none }) (v := ?tk38) rfl (by kernel_rfl) (by kernel_rfl) (by kernel_rfl) (fun _ _ _ h => h) (Or.inl ⟨by rfl, ?tw38⟩) hHeld0 ?_
          case tw38 => (intro W hW; clear hW; first | (go_simp; done) | (go_simp; with_reducible rfl))
          try simp only [Act.put, List.setIfInBounds_toArray, List.set_cons_zero, List.set_cons_succ]
          refine wpAnyH_take (i := 8) (oi := { dst := some 92, op := Op.move (Operand.tmp 91), type := 4, pos := "law.go:70", after := #[{ on := 7, ground := Ground.data }, { on := 3, ground := Ground.chain }], guard := none }) (v := ?tk39) rfl (by kernel_rfl) (by kernel_rfl) (by kernel_rfl) (fun _ _ _ h => h) (Or.inl ⟨by rfl, ?tw39⟩) hHeld0 ?_
          case tw39 => (intro W hW; clear hW; first | (go_simp; done) | (go_simp; with_reducible rfl))
          try simp only [Act.put, List.setIfInBounds_toArray, List.set_cons_zero, List.set_cons_succ]
          refine wpAnyH_take (i := 9) (oi := { dst := some 93, op := Op.move (Operand.tmp 16), type := 22, pos := "law.go:70", after := #[{ on := 8, ground := Ground.guard }], guard := some (8, true) }) (v := ?tk40) rfl (by kernel_rfl) (by kernel_rfl) (by kernel_rfl) (fun _ _ _ h => h) (Or.inl ⟨by rfl, ?tw40⟩) hHeld0 ?_
          case tw40 => (intro W hW; clear hW; first | (go_simp; done) | (go_simp; with_reducible rfl))
          try simp only [Act.put, List.setIfInBounds_toArray, List.set_cons_zero, List.set_cons_succ]
          refine wpAnyH_take (i := 10) (oi := { dst := some 94, op := Op.convert 22 9 (Operand.tmp 93), type := 9, pos := "law.go:70", after := #[{ on := 9, ground := Ground.data }, { on := 8, ground := Ground.guard }], guard := some (8, true) }) (v := .string (strOf zs)) rfl (by kernel_rfl) (by kernel_rfl) (by kernel_rfl) (fun _ _ _ h => h) (Or.inl ⟨by rfl, fun W hW => ?_⟩) hHeld0 ?_
          · (have hst := str_bytes hW.2 HZN.out; clear hW; go_simp)
          try simp only [Act.put, List.setIfInBounds_toArray, List.set_cons_zero, List.set_cons_succ]
          refine wpAnyH_take (i := 11) (oi := { dst := some 95, op := Op.move (Operand.tmp 13), type := 22, pos := "law.go:70", after := #[{ on := 8, ground := Ground.guard }], guard := some (8, true) }) (v := ?tk41) rfl (by kernel_rfl) (by kernel_rfl) (by kernel_rfl) (fun _ _ _ h => h) (Or.inl ⟨by rfl, ?tw41⟩) hHeld0 ?_
          case tw41 => (intro W hW; clear hW; first | (go_simp; done) | (go_simp; with_reducible rfl))
          try simp only [Act.put, List.setIfInBounds_toArray, List.set_cons_zero, List.set_cons_succ]
          refine wpAnyH_take (i := 12) (oi := { dst := some 96, op := Op.move (Operand.tmp 16), type := 22, pos := "law.go:70", after := #[{ on := 8, ground := Ground.guard }], guard := some (8, true) }) (v := ?tk42) rfl (by kernel_rfl) (by kernel_rfl) (by kernel_rfl) (fun _ _ _ h => h) (Or.inl ⟨by rfl, ?tw42⟩) hHeld0 ?_
          case tw42 => (intro W hW; clear hW; first | (go_simp; done) | (go_simp; with_reducible rfl))
          try simp only [Act.put, List.setIfInBounds_toArray, List.set_cons_zero, List.set_cons_succ]
          refine wpAnyH_take (i := 13) (oi := { dst := some 97, op := Op.call { callee := Callee.builtin Builtin.len, args := #[Operand.tmp 96], argTypes := #[22] }, type := 3, pos := "law.go:70", after := #[{ on := 12, ground := Ground.data }, { on := 8, ground := Ground.guard }], guard := some (8, true) }) (v := ?tk43) rfl (by kernel_rfl) (by kernel_rfl) (by kernel_rfl) (fun _ _ _ h => h) (Or.inl ⟨by rfl, ?tw43⟩) hHeld0 ?_
          case tw43 => (intro W hW; clear hW; first | (go_simp; done) | (go_simp; with_reducible rfl))
          try simp only [Act.put, List.setIfInBounds_toArray, List.set_cons_zero, List.set_cons_succ]
          refine wpAnyH_take (i := 14) (oi := { dst := some 98, op := Op.call { callee := Callee.builtin Builtin.min, args := #[Operand.tmp 97, Operand.const (Value.int IntKind.i64 32)], argTypes := #[3, 3] }, type := 3, pos := "law.go:70", after := #[{ on := 13, ground := Ground.data }, { on := 8, ground := Ground.guard }], guard := some (8, true) }) (v := .int .i64 (L : Nat)) rfl (by kernel_rfl) (by kernel_rfl) (by kernel_rfl) (fun _ _ _ h => h) (Or.inl ⟨by rfl, fun W hW => ?_⟩) hHeld0 ?_
          · (clear hW; go_simp)
          try simp only [Act.put, List.setIfInBounds_toArray, List.set_cons_zero, List.set_cons_succ]
          refine wpAnyH_take (i := 15) (oi := { dst := some 99, op := Op.slice 22 (Operand.tmp 95) none (some (Operand.tmp 98)) none, type := 22, pos := "law.go:70", after := #[{ on := 11, ground := Ground.data }, { on := 14, ground := Ground.data }, { on := 8, ground := Ground.guard }], guard := some (8, true) }) (v := .slice (some ⟨gw, 0, none⟩) L 32) rfl (by kernel_rfl) (by kernel_rfl) (by kernel_rfl) (fun _ _ _ h => h) (Or.inl ⟨by rfl, fun W hW => ?_⟩) hHeld0 ?_
          · (have hst := hsw W; clear hW; go_simp)
          try simp only [Act.put, List.setIfInBounds_toArray, List.set_cons_zero, List.set_cons_succ]
          refine wpAnyH_take (i := 16) (oi := { dst := some 100, op := Op.convert 22 9 (Operand.tmp 99), type := 9, pos := "law.go:70", after := #[{ on := 15, ground := Ground.data }, { on := 8, ground := Ground.guard }], guard := some (8, true) }) (v := .string (strOf (O.take L))) rfl (by kernel_rfl) (by kernel_rfl) (by kernel_rfl) (fun _ _ _ h => h) (Or.inl ⟨by rfl, fun W hW => ?_⟩) hHeld0 ?_
          · (have hst := HTK.out W hW.1; clear hW; go_simp)
          try simp only [Act.put, List.setIfInBounds_toArray, List.set_cons_zero, List.set_cons_succ]
          refine wpAnyH_take (i := 17) (oi := { dst := some 101, op := Op.binOp BinOp.eql 9 (Operand.tmp 94) (Operand.tmp 100) 9, type := 4, pos := "law.go:70", after := #[{ on := 10, ground := Ground.data }, { on := 16, ground := Ground.data }, { on := 8, ground := Ground.guard }], guard := some (8, true) }) (v := .bool true) rfl (by kernel_rfl) (by kernel_rfl) (by kernel_rfl) (fun _ _ _ h => h) (Or.inl ⟨by rfl, fun W hW => ?_⟩) hHeld0 ?_
          · (have hst := HQ3.out; clear hW; go_simp; exact HC3.out)
          try simp only [Act.put, List.setIfInBounds_toArray, List.set_cons_zero, List.set_cons_succ]
          refine wpAnyH_take (i := 18) (oi := { dst := some 102, op := Op.pick (Operand.tmp 92) (Operand.tmp 101) (Operand.const (Value.bool false)), type := 4, pos := "law.go:70", after := #[{ on := 8, ground := Ground.data }, { on := 17, ground := Ground.data }], guard := none }) (v := ?tk44) rfl (by kernel_rfl) (by kernel_rfl) (by kernel_rfl) (fun _ _ _ h => h) (Or.inl ⟨by rfl, ?tw44⟩) hHeld0 ?_
          case tw44 => (intro W hW; clear hW; first | (go_simp; done) | (go_simp; with_reducible rfl))
          try simp only [Act.put, List.setIfInBounds_toArray, List.set_cons_zero, List.set_cons_succ]
          refine wpAnyH_take (i := 19) (oi := { dst := some 17, op := Op.assign (Operand.tmp 102), type := 4, pos := "law.go:70", after := #[{ on := 18, ground := Ground.data }, { on := 8, ground := Ground.chain }, { on := 0, ground := Ground.phase }, { on := 1, ground := Ground.phase }, { on := 2, ground := Ground.phase }, { on := 3, ground := Ground.phase }, { on := 4, ground := Ground.phase }, { on := 5, ground := Ground.phase }, { on := 6, ground := Ground.phase }, { on := 7, ground := Ground.phase }, { on := 8, ground := Ground.phase }, { on := 9, ground := Ground.phase }, { on := 10, ground := Ground.phase }, { on := 11, ground := Ground.phase }, { on := 12, ground := Ground.phase }, { on := 13, ground := Ground.phase }, { on := 14, ground := Ground.phase }, { on := 15, ground := Ground.phase }, { on := 16, ground := Ground.phase }, { on := 17, ground := Ground.phase }, { on := 18, ground := Ground.phase }], guard := none }) (v := ?tk45) rfl (by kernel_rfl) (by kernel_rfl) (by kernel_rfl) (fun _ _ _ h => h) (Or.inl ⟨by rfl, ?tw45⟩) hHeld0 ?_
          case tw45 => (intro W hW; clear hW; first | (go_simp; done) | (go_simp; with_reducible rfl))
          try simp only [Act.put, List.setIfInBounds_toArray, List.set_cons_zero, List.set_cons_succ]
          refine wpAnyH_done (by kernel_rfl) ?_ _
          refine NoPanic.normal ?_
          have Hb13 := Lib.hid (show Below V.heap.size V x0 from HbX_0.out)
          have HS13 := Lib.hid Hs_0.out
          have HW13 := Lib.hid Hw_0.out
          have HL13 := Lib.hid HL_0.out
          clear Hs_0 Hw_0 HL_0 hHeld0
          go_wp2_with fail
          refine (HCK3.out _ HL13.out HS13.out).mono ?_
          rintro e x8 ⟨rfl, hb8⟩
          have HS8 := Lib.hid (HS13.out.kept hb8)
          have HW8 := Lib.hid (keptW hb8 HW13.out)
          have HL8 := Lib.hid (HL13.out.trans (hb8.mono HL13.out.size))
          have HVB8 := Lib.hid ((Hb13.out).trans (hb8.mono Hb13.out.size))
          clear hb8 HS13 HW13 HL13
          go_upto_region 17 with fail
          have Hs_0 := Lib.hid (show BytesAt zs (.slice ak L ck) x8.drew from HS8.out.kept (Below.refl _ _).drew)
          have Hw_0 := Lib.hid (show rowN x8.drew gw = some (arr .u8 O) from HW8.out)
          have Hk_0 := Lib.hid (show BytesAt key (.slice ka K kc) x8.drew from HKB.out.kept HL8.out.drew)
          have HL_0 := Lib.hid (show Below w.heap.size w x8.drew from HL8.out.drew)
          clear HS8 HW8 HL8
          have Hb_0 := Lib.hid (show Below V.heap.size V x8.drew from HVB8.out.drew)
          refine wp_region_noPanic ?_
          refine wp_region_held_drew (S := fun W => rowN W gw = some (arr .u8 O) ∧ BytesAt zs (.slice ak L ck) W ∧ BytesAt key (.slice ka K kc) W) (by kernel_rfl) ⟨Hw_0.out, Hs_0.out, Hk_0.out⟩ (fun hHeld0 => ?_)
          obtain ⟨x0, hx0⟩ : ∃ X, x8.drew = X := ⟨_, rfl⟩
          rw [hx0] at Hw_0 Hs_0 Hk_0 Hb_0 HL_0 hHeld0 ⊢
          clear hx0
          refine wpAnyH_take (i := 0) (oi := { dst := some 120, op := Op.move (Operand.tmp 16), type := 22, pos := "law.go:75", after := #[], guard := none }) (v := ?tk46) rfl (by kernel_rfl) (by kernel_rfl) (by kernel_rfl) (fun _ _ _ h => h) (Or.inl ⟨by rfl, ?tw46⟩) hHeld0 ?_
          case tw46 => (intro W hW; clear hW; first | (go_simp; done) | (go_simp; with_reducible rfl))
          try simp only [Act.put, List.setIfInBounds_toArray, List.set_cons_zero, List.set_cons_succ]
          refine wpAnyH_take (i := 1) (oi := { dst := some 121, op := Op.move (Operand.tmp 13), type := 22, pos := "law.go:75", after := #[], guard := none }) (v := ?tk47) rfl (by kernel_rfl) (by kernel_rfl) (by kernel_rfl) (fun _ _ _ h => h) (Or.inl ⟨by rfl, ?tw47⟩) hHeld0 ?_
          case tw47 => (intro W hW; clear hW; first | (go_simp; done) | (go_simp; with_reducible rfl))
          try simp only [Act.put, List.setIfInBounds_toArray, List.set_cons_zero, List.set_cons_succ]
          refine wpAnyH_take (i := 3) (oi := { dst := some 123, op := Op.move (Operand.tmp 16), type := 22, pos := "law.go:75", after := #[], guard := none }) (v := ?tk48) rfl (by kernel_rfl) (by kernel_rfl) (by kernel_rfl) (fun _ _ _ h => h) (Or.inl ⟨by rfl, ?tw48⟩) hHeld0 ?_
          case tw48 => (intro W hW; clear hW; first | (go_simp; done) | (go_simp; with_reducible rfl))
          try simp only [Act.put, List.setIfInBounds_toArray, List.set_cons_zero, List.set_cons_succ]
          refine wpAnyH_take (i := 4) (oi := { dst := some 124, op := Op.convert 22 9 (Operand.tmp 123), type := 9, pos := "law.go:75", after := #[{ on := 3, ground := Ground.data }], guard := none }) (v := .string (strOf zs)) rfl (by kernel_rfl) (by kernel_rfl) (by kernel_rfl) (fun _ _ _ h => h) (Or.inl ⟨by rfl, fun W hW => ?_⟩) hHeld0 ?_
          · (have hst := str_bytes hW.2.1 HZN.out; clear hW; go_simp)
          try simp only [Act.put, List.setIfInBounds_toArray, List.set_cons_zero, List.set_cons_succ]
          refine wpAnyH_take (i := 5) (oi := { dst := some 125, op := Op.move (Operand.tmp 13), type := 22, pos := "law.go:75", after := #[], guard := none }) (v := ?tk49) rfl (by kernel_rfl) (by kernel_rfl) (by kernel_rfl) (fun _ _ _ h => h) (Or.inl ⟨by rfl, ?tw49⟩) hHeld0 ?_
          case tw49 => (intro W hW; clear hW; first | (go_simp; done) | (go_simp; with_reducible rfl))
          try simp only [Act.put, List.setIfInBounds_toArray, List.set_cons_zero, List.set_cons_succ]
          refine wpAnyH_take (i := 6) (oi := { dst := some 126, op := Op.convert 22 9 (Operand.tmp 125), type := 9, pos := "law.go:75", after := #[{ on := 5, ground := Ground.data }], guard := none }) (v := .string (strOf O)) rfl (by kernel_rfl) (by kernel_rfl) (by kernel_rfl) (fun _ _ _ h => h) (Or.inl ⟨by rfl, fun W hW => ?_⟩) hHeld0 ?_
          · (have hst := str_arr hW.1 HO32.out; clear hW; go_simp)
          try simp only [Act.put, List.setIfInBounds_toArray, List.set_cons_zero, List.set_cons_succ]
          refine wpAnyH_take (i := 7) (oi := { dst := some 127, op := Op.binOp BinOp.eql 9 (Operand.tmp 124) (Operand.tmp 126) 9, type := 4, pos := "law.go:75", after := #[{ on := 4, ground := Ground.data }, { on := 6, ground := Ground.data }], guard := none }) (v := .bool b1) rfl (by kernel_rfl) (by kernel_rfl) (by kernel_rfl) (fun _ _ _ h => h) (Or.inl ⟨by rfl, fun W hW => ?_⟩) hHeld0 ?_
          · (have hst := HQ1.out; clear hW; go_simp)
          try simp only [Act.put, List.setIfInBounds_toArray, List.set_cons_zero, List.set_cons_succ]
          refine wpAnyH_ready (rs := [2]) (by kernel_rfl) (by simp) ?_
          refine AllReadyH.cons (o := { dst := some 122, op := Op.call { callee := Callee.value (Operand.func 14), args := #[Operand.tmp 120, Operand.tmp 121], argTypes := #[22, 22] }, type := 4, pos := "law.go:75", after := #[{ on := 0, ground := Ground.data }, { on := 1, ground := Ground.data }], guard := none }) rfl (fun K' hK => ?_) AllReadyH.nil
          go_simp
          refine ((HE1.out _ Hs_0.out Hw_0.out)).mono ?_
          rintro e x1 ⟨rfl, hb⟩
          have Hw_1 := Lib.hid (keptW hb Hw_0.out)
          have Hs_1 := Lib.hid (Hs_0.out.kept hb)
          have Hk_1 := Lib.hid (Hk_0.out.kept hb)
          have Hb_1 := Lib.hid (bthen Hb_0.out hb)
          have HL_1 := Lib.hid (HL_0.out.trans (hb.mono HL_0.out.size))
          clear hb
          refine hK.out _ _ ⟨Hw_1.out, Hs_1.out, Hk_1.out⟩ (fun hHeld1 => ?_)
          clear hK K'
          try simp only [Act.put, List.setIfInBounds_toArray, List.set_cons_zero, List.set_cons_succ]
          refine wpAnyH_take (i := 8) (oi := { dst := some 128, op := Op.binOp BinOp.neq 4 (Operand.tmp 122) (Operand.tmp 127) 4, type := 4, pos := "law.go:75", after := #[{ on := 2, ground := Ground.data }, { on := 7, ground := Ground.data }], guard := none }) (v := .bool false) rfl (by kernel_rfl) (by kernel_rfl) (by kernel_rfl) (fun _ _ _ h => h) (Or.inl ⟨by rfl, fun W hW => ?_⟩) hHeld1 ?_
          · (clear hW; cases b1 <;> go_simp)
          try simp only [Act.put, List.setIfInBounds_toArray, List.set_cons_zero, List.set_cons_succ]
          refine wpAnyH_take (i := 9) (oi := { dst := some 129, op := Op.move (Operand.tmp 128), type := 4, pos := "law.go:75", after := #[{ on := 8, ground := Ground.data }, { on := 2, ground := Ground.chain }], guard := none }) (v := ?tk50) rfl (by kernel_rfl) (by kernel_rfl) (by kernel_rfl) (fun _ _ _ h => h) (Or.inl ⟨by rfl, ?tw50⟩) hHeld1 ?_
          case tw50 => (intro W hW; clear hW; first | (go_simp; done) | (go_simp; with_reducible rfl))
          try simp only [Act.put, List.setIfInBounds_toArray, List.set_cons_zero, List.set_cons_succ]
          refine wpAnyH_take (i := 10) (oi := { dst := some 130, op := Op.move (Operand.tmp 16), type := 22, pos := "law.go:75", after := #[{ on := 9, ground := Ground.guard }], guard := some (9, false) }) (v := ?tk51) rfl (by kernel_rfl) (by kernel_rfl) (by kernel_rfl) (fun _ _ _ h => h) (Or.inl ⟨by rfl, ?tw51⟩) hHeld1 ?_
          case tw51 => (intro W hW; clear hW; first | (go_simp; done) | (go_simp; with_reducible rfl))
          try simp only [Act.put, List.setIfInBounds_toArray, List.set_cons_zero, List.set_cons_succ]
          refine wpAnyH_take (i := 11) (oi := { dst := some 131, op := Op.move (Operand.tmp 0), type := 22, pos := "law.go:75", after := #[{ on := 9, ground := Ground.guard }], guard := some (9, false) }) (v := ?tk52) rfl (by kernel_rfl) (by kernel_rfl) (by kernel_rfl) (fun _ _ _ h => h) (Or.inl ⟨by rfl, ?tw52⟩) hHeld1 ?_
          case tw52 => (intro W hW; clear hW; first | (go_simp; done) | (go_simp; with_reducible rfl))
          try simp only [Act.put, List.setIfInBounds_toArray, List.set_cons_zero, List.set_cons_succ]
          refine wpAnyH_take (i := 13) (oi := { dst := some 133, op := Op.move (Operand.tmp 16), type := 22, pos := "law.go:75", after := #[{ on := 9, ground := Ground.guard }], guard := some (9, false) }) (v := ?tk53) rfl (by kernel_rfl) (by kernel_rfl) (by kernel_rfl) (fun _ _ _ h => h) (Or.inl ⟨by rfl, ?tw53⟩) hHeld1 ?_
          case tw53 => (intro W hW; clear hW; first | (go_simp; done) | (go_simp; with_reducible rfl))
          try simp only [Act.put, List.setIfInBounds_toArray, List.set_cons_zero, List.set_cons_succ]
          refine wpAnyH_take (i := 14) (oi := { dst := some 134, op := Op.convert 22 9 (Operand.tmp 133), type := 9, pos := "law.go:75", after := #[{ on := 13, ground := Ground.data }, { on := 9, ground := Ground.guard }], guard := some (9, false) }) (v := .string (strOf zs)) rfl (by kernel_rfl) (by kernel_rfl) (by kernel_rfl) (fun _ _ _ h => h) (Or.inl ⟨by rfl, fun W hW => ?_⟩) hHeld1 ?_
          · (have hst := str_bytes hW.2.1 HZN.out; clear hW; go_simp)
          try simp only [Act.put, List.setIfInBounds_toArray, List.set_cons_zero, List.set_cons_succ]
          refine wpAnyH_take (i := 15) (oi := { dst := some 135, op := Op.move (Operand.tmp 0), type := 22, pos := "law.go:75", after := #[{ on := 9, ground := Ground.guard }], guard := some (9, false) }) (v := ?tk54) rfl (by kernel_rfl) (by kernel_rfl) (by kernel_rfl) (fun _ _ _ h => h) (Or.inl ⟨by rfl, ?tw54⟩) hHeld1 ?_
          case tw54 => (intro W hW; clear hW; first | (go_simp; done) | (go_simp; with_reducible rfl))
          try simp only [Act.put, List.setIfInBounds_toArray, List.set_cons_zero, List.set_cons_succ]
          refine wpAnyH_take (i := 16) (oi := { dst := some 136, op := Op.convert 22 9 (Operand.tmp 135), type := 9, pos := "law.go:75", after := #[{ on := 15, ground := Ground.data }, { on := 9, ground := Ground.guard }], guard := some (9, false) }) (v := .string (strOf key)) rfl (by kernel_rfl) (by kernel_rfl) (by kernel_rfl) (fun _ _ _ h => h) (Or.inl ⟨by rfl, fun W hW => ?_⟩) hHeld1 ?_
          · (have hst := str_bytes hW.2.2 HKN.out; clear hW; go_simp)
          try simp only [Act.put, List.setIfInBounds_toArray, List.set_cons_zero, List.set_cons_succ]
          refine wpAnyH_take (i := 17) (oi := { dst := some 137, op := Op.binOp BinOp.eql 9 (Operand.tmp 134) (Operand.tmp 136) 9, type := 4, pos := "law.go:75", after := #[{ on := 14, ground := Ground.data }, { on := 16, ground := Ground.data }, { on := 9, ground := Ground.guard }], guard := some (9, false) }) (v := .bool b2) rfl (by kernel_rfl) (by kernel_rfl) (by kernel_rfl) (fun _ _ _ h => h) (Or.inl ⟨by rfl, fun W hW => ?_⟩) hHeld1 ?_
          · (have hst := HQ2.out; clear hW; go_simp)
          try simp only [Act.put, List.setIfInBounds_toArray, List.set_cons_zero, List.set_cons_succ]
          refine wpAnyH_ready (rs := [12]) (by kernel_rfl) (by simp) ?_
          refine AllReadyH.cons (o := { dst := some 132, op := Op.call { callee := Callee.value (Operand.func 14), args := #[Operand.tmp 130, Operand.tmp 131], argTypes := #[22, 22] }, type := 4, pos := "law.go:75", after := #[{ on := 10, ground := Ground.data }, { on := 11, ground := Ground.data }, { on := 9, ground := Ground.chain }, { on := 9, ground := Ground.guard }], guard := some (9, false) }) rfl (fun K' hK => ?_) AllReadyH.nil
          go_simp
          refine ((HE2.out _ Hs_1.out HL_1.out)).mono ?_
          rintro e x2 ⟨rfl, hb⟩
          have Hw_2 := Lib.hid (keptW hb Hw_1.out)
          have Hs_2 := Lib.hid (Hs_1.out.kept hb)
          have Hk_2 := Lib.hid (Hk_1.out.kept hb)
          have Hb_2 := Lib.hid (bthen Hb_1.out hb)
          have HL_2 := Lib.hid (HL_1.out.trans (hb.mono HL_1.out.size))
          clear hb
          refine hK.out _ _ ⟨Hw_2.out, Hs_2.out, Hk_2.out⟩ (fun hHeld2 => ?_)
          clear hK K'
          try simp only [Act.put, List.setIfInBounds_toArray, List.set_cons_zero, List.set_cons_succ]
          refine wpAnyH_take (i := 18) (oi := { dst := some 138, op := Op.binOp BinOp.neq 4 (Operand.tmp 132) (Operand.tmp 137) 4, type := 4, pos := "law.go:75", after := #[{ on := 12, ground := Ground.data }, { on := 17, ground := Ground.data }, { on := 9, ground := Ground.guard }], guard := some (9, false) }) (v := .bool false) rfl (by kernel_rfl) (by kernel_rfl) (by kernel_rfl) (fun _ _ _ h => h) (Or.inl ⟨by rfl, fun W hW => ?_⟩) hHeld2 ?_
          · (clear hW; cases b2 <;> go_simp)
          try simp only [Act.put, List.setIfInBounds_toArray, List.set_cons_zero, List.set_cons_succ]
          refine wpAnyH_take (i := 19) (oi := { dst := some 139, op := Op.pick (Operand.tmp 129) (Operand.const (Value.bool true)) (Operand.tmp 138), type := 4, pos := "law.go:75", after := #[{ on := 9, ground := Ground.data }, { on := 18, ground := Ground.data }], guard := none }) (v := ?tk55) rfl (by kernel_rfl) (by kernel_rfl) (by kernel_rfl) (fun _ _ _ h => h) (Or.inl ⟨by rfl, ?tw55⟩) hHeld2 ?_
          case tw55 => (intro W hW; clear hW; first | (go_simp; done) | (go_simp; with_reducible rfl))
          try simp only [Act.put, List.setIfInBounds_toArray, List.set_cons_zero, List.set_cons_succ]
          refine wpAnyH_done (by kernel_rfl) ?_ _
          refine NoPanic.normal ?_
          have HLE := Lib.hid HL_2.out
          have HBE := Lib.hid Hb_2.out
          clear hHeld2
          go_wp2_with fail
          first | (refine ⟨?_, by simp [intOf]; omega⟩; exact ⟨k + 1, by omega, rfl, HBE.out⟩) | trace_state
        · have hQ3 : ((strOf zs).toList == (strOf (O.take L)).toList) = false := by rw [hcs]; exact decide_eq_false hc3
          have HQ3 := Lib.hid hQ3
          have HC3 := Lib.hid hc3
          have HCK3 := Lib.hid (fun (X : World) (hb : Below w.heap.size w X) (h1 : BytesAt zs (.slice ak L ck) X) => show Calls Tryd.prog 13 #[.slice ka K kc, .slice ak L ck, v] X (fun e w' => e = .returned (.int .i64 10) ∧ Below X.heap.size X w') from by
            have h := HCK2.out X hb h1 hLo hLu
            rw [if_neg hc3] at h; exact h)
          clear hc3 hcs hQ3
          go_upto_region 13 with fail
          have Hs_0 := Lib.hid (show BytesAt zs (.slice ak L ck) wr.drew from HZB.out.kept (Below.refl _ _).drew)
          have Hw_0 := Lib.hid (show rowN wr.drew gw = some (arr .u8 O) from HRK.out)
          have HL_0 := Lib.hid (show Below w.heap.size w wr.drew from HBW.out.drew)
          clear hsc1
          have HbX_0 := Lib.hid (show Below V.heap.size V wr.drew from HB.out.drew)
          refine wp_region_noPanic ?_
          refine wp_region_held_drew (S := fun W => rowN W gw = some (arr .u8 O) ∧ BytesAt zs (.slice ak L ck) W) (by kernel_rfl) ⟨Hw_0.out, Hs_0.out⟩ (fun hHeld0 => ?_)
          obtain ⟨x0, hx0⟩ : ∃ X, wr.drew = X := ⟨_, rfl⟩
          rw [hx0] at Hw_0 Hs_0 HbX_0 HL_0 hHeld0 ⊢
          clear hx0
          refine wpAnyH_take (i := 0) (oi := { dst := some 84, op := Op.move (Operand.tmp 16), type := 22, pos := "law.go:70", after := #[], guard := none }) (v := ?tk56) rfl (by kernel_rfl) (by kernel_rfl) (by kernel_rfl) (fun _ _ _ h => h) (Or.inl ⟨by rfl, ?tw56⟩) hHeld0 ?_
          case tw56 => (intro W hW; clear hW; first | (go_simp; done) | (go_simp; with_reducible rfl))
          try simp only [Act.put, List.setIfInBounds_toArray, List.set_cons_zero, List.set_cons_succ]
          refine wpAnyH_take (i := 1) (oi := { dst := some 85, op := Op.call { callee := Callee.builtin Builtin.len, args := #[Operand.tmp 84], argTypes := #[22] }, type := 3, pos := "law.go:70", after := #[{ on := 0, ground := Ground.data }], guard := none }) (v := ?tk57) rfl (by kernel_rfl) (by kernel_rfl) (by kernel_rfl) (fun _ _ _ h => h) (Or.inl ⟨by rfl, ?tw57⟩) hHeld0 ?_
          case tw57 => (intro W hW; clear hW; first | (go_simp; done) | (go_simp; with_reducible rfl))
          try simp only [Act.put, List.setIfInBounds_toArray, List.set_cons_zero, List.set_cons_succ]
          refine wpAnyH_take (i := 2) (oi := { dst := some 86, op := Op.binOp BinOp.gtr 3 (Operand.tmp 85) (Operand.const (Value.int IntKind.i64 0)) 3, type := 4, pos := "law.go:70", after := #[{ on := 1, ground := Ground.data }], guard := none }) (v := .bool true) rfl (by kernel_rfl) (by kernel_rfl) (by kernel_rfl) (fun _ _ _ h => h) (Or.inl ⟨by rfl, fun W hW => ?_⟩) hHeld0 ?_
          · (clear hW; go_simp)
          try simp only [Act.put, List.setIfInBounds_toArray, List.set_cons_zero, List.set_cons_succ]
          refine wpAnyH_take (i := 3) (oi := { dst := some 87, op := Op.move (Operand.tmp 86), type := 4, pos := "law.go:70", after := #[{ on := 2, ground := Ground.data }], guard := none }) (v := ?tk58) rfl (by kernel_rfl) (by kernel_rfl) (by kernel_rfl) (fun _ _ _ h => h) (Or.inl ⟨by rfl, ?tw58⟩) hHeld0 ?_
          case tw58 => (intro W hW; clear hW; first | (go_simp; done) | (go_simp; with_reducible rfl))
          try simp only [Act.put, List.setIfInBounds_toArray, List.set_cons_zero, List.set_cons_succ]
          refine wpAnyH_take (i := 4) (oi := { dst := some 88, op := Op.move (Operand.tmp 16), type := 22, pos := "law.go:70", after := #[{ on := 3, ground := Ground.guard }], guard := some (3, true) }) (v := ?tk59) rfl (by kernel_rfl) (by kernel_rfl) (by kernel_rfl) (fun _ _ _ h => h) (Or.inl ⟨by rfl, ?tw59⟩) hHeld0 ?_
          case tw59 => (intro W hW; clear hW; first | (go_simp; done) | (go_simp; with_reducible rfl))
          try simp only [Act.put, List.setIfInBounds_toArray, List.set_cons_zero, List.set_cons_succ]
          refine wpAnyH_take (i := 5) (oi := { dst := some 89, op := Op.call { callee := Callee.builtin Builtin.len, args := #[Operand.tmp 88], argTypes := #[22] }, type := 3, pos := "law.go:70", after := #[{ on := 4, ground := Ground.data }, { on := 3, ground := Ground.guard }], guard := some (3, true) }) (v := ?tk60) rfl (by kernel_rfl) (by kernel_rfl) (by kernel_rfl) (fun _ _ _ h => h) (Or.inl ⟨by rfl, ?tw60⟩) hHeld0 ?_
          case tw60 => (intro W hW; clear hW; first | (go_simp; done) | (go_simp; with_reducible rfl))
          try simp only [Act.put, List.setIfInBounds_toArray, List.set_cons_zero, List.set_cons_succ]
          refine wpAnyH_take (i := 6) (oi := { dst := some 90, op := Op.binOp BinOp.leq 3 (Operand.tmp 89) (Operand.const (Value.int IntKind.i64 32)) 3, type := 4, pos := "law.go:70", after := #[{ on := 5, ground := Ground.data }, { on := 3, ground := Ground.guard }], guard := some (3, true) }) (v := .bool true) rfl (by kernel_rfl) (by kernel_rfl) (by kernel_rfl) (fun _ _ _ h => h) (Or.inl ⟨by rfl, fun W hW => ?_⟩) hHeld0 ?_
          · (clear hW; go_simp)
          try simp only [Act.put, List.setIfInBounds_toArray, List.set_cons_zero, List.set_cons_succ]
          refine wpAnyH_take (i := 7) (oi := { dst := some 91, op := Op.pick (Operand.tmp 87) (Operand.tmp 90) (Operand.const (Value.bool false)), type := 4, pos := "law.go:70", after := #[{ on := 3, ground := Ground.data }, { on := 6, ground := Ground.data }], guard := none }) (v := ?tk61) rfl (by kernel_rfl) (by kernel_rfl) (by kernel_rfl) (fun _ _ _ h => h) (Or.inl ⟨by rfl, ?tw61⟩) hHeld0 ?_
          case tw61 => (intro W hW; clear hW; first | (go_simp; done) | (go_simp; with_reducible rfl))
          try simp only [Act.put, List.setIfInBounds_toArray, List.set_cons_zero, List.set_cons_succ]
          refine wpAnyH_take (i := 8) (oi := { dst := some 92, op := Op.move (Operand.tmp 91), type := 4, pos := "law.go:70", after := #[{ on := 7, ground := Ground.data }, { on := 3, ground := Ground.chain }], guard := none }) (v := ?tk62) rfl (by kernel_rfl) (by kernel_rfl) (by kernel_rfl) (fun _ _ _ h => h) (Or.inl ⟨by rfl, ?tw62⟩) hHeld0 ?_
          case tw62 => (intro W hW; clear hW; first | (go_simp; done) | (go_simp; with_reducible rfl))
          try simp only [Act.put, List.setIfInBounds_toArray, List.set_cons_zero, List.set_cons_succ]
          refine wpAnyH_take (i := 9) (oi := { dst := some 93, op := Op.move (Operand.tmp 16), type := 22, pos := "law.go:70", after := #[{ on := 8, ground := Ground.guard }], guard := some (8, true) }) (v := ?tk63) rfl (by kernel_rfl) (by kernel_rfl) (by kernel_rfl) (fun _ _ _ h => h) (Or.inl ⟨by rfl, ?tw63⟩) hHeld0 ?_
          case tw63 => (intro W hW; clear hW; first | (go_simp; done) | (go_simp; with_reducible rfl))
          try simp only [Act.put, List.setIfInBounds_toArray, List.set_cons_zero, List.set_cons_succ]
          refine wpAnyH_take (i := 10) (oi := { dst := some 94, op := Op.convert 22 9 (Operand.tmp 93), type := 9, pos := "law.go:70", after := #[{ on := 9, ground := Ground.data }, { on := 8, ground := Ground.guard }], guard := some (8, true) }) (v := .string (strOf zs)) rfl (by kernel_rfl) (by kernel_rfl) (by kernel_rfl) (fun _ _ _ h => h) (Or.inl ⟨by rfl, fun W hW => ?_⟩) hHeld0 ?_
          · (have hst := str_bytes hW.2 HZN.out; clear hW; go_simp)
          try simp only [Act.put, List.setIfInBounds_toArray, List.set_cons_zero, List.set_cons_succ]
          refine wpAnyH_take (i := 11) (oi := { dst := some 95, op := Op.move (Operand.tmp 13), type := 22, pos := "law.go:70", after := #[{ on := 8, ground := Ground.guard }], guard := some (8, true) }) (v := ?tk64) rfl (by kernel_rfl) (by kernel_rfl) (by kernel_rfl) (fun _ _ _ h => h) (Or.inl ⟨by rfl, ?tw64⟩) hHeld0 ?_
          case tw64 => (intro W hW; clear hW; first | (go_simp; done) | (go_simp; with_reducible rfl))
          try simp only [Act.put, List.setIfInBounds_toArray, List.set_cons_zero, List.set_cons_succ]
          refine wpAnyH_take (i := 12) (oi := { dst := some 96, op := Op.move (Operand.tmp 16), type := 22, pos := "law.go:70", after := #[{ on := 8, ground := Ground.guard }], guard := some (8, true) }) (v := ?tk65) rfl (by kernel_rfl) (by kernel_rfl) (by kernel_rfl) (fun _ _ _ h => h) (Or.inl ⟨by rfl, ?tw65⟩) hHeld0 ?_
          case tw65 => (intro W hW; clear hW; first | (go_simp; done) | (go_simp; with_reducible rfl))
          try simp only [Act.put, List.setIfInBounds_toArray, List.set_cons_zero, List.set_cons_succ]
          refine wpAnyH_take (i := 13) (oi := { dst := some 97, op := Op.call { callee := Callee.builtin Builtin.len, args := #[Operand.tmp 96], argTypes := #[22] }, type := 3, pos := "law.go:70", after := #[{ on := 12, ground := Ground.data }, { on := 8, ground := Ground.guard }], guard := some (8, true) }) (v := ?tk66) rfl (by kernel_rfl) (by kernel_rfl) (by kernel_rfl) (fun _ _ _ h => h) (Or.inl ⟨by rfl, ?tw66⟩) hHeld0 ?_
          case tw66 => (intro W hW; clear hW; first | (go_simp; done) | (go_simp; with_reducible rfl))
          try simp only [Act.put, List.setIfInBounds_toArray, List.set_cons_zero, List.set_cons_succ]
          refine wpAnyH_take (i := 14) (oi := { dst := some 98, op := Op.call { callee := Callee.builtin Builtin.min, args := #[Operand.tmp 97, Operand.const (Value.int IntKind.i64 32)], argTypes := #[3, 3] }, type := 3, pos := "law.go:70", after := #[{ on := 13, ground := Ground.data }, { on := 8, ground := Ground.guard }], guard := some (8, true) }) (v := .int .i64 (L : Nat)) rfl (by kernel_rfl) (by kernel_rfl) (by kernel_rfl) (fun _ _ _ h => h) (Or.inl ⟨by rfl, fun W hW => ?_⟩) hHeld0 ?_
          · (clear hW; go_simp)
          try simp only [Act.put, List.setIfInBounds_toArray, List.set_cons_zero, List.set_cons_succ]
          refine wpAnyH_take (i := 15) (oi := { dst := some 99, op := Op.slice 22 (Operand.tmp 95) none (some (Operand.tmp 98)) none, type := 22, pos := "law.go:70", after := #[{ on := 11, ground := Ground.data }, { on := 14, ground := Ground.data }, { on := 8, ground := Ground.guard }], guard := some (8, true) }) (v := .slice (some ⟨gw, 0, none⟩) L 32) rfl (by kernel_rfl) (by kernel_rfl) (by kernel_rfl) (fun _ _ _ h => h) (Or.inl ⟨by rfl, fun W hW => ?_⟩) hHeld0 ?_
          · (have hst := hsw W; clear hW; go_simp)
          try simp only [Act.put, List.setIfInBounds_toArray, List.set_cons_zero, List.set_cons_succ]
          refine wpAnyH_take (i := 16) (oi := { dst := some 100, op := Op.convert 22 9 (Operand.tmp 99), type := 9, pos := "law.go:70", after := #[{ on := 15, ground := Ground.data }, { on := 8, ground := Ground.guard }], guard := some (8, true) }) (v := .string (strOf (O.take L))) rfl (by kernel_rfl) (by kernel_rfl) (by kernel_rfl) (fun _ _ _ h => h) (Or.inl ⟨by rfl, fun W hW => ?_⟩) hHeld0 ?_
          · (have hst := HTK.out W hW.1; clear hW; go_simp)
          try simp only [Act.put, List.setIfInBounds_toArray, List.set_cons_zero, List.set_cons_succ]
          refine wpAnyH_take (i := 17) (oi := { dst := some 101, op := Op.binOp BinOp.eql 9 (Operand.tmp 94) (Operand.tmp 100) 9, type := 4, pos := "law.go:70", after := #[{ on := 10, ground := Ground.data }, { on := 16, ground := Ground.data }, { on := 8, ground := Ground.guard }], guard := some (8, true) }) (v := .bool false) rfl (by kernel_rfl) (by kernel_rfl) (by kernel_rfl) (fun _ _ _ h => h) (Or.inl ⟨by rfl, fun W hW => ?_⟩) hHeld0 ?_
          · (have hst := HQ3.out; clear hW; go_simp; exact HC3.out)
          try simp only [Act.put, List.setIfInBounds_toArray, List.set_cons_zero, List.set_cons_succ]
          refine wpAnyH_take (i := 18) (oi := { dst := some 102, op := Op.pick (Operand.tmp 92) (Operand.tmp 101) (Operand.const (Value.bool false)), type := 4, pos := "law.go:70", after := #[{ on := 8, ground := Ground.data }, { on := 17, ground := Ground.data }], guard := none }) (v := ?tk67) rfl (by kernel_rfl) (by kernel_rfl) (by kernel_rfl) (fun _ _ _ h => h) (Or.inl ⟨by rfl, ?tw67⟩) hHeld0 ?_
          case tw67 => (intro W hW; clear hW; first | (go_simp; done) | (go_simp; with_reducible rfl))
          try simp only [Act.put, List.setIfInBounds_toArray, List.set_cons_zero, List.set_cons_succ]
          refine wpAnyH_take (i := 19) (oi := { dst := some 17, op := Op.assign (Operand.tmp 102), type := 4, pos := "law.go:70", after := #[{ on := 18, ground := Ground.data }, { on := 8, ground := Ground.chain }, { on := 0, ground := Ground.phase }, { on := 1, ground := Ground.phase }, { on := 2, ground := Ground.phase }, { on := 3, ground := Ground.phase }, { on := 4, ground := Ground.phase }, { on := 5, ground := Ground.phase }, { on := 6, ground := Ground.phase }, { on := 7, ground := Ground.phase }, { on := 8, ground := Ground.phase }, { on := 9, ground := Ground.phase }, { on := 10, ground := Ground.phase }, { on := 11, ground := Ground.phase }, { on := 12, ground := Ground.phase }, { on := 13, ground := Ground.phase }, { on := 14, ground := Ground.phase }, { on := 15, ground := Ground.phase }, { on := 16, ground := Ground.phase }, { on := 17, ground := Ground.phase }, { on := 18, ground := Ground.phase }], guard := none }) (v := ?tk68) rfl (by kernel_rfl) (by kernel_rfl) (by kernel_rfl) (fun _ _ _ h => h) (Or.inl ⟨by rfl, ?tw68⟩) hHeld0 ?_
          case tw68 => (intro W hW; clear hW; first | (go_simp; done) | (go_simp; with_reducible rfl))
          try simp only [Act.put, List.setIfInBounds_toArray, List.set_cons_zero, List.set_cons_succ]
          refine wpAnyH_done (by kernel_rfl) ?_ _
          refine NoPanic.normal ?_
          have Hb13 := Lib.hid (show Below V.heap.size V x0 from HbX_0.out)
          have HS13 := Lib.hid Hs_0.out
          have HW13 := Lib.hid Hw_0.out
          have HL13 := Lib.hid HL_0.out
          clear Hs_0 Hw_0 HL_0 hHeld0
          go_wp2_with fail
          refine (HCK3.out _ HL13.out HS13.out).mono ?_
          rintro e x8 ⟨rfl, hb8⟩
          have HS8 := Lib.hid (HS13.out.kept hb8)
          have HW8 := Lib.hid (keptW hb8 HW13.out)
          have HL8 := Lib.hid (HL13.out.trans (hb8.mono HL13.out.size))
          have HVB8 := Lib.hid ((Hb13.out).trans (hb8.mono Hb13.out.size))
          clear hb8 HS13 HW13 HL13
          go_upto_region 17 with fail
          have Hs_0 := Lib.hid (show BytesAt zs (.slice ak L ck) x8.drew from HS8.out.kept (Below.refl _ _).drew)
          have Hw_0 := Lib.hid (show rowN x8.drew gw = some (arr .u8 O) from HW8.out)
          have Hk_0 := Lib.hid (show BytesAt key (.slice ka K kc) x8.drew from HKB.out.kept HL8.out.drew)
          have HL_0 := Lib.hid (show Below w.heap.size w x8.drew from HL8.out.drew)
          clear HS8 HW8 HL8
          have Hb_0 := Lib.hid (show Below V.heap.size V x8.drew from HVB8.out.drew)
          refine wp_region_noPanic ?_
          refine wp_region_held_drew (S := fun W => rowN W gw = some (arr .u8 O) ∧ BytesAt zs (.slice ak L ck) W ∧ BytesAt key (.slice ka K kc) W) (by kernel_rfl) ⟨Hw_0.out, Hs_0.out, Hk_0.out⟩ (fun hHeld0 => ?_)
          obtain ⟨x0, hx0⟩ : ∃ X, x8.drew = X := ⟨_, rfl⟩
          rw [hx0] at Hw_0 Hs_0 Hk_0 Hb_0 HL_0 hHeld0 ⊢
          clear hx0
          refine wpAnyH_take (i := 0) (oi := { dst := some 120, op := Op.move (Operand.tmp 16), type := 22, pos := "law.go:75", after := #[], guard := none }) (v := ?tk69) rfl (by kernel_rfl) (by kernel_rfl) (by kernel_rfl) (fun _ _ _ h => h) (Or.inl ⟨by rfl, ?tw69⟩) hHeld0 ?_
          case tw69 => (intro W hW; clear hW; first | (go_simp; done) | (go_simp; with_reducible rfl))
          try simp only [Act.put, List.setIfInBounds_toArray, List.set_cons_zero, List.set_cons_succ]
          refine wpAnyH_take (i := 1) (oi := { dst := some 121, op := Op.move (Operand.tmp 13), type := 22, pos := "law.go:75", after := #[], guard := none }) (v := ?tk70) rfl (by kernel_rfl) (by kernel_rfl) (by kernel_rfl) (fun _ _ _ h => h) (Or.inl ⟨by rfl, ?tw70⟩) hHeld0 ?_
          case tw70 => (intro W hW; clear hW; first | (go_simp; done) | (go_simp; with_reducible rfl))
          try simp only [Act.put, List.setIfInBounds_toArray, List.set_cons_zero, List.set_cons_succ]
          refine wpAnyH_take (i := 3) (oi := { dst := some 123, op := Op.move (Operand.tmp 16), type := 22, pos := "law.go:75", after := #[], guard := none }) (v := ?tk71) rfl (by kernel_rfl) (by kernel_rfl) (by kernel_rfl) (fun _ _ _ h => h) (Or.inl ⟨by rfl, ?tw71⟩) hHeld0 ?_
          case tw71 => (intro W hW; clear hW; first | (go_simp; done) | (go_simp; with_reducible rfl))
          try simp only [Act.put, List.setIfInBounds_toArray, List.set_cons_zero, List.set_cons_succ]
          refine wpAnyH_take (i := 4) (oi := { dst := some 124, op := Op.convert 22 9 (Operand.tmp 123), type := 9, pos := "law.go:75", after := #[{ on := 3, ground := Ground.data }], guard := none }) (v := .string (strOf zs)) rfl (by kernel_rfl) (by kernel_rfl) (by kernel_rfl) (fun _ _ _ h => h) (Or.inl ⟨by rfl, fun W hW => ?_⟩) hHeld0 ?_
          · (have hst := str_bytes hW.2.1 HZN.out; clear hW; go_simp)
          try simp only [Act.put, List.setIfInBounds_toArray, List.set_cons_zero, List.set_cons_succ]
          refine wpAnyH_take (i := 5) (oi := { dst := some 125, op := Op.move (Operand.tmp 13), type := 22, pos := "law.go:75", after := #[], guard := none }) (v := ?tk72) rfl (by kernel_rfl) (by kernel_rfl) (by kernel_rfl) (fun _ _ _ h => h) (Or.inl ⟨by rfl, ?tw72⟩) hHeld0 ?_
          case tw72 => (intro W hW; clear hW; first | (go_simp; done) | (go_simp; with_reducible rfl))
          try simp only [Act.put, List.setIfInBounds_toArray, List.set_cons_zero, List.set_cons_succ]
          refine wpAnyH_take (i := 6) (oi := { dst := some 126, op := Op.convert 22 9 (Operand.tmp 125), type := 9, pos := "law.go:75", after := #[{ on := 5, ground := Ground.data }], guard := none }) (v := .string (strOf O)) rfl (by kernel_rfl) (by kernel_rfl) (by kernel_rfl) (fun _ _ _ h => h) (Or.inl ⟨by rfl, fun W hW => ?_⟩) hHeld0 ?_
          · (have hst := str_arr hW.1 HO32.out; clear hW; go_simp)
          try simp only [Act.put, List.setIfInBounds_toArray, List.set_cons_zero, List.set_cons_succ]
          refine wpAnyH_take (i := 7) (oi := { dst := some 127, op := Op.binOp BinOp.eql 9 (Operand.tmp 124) (Operand.tmp 126) 9, type := 4, pos := "law.go:75", after := #[{ on := 4, ground := Ground.data }, { on := 6, ground := Ground.data }], guard := none }) (v := .bool b1) rfl (by kernel_rfl) (by kernel_rfl) (by kernel_rfl) (fun _ _ _ h => h) (Or.inl ⟨by rfl, fun W hW => ?_⟩) hHeld0 ?_
          · (have hst := HQ1.out; clear hW; go_simp)
          try simp only [Act.put, List.setIfInBounds_toArray, List.set_cons_zero, List.set_cons_succ]
          refine wpAnyH_ready (rs := [2]) (by kernel_rfl) (by simp) ?_
          refine AllReadyH.cons (o := { dst := some 122, op := Op.call { callee := Callee.value (Operand.func 14), args := #[Operand.tmp 120, Operand.tmp 121], argTypes := #[22, 22] }, type := 4, pos := "law.go:75", after := #[{ on := 0, ground := Ground.data }, { on := 1, ground := Ground.data }], guard := none }) rfl (fun K' hK => ?_) AllReadyH.nil
          go_simp
          refine ((HE1.out _ Hs_0.out Hw_0.out)).mono ?_
          rintro e x1 ⟨rfl, hb⟩
          have Hw_1 := Lib.hid (keptW hb Hw_0.out)
          have Hs_1 := Lib.hid (Hs_0.out.kept hb)
          have Hk_1 := Lib.hid (Hk_0.out.kept hb)
          have Hb_1 := Lib.hid (bthen Hb_0.out hb)
          have HL_1 := Lib.hid (HL_0.out.trans (hb.mono HL_0.out.size))
          clear hb
          refine hK.out _ _ ⟨Hw_1.out, Hs_1.out, Hk_1.out⟩ (fun hHeld1 => ?_)
          clear hK K'
          try simp only [Act.put, List.setIfInBounds_toArray, List.set_cons_zero, List.set_cons_succ]
          refine wpAnyH_take (i := 8) (oi := { dst := some 128, op := Op.binOp BinOp.neq 4 (Operand.tmp 122) (Operand.tmp 127) 4, type := 4, pos := "law.go:75", after := #[{ on := 2, ground := Ground.data }, { on := 7, ground := Ground.data }], guard := none }) (v := .bool false) rfl (by kernel_rfl) (by kernel_rfl) (by kernel_rfl) (fun _ _ _ h => h) (Or.inl ⟨by rfl, fun W hW => ?_⟩) hHeld1 ?_
          · (clear hW; cases b1 <;> go_simp)
          try simp only [Act.put, List.setIfInBounds_toArray, List.set_cons_zero, List.set_cons_succ]
          refine wpAnyH_take (i := 9) (oi := { dst := some 129, op := Op.move (Operand.tmp 128), type := 4, pos := "law.go:75", after := #[{ on := 8, ground := Ground.data }, { on := 2, ground := Ground.chain }], guard := none }) (v := ?tk73) rfl (by kernel_rfl) (by kernel_rfl) (by kernel_rfl) (fun _ _ _ h => h) (Or.inl ⟨by rfl, ?tw73⟩) hHeld1 ?_
          case tw73 => (intro W hW; clear hW; first | (go_simp; done) | (go_simp; with_reducible rfl))
          try simp only [Act.put, List.setIfInBounds_toArray, List.set_cons_zero, List.set_cons_succ]
          refine wpAnyH_take (i := 10) (oi := { dst := some 130, op := Op.move (Operand.tmp 16), type := 22, pos := "law.go:75", after := #[{ on := 9, ground := Ground.guard }], guard := some (9, false) }) (v := ?tk74) rfl (by kernel_rfl) (by kernel_rfl) (by kernel_rfl) (fun _ _ _ h => h) (Or.inl ⟨by rfl, ?tw74⟩) hHeld1 ?_
          case tw74 => (intro W hW; clear hW; first | (go_simp; done) | (go_simp; with_reducible rfl))
          try simp only [Act.put, List.setIfInBounds_toArray, List.set_cons_zero, List.set_cons_succ]
          refine wpAnyH_take (i := 11) (oi := { dst := some 131, op := Op.move (Operand.tmp 0), type := 22, pos := "law.go:75", after := #[{ on := 9, ground := Ground.guard }], guard := some (9, false) }) (v := ?tk75) rfl (by kernel_rfl) (by kernel_rfl) (by kernel_rfl) (fun _ _ _ h => h) (Or.inl ⟨by rfl, ?tw75⟩) hHeld1 ?_
          case tw75 => (intro W hW; clear hW; first | (go_simp; done) | (go_simp; with_reducible rfl))
          try simp only [Act.put, List.setIfInBounds_toArray, List.set_cons_zero, List.set_cons_succ]
          refine wpAnyH_take (i := 13) (oi := { dst := some 133, op := Op.move (Operand.tmp 16), type := 22, pos := "law.go:75", after := #[{ on := 9, ground := Ground.guard }], guard := some (9, false) }) (v := ?tk76) rfl (by kernel_rfl) (by kernel_rfl) (by kernel_rfl) (fun _ _ _ h => h) (Or.inl ⟨by rfl, ?tw76⟩) hHeld1 ?_
          case tw76 => (intro W hW; clear hW; first | (go_simp; done) | (go_simp; with_reducible rfl))
          try simp only [Act.put, List.setIfInBounds_toArray, List.set_cons_zero, List.set_cons_succ]
          refine wpAnyH_take (i := 14) (oi := { dst := some 134, op := Op.convert 22 9 (Operand.tmp 133), type := 9, pos := "law.go:75", after := #[{ on := 13, ground := Ground.data }, { on := 9, ground := Ground.guard }], guard := some (9, false) }) (v := .string (strOf zs)) rfl (by kernel_rfl) (by kernel_rfl) (by kernel_rfl) (fun _ _ _ h => h) (Or.inl ⟨by rfl, fun W hW => ?_⟩) hHeld1 ?_
          · (have hst := str_bytes hW.2.1 HZN.out; clear hW; go_simp)
          try simp only [Act.put, List.setIfInBounds_toArray, List.set_cons_zero, List.set_cons_succ]
          refine wpAnyH_take (i := 15) (oi := { dst := some 135, op := Op.move (Operand.tmp 0), type := 22, pos := "law.go:75", after := #[{ on := 9, ground := Ground.guard }], guard := some (9, false) }) (v := ?tk77) rfl (by kernel_rfl) (by kernel_rfl) (by kernel_rfl) (fun _ _ _ h => h) (Or.inl ⟨by rfl, ?tw77⟩) hHeld1 ?_
          case tw77 => (intro W hW; clear hW; first | (go_simp; done) | (go_simp; with_reducible rfl))
          try simp only [Act.put, List.setIfInBounds_toArray, List.set_cons_zero, List.set_cons_succ]
          refine wpAnyH_take (i := 16) (oi := { dst := some 136, op := Op.convert 22 9 (Operand.tmp 135), type := 9, pos := "law.go:75", after := #[{ on := 15, ground := Ground.data }, { on := 9, ground := Ground.guard }], guard := some (9, false) }) (v := .string (strOf key)) rfl (by kernel_rfl) (by kernel_rfl) (by kernel_rfl) (fun _ _ _ h => h) (Or.inl ⟨by rfl, fun W hW => ?_⟩) hHeld1 ?_
          · (have hst := str_bytes hW.2.2 HKN.out; clear hW; go_simp)
          try simp only [Act.put, List.setIfInBounds_toArray, List.set_cons_zero, List.set_cons_succ]
          refine wpAnyH_take (i := 17) (oi := { dst := some 137, op := Op.binOp BinOp.eql 9 (Operand.tmp 134) (Operand.tmp 136) 9, type := 4, pos := "law.go:75", after := #[{ on := 14, ground := Ground.data }, { on := 16, ground := Ground.data }, { on := 9, ground := Ground.guard }], guard := some (9, false) }) (v := .bool b2) rfl (by kernel_rfl) (by kernel_rfl) (by kernel_rfl) (fun _ _ _ h => h) (Or.inl ⟨by rfl, fun W hW => ?_⟩) hHeld1 ?_
          · (have hst := HQ2.out; clear hW; go_simp)
          try simp only [Act.put, List.setIfInBounds_toArray, List.set_cons_zero, List.set_cons_succ]
          refine wpAnyH_ready (rs := [12]) (by kernel_rfl) (by simp) ?_
          refine AllReadyH.cons (o := { dst := some 132, op := Op.call { callee := Callee.value (Operand.func 14), args := #[Operand.tmp 130, Operand.tmp 131], argTypes := #[22, 22] }, type := 4, pos := "law.go:75", after := #[{ on := 10, ground := Ground.data }, { on := 11, ground := Ground.data }, { on := 9, ground := Ground.chain }, { on := 9, ground := Ground.guard }], guard := some (9, false) }) rfl (fun K' hK => ?_) AllReadyH.nil
          go_simp
          refine ((HE2.out _ Hs_1.out HL_1.out)).mono ?_
          rintro e x2 ⟨rfl, hb⟩
          have Hw_2 := Lib.hid (keptW hb Hw_1.out)
          have Hs_2 := Lib.hid (Hs_1.out.kept hb)
          have Hk_2 := Lib.hid (Hk_1.out.kept hb)
          have Hb_2 := Lib.hid (bthen Hb_1.out hb)
          have HL_2 := Lib.hid (HL_1.out.trans (hb.mono HL_1.out.size))
          clear hb
          refine hK.out _ _ ⟨Hw_2.out, Hs_2.out, Hk_2.out⟩ (fun hHeld2 => ?_)
          clear hK K'
          try simp only [Act.put, List.setIfInBounds_toArray, List.set_cons_zero, List.set_cons_succ]
          refine wpAnyH_take (i := 18) (oi := { dst := some 138, op := Op.binOp BinOp.neq 4 (Operand.tmp 132) (Operand.tmp 137) 4, type := 4, pos := "law.go:75", after := #[{ on := 12, ground := Ground.data }, { on := 17, ground := Ground.data }, { on := 9, ground := Ground.guard }], guard := some (9, false) }) (v := .bool false) rfl (by kernel_rfl) (by kernel_rfl) (by kernel_rfl) (fun _ _ _ h => h) (Or.inl ⟨by rfl, fun W hW => ?_⟩) hHeld2 ?_
          · (clear hW; cases b2 <;> go_simp)
          try simp only [Act.put, List.setIfInBounds_toArray, List.set_cons_zero, List.set_cons_succ]
          refine wpAnyH_take (i := 19) (oi := { dst := some 139, op := Op.pick (Operand.tmp 129) (Operand.const (Value.bool true)) (Operand.tmp 138), type := 4, pos := "law.go:75", after := #[{ on := 9, ground := Ground.data }, { on := 18, ground := Ground.data }], guard := none }) (v := ?tk78) rfl (by kernel_rfl) (by kernel_rfl) (by kernel_rfl) (fun _ _ _ h => h) (Or.inl ⟨by rfl, ?tw78⟩) hHeld2 ?_
          case tw78 => (intro W hW; clear hW; first | (go_simp; done) | (go_simp; with_reducible rfl))
          try simp only [Act.put, List.setIfInBounds_toArray, List.set_cons_zero, List.set_cons_succ]
          refine wpAnyH_done (by kernel_rfl) ?_ _
          refine NoPanic.normal ?_
          have HLE := Lib.hid HL_2.out
          have HBE := Lib.hid Hb_2.out
          clear hHeld2
          go_wp2_with fail
          first | (refine ⟨?_, by simp [intOf]; omega⟩; exact ⟨k + 1, by omega, rfl, HBE.out⟩) | trace_state
      · obtain rfl : k = 2 := by omega
        have hkN : ¬ ((2 : Nat) : Int) < 2 := by omega
        have HB9x := Lib.hid (HBV.out.trans (HB.out.mono HBV.out.size))
        go_wp2_with fail
        refine (known_any _ (HK.out.kept HB9x.out)).mono ?_
        rintro e w9 ⟨rfl, hb9⟩
        have HB9 := Lib.hid (HB9x.out.trans (hb9.mono HB9x.out.size))
        clear hb9
        go_wp2_with fail
        go_ret
        exact ⟨rfl, HB9.out⟩
  · obtain ⟨m1, hmm⟩ : ∃ m1, m = m1 + 1 := ⟨m - 1, by omega⟩
    have HMM := Lib.hid hmm
    have hmp : (0 : Int) < ((m : Nat) : Int) := by omega
    have hmp2 : 0 < m := by omega
    have hm1 : IntKind.i64.wrap (((m : Nat) : Int) - 1) = ((m1 : Nat) : Int) := (IntWalk.i64_in _ (by omega)).trans (by omega)
    have hm2 : ((m1 : Nat) : Int) < ((m : Nat) : Int) := by omega
    have hm3 : m1 < m := by omega
    clear hmm hm0
    obtain ⟨x, hx⟩ : ∃ x, (O ++ zl 8).getD m1 0 = x := ⟨_, rfl⟩
    obtain ⟨z, hz⟩ : ∃ z, (x + y) % 256 = z := ⟨_, rfl⟩
    have hz256 : z < 256 := by omega
    have hwz : IntKind.u8.wrap (((x : Nat) : Int) + ((y : Nat) : Int)) = ((z : Nat) : Int) := by
      rw [IntKind.wrap_u8]; omega
    go_wp2_with (first
      | (at_builtin; refine wpList_app rfl _ _ rfl w4.heap.size rfl rfl hown2 (HWB.out.kept hbel2) HWN.out (by rw [HO32.out]; simp) hbel2.size ?_; intro v3 w3 hown3 hgrow3; rw [List.nil_append] at hown3; have hb3 := below_owned hbel2 hown2 hgrow3 hbel2.size)
      | (at_builtin; refine wpList_app0 (n := 8) rfl _ _ rfl w4.heap.size rfl rfl hown3 (by rw [HO32.out]; omega) hb3.size ?_; intro v5 w5 hown5 hgrow5; have hb5 := below_owned hb3 hown3 hgrow5 hb3.size; rw [hOl] at hown5; obtain ⟨g5, c5, hv5, hc5, hg5, hg5l⟩ := owns_pos hown5 (by omega); subst hv5; have hsl5 := fun W => run_slice22_h (some ⟨g5, 0, none⟩) 40 c5 m (by omega) (fun h => by cases h) W; have hcc : w5.cell? ⟨g5, m1, none⟩ = some (.int .u8 (x : Nat)) := (hown5.cellAt m1 (by omega)).trans ((cl_at _ m1 (by omega)).trans (by rw [hx])); have hff : w5.frozen? ⟨g5, m1, none⟩ = false := hown5.frozenAt m1))
    have hst := hown5.stored m1 (.int .u8 (z : Nat))
    rw [cl_set] at hst
    obtain ⟨w6, hw6⟩ : ∃ W, w5.setCell ⟨g5, m1, none⟩ (.int .u8 (z : Nat)) = W := ⟨_, rfl⟩
    rw [hw6] at hst
    try rw [hw6]
    have hb6 := below_owned hb5 hown5 hst.2 hb5.size
    have HB5 := Lib.hid (HB4.out.trans (hb6.mono HB4.out.size))
    have HRW5 := Lib.hid (keptW hb6 HRW.out)
    obtain ⟨zo, hzo⟩ : ∃ z' : List Nat, z' = ((O ++ zl 8).set m1 z).take m := ⟨_, rfl⟩
    have hsl' : ((O ++ zl 8).set m1 z).length = 40 := by rw [List.length_set, hOl]
    have hzl : zo.length = m := by rw [hzo, List.length_take, hsl', HMM.out]; omega
    have HOW := Lib.hid (show BytesAt zo (.slice (some ⟨g5, 0, none⟩) m c5) w6 from by
      rw [hzo]
      refine bytes_take (L := 40) ?_ _ (by omega)
      have h := (owns_both (fun x hx => by
        rcases List.mem_or_eq_of_mem_set hx with hx | hx
        · rcases List.mem_append.1 hx with hx | hx
          · exact hO256.out x hx
          · exact zl_256 8 x hx
        · rw [hx]; exact hz256) (show w6.ownsRow w4.heap.size 5 1 (.slice (some ⟨g5, 0, none⟩) 40 c5) ((O ++ zl 8).set m1 z).length (cl ((O ++ zl 8).set m1 z)) from by rw [hsl']; exact hst.1)).1
      exact h)
    have hzl2 : zo.length ≤ 40 := by omega
    obtain ⟨V, hV⟩ : ∃ V, w6.alloc (.cells #[.slice sa S sc, .slice (some ⟨g5, 0, none⟩) m c5] 22) = V := ⟨_, rfl⟩
    have hw65 : w5.heap.size = w6.heap.size := by rw [← hw6]; simp
    rw [hw65]
    clear hst hb6 hcc hff hx hz hw6 hw65 hsl' hwz hm1 hm2 hm3 hz256 hmp hmp2
    have hbV : Below w6.heap.size w6 V := by rw [← hV]; exact (Below.refl _ _).alloc (Nat.le_refl _) _
    have HBV := Lib.hid (HB5.out.trans (hbV.mono HB5.out.size))
    have hrl : rowN V w6.heap.size = some #[.slice sa S sc, .slice (some ⟨g5, 0, none⟩) m c5] := by rw [← hV, rowN_alloc, if_pos rfl]
    have HRWV := Lib.hid (keptW hbV HRW5.out)
    have HCELLS := Lib.hid (show ∀ k, k < 2 → ∃ (zs : List Nat) (a : Option Addr) (c : Nat), V.cell? ⟨w6.heap.size, k, none⟩ = some (.slice a zs.length c) ∧ BytesAt zs (.slice a zs.length c) V ∧ Nil0 (.slice a zs.length c) ∧ zs.length ≤ 40 from fun k hk => by
      rcases (by omega : k = 0 ∨ k = 1) with rfl | rfl
      · exact ⟨zsum, sa, sc, by rw [HSL.out]; exact (rowN_cell hrl).1 0, by rw [HSL.out]; exact HSB.out.kept HBV.out, by rw [HSL.out]; exact HSNN.out, by rw [HSL.out]; omega⟩
      · exact ⟨zo, _, c5, by rw [hzl]; exact (rowN_cell hrl).1 1, by rw [hzl]; exact HOW.out.kept hbV, by rw [hzl]; exact nil0_some _ _ _, hzl2⟩)
    obtain ⟨gl, hgl⟩ : ∃ g, w6.heap.size = g := ⟨_, rfl⟩
    have HGL := Lib.hid (rowN_lt hrl)
    rw [hgl] at HCELLS HGL
    try rw [hV]
    try rw [hgl]
    clear hbV hV hgl hrl hzo hzl hzl2 HOW HB5 HRW5 HRW HWB HWN hown2 hbel2 hown3 hgrow3 hb3 hown5 hgrow5 hb5 HSB HSNN HB4 HB1
    go_loopw [80] (fun i wr => ∃ k : Nat, k ≤ 2 ∧ i = .int .i64 (k : Nat) ∧ Below V.heap.size V wr) (fun i _ => 2 - (intOf i).toNat)
    case atStart => exact ⟨0, by omega, rfl, Below.refl _ _⟩
    case round => as_aux_lemma =>
      obtain ⟨k, hk, rfl, hB⟩ := hrel
      have HB := Lib.hid hB
      by_cases hlt : k < 2
      · have hkN : ((k : Nat) : Int) < 2 := by omega
        obtain ⟨zs, ak, ck, hcell, hzb, hzn, hz40⟩ := HCELLS.out k hlt
        have hsc1 : wr.cell? ⟨gl, k, none⟩ = some (.slice ak zs.length ck) := (hB.cell (p := ⟨gl, k, none⟩) HGL.out).trans hcell
        have HZB := Lib.hid (hzb.kept hB)
        have HZN := Lib.hid hzn
        have HZ256 := Lib.hid hzb.1
        have HRK := Lib.hid (keptW hB HRWV.out)
        have HBW := Lib.hid (HBV.out.trans (hB.mono HBV.out.size))
        obtain ⟨b1, hb1⟩ : ∃ b, decide (zs = O) = b := ⟨_, rfl⟩
        obtain ⟨b2, hb2⟩ : ∃ b, decide (zs = key) = b := ⟨_, rfl⟩
        have HE1 := Lib.hid (fun (X : World) (h1 : BytesAt zs (.slice ak zs.length ck) X) (h2 : rowN X gw = some (arr .u8 O)) => show Calls Tryd.prog 14 #[.slice ak zs.length ck, .slice (some ⟨gw, 0, none⟩) 32 32] X (fun e w' => e = .returned (.bool b1) ∧ Below X.heap.size X w') from by
          rw [← hb1]; exact equal_any zs O _ _ (by omega) X h1 (bytes_row hO256.out h2 32 HO32.out))
        have HE2 := Lib.hid (fun (X : World) (h1 : BytesAt zs (.slice ak zs.length ck) X) (hb : Below w.heap.size w X) => show Calls Tryd.prog 14 #[.slice ak zs.length ck, .slice ka K kc] X (fun e w' => e = .returned (.bool b2) ∧ Below X.heap.size X w') from by
          rw [← hb2]; exact equal_any zs key _ _ (by omega) X h1 (HKB.out.kept hb))
        have HQ1 := Lib.hid (show ((strOf zs).toList == (strOf O).toList) = b1 by rw [← hb1]; exact str_dec hzb.1 hO256.out)
        have HQ2 := Lib.hid (show ((strOf zs).toList == (strOf key).toList) = b2 by rw [← hb2]; exact str_dec hzb.1 HKB.out.1)
        have HCK1 := Lib.hid (fun (X : World) (hb : Below w.heap.size w X) (h1 : BytesAt zs (.slice ak zs.length ck) X) (hq : zs.length < 1 ∨ 32 < zs.length) => HCL.out zs _ hq X hb h1)
        have HCK2 := Lib.hid (fun (X : World) (hb : Below w.heap.size w X) (h1 : BytesAt zs (.slice ak zs.length ck) X) (hq1 : 1 ≤ zs.length) (hq2 : zs.length ≤ 32) => HCA.out zs _ hq1 hq2 X hb h1)
        have hcs : (1 ≤ zs.length ∧ zs.length ≤ 32 → ((strOf zs).toList == (strOf (O.take zs.length)).toList) = decide (zs = O.take zs.length)) := fun _ => str_dec hzb.1 (fun x hx => hO256.out x (List.mem_of_mem_take hx))
        obtain ⟨L, hL⟩ : ∃ L, zs.length = L := ⟨_, rfl⟩
        rw [hL] at hsc1 HZB HZN HE1 HE2 HCK1 HCK2 hcs hz40
        clear hb1 hb2 hcell hzb hzn hB HCL HCA
        by_cases hc1 : L = 0
        · subst hc1
          have hL0 : ¬ (0 : Int) < ((0 : Nat) : Int) := by omega
          go_upto_region 13 with fail
          have Hs_0 := Lib.hid (show BytesAt zs (.slice ak 0 ck) wr.drew from HZB.out.kept (Below.refl _ _).drew)
          have Hw_0 := Lib.hid (show rowN wr.drew gw = some (arr .u8 O) from HRK.out)
          have HL_0 := Lib.hid (show Below w.heap.size w wr.drew from HBW.out.drew)
          clear hsc1
          have HbX_0 := Lib.hid (show Below V.heap.size V wr.drew from HB.out.drew)
          refine wp_region_noPanic ?_
          refine wp_region_held_drew (S := fun W => rowN W gw = some (arr .u8 O) ∧ BytesAt zs (.slice ak 0 ck) W) (by kernel_rfl) ⟨Hw_0.out, Hs_0.out⟩ (fun hHeld0 => ?_)
          obtain ⟨x0, hx0⟩ : ∃ X, wr.drew = X := ⟨_, rfl⟩
          rw [hx0] at Hw_0 Hs_0 HbX_0 HL_0 hHeld0 ⊢
          clear hx0
          refine wpAnyH_take (i := 0) (oi := { dst := some 84, op := Op.move (Operand.tmp 16), type := 22, pos := "law.go:70", after := #[], guard := none }) (v := ?tk79) rfl (by kernel_rfl) (by kernel_rfl) (by kernel_rfl) (fun _ _ _ h => h) (Or.inl ⟨by rfl, ?tw79⟩) hHeld0 ?_
          case tw79 => (intro W hW; clear hW; first | (go_simp; done) | (go_simp; with_reducible rfl))
          try simp only [Act.put, List.setIfInBounds_toArray, List.set_cons_zero, List.set_cons_succ]
          refine wpAnyH_take (i := 1) (oi := { dst := some 85, op := Op.call { callee := Callee.builtin Builtin.len, args := #[Operand.tmp 84], argTypes := #[22] }, type := 3, pos := "law.go:70", after := #[{ on := 0, ground := Ground.data }], guard := none }) (v := ?tk80) rfl (by kernel_rfl) (by kernel_rfl) (by kernel_rfl) (fun _ _ _ h => h) (Or.inl ⟨by rfl, ?tw80⟩) hHeld0 ?_
          case tw80 => (intro W hW; clear hW; first | (go_simp; done) | (go_simp; with_reducible rfl))
          try simp only [Act.put, List.setIfInBounds_toArray, List.set_cons_zero, List.set_cons_succ]
          refine wpAnyH_take (i := 2) (oi := { dst := some 86, op := Op.binOp BinOp.gtr 3 (Operand.tmp 85) (Operand.const (Value.int IntKind.i64 0)) 3, type := 4, pos := "law.go:70", after := #[{ on := 1, ground := Ground.data }], guard := none }) (v := .bool false) rfl (by kernel_rfl) (by kernel_rfl) (by kernel_rfl) (fun _ _ _ h => h) (Or.inl ⟨by rfl, fun W hW => ?_⟩) hHeld0 ?_
          · (clear hW; go_simp)
          try simp only [Act.put, List.setIfInBounds_toArray, List.set_cons_zero, List.set_cons_succ]
          refine wpAnyH_take (i := 3) (oi := { dst := some 87, op := Op.move (Operand.tmp 86), type := 4, pos := "law.go:70", after := #[{ on := 2, ground := Ground.data }], guard := none }) (v := .bool false) rfl (by kernel_rfl) (by kernel_rfl) (by kernel_rfl) (fun _ _ _ h => h) (Or.inl ⟨by rfl, fun W hW => ?_⟩) hHeld0 ?_
          · (clear hW; go_simp)
          try simp only [Act.put, List.setIfInBounds_toArray, List.set_cons_zero, List.set_cons_succ]
          refine wpAnyH_take (i := 4) (oi := { dst := some 88, op := Op.move (Operand.tmp 16), type := 22, pos := "law.go:70", after := #[{ on := 3, ground := Ground.guard }], guard := some (3, true) }) (v := undef) rfl (by kernel_rfl) (by kernel_rfl) (by kernel_rfl) (fun _ _ _ h => h) (Or.inr ⟨by rfl, rfl⟩) hHeld0 ?_
          try simp only [Act.put, List.setIfInBounds_toArray, List.set_cons_zero, List.set_cons_succ]
          refine wpAnyH_take (i := 5) (oi := { dst := some 89, op := Op.call { callee := Callee.builtin Builtin.len, args := #[Operand.tmp 88], argTypes := #[22] }, type := 3, pos := "law.go:70", after := #[{ on := 4, ground := Ground.data }, { on := 3, ground := Ground.guard }], guard := some (3, true) }) (v := undef) rfl (by kernel_rfl) (by kernel_rfl) (by kernel_rfl) (fun _ _ _ h => h) (Or.inr ⟨by rfl, rfl⟩) hHeld0 ?_
          try simp only [Act.put, List.setIfInBounds_toArray, List.set_cons_zero, List.set_cons_succ]
          refine wpAnyH_take (i := 6) (oi := { dst := some 90, op := Op.binOp BinOp.leq 3 (Operand.tmp 89) (Operand.const (Value.int IntKind.i64 32)) 3, type := 4, pos := "law.go:70", after := #[{ on := 5, ground := Ground.data }, { on := 3, ground := Ground.guard }], guard := some (3, true) }) (v := undef) rfl (by kernel_rfl) (by kernel_rfl) (by kernel_rfl) (fun _ _ _ h => h) (Or.inr ⟨by rfl, rfl⟩) hHeld0 ?_
          try simp only [Act.put, List.setIfInBounds_toArray, List.set_cons_zero, List.set_cons_succ]
          refine wpAnyH_take (i := 7) (oi := { dst := some 91, op := Op.pick (Operand.tmp 87) (Operand.tmp 90) (Operand.const (Value.bool false)), type := 4, pos := "law.go:70", after := #[{ on := 3, ground := Ground.data }, { on := 6, ground := Ground.data }], guard := none }) (v := .bool false) rfl (by kernel_rfl) (by kernel_rfl) (by kernel_rfl) (fun _ _ _ h => h) (Or.inl ⟨by rfl, fun W hW => ?_⟩) hHeld0 ?_
          · (clear hW; go_simp)
          try simp only [Act.put, List.setIfInBounds_toArray, List.set_cons_zero, List.set_cons_succ]
          refine wpAnyH_take (i := 8) (oi := { dst := some 92, op := Op.move (Operand.tmp 91), type := 4, pos := "law.go:70", after := #[{ on := 7, ground := Ground.data }, { on := 3, ground := Ground.chain }], guard := none }) (v := .bool false) rfl (by kernel_rfl) (by kernel_rfl) (by kernel_rfl) (fun _ _ _ h => h) (Or.inl ⟨by rfl, fun W hW => ?_⟩) hHeld0 ?_
          · (clear hW; go_simp)
          try simp only [Act.put, List.setIfInBounds_toArray, List.set_cons_zero, List.set_cons_succ]
          refine wpAnyH_take (i := 9) (oi := { dst := some 93, op := Op.move (Operand.tmp 16), type := 22, pos := "law.go:70", after := #[{ on := 8, ground := Ground.guard }], guard := some (8, true) }) (v := undef) rfl (by kernel_rfl) (by kernel_rfl) (by kernel_rfl) (fun _ _ _ h => h) (Or.inr ⟨by rfl, rfl⟩) hHeld0 ?_
          try simp only [Act.put, List.setIfInBounds_toArray, List.set_cons_zero, List.set_cons_succ]
          refine wpAnyH_take (i := 10) (oi := { dst := some 94, op := Op.convert 22 9 (Operand.tmp 93), type := 9, pos := "law.go:70", after := #[{ on := 9, ground := Ground.data }, { on := 8, ground := Ground.guard }], guard := some (8, true) }) (v := undef) rfl (by kernel_rfl) (by kernel_rfl) (by kernel_rfl) (fun _ _ _ h => h) (Or.inr ⟨by rfl, rfl⟩) hHeld0 ?_
          try simp only [Act.put, List.setIfInBounds_toArray, List.set_cons_zero, List.set_cons_succ]
          refine wpAnyH_take (i := 11) (oi := { dst := some 95, op := Op.move (Operand.tmp 13), type := 22, pos := "law.go:70", after := #[{ on := 8, ground := Ground.guard }], guard := some (8, true) }) (v := undef) rfl (by kernel_rfl) (by kernel_rfl) (by kernel_rfl) (fun _ _ _ h => h) (Or.inr ⟨by rfl, rfl⟩) hHeld0 ?_
          try simp only [Act.put, List.setIfInBounds_toArray, List.set_cons_zero, List.set_cons_succ]
          refine wpAnyH_take (i := 12) (oi := { dst := some 96, op := Op.move (Operand.tmp 16), type := 22, pos := "law.go:70", after := #[{ on := 8, ground := Ground.guard }], guard := some (8, true) }) (v := undef) rfl (by kernel_rfl) (by kernel_rfl) (by kernel_rfl) (fun _ _ _ h => h) (Or.inr ⟨by rfl, rfl⟩) hHeld0 ?_
          try simp only [Act.put, List.setIfInBounds_toArray, List.set_cons_zero, List.set_cons_succ]
          refine wpAnyH_take (i := 13) (oi := { dst := some 97, op := Op.call { callee := Callee.builtin Builtin.len, args := #[Operand.tmp 96], argTypes := #[22] }, type := 3, pos := "law.go:70", after := #[{ on := 12, ground := Ground.data }, { on := 8, ground := Ground.guard }], guard := some (8, true) }) (v := undef) rfl (by kernel_rfl) (by kernel_rfl) (by kernel_rfl) (fun _ _ _ h => h) (Or.inr ⟨by rfl, rfl⟩) hHeld0 ?_
          try simp only [Act.put, List.setIfInBounds_toArray, List.set_cons_zero, List.set_cons_succ]
          refine wpAnyH_take (i := 14) (oi := { dst := some 98, op := Op.call { callee := Callee.builtin Builtin.min, args := #[Operand.tmp 97, Operand.const (Value.int IntKind.i64 32)], argTypes := #[3, 3] }, type := 3, pos := "law.go:70", after := #[{ on := 13, ground := Ground.data }, { on := 8, ground := Ground.guard }], guard := some (8, true) }) (v := undef) rfl (by kernel_rfl) (by kernel_rfl) (by kernel_rfl) (fun _ _ _ h => h) (Or.inr ⟨by rfl, rfl⟩) hHeld0 ?_
          try simp only [Act.put, List.setIfInBounds_toArray, List.set_cons_zero, List.set_cons_succ]
          refine wpAnyH_take (i := 15) (oi := { dst := some 99, op := Op.slice 22 (Operand.tmp 95) none (some (Operand.tmp 98)) none, type := 22, pos := "law.go:70", after := #[{ on := 11, ground := Ground.data }, { on := 14, ground := Ground.data }, { on := 8, ground := Ground.guard }], guard := some (8, true) }) (v := undef) rfl (by kernel_rfl) (by kernel_rfl) (by kernel_rfl) (fun _ _ _ h => h) (Or.inr ⟨by rfl, rfl⟩) hHeld0 ?_
          try simp only [Act.put, List.setIfInBounds_toArray, List.set_cons_zero, List.set_cons_succ]
          refine wpAnyH_take (i := 16) (oi := { dst := some 100, op := Op.convert 22 9 (Operand.tmp 99), type := 9, pos := "law.go:70", after := #[{ on := 15, ground := Ground.data }, { on := 8, ground := Ground.guard }], guard := some (8, true) }) (v := undef) rfl (by kernel_rfl) (by kernel_rfl) (by kernel_rfl) (fun _ _ _ h => h) (Or.inr ⟨by rfl, rfl⟩) hHeld0 ?_
          try simp only [Act.put, List.setIfInBounds_toArray, List.set_cons_zero, List.set_cons_succ]
          refine wpAnyH_take (i := 17) (oi := { dst := some 101, op := Op.binOp BinOp.eql 9 (Operand.tmp 94) (Operand.tmp 100) 9, type := 4, pos := "law.go:70", after := #[{ on := 10, ground := Ground.data }, { on := 16, ground := Ground.data }, { on := 8, ground := Ground.guard }], guard := some (8, true) }) (v := undef) rfl (by kernel_rfl) (by kernel_rfl) (by kernel_rfl) (fun _ _ _ h => h) (Or.inr ⟨by rfl, rfl⟩) hHeld0 ?_
          try simp only [Act.put, List.setIfInBounds_toArray, List.set_cons_zero, List.set_cons_succ]
          refine wpAnyH_take (i := 18) (oi := { dst := some 102, op := Op.pick (Operand.tmp 92) (Operand.tmp 101) (Operand.const (Value.bool false)), type := 4, pos := "law.go:70", after := #[{ on := 8, ground := Ground.data }, { on := 17, ground := Ground.data }], guard := none }) (v := ?tk81) rfl (by kernel_rfl) (by kernel_rfl) (by kernel_rfl) (fun _ _ _ h => h) (Or.inl ⟨by rfl, ?tw81⟩) hHeld0 ?_
          case tw81 => (intro W hW; clear hW; first | (go_simp; done) | (go_simp; with_reducible rfl))
          try simp only [Act.put, List.setIfInBounds_toArray, List.set_cons_zero, List.set_cons_succ]
          refine wpAnyH_take (i := 19) (oi := { dst := some 17, op := Op.assign (Operand.tmp 102), type := 4, pos := "law.go:70", after := #[{ on := 18, ground := Ground.data }, { on := 8, ground := Ground.chain }, { on := 0, ground := Ground.phase }, { on := 1, ground := Ground.phase }, { on := 2, ground := Ground.phase }, { on := 3, ground := Ground.phase }, { on := 4, ground := Ground.phase }, { on := 5, ground := Ground.phase }, { on := 6, ground := Ground.phase }, { on := 7, ground := Ground.phase }, { on := 8, ground := Ground.phase }, { on := 9, ground := Ground.phase }, { on := 10, ground := Ground.phase }, { on := 11, ground := Ground.phase }, { on := 12, ground := Ground.phase }, { on := 13, ground := Ground.phase }, { on := 14, ground := Ground.phase }, { on := 15, ground := Ground.phase }, { on := 16, ground := Ground.phase }, { on := 17, ground := Ground.phase }, { on := 18, ground := Ground.phase }], guard := none }) (v := ?tk82) rfl (by kernel_rfl) (by kernel_rfl) (by kernel_rfl) (fun _ _ _ h => h) (Or.inl ⟨by rfl, ?tw82⟩) hHeld0 ?_
          case tw82 => (intro W hW; clear hW; first | (go_simp; done) | (go_simp; with_reducible rfl))
          try simp only [Act.put, List.setIfInBounds_toArray, List.set_cons_zero, List.set_cons_succ]
          refine wpAnyH_done (by kernel_rfl) ?_ _
          refine NoPanic.normal ?_
          have Hb13 := Lib.hid (show Below V.heap.size V x0 from HbX_0.out)
          have HS13 := Lib.hid Hs_0.out
          have HW13 := Lib.hid Hw_0.out
          have HL13 := Lib.hid HL_0.out
          clear Hs_0 Hw_0 HL_0 hHeld0
          go_wp2_with fail
          refine (HCK1.out _ HL13.out HS13.out (by omega)).mono ?_
          rintro e x8 ⟨rfl, hb8⟩
          have HS8 := Lib.hid (HS13.out.kept hb8)
          have HW8 := Lib.hid (keptW hb8 HW13.out)
          have HL8 := Lib.hid (HL13.out.trans (hb8.mono HL13.out.size))
          have HVB8 := Lib.hid ((Hb13.out).trans (hb8.mono Hb13.out.size))
          clear hb8 HS13 HW13 HL13
          go_upto_region 17 with fail
          have Hs_0 := Lib.hid (show BytesAt zs (.slice ak 0 ck) x8.drew from HS8.out.kept (Below.refl _ _).drew)
          have Hw_0 := Lib.hid (show rowN x8.drew gw = some (arr .u8 O) from HW8.out)
          have Hk_0 := Lib.hid (show BytesAt key (.slice ka K kc) x8.drew from HKB.out.kept HL8.out.drew)
          have HL_0 := Lib.hid (show Below w.heap.size w x8.drew from HL8.out.drew)
          clear HS8 HW8 HL8
          have Hb_0 := Lib.hid (show Below V.heap.size V x8.drew from HVB8.out.drew)
          refine wp_region_noPanic ?_
          refine wp_region_held_drew (S := fun W => rowN W gw = some (arr .u8 O) ∧ BytesAt zs (.slice ak 0 ck) W ∧ BytesAt key (.slice ka K kc) W) (by kernel_rfl) ⟨Hw_0.out, Hs_0.out, Hk_0.out⟩ (fun hHeld0 => ?_)
          obtain ⟨x0, hx0⟩ : ∃ X, x8.drew = X := ⟨_, rfl⟩
          rw [hx0] at Hw_0 Hs_0 Hk_0 Hb_0 HL_0 hHeld0 ⊢
          clear hx0
          refine wpAnyH_take (i := 0) (oi := { dst := some 120, op := Op.move (Operand.tmp 16), type := 22, pos := "law.go:75", after := #[], guard := none }) (v := ?tk83) rfl (by kernel_rfl) (by kernel_rfl) (by kernel_rfl) (fun _ _ _ h => h) (Or.inl ⟨by rfl, ?tw83⟩) hHeld0 ?_
          case tw83 => (intro W hW; clear hW; first | (go_simp; done) | (go_simp; with_reducible rfl))
          try simp only [Act.put, List.setIfInBounds_toArray, List.set_cons_zero, List.set_cons_succ]
          refine wpAnyH_take (i := 1) (oi := { dst := some 121, op := Op.move (Operand.tmp 13), type := 22, pos := "law.go:75", after := #[], guard := none }) (v := ?tk84) rfl (by kernel_rfl) (by kernel_rfl) (by kernel_rfl) (fun _ _ _ h => h) (Or.inl ⟨by rfl, ?tw84⟩) hHeld0 ?_
          case tw84 => (intro W hW; clear hW; first | (go_simp; done) | (go_simp; with_reducible rfl))
          try simp only [Act.put, List.setIfInBounds_toArray, List.set_cons_zero, List.set_cons_succ]
          refine wpAnyH_take (i := 3) (oi := { dst := some 123, op := Op.move (Operand.tmp 16), type := 22, pos := "law.go:75", after := #[], guard := none }) (v := ?tk85) rfl (by kernel_rfl) (by kernel_rfl) (by kernel_rfl) (fun _ _ _ h => h) (Or.inl ⟨by rfl, ?tw85⟩) hHeld0 ?_
          case tw85 => (intro W hW; clear hW; first | (go_simp; done) | (go_simp; with_reducible rfl))
          try simp only [Act.put, List.setIfInBounds_toArray, List.set_cons_zero, List.set_cons_succ]
          refine wpAnyH_take (i := 4) (oi := { dst := some 124, op := Op.convert 22 9 (Operand.tmp 123), type := 9, pos := "law.go:75", after := #[{ on := 3, ground := Ground.data }], guard := none }) (v := .string (strOf zs)) rfl (by kernel_rfl) (by kernel_rfl) (by kernel_rfl) (fun _ _ _ h => h) (Or.inl ⟨by rfl, fun W hW => ?_⟩) hHeld0 ?_
          · (have hst := str_bytes hW.2.1 HZN.out; clear hW; go_simp)
          try simp only [Act.put, List.setIfInBounds_toArray, List.set_cons_zero, List.set_cons_succ]
          refine wpAnyH_take (i := 5) (oi := { dst := some 125, op := Op.move (Operand.tmp 13), type := 22, pos := "law.go:75", after := #[], guard := none }) (v := ?tk86) rfl (by kernel_rfl) (by kernel_rfl) (by kernel_rfl) (fun _ _ _ h => h) (Or.inl ⟨by rfl, ?tw86⟩) hHeld0 ?_
          case tw86 => (intro W hW; clear hW; first | (go_simp; done) | (go_simp; with_reducible rfl))
          try simp only [Act.put, List.setIfInBounds_toArray, List.set_cons_zero, List.set_cons_succ]
          refine wpAnyH_take (i := 6) (oi := { dst := some 126, op := Op.convert 22 9 (Operand.tmp 125), type := 9, pos := "law.go:75", after := #[{ on := 5, ground := Ground.data }], guard := none }) (v := .string (strOf O)) rfl (by kernel_rfl) (by kernel_rfl) (by kernel_rfl) (fun _ _ _ h => h) (Or.inl ⟨by rfl, fun W hW => ?_⟩) hHeld0 ?_
          · (have hst := str_arr hW.1 HO32.out; clear hW; go_simp)
          try simp only [Act.put, List.setIfInBounds_toArray, List.set_cons_zero, List.set_cons_succ]
          refine wpAnyH_take (i := 7) (oi := { dst := some 127, op := Op.binOp BinOp.eql 9 (Operand.tmp 124) (Operand.tmp 126) 9, type := 4, pos := "law.go:75", after := #[{ on := 4, ground := Ground.data }, { on := 6, ground := Ground.data }], guard := none }) (v := .bool b1) rfl (by kernel_rfl) (by kernel_rfl) (by kernel_rfl) (fun _ _ _ h => h) (Or.inl ⟨by rfl, fun W hW => ?_⟩) hHeld0 ?_
          · (have hst := HQ1.out; clear hW; go_simp)
          try simp only [Act.put, List.setIfInBounds_toArray, List.set_cons_zero, List.set_cons_succ]
          refine wpAnyH_ready (rs := [2]) (by kernel_rfl) (by simp) ?_
          refine AllReadyH.cons (o := { dst := some 122, op := Op.call { callee := Callee.value (Operand.func 14), args := #[Operand.tmp 120, Operand.tmp 121], argTypes := #[22, 22] }, type := 4, pos := "law.go:75", after := #[{ on := 0, ground := Ground.data }, { on := 1, ground := Ground.data }], guard := none }) rfl (fun K' hK => ?_) AllReadyH.nil
          go_simp
          refine ((HE1.out _ Hs_0.out Hw_0.out)).mono ?_
          rintro e x1 ⟨rfl, hb⟩
          have Hw_1 := Lib.hid (keptW hb Hw_0.out)
          have Hs_1 := Lib.hid (Hs_0.out.kept hb)
          have Hk_1 := Lib.hid (Hk_0.out.kept hb)
          have Hb_1 := Lib.hid (bthen Hb_0.out hb)
          have HL_1 := Lib.hid (HL_0.out.trans (hb.mono HL_0.out.size))
          clear hb
          refine hK.out _ _ ⟨Hw_1.out, Hs_1.out, Hk_1.out⟩ (fun hHeld1 => ?_)
          clear hK K'
          try simp only [Act.put, List.setIfInBounds_toArray, List.set_cons_zero, List.set_cons_succ]
          refine wpAnyH_take (i := 8) (oi := { dst := some 128, op := Op.binOp BinOp.neq 4 (Operand.tmp 122) (Operand.tmp 127) 4, type := 4, pos := "law.go:75", after := #[{ on := 2, ground := Ground.data }, { on := 7, ground := Ground.data }], guard := none }) (v := .bool false) rfl (by kernel_rfl) (by kernel_rfl) (by kernel_rfl) (fun _ _ _ h => h) (Or.inl ⟨by rfl, fun W hW => ?_⟩) hHeld1 ?_
          · (clear hW; cases b1 <;> go_simp)
          try simp only [Act.put, List.setIfInBounds_toArray, List.set_cons_zero, List.set_cons_succ]
          refine wpAnyH_take (i := 9) (oi := { dst := some 129, op := Op.move (Operand.tmp 128), type := 4, pos := "law.go:75", after := #[{ on := 8, ground := Ground.data }, { on := 2, ground := Ground.chain }], guard := none }) (v := ?tk87) rfl (by kernel_rfl) (by kernel_rfl) (by kernel_rfl) (fun _ _ _ h => h) (Or.inl ⟨by rfl, ?tw87⟩) hHeld1 ?_
          case tw87 => (intro W hW; clear hW; first | (go_simp; done) | (go_simp; with_reducible rfl))
          try simp only [Act.put, List.setIfInBounds_toArray, List.set_cons_zero, List.set_cons_succ]
          refine wpAnyH_take (i := 10) (oi := { dst := some 130, op := Op.move (Operand.tmp 16), type := 22, pos := "law.go:75", after := #[{ on := 9, ground := Ground.guard }], guard := some (9, false) }) (v := ?tk88) rfl (by kernel_rfl) (by kernel_rfl) (by kernel_rfl) (fun _ _ _ h => h) (Or.inl ⟨by rfl, ?tw88⟩) hHeld1 ?_
          case tw88 => (intro W hW; clear hW; first | (go_simp; done) | (go_simp; with_reducible rfl))
          try simp only [Act.put, List.setIfInBounds_toArray, List.set_cons_zero, List.set_cons_succ]
          refine wpAnyH_take (i := 11) (oi := { dst := some 131, op := Op.move (Operand.tmp 0), type := 22, pos := "law.go:75", after := #[{ on := 9, ground := Ground.guard }], guard := some (9, false) }) (v := ?tk89) rfl (by kernel_rfl) (by kernel_rfl) (by kernel_rfl) (fun _ _ _ h => h) (Or.inl ⟨by rfl, ?tw89⟩) hHeld1 ?_
          case tw89 => (intro W hW; clear hW; first | (go_simp; done) | (go_simp; with_reducible rfl))
          try simp only [Act.put, List.setIfInBounds_toArray, List.set_cons_zero, List.set_cons_succ]
          refine wpAnyH_take (i := 13) (oi := { dst := some 133, op := Op.move (Operand.tmp 16), type := 22, pos := "law.go:75", after := #[{ on := 9, ground := Ground.guard }], guard := some (9, false) }) (v := ?tk90) rfl (by kernel_rfl) (by kernel_rfl) (by kernel_rfl) (fun _ _ _ h => h) (Or.inl ⟨by rfl, ?tw90⟩) hHeld1 ?_
          case tw90 => (intro W hW; clear hW; first | (go_simp; done) | (go_simp; with_reducible rfl))
          try simp only [Act.put, List.setIfInBounds_toArray, List.set_cons_zero, List.set_cons_succ]
          refine wpAnyH_take (i := 14) (oi := { dst := some 134, op := Op.convert 22 9 (Operand.tmp 133), type := 9, pos := "law.go:75", after := #[{ on := 13, ground := Ground.data }, { on := 9, ground := Ground.guard }], guard := some (9, false) }) (v := .string (strOf zs)) rfl (by kernel_rfl) (by kernel_rfl) (by kernel_rfl) (fun _ _ _ h => h) (Or.inl ⟨by rfl, fun W hW => ?_⟩) hHeld1 ?_
          · (have hst := str_bytes hW.2.1 HZN.out; clear hW; go_simp)
          try simp only [Act.put, List.setIfInBounds_toArray, List.set_cons_zero, List.set_cons_succ]
          refine wpAnyH_take (i := 15) (oi := { dst := some 135, op := Op.move (Operand.tmp 0), type := 22, pos := "law.go:75", after := #[{ on := 9, ground := Ground.guard }], guard := some (9, false) }) (v := ?tk91) rfl (by kernel_rfl) (by kernel_rfl) (by kernel_rfl) (fun _ _ _ h => h) (Or.inl ⟨by rfl, ?tw91⟩) hHeld1 ?_
          case tw91 => (intro W hW; clear hW; first | (go_simp; done) | (go_simp; with_reducible rfl))
          try simp only [Act.put, List.setIfInBounds_toArray, List.set_cons_zero, List.set_cons_succ]
          refine wpAnyH_take (i := 16) (oi := { dst := some 136, op := Op.convert 22 9 (Operand.tmp 135), type := 9, pos := "law.go:75", after := #[{ on := 15, ground := Ground.data }, { on := 9, ground := Ground.guard }], guard := some (9, false) }) (v := .string (strOf key)) rfl (by kernel_rfl) (by kernel_rfl) (by kernel_rfl) (fun _ _ _ h => h) (Or.inl ⟨by rfl, fun W hW => ?_⟩) hHeld1 ?_
          · (have hst := str_bytes hW.2.2 HKN.out; clear hW; go_simp)
          try simp only [Act.put, List.setIfInBounds_toArray, List.set_cons_zero, List.set_cons_succ]
          refine wpAnyH_take (i := 17) (oi := { dst := some 137, op := Op.binOp BinOp.eql 9 (Operand.tmp 134) (Operand.tmp 136) 9, type := 4, pos := "law.go:75", after := #[{ on := 14, ground := Ground.data }, { on := 16, ground := Ground.data }, { on := 9, ground := Ground.guard }], guard := some (9, false) }) (v := .bool b2) rfl (by kernel_rfl) (by kernel_rfl) (by kernel_rfl) (fun _ _ _ h => h) (Or.inl ⟨by rfl, fun W hW => ?_⟩) hHeld1 ?_
          · (have hst := HQ2.out; clear hW; go_simp)
          try simp only [Act.put, List.setIfInBounds_toArray, List.set_cons_zero, List.set_cons_succ]
          refine wpAnyH_ready (rs := [12]) (by kernel_rfl) (by simp) ?_
          refine AllReadyH.cons (o := { dst := some 132, op := Op.call { callee := Callee.value (Operand.func 14), args := #[Operand.tmp 130, Operand.tmp 131], argTypes := #[22, 22] }, type := 4, pos := "law.go:75", after := #[{ on := 10, ground := Ground.data }, { on := 11, ground := Ground.data }, { on := 9, ground := Ground.chain }, { on := 9, ground := Ground.guard }], guard := some (9, false) }) rfl (fun K' hK => ?_) AllReadyH.nil
          go_simp
          refine ((HE2.out _ Hs_1.out HL_1.out)).mono ?_
          rintro e x2 ⟨rfl, hb⟩
          have Hw_2 := Lib.hid (keptW hb Hw_1.out)
          have Hs_2 := Lib.hid (Hs_1.out.kept hb)
          have Hk_2 := Lib.hid (Hk_1.out.kept hb)
          have Hb_2 := Lib.hid (bthen Hb_1.out hb)
          have HL_2 := Lib.hid (HL_1.out.trans (hb.mono HL_1.out.size))
          clear hb
          refine hK.out _ _ ⟨Hw_2.out, Hs_2.out, Hk_2.out⟩ (fun hHeld2 => ?_)
          clear hK K'
          try simp only [Act.put, List.setIfInBounds_toArray, List.set_cons_zero, List.set_cons_succ]
          refine wpAnyH_take (i := 18) (oi := { dst := some 138, op := Op.binOp BinOp.neq 4 (Operand.tmp 132) (Operand.tmp 137) 4, type := 4, pos := "law.go:75", after := #[{ on := 12, ground := Ground.data }, { on := 17, ground := Ground.data }, { on := 9, ground := Ground.guard }], guard := some (9, false) }) (v := .bool false) rfl (by kernel_rfl) (by kernel_rfl) (by kernel_rfl) (fun _ _ _ h => h) (Or.inl ⟨by rfl, fun W hW => ?_⟩) hHeld2 ?_
          · (clear hW; cases b2 <;> go_simp)
          try simp only [Act.put, List.setIfInBounds_toArray, List.set_cons_zero, List.set_cons_succ]
          refine wpAnyH_take (i := 19) (oi := { dst := some 139, op := Op.pick (Operand.tmp 129) (Operand.const (Value.bool true)) (Operand.tmp 138), type := 4, pos := "law.go:75", after := #[{ on := 9, ground := Ground.data }, { on := 18, ground := Ground.data }], guard := none }) (v := ?tk92) rfl (by kernel_rfl) (by kernel_rfl) (by kernel_rfl) (fun _ _ _ h => h) (Or.inl ⟨by rfl, ?tw92⟩) hHeld2 ?_
          case tw92 => (intro W hW; clear hW; first | (go_simp; done) | (go_simp; with_reducible rfl))
          try simp only [Act.put, List.setIfInBounds_toArray, List.set_cons_zero, List.set_cons_succ]
          refine wpAnyH_done (by kernel_rfl) ?_ _
          refine NoPanic.normal ?_
          have HLE := Lib.hid HL_2.out
          have HBE := Lib.hid Hb_2.out
          clear hHeld2
          go_wp2_with fail
          first | (refine ⟨?_, by simp [intOf]; omega⟩; exact ⟨k + 1, by omega, rfl, HBE.out⟩) | trace_state
        by_cases hc2 : 32 < L
        · have hL1 : (0 : Int) < ((L : Nat) : Int) := by omega
          have hLp : 0 < L := by omega
          have hL2 : ¬ ((L : Nat) : Int) ≤ 32 := by omega
          have hL3 : (32 : Int) < ((L : Nat) : Int) := by omega
          go_upto_region 13 with fail
          have Hs_0 := Lib.hid (show BytesAt zs (.slice ak L ck) wr.drew from HZB.out.kept (Below.refl _ _).drew)
          have Hw_0 := Lib.hid (show rowN wr.drew gw = some (arr .u8 O) from HRK.out)
          have HL_0 := Lib.hid (show Below w.heap.size w wr.drew from HBW.out.drew)
          clear hsc1
          have HbX_0 := Lib.hid (show Below V.heap.size V wr.drew from HB.out.drew)
          refine wp_region_noPanic ?_
          refine wp_region_held_drew (S := fun W => rowN W gw = some (arr .u8 O) ∧ BytesAt zs (.slice ak L ck) W) (by kernel_rfl) ⟨Hw_0.out, Hs_0.out⟩ (fun hHeld0 => ?_)
          obtain ⟨x0, hx0⟩ : ∃ X, wr.drew = X := ⟨_, rfl⟩
          rw [hx0] at Hw_0 Hs_0 HbX_0 HL_0 hHeld0 ⊢
          clear hx0
          refine wpAnyH_take (i := 0) (oi := { dst := some 84, op := Op.move (Operand.tmp 16), type := 22, pos := "law.go:70", after := #[], guard := none }) (v := ?tk93) rfl (by kernel_rfl) (by kernel_rfl) (by kernel_rfl) (fun _ _ _ h => h) (Or.inl ⟨by rfl, ?tw93⟩) hHeld0 ?_
          case tw93 => (intro W hW; clear hW; first | (go_simp; done) | (go_simp; with_reducible rfl))
          try simp only [Act.put, List.setIfInBounds_toArray, List.set_cons_zero, List.set_cons_succ]
          refine wpAnyH_take (i := 1) (oi := { dst := some 85, op := Op.call { callee := Callee.builtin Builtin.len, args := #[Operand.tmp 84], argTypes := #[22] }, type := 3, pos := "law.go:70", after := #[{ on := 0, ground := Ground.data }], guard := none }) (v := ?tk94) rfl (by kernel_rfl) (by kernel_rfl) (by kernel_rfl) (fun _ _ _ h => h) (Or.inl ⟨by rfl, ?tw94⟩) hHeld0 ?_
          case tw94 => (intro W hW; clear hW; first | (go_simp; done) | (go_simp; with_reducible rfl))
          try simp only [Act.put, List.setIfInBounds_toArray, List.set_cons_zero, List.set_cons_succ]
          refine wpAnyH_take (i := 2) (oi := { dst := some 86, op := Op.binOp BinOp.gtr 3 (Operand.tmp 85) (Operand.const (Value.int IntKind.i64 0)) 3, type := 4, pos := "law.go:70", after := #[{ on := 1, ground := Ground.data }], guard := none }) (v := .bool true) rfl (by kernel_rfl) (by kernel_rfl) (by kernel_rfl) (fun _ _ _ h => h) (Or.inl ⟨by rfl, fun W hW => ?_⟩) hHeld0 ?_
          · (clear hW; go_simp)
          try simp only [Act.put, List.setIfInBounds_toArray, List.set_cons_zero, List.set_cons_succ]
          refine wpAnyH_take (i := 3) (oi := { dst := some 87, op := Op.move (Operand.tmp 86), type := 4, pos := "law.go:70", after := #[{ on := 2, ground := Ground.data }], guard := none }) (v := ?tk95) rfl (by kernel_rfl) (by kernel_rfl) (by kernel_rfl) (fun _ _ _ h => h) (Or.inl ⟨by rfl, ?tw95⟩) hHeld0 ?_
          case tw95 => (intro W hW; clear hW; first | (go_simp; done) | (go_simp; with_reducible rfl))
          try simp only [Act.put, List.setIfInBounds_toArray, List.set_cons_zero, List.set_cons_succ]
          refine wpAnyH_take (i := 4) (oi := { dst := some 88, op := Op.move (Operand.tmp 16), type := 22, pos := "law.go:70", after := #[{ on := 3, ground := Ground.guard }], guard := some (3, true) }) (v := ?tk96) rfl (by kernel_rfl) (by kernel_rfl) (by kernel_rfl) (fun _ _ _ h => h) (Or.inl ⟨by rfl, ?tw96⟩) hHeld0 ?_
          case tw96 => (intro W hW; clear hW; first | (go_simp; done) | (go_simp; with_reducible rfl))
          try simp only [Act.put, List.setIfInBounds_toArray, List.set_cons_zero, List.set_cons_succ]
          refine wpAnyH_take (i := 5) (oi := { dst := some 89, op := Op.call { callee := Callee.builtin Builtin.len, args := #[Operand.tmp 88], argTypes := #[22] }, type := 3, pos := "law.go:70", after := #[{ on := 4, ground := Ground.data }, { on := 3, ground := Ground.guard }], guard := some (3, true) }) (v := ?tk97) rfl (by kernel_rfl) (by kernel_rfl) (by kernel_rfl) (fun _ _ _ h => h) (Or.inl ⟨by rfl, ?tw97⟩) hHeld0 ?_
          case tw97 => (intro W hW; clear hW; first | (go_simp; done) | (go_simp; with_reducible rfl))
          try simp only [Act.put, List.setIfInBounds_toArray, List.set_cons_zero, List.set_cons_succ]
          refine wpAnyH_take (i := 6) (oi := { dst := some 90, op := Op.binOp BinOp.leq 3 (Operand.tmp 89) (Operand.const (Value.int IntKind.i64 32)) 3, type := 4, pos := "law.go:70", after := #[{ on := 5, ground := Ground.data }, { on := 3, ground := Ground.guard }], guard := some (3, true) }) (v := .bool false) rfl (by kernel_rfl) (by kernel_rfl) (by kernel_rfl) (fun _ _ _ h => h) (Or.inl ⟨by rfl, fun W hW => ?_⟩) hHeld0 ?_
          · (clear hW; go_simp)
          try simp only [Act.put, List.setIfInBounds_toArray, List.set_cons_zero, List.set_cons_succ]
          refine wpAnyH_take (i := 7) (oi := { dst := some 91, op := Op.pick (Operand.tmp 87) (Operand.tmp 90) (Operand.const (Value.bool false)), type := 4, pos := "law.go:70", after := #[{ on := 3, ground := Ground.data }, { on := 6, ground := Ground.data }], guard := none }) (v := ?tk98) rfl (by kernel_rfl) (by kernel_rfl) (by kernel_rfl) (fun _ _ _ h => h) (Or.inl ⟨by rfl, ?tw98⟩) hHeld0 ?_
          case tw98 => (intro W hW; clear hW; first | (go_simp; done) | (go_simp; with_reducible rfl))
          try simp only [Act.put, List.setIfInBounds_toArray, List.set_cons_zero, List.set_cons_succ]
          refine wpAnyH_take (i := 8) (oi := { dst := some 92, op := Op.move (Operand.tmp 91), type := 4, pos := "law.go:70", after := #[{ on := 7, ground := Ground.data }, { on := 3, ground := Ground.chain }], guard := none }) (v := ?tk99) rfl (by kernel_rfl) (by kernel_rfl) (by kernel_rfl) (fun _ _ _ h => h) (Or.inl ⟨by rfl, ?tw99⟩) hHeld0 ?_
          case tw99 => (intro W hW; clear hW; first | (go_simp; done) | (go_simp; with_reducible rfl))
          try simp only [Act.put, List.setIfInBounds_toArray, List.set_cons_zero, List.set_cons_succ]
          refine wpAnyH_take (i := 9) (oi := { dst := some 93, op := Op.move (Operand.tmp 16), type := 22, pos := "law.go:70", after := #[{ on := 8, ground := Ground.guard }], guard := some (8, true) }) (v := undef) rfl (by kernel_rfl) (by kernel_rfl) (by kernel_rfl) (fun _ _ _ h => h) (Or.inr ⟨by rfl, rfl⟩) hHeld0 ?_
          try simp only [Act.put, List.setIfInBounds_toArray, List.set_cons_zero, List.set_cons_succ]
          refine wpAnyH_take (i := 10) (oi := { dst := some 94, op := Op.convert 22 9 (Operand.tmp 93), type := 9, pos := "law.go:70", after := #[{ on := 9, ground := Ground.data }, { on := 8, ground := Ground.guard }], guard := some (8, true) }) (v := undef) rfl (by kernel_rfl) (by kernel_rfl) (by kernel_rfl) (fun _ _ _ h => h) (Or.inr ⟨by rfl, rfl⟩) hHeld0 ?_
          try simp only [Act.put, List.setIfInBounds_toArray, List.set_cons_zero, List.set_cons_succ]
          refine wpAnyH_take (i := 11) (oi := { dst := some 95, op := Op.move (Operand.tmp 13), type := 22, pos := "law.go:70", after := #[{ on := 8, ground := Ground.guard }], guard := some (8, true) }) (v := undef) rfl (by kernel_rfl) (by kernel_rfl) (by kernel_rfl) (fun _ _ _ h => h) (Or.inr ⟨by rfl, rfl⟩) hHeld0 ?_
          try simp only [Act.put, List.setIfInBounds_toArray, List.set_cons_zero, List.set_cons_succ]
          refine wpAnyH_take (i := 12) (oi := { dst := some 96, op := Op.move (Operand.tmp 16), type := 22, pos := "law.go:70", after := #[{ on := 8, ground := Ground.guard }], guard := some (8, true) }) (v := undef) rfl (by kernel_rfl) (by kernel_rfl) (by kernel_rfl) (fun _ _ _ h => h) (Or.inr ⟨by rfl, rfl⟩) hHeld0 ?_
          try simp only [Act.put, List.setIfInBounds_toArray, List.set_cons_zero, List.set_cons_succ]
          refine wpAnyH_take (i := 13) (oi := { dst := some 97, op := Op.call { callee := Callee.builtin Builtin.len, args := #[Operand.tmp 96], argTypes := #[22] }, type := 3, pos := "law.go:70", after := #[{ on := 12, ground := Ground.data }, { on := 8, ground := Ground.guard }], guard := some (8, true) }) (v := undef) rfl (by kernel_rfl) (by kernel_rfl) (by kernel_rfl) (fun _ _ _ h => h) (Or.inr ⟨by rfl, rfl⟩) hHeld0 ?_
          try simp only [Act.put, List.setIfInBounds_toArray, List.set_cons_zero, List.set_cons_succ]
          refine wpAnyH_take (i := 14) (oi := { dst := some 98, op := Op.call { callee := Callee.builtin Builtin.min, args := #[Operand.tmp 97, Operand.const (Value.int IntKind.i64 32)], argTypes := #[3, 3] }, type := 3, pos := "law.go:70", after := #[{ on := 13, ground := Ground.data }, { on := 8, ground := Ground.guard }], guard := some (8, true) }) (v := undef) rfl (by kernel_rfl) (by kernel_rfl) (by kernel_rfl) (fun _ _ _ h => h) (Or.inr ⟨by rfl, rfl⟩) hHeld0 ?_
          try simp only [Act.put, List.setIfInBounds_toArray, List.set_cons_zero, List.set_cons_succ]
          refine wpAnyH_take (i := 15) (oi := { dst := some 99, op := Op.slice 22 (Operand.tmp 95) none (some (Operand.tmp 98)) none, type := 22, pos := "law.go:70", after := #[{ on := 11, ground := Ground.data }, { on := 14, ground := Ground.data }, { on := 8, ground := Ground.guard }], guard := some (8, true) }) (v := undef) rfl (by kernel_rfl) (by kernel_rfl) (by kernel_rfl) (fun _ _ _ h => h) (Or.inr ⟨by rfl, rfl⟩) hHeld0 ?_
          try simp only [Act.put, List.setIfInBounds_toArray, List.set_cons_zero, List.set_cons_succ]
          refine wpAnyH_take (i := 16) (oi := { dst := some 100, op := Op.convert 22 9 (Operand.tmp 99), type := 9, pos := "law.go:70", after := #[{ on := 15, ground := Ground.data }, { on := 8, ground := Ground.guard }], guard := some (8, true) }) (v := undef) rfl (by kernel_rfl) (by kernel_rfl) (by kernel_rfl) (fun _ _ _ h => h) (Or.inr ⟨by rfl, rfl⟩) hHeld0 ?_
          try simp only [Act.put, List.setIfInBounds_toArray, List.set_cons_zero, List.set_cons_succ]
          refine wpAnyH_take (i := 17) (oi := { dst := some 101, op := Op.binOp BinOp.eql 9 (Operand.tmp 94) (Operand.tmp 100) 9, type := 4, pos := "law.go:70", after := #[{ on := 10, ground := Ground.data }, { on := 16, ground := Ground.data }, { on := 8, ground := Ground.guard }], guard := some (8, true) }) (v := undef) rfl (by kernel_rfl) (by kernel_rfl) (by kernel_rfl) (fun _ _ _ h => h) (Or.inr ⟨by rfl, rfl⟩) hHeld0 ?_
          try simp only [Act.put, List.setIfInBounds_toArray, List.set_cons_zero, List.set_cons_succ]
          refine wpAnyH_take (i := 18) (oi := { dst := some 102, op := Op.pick (Operand.tmp 92) (Operand.tmp 101) (Operand.const (Value.bool false)), type := 4, pos := "law.go:70", after := #[{ on := 8, ground := Ground.data }, { on := 17, ground := Ground.data }], guard := none }) (v := ?tk100) rfl (by kernel_rfl) (by kernel_rfl) (by kernel_rfl) (fun _ _ _ h => h) (Or.inl ⟨by rfl, ?tw100⟩) hHeld0 ?_
          case tw100 => (intro W hW; clear hW; first | (go_simp; done) | (go_simp; with_reducible rfl))
          try simp only [Act.put, List.setIfInBounds_toArray, List.set_cons_zero, List.set_cons_succ]
          refine wpAnyH_take (i := 19) (oi := { dst := some 17, op := Op.assign (Operand.tmp 102), type := 4, pos := "law.go:70", after := #[{ on := 18, ground := Ground.data }, { on := 8, ground := Ground.chain }, { on := 0, ground := Ground.phase }, { on := 1, ground := Ground.phase }, { on := 2, ground := Ground.phase }, { on := 3, ground := Ground.phase }, { on := 4, ground := Ground.phase }, { on := 5, ground := Ground.phase }, { on := 6, ground := Ground.phase }, { on := 7, ground := Ground.phase }, { on := 8, ground := Ground.phase }, { on := 9, ground := Ground.phase }, { on := 10, ground := Ground.phase }, { on := 11, ground := Ground.phase }, { on := 12, ground := Ground.phase }, { on := 13, ground := Ground.phase }, { on := 14, ground := Ground.phase }, { on := 15, ground := Ground.phase }, { on := 16, ground := Ground.phase }, { on := 17, ground := Ground.phase }, { on := 18, ground := Ground.phase }], guard := none }) (v := ?tk101) rfl (by kernel_rfl) (by kernel_rfl) (by kernel_rfl) (fun _ _ _ h => h) (Or.inl ⟨by rfl, ?tw101⟩) hHeld0 ?_
          case tw101 => (intro W hW; clear hW; first | (go_simp; done) | (go_simp; with_reducible rfl))
          try simp only [Act.put, List.setIfInBounds_toArray, List.set_cons_zero, List.set_cons_succ]
          refine wpAnyH_done (by kernel_rfl) ?_ _
          refine NoPanic.normal ?_
          have Hb13 := Lib.hid (show Below V.heap.size V x0 from HbX_0.out)
          have HS13 := Lib.hid Hs_0.out
          have HW13 := Lib.hid Hw_0.out
          have HL13 := Lib.hid HL_0.out
          clear Hs_0 Hw_0 HL_0 hHeld0
          go_wp2_with fail
          refine (HCK1.out _ HL13.out HS13.out (by omega)).mono ?_
          rintro e x8 ⟨rfl, hb8⟩
          have HS8 := Lib.hid (HS13.out.kept hb8)
          have HW8 := Lib.hid (keptW hb8 HW13.out)
          have HL8 := Lib.hid (HL13.out.trans (hb8.mono HL13.out.size))
          have HVB8 := Lib.hid ((Hb13.out).trans (hb8.mono Hb13.out.size))
          clear hb8 HS13 HW13 HL13
          go_upto_region 17 with fail
          have Hs_0 := Lib.hid (show BytesAt zs (.slice ak L ck) x8.drew from HS8.out.kept (Below.refl _ _).drew)
          have Hw_0 := Lib.hid (show rowN x8.drew gw = some (arr .u8 O) from HW8.out)
          have Hk_0 := Lib.hid (show BytesAt key (.slice ka K kc) x8.drew from HKB.out.kept HL8.out.drew)
          have HL_0 := Lib.hid (show Below w.heap.size w x8.drew from HL8.out.drew)
          clear HS8 HW8 HL8
          have Hb_0 := Lib.hid (show Below V.heap.size V x8.drew from HVB8.out.drew)
          refine wp_region_noPanic ?_
          refine wp_region_held_drew (S := fun W => rowN W gw = some (arr .u8 O) ∧ BytesAt zs (.slice ak L ck) W ∧ BytesAt key (.slice ka K kc) W) (by kernel_rfl) ⟨Hw_0.out, Hs_0.out, Hk_0.out⟩ (fun hHeld0 => ?_)
          obtain ⟨x0, hx0⟩ : ∃ X, x8.drew = X := ⟨_, rfl⟩
          rw [hx0] at Hw_0 Hs_0 Hk_0 Hb_0 HL_0 hHeld0 ⊢
          clear hx0
          refine wpAnyH_take (i := 0) (oi := { dst := some 120, op := Op.move (Operand.tmp 16), type := 22, pos := "law.go:75", after := #[], guard := none }) (v := ?tk102) rfl (by kernel_rfl) (by kernel_rfl) (by kernel_rfl) (fun _ _ _ h => h) (Or.inl ⟨by rfl, ?tw102⟩) hHeld0 ?_
          case tw102 => (intro W hW; clear hW; first | (go_simp; done) | (go_simp; with_reducible rfl))
          try simp only [Act.put, List.setIfInBounds_toArray, List.set_cons_zero, List.set_cons_succ]
          refine wpAnyH_take (i := 1) (oi := { dst := some 121, op := Op.move (Operand.tmp 13), type := 22, pos := "law.go:75", after := #[], guard := none }) (v := ?tk103) rfl (by kernel_rfl) (by kernel_rfl) (by kernel_rfl) (fun _ _ _ h => h) (Or.inl ⟨by rfl, ?tw103⟩) hHeld0 ?_
          case tw103 => (intro W hW; clear hW; first | (go_simp; done) | (go_simp; with_reducible rfl))
          try simp only [Act.put, List.setIfInBounds_toArray, List.set_cons_zero, List.set_cons_succ]
          refine wpAnyH_take (i := 3) (oi := { dst := some 123, op := Op.move (Operand.tmp 16), type := 22, pos := "law.go:75", after := #[], guard := none }) (v := ?tk104) rfl (by kernel_rfl) (by kernel_rfl) (by kernel_rfl) (fun _ _ _ h => h) (Or.inl ⟨by rfl, ?tw104⟩) hHeld0 ?_
          case tw104 => (intro W hW; clear hW; first | (go_simp; done) | (go_simp; with_reducible rfl))
          try simp only [Act.put, List.setIfInBounds_toArray, List.set_cons_zero, List.set_cons_succ]
          refine wpAnyH_take (i := 4) (oi := { dst := some 124, op := Op.convert 22 9 (Operand.tmp 123), type := 9, pos := "law.go:75", after := #[{ on := 3, ground := Ground.data }], guard := none }) (v := .string (strOf zs)) rfl (by kernel_rfl) (by kernel_rfl) (by kernel_rfl) (fun _ _ _ h => h) (Or.inl ⟨by rfl, fun W hW => ?_⟩) hHeld0 ?_
          · (have hst := str_bytes hW.2.1 HZN.out; clear hW; go_simp)
          try simp only [Act.put, List.setIfInBounds_toArray, List.set_cons_zero, List.set_cons_succ]
          refine wpAnyH_take (i := 5) (oi := { dst := some 125, op := Op.move (Operand.tmp 13), type := 22, pos := "law.go:75", after := #[], guard := none }) (v := ?tk105) rfl (by kernel_rfl) (by kernel_rfl) (by kernel_rfl) (fun _ _ _ h => h) (Or.inl ⟨by rfl, ?tw105⟩) hHeld0 ?_
          case tw105 => (intro W hW; clear hW; first | (go_simp; done) | (go_simp; with_reducible rfl))
          try simp only [Act.put, List.setIfInBounds_toArray, List.set_cons_zero, List.set_cons_succ]
          refine wpAnyH_take (i := 6) (oi := { dst := some 126, op := Op.convert 22 9 (Operand.tmp 125), type := 9, pos := "law.go:75", after := #[{ on := 5, ground := Ground.data }], guard := none }) (v := .string (strOf O)) rfl (by kernel_rfl) (by kernel_rfl) (by kernel_rfl) (fun _ _ _ h => h) (Or.inl ⟨by rfl, fun W hW => ?_⟩) hHeld0 ?_
          · (have hst := str_arr hW.1 HO32.out; clear hW; go_simp)
          try simp only [Act.put, List.setIfInBounds_toArray, List.set_cons_zero, List.set_cons_succ]
          refine wpAnyH_take (i := 7) (oi := { dst := some 127, op := Op.binOp BinOp.eql 9 (Operand.tmp 124) (Operand.tmp 126) 9, type := 4, pos := "law.go:75", after := #[{ on := 4, ground := Ground.data }, { on := 6, ground := Ground.data }], guard := none }) (v := .bool b1) rfl (by kernel_rfl) (by kernel_rfl) (by kernel_rfl) (fun _ _ _ h => h) (Or.inl ⟨by rfl, fun W hW => ?_⟩) hHeld0 ?_
          · (have hst := HQ1.out; clear hW; go_simp)
          try simp only [Act.put, List.setIfInBounds_toArray, List.set_cons_zero, List.set_cons_succ]
          refine wpAnyH_ready (rs := [2]) (by kernel_rfl) (by simp) ?_
          refine AllReadyH.cons (o := { dst := some 122, op := Op.call { callee := Callee.value (Operand.func 14), args := #[Operand.tmp 120, Operand.tmp 121], argTypes := #[22, 22] }, type := 4, pos := "law.go:75", after := #[{ on := 0, ground := Ground.data }, { on := 1, ground := Ground.data }], guard := none }) rfl (fun K' hK => ?_) AllReadyH.nil
          go_simp
          refine ((HE1.out _ Hs_0.out Hw_0.out)).mono ?_
          rintro e x1 ⟨rfl, hb⟩
          have Hw_1 := Lib.hid (keptW hb Hw_0.out)
          have Hs_1 := Lib.hid (Hs_0.out.kept hb)
          have Hk_1 := Lib.hid (Hk_0.out.kept hb)
          have Hb_1 := Lib.hid (bthen Hb_0.out hb)
          have HL_1 := Lib.hid (HL_0.out.trans (hb.mono HL_0.out.size))
          clear hb
          refine hK.out _ _ ⟨Hw_1.out, Hs_1.out, Hk_1.out⟩ (fun hHeld1 => ?_)
          clear hK K'
          try simp only [Act.put, List.setIfInBounds_toArray, List.set_cons_zero, List.set_cons_succ]
          refine wpAnyH_take (i := 8) (oi := { dst := some 128, op := Op.binOp BinOp.neq 4 (Operand.tmp 122) (Operand.tmp 127) 4, type := 4, pos := "law.go:75", after := #[{ on := 2, ground := Ground.data }, { on := 7, ground := Ground.data }], guard := none }) (v := .bool false) rfl (by kernel_rfl) (by kernel_rfl) (by kernel_rfl) (fun _ _ _ h => h) (Or.inl ⟨by rfl, fun W hW => ?_⟩) hHeld1 ?_
          · (clear hW; cases b1 <;> go_simp)
          try simp only [Act.put, List.setIfInBounds_toArray, List.set_cons_zero, List.set_cons_succ]
          refine wpAnyH_take (i := 9) (oi := { dst := some 129, op := Op.move (Operand.tmp 128), type := 4, pos := "law.go:75", after := #[{ on := 8, ground := Ground.data }, { on := 2, ground := Ground.chain }], guard := none }) (v := ?tk106) rfl (by kernel_rfl) (by kernel_rfl) (by kernel_rfl) (fun _ _ _ h => h) (Or.inl ⟨by rfl, ?tw106⟩) hHeld1 ?_
          case tw106 => (intro W hW; clear hW; first | (go_simp; done) | (go_simp; with_reducible rfl))
          try simp only [Act.put, List.setIfInBounds_toArray, List.set_cons_zero, List.set_cons_succ]
          refine wpAnyH_take (i := 10) (oi := { dst := some 130, op := Op.move (Operand.tmp 16), type := 22, pos := "law.go:75", after := #[{ on := 9, ground := Ground.guard }], guard := some (9, false) }) (v := ?tk107) rfl (by kernel_rfl) (by kernel_rfl) (by kernel_rfl) (fun _ _ _ h => h) (Or.inl ⟨by rfl, ?tw107⟩) hHeld1 ?_
          case tw107 => (intro W hW; clear hW; first | (go_simp; done) | (go_simp; with_reducible rfl))
          try simp only [Act.put, List.setIfInBounds_toArray, List.set_cons_zero, List.set_cons_succ]
          refine wpAnyH_take (i := 11) (oi := { dst := some 131, op := Op.move (Operand.tmp 0), type := 22, pos := "law.go:75", after := #[{ on := 9, ground := Ground.guard }], guard := some (9, false) }) (v := ?tk108) rfl (by kernel_rfl) (by kernel_rfl) (by kernel_rfl) (fun _ _ _ h => h) (Or.inl ⟨by rfl, ?tw108⟩) hHeld1 ?_
          case tw108 => (intro W hW; clear hW; first | (go_simp; done) | (go_simp; with_reducible rfl))
          try simp only [Act.put, List.setIfInBounds_toArray, List.set_cons_zero, List.set_cons_succ]
          refine wpAnyH_take (i := 13) (oi := { dst := some 133, op := Op.move (Operand.tmp 16), type := 22, pos := "law.go:75", after := #[{ on := 9, ground := Ground.guard }], guard := some (9, false) }) (v := ?tk109) rfl (by kernel_rfl) (by kernel_rfl) (by kernel_rfl) (fun _ _ _ h => h) (Or.inl ⟨by rfl, ?tw109⟩) hHeld1 ?_
          case tw109 => (intro W hW; clear hW; first | (go_simp; done) | (go_simp; with_reducible rfl))
          try simp only [Act.put, List.setIfInBounds_toArray, List.set_cons_zero, List.set_cons_succ]
          refine wpAnyH_take (i := 14) (oi := { dst := some 134, op := Op.convert 22 9 (Operand.tmp 133), type := 9, pos := "law.go:75", after := #[{ on := 13, ground := Ground.data }, { on := 9, ground := Ground.guard }], guard := some (9, false) }) (v := .string (strOf zs)) rfl (by kernel_rfl) (by kernel_rfl) (by kernel_rfl) (fun _ _ _ h => h) (Or.inl ⟨by rfl, fun W hW => ?_⟩) hHeld1 ?_
          · (have hst := str_bytes hW.2.1 HZN.out; clear hW; go_simp)
          try simp only [Act.put, List.setIfInBounds_toArray, List.set_cons_zero, List.set_cons_succ]
          refine wpAnyH_take (i := 15) (oi := { dst := some 135, op := Op.move (Operand.tmp 0), type := 22, pos := "law.go:75", after := #[{ on := 9, ground := Ground.guard }], guard := some (9, false) }) (v := ?tk110) rfl (by kernel_rfl) (by kernel_rfl) (by kernel_rfl) (fun _ _ _ h => h) (Or.inl ⟨by rfl, ?tw110⟩) hHeld1 ?_
          case tw110 => (intro W hW; clear hW; first | (go_simp; done) | (go_simp; with_reducible rfl))
          try simp only [Act.put, List.setIfInBounds_toArray, List.set_cons_zero, List.set_cons_succ]
          refine wpAnyH_take (i := 16) (oi := { dst := some 136, op := Op.convert 22 9 (Operand.tmp 135), type := 9, pos := "law.go:75", after := #[{ on := 15, ground := Ground.data }, { on := 9, ground := Ground.guard }], guard := some (9, false) }) (v := .string (strOf key)) rfl (by kernel_rfl) (by kernel_rfl) (by kernel_rfl) (fun _ _ _ h => h) (Or.inl ⟨by rfl, fun W hW => ?_⟩) hHeld1 ?_
          · (have hst := str_bytes hW.2.2 HKN.out; clear hW; go_simp)
          try simp only [Act.put, List.setIfInBounds_toArray, List.set_cons_zero, List.set_cons_succ]
          refine wpAnyH_take (i := 17) (oi := { dst := some 137, op := Op.binOp BinOp.eql 9 (Operand.tmp 134) (Operand.tmp 136) 9, type := 4, pos := "law.go:75", after := #[{ on := 14, ground := Ground.data }, { on := 16, ground := Ground.data }, { on := 9, ground := Ground.guard }], guard := some (9, false) }) (v := .bool b2) rfl (by kernel_rfl) (by kernel_rfl) (by kernel_rfl) (fun _ _ _ h => h) (Or.inl ⟨by rfl, fun W hW => ?_⟩) hHeld1 ?_
          · (have hst := HQ2.out; clear hW; go_simp)
          try simp only [Act.put, List.setIfInBounds_toArray, List.set_cons_zero, List.set_cons_succ]
          refine wpAnyH_ready (rs := [12]) (by kernel_rfl) (by simp) ?_
          refine AllReadyH.cons (o := { dst := some 132, op := Op.call { callee := Callee.value (Operand.func 14), args := #[Operand.tmp 130, Operand.tmp 131], argTypes := #[22, 22] }, type := 4, pos := "law.go:75", after := #[{ on := 10, ground := Ground.data }, { on := 11, ground := Ground.data }, { on := 9, ground := Ground.chain }, { on := 9, ground := Ground.guard }], guard := some (9, false) }) rfl (fun K' hK => ?_) AllReadyH.nil
          go_simp
          refine ((HE2.out _ Hs_1.out HL_1.out)).mono ?_
          rintro e x2 ⟨rfl, hb⟩
          have Hw_2 := Lib.hid (keptW hb Hw_1.out)
          have Hs_2 := Lib.hid (Hs_1.out.kept hb)
          have Hk_2 := Lib.hid (Hk_1.out.kept hb)
          have Hb_2 := Lib.hid (bthen Hb_1.out hb)
          have HL_2 := Lib.hid (HL_1.out.trans (hb.mono HL_1.out.size))
          clear hb
          refine hK.out _ _ ⟨Hw_2.out, Hs_2.out, Hk_2.out⟩ (fun hHeld2 => ?_)
          clear hK K'
          try simp only [Act.put, List.setIfInBounds_toArray, List.set_cons_zero, List.set_cons_succ]
          refine wpAnyH_take (i := 18) (oi := { dst := some 138, op := Op.binOp BinOp.neq 4 (Operand.tmp 132) (Operand.tmp 137) 4, type := 4, pos := "law.go:75", after := #[{ on := 12, ground := Ground.data }, { on := 17, ground := Ground.data }, { on := 9, ground := Ground.guard }], guard := some (9, false) }) (v := .bool false) rfl (by kernel_rfl) (by kernel_rfl) (by kernel_rfl) (fun _ _ _ h => h) (Or.inl ⟨by rfl, fun W hW => ?_⟩) hHeld2 ?_
          · (clear hW; cases b2 <;> go_simp)
          try simp only [Act.put, List.setIfInBounds_toArray, List.set_cons_zero, List.set_cons_succ]
          refine wpAnyH_take (i := 19) (oi := { dst := some 139, op := Op.pick (Operand.tmp 129) (Operand.const (Value.bool true)) (Operand.tmp 138), type := 4, pos := "law.go:75", after := #[{ on := 9, ground := Ground.data }, { on := 18, ground := Ground.data }], guard := none }) (v := ?tk111) rfl (by kernel_rfl) (by kernel_rfl) (by kernel_rfl) (fun _ _ _ h => h) (Or.inl ⟨by rfl, ?tw111⟩) hHeld2 ?_
          case tw111 => (intro W hW; clear hW; first | (go_simp; done) | (go_simp; with_reducible rfl))
          try simp only [Act.put, List.setIfInBounds_toArray, List.set_cons_zero, List.set_cons_succ]
          refine wpAnyH_done (by kernel_rfl) ?_ _
          refine NoPanic.normal ?_
          have HLE := Lib.hid HL_2.out
          have HBE := Lib.hid Hb_2.out
          clear hHeld2
          go_wp2_with fail
          first | (refine ⟨?_, by simp [intOf]; omega⟩; exact ⟨k + 1, by omega, rfl, HBE.out⟩) | trace_state
        have hL1 : (0 : Int) < ((L : Nat) : Int) := by omega
        have hL2 : ((L : Nat) : Int) ≤ 32 := by omega
        have hL3 : ¬ (32 : Int) < ((L : Nat) : Int) := by omega
        have hLp : 0 < L := by omega
        have hLo : 1 ≤ L := by omega
        have hLu : L ≤ 32 := by omega
        have hsw := fun W => run_slice22_h (some ⟨gw, 0, none⟩) 32 32 L hLu (fun h => by cases h) W
        have HTK := Lib.hid (fun (X : World) (h2 : rowN X gw = some (arr .u8 O)) => str_bytes (bytes_take_row hO256.out h2 L (by rw [HO32.out]; exact hLu) hLu) (nil0_some ⟨gw, 0, none⟩ L 32))
        have hcs := hcs ⟨hLo, hLu⟩
        by_cases hc3 : zs = O.take L
        · have hQ3 : ((strOf zs).toList == (strOf (O.take L)).toList) = true := by rw [hcs]; exact decide_eq_true hc3
          have HQ3 := Lib.hid hQ3
          have HC3 := Lib.hid hc3
          have HCK3 := Lib.hid (fun (X : World) (hb : Below w.heap.size w X) (h1 : BytesAt zs (.slice ak L ck) X) => show Calls Tryd.prog 13 #[.slice ka K kc, .slice ak L ck, v] X (fun e w' => e = .returned (.int .i64 0) ∧ Below X.heap.size X w') from by
            have h := HCK2.out X hb h1 hLo hLu
            rw [if_pos hc3] at h; exact h)
          clear hc3 hcs hQ3
          go_upto_region 13 with fail
          have Hs_0 := Lib.hid (show BytesAt zs (.slice ak L ck) wr.drew from HZB.out.kept (Below.refl _ _).drew)
          have Hw_0 := Lib.hid (show rowN wr.drew gw = some (arr .u8 O) from HRK.out)
          have HL_0 := Lib.hid (show Below w.heap.size w wr.drew from HBW.out.drew)
          clear hsc1
          have HbX_0 := Lib.hid (show Below V.heap.size V wr.drew from HB.out.drew)
          refine wp_region_noPanic ?_
          refine wp_region_held_drew (S := fun W => rowN W gw = some (arr .u8 O) ∧ BytesAt zs (.slice ak L ck) W) (by kernel_rfl) ⟨Hw_0.out, Hs_0.out⟩ (fun hHeld0 => ?_)
          obtain ⟨x0, hx0⟩ : ∃ X, wr.drew = X := ⟨_, rfl⟩
          rw [hx0] at Hw_0 Hs_0 HbX_0 HL_0 hHeld0 ⊢
          clear hx0
          refine wpAnyH_take (i := 0) (oi := { dst := some 84, op := Op.move (Operand.tmp 16), type := 22, pos := "law.go:70", after := #[], guard := none }) (v := ?tk112) rfl (by kernel_rfl) (by kernel_rfl) (by kernel_rfl) (fun _ _ _ h => h) (Or.inl ⟨by rfl, ?tw112⟩) hHeld0 ?_
          case tw112 => (intro W hW; clear hW; first | (go_simp; done) | (go_simp; with_reducible rfl))
          try simp only [Act.put, List.setIfInBounds_toArray, List.set_cons_zero, List.set_cons_succ]
          refine wpAnyH_take (i := 1) (oi := { dst := some 85, op := Op.call { callee := Callee.builtin Builtin.len, args := #[Operand.tmp 84], argTypes := #[22] }, type := 3, pos := "law.go:70", after := #[{ on := 0, ground := Ground.data }], guard := none }) (v := ?tk113) rfl (by kernel_rfl) (by kernel_rfl) (by kernel_rfl) (fun _ _ _ h => h) (Or.inl ⟨by rfl, ?tw113⟩) hHeld0 ?_
          case tw113 => (intro W hW; clear hW; first | (go_simp; done) | (go_simp; with_reducible rfl))
          try simp only [Act.put, List.setIfInBounds_toArray, List.set_cons_zero, List.set_cons_succ]
          refine wpAnyH_take (i := 2) (oi := { dst := some 86, op := Op.binOp BinOp.gtr 3 (Operand.tmp 85) (Operand.const (Value.int IntKind.i64 0)) 3, type := 4, pos := "law.go:70", after := #[{ on := 1, ground := Ground.data }], guard := none }) (v := .bool true) rfl (by kernel_rfl) (by kernel_rfl) (by kernel_rfl) (fun _ _ _ h => h) (Or.inl ⟨by rfl, fun W hW => ?_⟩) hHeld0 ?_
          · (clear hW; go_simp)
          try simp only [Act.put, List.setIfInBounds_toArray, List.set_cons_zero, List.set_cons_succ]
          refine wpAnyH_take (i := 3) (oi := { dst := some 87, op := Op.move (Operand.tmp 86), type := 4, pos := "law.go:70", after := #[{ on := 2, ground := Ground.data }], guard := none }) (v := ?tk114) rfl (by kernel_rfl) (by kernel_rfl) (by kernel_rfl) (fun _ _ _ h => h) (Or.inl ⟨by rfl, ?tw114⟩) hHeld0 ?_
          case tw114 => (intro W hW; clear hW; first | (go_simp; done) | (go_simp; with_reducible rfl))
          try simp only [Act.put, List.setIfInBounds_toArray, List.set_cons_zero, List.set_cons_succ]
          refine wpAnyH_take (i := 4) (oi := { dst := some 88, op := Op.move (Operand.tmp 16), type := 22, pos := "law.go:70", after := #[{ on := 3, ground := Ground.guard }], guard := some (3, true) }) (v := ?tk115) rfl (by kernel_rfl) (by kernel_rfl) (by kernel_rfl) (fun _ _ _ h => h) (Or.inl ⟨by rfl, ?tw115⟩) hHeld0 ?_
          case tw115 => (intro W hW; clear hW; first | (go_simp; done) | (go_simp; with_reducible rfl))
          try simp only [Act.put, List.setIfInBounds_toArray, List.set_cons_zero, List.set_cons_succ]
          refine wpAnyH_take (i := 5) (oi := { dst := some 89, op := Op.call { callee := Callee.builtin Builtin.len, args := #[Operand.tmp 88], argTypes := #[22] }, type := 3, pos := "law.go:70", after := #[{ on := 4, ground := Ground.data }, { on := 3, ground := Ground.guard }], guard := some (3, true) }) (v := ?tk116) rfl (by kernel_rfl) (by kernel_rfl) (by kernel_rfl) (fun _ _ _ h => h) (Or.inl ⟨by rfl, ?tw116⟩) hHeld0 ?_
          case tw116 => (intro W hW; clear hW; first | (go_simp; done) | (go_simp; with_reducible rfl))
          try simp only [Act.put, List.setIfInBounds_toArray, List.set_cons_zero, List.set_cons_succ]
          refine wpAnyH_take (i := 6) (oi := { dst := some 90, op := Op.binOp BinOp.leq 3 (Operand.tmp 89) (Operand.const (Value.int IntKind.i64 32)) 3, type := 4, pos := "law.go:70", after := #[{ on := 5, ground := Ground.data }, { on := 3, ground := Ground.guard }], guard := some (3, true) }) (v := .bool true) rfl (by kernel_rfl) (by kernel_rfl) (by kernel_rfl) (fun _ _ _ h => h) (Or.inl ⟨by rfl, fun W hW => ?_⟩) hHeld0 ?_
          · (clear hW; go_simp)
          try simp only [Act.put, List.setIfInBounds_toArray, List.set_cons_zero, List.set_cons_succ]
          refine wpAnyH_take (i := 7) (oi := { dst := some 91, op := Op.pick (Operand.tmp 87) (Operand.tmp 90) (Operand.const (Value.bool false)), type := 4, pos := "law.go:70", after := #[{ on := 3, ground := Ground.data }, { on := 6, ground := Ground.data }], guard := none }) (v := ?tk117) rfl (by kernel_rfl) (by kernel_rfl) (by kernel_rfl) (fun _ _ _ h => h) (Or.inl ⟨by rfl, ?tw117⟩) hHeld0 ?_
          case tw117 => (intro W hW; clear hW; first | (go_simp; done) | (go_simp; with_reducible rfl))
          try simp only [Act.put, List.setIfInBounds_toArray, List.set_cons_zero, List.set_cons_succ]
          refine wpAnyH_take (i := 8) (oi := { dst := some 92, op := Op.move (Operand.tmp 91), type := 4, pos := "law.go:70", after := #[{ on := 7, ground := Ground.data }, { on := 3, ground := Ground.chain }], guard := none }) (v := ?tk118) rfl (by kernel_rfl) (by kernel_rfl) (by kernel_rfl) (fun _ _ _ h => h) (Or.inl ⟨by rfl, ?tw118⟩) hHeld0 ?_
          case tw118 => (intro W hW; clear hW; first | (go_simp; done) | (go_simp; with_reducible rfl))
          try simp only [Act.put, List.setIfInBounds_toArray, List.set_cons_zero, List.set_cons_succ]
          refine wpAnyH_take (i := 9) (oi := { dst := some 93, op := Op.move (Operand.tmp 16), type := 22, pos := "law.go:70", after := #[{ on := 8, ground := Ground.guard }], guard := some (8, true) }) (v := ?tk119) rfl (by kernel_rfl) (by kernel_rfl) (by kernel_rfl) (fun _ _ _ h => h) (Or.inl ⟨by rfl, ?tw119⟩) hHeld0 ?_
          case tw119 => (intro W hW; clear hW; first | (go_simp; done) | (go_simp; with_reducible rfl))
          try simp only [Act.put, List.setIfInBounds_toArray, List.set_cons_zero, List.set_cons_succ]
          refine wpAnyH_take (i := 10) (oi := { dst := some 94, op := Op.convert 22 9 (Operand.tmp 93), type := 9, pos := "law.go:70", after := #[{ on := 9, ground := Ground.data }, { on := 8, ground := Ground.guard }], guard := some (8, true) }) (v := .string (strOf zs)) rfl (by kernel_rfl) (by kernel_rfl) (by kernel_rfl) (fun _ _ _ h => h) (Or.inl ⟨by rfl, fun W hW => ?_⟩) hHeld0 ?_
          · (have hst := str_bytes hW.2 HZN.out; clear hW; go_simp)
          try simp only [Act.put, List.setIfInBounds_toArray, List.set_cons_zero, List.set_cons_succ]
          refine wpAnyH_take (i := 11) (oi := { dst := some 95, op := Op.move (Operand.tmp 13), type := 22, pos := "law.go:70", after := #[{ on := 8, ground := Ground.guard }], guard := some (8, true) }) (v := ?tk120) rfl (by kernel_rfl) (by kernel_rfl) (by kernel_rfl) (fun _ _ _ h => h) (Or.inl ⟨by rfl, ?tw120⟩) hHeld0 ?_
          case tw120 => (intro W hW; clear hW; first | (go_simp; done) | (go_simp; with_reducible rfl))
          try simp only [Act.put, List.setIfInBounds_toArray, List.set_cons_zero, List.set_cons_succ]
          refine wpAnyH_take (i := 12) (oi := { dst := some 96, op := Op.move (Operand.tmp 16), type := 22, pos := "law.go:70", after := #[{ on := 8, ground := Ground.guard }], guard := some (8, true) }) (v := ?tk121) rfl (by kernel_rfl) (by kernel_rfl) (by kernel_rfl) (fun _ _ _ h => h) (Or.inl ⟨by rfl, ?tw121⟩) hHeld0 ?_
          case tw121 => (intro W hW; clear hW; first | (go_simp; done) | (go_simp; with_reducible rfl))
          try simp only [Act.put, List.setIfInBounds_toArray, List.set_cons_zero, List.set_cons_succ]
          refine wpAnyH_take (i := 13) (oi := { dst := some 97, op := Op.call { callee := Callee.builtin Builtin.len, args := #[Operand.tmp 96], argTypes := #[22] }, type := 3, pos := "law.go:70", after := #[{ on := 12, ground := Ground.data }, { on := 8, ground := Ground.guard }], guard := some (8, true) }) (v := ?tk122) rfl (by kernel_rfl) (by kernel_rfl) (by kernel_rfl) (fun _ _ _ h => h) (Or.inl ⟨by rfl, ?tw122⟩) hHeld0 ?_
          case tw122 => (intro W hW; clear hW; first | (go_simp; done) | (go_simp; with_reducible rfl))
          try simp only [Act.put, List.setIfInBounds_toArray, List.set_cons_zero, List.set_cons_succ]
          refine wpAnyH_take (i := 14) (oi := { dst := some 98, op := Op.call { callee := Callee.builtin Builtin.min, args := #[Operand.tmp 97, Operand.const (Value.int IntKind.i64 32)], argTypes := #[3, 3] }, type := 3, pos := "law.go:70", after := #[{ on := 13, ground := Ground.data }, { on := 8, ground := Ground.guard }], guard := some (8, true) }) (v := .int .i64 (L : Nat)) rfl (by kernel_rfl) (by kernel_rfl) (by kernel_rfl) (fun _ _ _ h => h) (Or.inl ⟨by rfl, fun W hW => ?_⟩) hHeld0 ?_
          · (clear hW; go_simp)
          try simp only [Act.put, List.setIfInBounds_toArray, List.set_cons_zero, List.set_cons_succ]
          refine wpAnyH_take (i := 15) (oi := { dst := some 99, op := Op.slice 22 (Operand.tmp 95) none (some (Operand.tmp 98)) none, type := 22, pos := "law.go:70", after := #[{ on := 11, ground := Ground.data }, { on := 14, ground := Ground.data }, { on := 8, ground := Ground.guard }], guard := some (8, true) }) (v := .slice (some ⟨gw, 0, none⟩) L 32) rfl (by kernel_rfl) (by kernel_rfl) (by kernel_rfl) (fun _ _ _ h => h) (Or.inl ⟨by rfl, fun W hW => ?_⟩) hHeld0 ?_
          · (have hst := hsw W; clear hW; go_simp)
          try simp only [Act.put, List.setIfInBounds_toArray, List.set_cons_zero, List.set_cons_succ]
          refine wpAnyH_take (i := 16) (oi := { dst := some 100, op := Op.convert 22 9 (Operand.tmp 99), type := 9, pos := "law.go:70", after := #[{ on := 15, ground := Ground.data }, { on := 8, ground := Ground.guard }], guard := some (8, true) }) (v := .string (strOf (O.take L))) rfl (by kernel_rfl) (by kernel_rfl) (by kernel_rfl) (fun _ _ _ h => h) (Or.inl ⟨by rfl, fun W hW => ?_⟩) hHeld0 ?_
          · (have hst := HTK.out W hW.1; clear hW; go_simp)
          try simp only [Act.put, List.setIfInBounds_toArray, List.set_cons_zero, List.set_cons_succ]
          refine wpAnyH_take (i := 17) (oi := { dst := some 101, op := Op.binOp BinOp.eql 9 (Operand.tmp 94) (Operand.tmp 100) 9, type := 4, pos := "law.go:70", after := #[{ on := 10, ground := Ground.data }, { on := 16, ground := Ground.data }, { on := 8, ground := Ground.guard }], guard := some (8, true) }) (v := .bool true) rfl (by kernel_rfl) (by kernel_rfl) (by kernel_rfl) (fun _ _ _ h => h) (Or.inl ⟨by rfl, fun W hW => ?_⟩) hHeld0 ?_
          · (have hst := HQ3.out; clear hW; go_simp; exact HC3.out)
          try simp only [Act.put, List.setIfInBounds_toArray, List.set_cons_zero, List.set_cons_succ]
          refine wpAnyH_take (i := 18) (oi := { dst := some 102, op := Op.pick (Operand.tmp 92) (Operand.tmp 101) (Operand.const (Value.bool false)), type := 4, pos := "law.go:70", after := #[{ on := 8, ground := Ground.data }, { on := 17, ground := Ground.data }], guard := none }) (v := ?tk123) rfl (by kernel_rfl) (by kernel_rfl) (by kernel_rfl) (fun _ _ _ h => h) (Or.inl ⟨by rfl, ?tw123⟩) hHeld0 ?_
          case tw123 => (intro W hW; clear hW; first | (go_simp; done) | (go_simp; with_reducible rfl))
          try simp only [Act.put, List.setIfInBounds_toArray, List.set_cons_zero, List.set_cons_succ]
          refine wpAnyH_take (i := 19) (oi := { dst := some 17, op := Op.assign (Operand.tmp 102), type := 4, pos := "law.go:70", after := #[{ on := 18, ground := Ground.data }, { on := 8, ground := Ground.chain }, { on := 0, ground := Ground.phase }, { on := 1, ground := Ground.phase }, { on := 2, ground := Ground.phase }, { on := 3, ground := Ground.phase }, { on := 4, ground := Ground.phase }, { on := 5, ground := Ground.phase }, { on := 6, ground := Ground.phase }, { on := 7, ground := Ground.phase }, { on := 8, ground := Ground.phase }, { on := 9, ground := Ground.phase }, { on := 10, ground := Ground.phase }, { on := 11, ground := Ground.phase }, { on := 12, ground := Ground.phase }, { on := 13, ground := Ground.phase }, { on := 14, ground := Ground.phase }, { on := 15, ground := Ground.phase }, { on := 16, ground := Ground.phase }, { on := 17, ground := Ground.phase }, { on := 18, ground := Ground.phase }], guard := none }) (v := ?tk124) rfl (by kernel_rfl) (by kernel_rfl) (by kernel_rfl) (fun _ _ _ h => h) (Or.inl ⟨by rfl, ?tw124⟩) hHeld0 ?_
          case tw124 => (intro W hW; clear hW; first | (go_simp; done) | (go_simp; with_reducible rfl))
          try simp only [Act.put, List.setIfInBounds_toArray, List.set_cons_zero, List.set_cons_succ]
          refine wpAnyH_done (by kernel_rfl) ?_ _
          refine NoPanic.normal ?_
          have Hb13 := Lib.hid (show Below V.heap.size V x0 from HbX_0.out)
          have HS13 := Lib.hid Hs_0.out
          have HW13 := Lib.hid Hw_0.out
          have HL13 := Lib.hid HL_0.out
          clear Hs_0 Hw_0 HL_0 hHeld0
          go_wp2_with fail
          refine (HCK3.out _ HL13.out HS13.out).mono ?_
          rintro e x8 ⟨rfl, hb8⟩
          have HS8 := Lib.hid (HS13.out.kept hb8)
          have HW8 := Lib.hid (keptW hb8 HW13.out)
          have HL8 := Lib.hid (HL13.out.trans (hb8.mono HL13.out.size))
          have HVB8 := Lib.hid ((Hb13.out).trans (hb8.mono Hb13.out.size))
          clear hb8 HS13 HW13 HL13
          go_upto_region 17 with fail
          have Hs_0 := Lib.hid (show BytesAt zs (.slice ak L ck) x8.drew from HS8.out.kept (Below.refl _ _).drew)
          have Hw_0 := Lib.hid (show rowN x8.drew gw = some (arr .u8 O) from HW8.out)
          have Hk_0 := Lib.hid (show BytesAt key (.slice ka K kc) x8.drew from HKB.out.kept HL8.out.drew)
          have HL_0 := Lib.hid (show Below w.heap.size w x8.drew from HL8.out.drew)
          clear HS8 HW8 HL8
          have Hb_0 := Lib.hid (show Below V.heap.size V x8.drew from HVB8.out.drew)
          refine wp_region_noPanic ?_
          refine wp_region_held_drew (S := fun W => rowN W gw = some (arr .u8 O) ∧ BytesAt zs (.slice ak L ck) W ∧ BytesAt key (.slice ka K kc) W) (by kernel_rfl) ⟨Hw_0.out, Hs_0.out, Hk_0.out⟩ (fun hHeld0 => ?_)
          obtain ⟨x0, hx0⟩ : ∃ X, x8.drew = X := ⟨_, rfl⟩
          rw [hx0] at Hw_0 Hs_0 Hk_0 Hb_0 HL_0 hHeld0 ⊢
          clear hx0
          refine wpAnyH_take (i := 0) (oi := { dst := some 120, op := Op.move (Operand.tmp 16), type := 22, pos := "law.go:75", after := #[], guard := none }) (v := ?tk125) rfl (by kernel_rfl) (by kernel_rfl) (by kernel_rfl) (fun _ _ _ h => h) (Or.inl ⟨by rfl, ?tw125⟩) hHeld0 ?_
          case tw125 => (intro W hW; clear hW; first | (go_simp; done) | (go_simp; with_reducible rfl))
          try simp only [Act.put, List.setIfInBounds_toArray, List.set_cons_zero, List.set_cons_succ]
          refine wpAnyH_take (i := 1) (oi := { dst := some 121, op := Op.move (Operand.tmp 13), type := 22, pos := "law.go:75", after := #[], guard := none }) (v := ?tk126) rfl (by kernel_rfl) (by kernel_rfl) (by kernel_rfl) (fun _ _ _ h => h) (Or.inl ⟨by rfl, ?tw126⟩) hHeld0 ?_
          case tw126 => (intro W hW; clear hW; first | (go_simp; done) | (go_simp; with_reducible rfl))
          try simp only [Act.put, List.setIfInBounds_toArray, List.set_cons_zero, List.set_cons_succ]
          refine wpAnyH_take (i := 3) (oi := { dst := some 123, op := Op.move (Operand.tmp 16), type := 22, pos := "law.go:75", after := #[], guard := none }) (v := ?tk127) rfl (by kernel_rfl) (by kernel_rfl) (by kernel_rfl) (fun _ _ _ h => h) (Or.inl ⟨by rfl, ?tw127⟩) hHeld0 ?_
          case tw127 => (intro W hW; clear hW; first | (go_simp; done) | (go_simp; with_reducible rfl))
          try simp only [Act.put, List.setIfInBounds_toArray, List.set_cons_zero, List.set_cons_succ]
          refine wpAnyH_take (i := 4) (oi := { dst := some 124, op := Op.convert 22 9 (Operand.tmp 123), type := 9, pos := "law.go:75", after := #[{ on := 3, ground := Ground.data }], guard := none }) (v := .string (strOf zs)) rfl (by kernel_rfl) (by kernel_rfl) (by kernel_rfl) (fun _ _ _ h => h) (Or.inl ⟨by rfl, fun W hW => ?_⟩) hHeld0 ?_
          · (have hst := str_bytes hW.2.1 HZN.out; clear hW; go_simp)
          try simp only [Act.put, List.setIfInBounds_toArray, List.set_cons_zero, List.set_cons_succ]
          refine wpAnyH_take (i := 5) (oi := { dst := some 125, op := Op.move (Operand.tmp 13), type := 22, pos := "law.go:75", after := #[], guard := none }) (v := ?tk128) rfl (by kernel_rfl) (by kernel_rfl) (by kernel_rfl) (fun _ _ _ h => h) (Or.inl ⟨by rfl, ?tw128⟩) hHeld0 ?_
          case tw128 => (intro W hW; clear hW; first | (go_simp; done) | (go_simp; with_reducible rfl))
          try simp only [Act.put, List.setIfInBounds_toArray, List.set_cons_zero, List.set_cons_succ]
          refine wpAnyH_take (i := 6) (oi := { dst := some 126, op := Op.convert 22 9 (Operand.tmp 125), type := 9, pos := "law.go:75", after := #[{ on := 5, ground := Ground.data }], guard := none }) (v := .string (strOf O)) rfl (by kernel_rfl) (by kernel_rfl) (by kernel_rfl) (fun _ _ _ h => h) (Or.inl ⟨by rfl, fun W hW => ?_⟩) hHeld0 ?_
          · (have hst := str_arr hW.1 HO32.out; clear hW; go_simp)
          try simp only [Act.put, List.setIfInBounds_toArray, List.set_cons_zero, List.set_cons_succ]
          refine wpAnyH_take (i := 7) (oi := { dst := some 127, op := Op.binOp BinOp.eql 9 (Operand.tmp 124) (Operand.tmp 126) 9, type := 4, pos := "law.go:75", after := #[{ on := 4, ground := Ground.data }, { on := 6, ground := Ground.data }], guard := none }) (v := .bool b1) rfl (by kernel_rfl) (by kernel_rfl) (by kernel_rfl) (fun _ _ _ h => h) (Or.inl ⟨by rfl, fun W hW => ?_⟩) hHeld0 ?_
          · (have hst := HQ1.out; clear hW; go_simp)
          try simp only [Act.put, List.setIfInBounds_toArray, List.set_cons_zero, List.set_cons_succ]
          refine wpAnyH_ready (rs := [2]) (by kernel_rfl) (by simp) ?_
          refine AllReadyH.cons (o := { dst := some 122, op := Op.call { callee := Callee.value (Operand.func 14), args := #[Operand.tmp 120, Operand.tmp 121], argTypes := #[22, 22] }, type := 4, pos := "law.go:75", after := #[{ on := 0, ground := Ground.data }, { on := 1, ground := Ground.data }], guard := none }) rfl (fun K' hK => ?_) AllReadyH.nil
          go_simp
          refine ((HE1.out _ Hs_0.out Hw_0.out)).mono ?_
          rintro e x1 ⟨rfl, hb⟩
          have Hw_1 := Lib.hid (keptW hb Hw_0.out)
          have Hs_1 := Lib.hid (Hs_0.out.kept hb)
          have Hk_1 := Lib.hid (Hk_0.out.kept hb)
          have Hb_1 := Lib.hid (bthen Hb_0.out hb)
          have HL_1 := Lib.hid (HL_0.out.trans (hb.mono HL_0.out.size))
          clear hb
          refine hK.out _ _ ⟨Hw_1.out, Hs_1.out, Hk_1.out⟩ (fun hHeld1 => ?_)
          clear hK K'
          try simp only [Act.put, List.setIfInBounds_toArray, List.set_cons_zero, List.set_cons_succ]
          refine wpAnyH_take (i := 8) (oi := { dst := some 128, op := Op.binOp BinOp.neq 4 (Operand.tmp 122) (Operand.tmp 127) 4, type := 4, pos := "law.go:75", after := #[{ on := 2, ground := Ground.data }, { on := 7, ground := Ground.data }], guard := none }) (v := .bool false) rfl (by kernel_rfl) (by kernel_rfl) (by kernel_rfl) (fun _ _ _ h => h) (Or.inl ⟨by rfl, fun W hW => ?_⟩) hHeld1 ?_
          · (clear hW; cases b1 <;> go_simp)
          try simp only [Act.put, List.setIfInBounds_toArray, List.set_cons_zero, List.set_cons_succ]
          refine wpAnyH_take (i := 9) (oi := { dst := some 129, op := Op.move (Operand.tmp 128), type := 4, pos := "law.go:75", after := #[{ on := 8, ground := Ground.data }, { on := 2, ground := Ground.chain }], guard := none }) (v := ?tk129) rfl (by kernel_rfl) (by kernel_rfl) (by kernel_rfl) (fun _ _ _ h => h) (Or.inl ⟨by rfl, ?tw129⟩) hHeld1 ?_
          case tw129 => (intro W hW; clear hW; first | (go_simp; done) | (go_simp; with_reducible rfl))
          try simp only [Act.put, List.setIfInBounds_toArray, List.set_cons_zero, List.set_cons_succ]
          refine wpAnyH_take (i := 10) (oi := { dst := some 130, op := Op.move (Operand.tmp 16), type := 22, pos := "law.go:75", after := #[{ on := 9, ground := Ground.guard }], guard := some (9, false) }) (v := ?tk130) rfl (by kernel_rfl) (by kernel_rfl) (by kernel_rfl) (fun _ _ _ h => h) (Or.inl ⟨by rfl, ?tw130⟩) hHeld1 ?_
          case tw130 => (intro W hW; clear hW; first | (go_simp; done) | (go_simp; with_reducible rfl))
          try simp only [Act.put, List.setIfInBounds_toArray, List.set_cons_zero, List.set_cons_succ]
          refine wpAnyH_take (i := 11) (oi := { dst := some 131, op := Op.move (Operand.tmp 0), type := 22, pos := "law.go:75", after := #[{ on := 9, ground := Ground.guard }], guard := some (9, false) }) (v := ?tk131) rfl (by kernel_rfl) (by kernel_rfl) (by kernel_rfl) (fun _ _ _ h => h) (Or.inl ⟨by rfl, ?tw131⟩) hHeld1 ?_
          case tw131 => (intro W hW; clear hW; first | (go_simp; done) | (go_simp; with_reducible rfl))
          try simp only [Act.put, List.setIfInBounds_toArray, List.set_cons_zero, List.set_cons_succ]
          refine wpAnyH_take (i := 13) (oi := { dst := some 133, op := Op.move (Operand.tmp 16), type := 22, pos := "law.go:75", after := #[{ on := 9, ground := Ground.guard }], guard := some (9, false) }) (v := ?tk132) rfl (by kernel_rfl) (by kernel_rfl) (by kernel_rfl) (fun _ _ _ h => h) (Or.inl ⟨by rfl, ?tw132⟩) hHeld1 ?_
          case tw132 => (intro W hW; clear hW; first | (go_simp; done) | (go_simp; with_reducible rfl))
          try simp only [Act.put, List.setIfInBounds_toArray, List.set_cons_zero, List.set_cons_succ]
          refine wpAnyH_take (i := 14) (oi := { dst := some 134, op := Op.convert 22 9 (Operand.tmp 133), type := 9, pos := "law.go:75", after := #[{ on := 13, ground := Ground.data }, { on := 9, ground := Ground.guard }], guard := some (9, false) }) (v := .string (strOf zs)) rfl (by kernel_rfl) (by kernel_rfl) (by kernel_rfl) (fun _ _ _ h => h) (Or.inl ⟨by rfl, fun W hW => ?_⟩) hHeld1 ?_
          · (have hst := str_bytes hW.2.1 HZN.out; clear hW; go_simp)
          try simp only [Act.put, List.setIfInBounds_toArray, List.set_cons_zero, List.set_cons_succ]
          refine wpAnyH_take (i := 15) (oi := { dst := some 135, op := Op.move (Operand.tmp 0), type := 22, pos := "law.go:75", after := #[{ on := 9, ground := Ground.guard }], guard := some (9, false) }) (v := ?tk133) rfl (by kernel_rfl) (by kernel_rfl) (by kernel_rfl) (fun _ _ _ h => h) (Or.inl ⟨by rfl, ?tw133⟩) hHeld1 ?_
          case tw133 => (intro W hW; clear hW; first | (go_simp; done) | (go_simp; with_reducible rfl))
          try simp only [Act.put, List.setIfInBounds_toArray, List.set_cons_zero, List.set_cons_succ]
          refine wpAnyH_take (i := 16) (oi := { dst := some 136, op := Op.convert 22 9 (Operand.tmp 135), type := 9, pos := "law.go:75", after := #[{ on := 15, ground := Ground.data }, { on := 9, ground := Ground.guard }], guard := some (9, false) }) (v := .string (strOf key)) rfl (by kernel_rfl) (by kernel_rfl) (by kernel_rfl) (fun _ _ _ h => h) (Or.inl ⟨by rfl, fun W hW => ?_⟩) hHeld1 ?_
          · (have hst := str_bytes hW.2.2 HKN.out; clear hW; go_simp)
          try simp only [Act.put, List.setIfInBounds_toArray, List.set_cons_zero, List.set_cons_succ]
          refine wpAnyH_take (i := 17) (oi := { dst := some 137, op := Op.binOp BinOp.eql 9 (Operand.tmp 134) (Operand.tmp 136) 9, type := 4, pos := "law.go:75", after := #[{ on := 14, ground := Ground.data }, { on := 16, ground := Ground.data }, { on := 9, ground := Ground.guard }], guard := some (9, false) }) (v := .bool b2) rfl (by kernel_rfl) (by kernel_rfl) (by kernel_rfl) (fun _ _ _ h => h) (Or.inl ⟨by rfl, fun W hW => ?_⟩) hHeld1 ?_
          · (have hst := HQ2.out; clear hW; go_simp)
          try simp only [Act.put, List.setIfInBounds_toArray, List.set_cons_zero, List.set_cons_succ]
          refine wpAnyH_ready (rs := [12]) (by kernel_rfl) (by simp) ?_
          refine AllReadyH.cons (o := { dst := some 132, op := Op.call { callee := Callee.value (Operand.func 14), args := #[Operand.tmp 130, Operand.tmp 131], argTypes := #[22, 22] }, type := 4, pos := "law.go:75", after := #[{ on := 10, ground := Ground.data }, { on := 11, ground := Ground.data }, { on := 9, ground := Ground.chain }, { on := 9, ground := Ground.guard }], guard := some (9, false) }) rfl (fun K' hK => ?_) AllReadyH.nil
          go_simp
          refine ((HE2.out _ Hs_1.out HL_1.out)).mono ?_
          rintro e x2 ⟨rfl, hb⟩
          have Hw_2 := Lib.hid (keptW hb Hw_1.out)
          have Hs_2 := Lib.hid (Hs_1.out.kept hb)
          have Hk_2 := Lib.hid (Hk_1.out.kept hb)
          have Hb_2 := Lib.hid (bthen Hb_1.out hb)
          have HL_2 := Lib.hid (HL_1.out.trans (hb.mono HL_1.out.size))
          clear hb
          refine hK.out _ _ ⟨Hw_2.out, Hs_2.out, Hk_2.out⟩ (fun hHeld2 => ?_)
          clear hK K'
          try simp only [Act.put, List.setIfInBounds_toArray, List.set_cons_zero, List.set_cons_succ]
          refine wpAnyH_take (i := 18) (oi := { dst := some 138, op := Op.binOp BinOp.neq 4 (Operand.tmp 132) (Operand.tmp 137) 4, type := 4, pos := "law.go:75", after := #[{ on := 12, ground := Ground.data }, { on := 17, ground := Ground.data }, { on := 9, ground := Ground.guard }], guard := some (9, false) }) (v := .bool false) rfl (by kernel_rfl) (by kernel_rfl) (by kernel_rfl) (fun _ _ _ h => h) (Or.inl ⟨by rfl, fun W hW => ?_⟩) hHeld2 ?_
          · (clear hW; cases b2 <;> go_simp)
          try simp only [Act.put, List.setIfInBounds_toArray, List.set_cons_zero, List.set_cons_succ]
          refine wpAnyH_take (i := 19) (oi := { dst := some 139, op := Op.pick (Operand.tmp 129) (Operand.const (Value.bool true)) (Operand.tmp 138), type := 4, pos := "law.go:75", after := #[{ on := 9, ground := Ground.data }, { on := 18, ground := Ground.data }], guard := none }) (v := ?tk134) rfl (by kernel_rfl) (by kernel_rfl) (by kernel_rfl) (fun _ _ _ h => h) (Or.inl ⟨by rfl, ?tw134⟩) hHeld2 ?_
          case tw134 => (intro W hW; clear hW; first | (go_simp; done) | (go_simp; with_reducible rfl))
          try simp only [Act.put, List.setIfInBounds_toArray, List.set_cons_zero, List.set_cons_succ]
          refine wpAnyH_done (by kernel_rfl) ?_ _
          refine NoPanic.normal ?_
          have HLE := Lib.hid HL_2.out
          have HBE := Lib.hid Hb_2.out
          clear hHeld2
          go_wp2_with fail
          first | (refine ⟨?_, by simp [intOf]; omega⟩; exact ⟨k + 1, by omega, rfl, HBE.out⟩) | trace_state
        · have hQ3 : ((strOf zs).toList == (strOf (O.take L)).toList) = false := by rw [hcs]; exact decide_eq_false hc3
          have HQ3 := Lib.hid hQ3
          have HC3 := Lib.hid hc3
          have HCK3 := Lib.hid (fun (X : World) (hb : Below w.heap.size w X) (h1 : BytesAt zs (.slice ak L ck) X) => show Calls Tryd.prog 13 #[.slice ka K kc, .slice ak L ck, v] X (fun e w' => e = .returned (.int .i64 10) ∧ Below X.heap.size X w') from by
            have h := HCK2.out X hb h1 hLo hLu
            rw [if_neg hc3] at h; exact h)
          clear hc3 hcs hQ3
          go_upto_region 13 with fail
          have Hs_0 := Lib.hid (show BytesAt zs (.slice ak L ck) wr.drew from HZB.out.kept (Below.refl _ _).drew)
          have Hw_0 := Lib.hid (show rowN wr.drew gw = some (arr .u8 O) from HRK.out)
          have HL_0 := Lib.hid (show Below w.heap.size w wr.drew from HBW.out.drew)
          clear hsc1
          have HbX_0 := Lib.hid (show Below V.heap.size V wr.drew from HB.out.drew)
          refine wp_region_noPanic ?_
          refine wp_region_held_drew (S := fun W => rowN W gw = some (arr .u8 O) ∧ BytesAt zs (.slice ak L ck) W) (by kernel_rfl) ⟨Hw_0.out, Hs_0.out⟩ (fun hHeld0 => ?_)
          obtain ⟨x0, hx0⟩ : ∃ X, wr.drew = X := ⟨_, rfl⟩
          rw [hx0] at Hw_0 Hs_0 HbX_0 HL_0 hHeld0 ⊢
          clear hx0
          refine wpAnyH_take (i := 0) (oi := { dst := some 84, op := Op.move (Operand.tmp 16), type := 22, pos := "law.go:70", after := #[], guard := none }) (v := ?tk135) rfl (by kernel_rfl) (by kernel_rfl) (by kernel_rfl) (fun _ _ _ h => h) (Or.inl ⟨by rfl, ?tw135⟩) hHeld0 ?_
          case tw135 => (intro W hW; clear hW; first | (go_simp; done) | (go_simp; with_reducible rfl))
          try simp only [Act.put, List.setIfInBounds_toArray, List.set_cons_zero, List.set_cons_succ]
          refine wpAnyH_take (i := 1) (oi := { dst := some 85, op := Op.call { callee := Callee.builtin Builtin.len, args := #[Operand.tmp 84], argTypes := #[22] }, type := 3, pos := "law.go:70", after := #[{ on := 0, ground := Ground.data }], guard := none }) (v := ?tk136) rfl (by kernel_rfl) (by kernel_rfl) (by kernel_rfl) (fun _ _ _ h => h) (Or.inl ⟨by rfl, ?tw136⟩) hHeld0 ?_
          case tw136 => (intro W hW; clear hW; first | (go_simp; done) | (go_simp; with_reducible rfl))
          try simp only [Act.put, List.setIfInBounds_toArray, List.set_cons_zero, List.set_cons_succ]
          refine wpAnyH_take (i := 2) (oi := { dst := some 86, op := Op.binOp BinOp.gtr 3 (Operand.tmp 85) (Operand.const (Value.int IntKind.i64 0)) 3, type := 4, pos := "law.go:70", after := #[{ on := 1, ground := Ground.data }], guard := none }) (v := .bool true) rfl (by kernel_rfl) (by kernel_rfl) (by kernel_rfl) (fun _ _ _ h => h) (Or.inl ⟨by rfl, fun W hW => ?_⟩) hHeld0 ?_
          · (clear hW; go_simp)
          try simp only [Act.put, List.setIfInBounds_toArray, List.set_cons_zero, List.set_cons_succ]
          refine wpAnyH_take (i := 3) (oi := { dst := some 87, op := Op.move (Operand.tmp 86), type := 4, pos := "law.go:70", after := #[{ on := 2, ground := Ground.data }], guard := none }) (v := ?tk137) rfl (by kernel_rfl) (by kernel_rfl) (by kernel_rfl) (fun _ _ _ h => h) (Or.inl ⟨by rfl, ?tw137⟩) hHeld0 ?_
          case tw137 => (intro W hW; clear hW; first | (go_simp; done) | (go_simp; with_reducible rfl))
          try simp only [Act.put, List.setIfInBounds_toArray, List.set_cons_zero, List.set_cons_succ]
          refine wpAnyH_take (i := 4) (oi := { dst := some 88, op := Op.move (Operand.tmp 16), type := 22, pos := "law.go:70", after := #[{ on := 3, ground := Ground.guard }], guard := some (3, true) }) (v := ?tk138) rfl (by kernel_rfl) (by kernel_rfl) (by kernel_rfl) (fun _ _ _ h => h) (Or.inl ⟨by rfl, ?tw138⟩) hHeld0 ?_
          case tw138 => (intro W hW; clear hW; first | (go_simp; done) | (go_simp; with_reducible rfl))
          try simp only [Act.put, List.setIfInBounds_toArray, List.set_cons_zero, List.set_cons_succ]
          refine wpAnyH_take (i := 5) (oi := { dst := some 89, op := Op.call { callee := Callee.builtin Builtin.len, args := #[Operand.tmp 88], argTypes := #[22] }, type := 3, pos := "law.go:70", after := #[{ on := 4, ground := Ground.data }, { on := 3, ground := Ground.guard }], guard := some (3, true) }) (v := ?tk139) rfl (by kernel_rfl) (by kernel_rfl) (by kernel_rfl) (fun _ _ _ h => h) (Or.inl ⟨by rfl, ?tw139⟩) hHeld0 ?_
          case tw139 => (intro W hW; clear hW; first | (go_simp; done) | (go_simp; with_reducible rfl))
          try simp only [Act.put, List.setIfInBounds_toArray, List.set_cons_zero, List.set_cons_succ]
          refine wpAnyH_take (i := 6) (oi := { dst := some 90, op := Op.binOp BinOp.leq 3 (Operand.tmp 89) (Operand.const (Value.int IntKind.i64 32)) 3, type := 4, pos := "law.go:70", after := #[{ on := 5, ground := Ground.data }, { on := 3, ground := Ground.guard }], guard := some (3, true) }) (v := .bool true) rfl (by kernel_rfl) (by kernel_rfl) (by kernel_rfl) (fun _ _ _ h => h) (Or.inl ⟨by rfl, fun W hW => ?_⟩) hHeld0 ?_
          · (clear hW; go_simp)
          try simp only [Act.put, List.setIfInBounds_toArray, List.set_cons_zero, List.set_cons_succ]
          refine wpAnyH_take (i := 7) (oi := { dst := some 91, op := Op.pick (Operand.tmp 87) (Operand.tmp 90) (Operand.const (Value.bool false)), type := 4, pos := "law.go:70", after := #[{ on := 3, ground := Ground.data }, { on := 6, ground := Ground.data }], guard := none }) (v := ?tk140) rfl (by kernel_rfl) (by kernel_rfl) (by kernel_rfl) (fun _ _ _ h => h) (Or.inl ⟨by rfl, ?tw140⟩) hHeld0 ?_
          case tw140 => (intro W hW; clear hW; first | (go_simp; done) | (go_simp; with_reducible rfl))
          try simp only [Act.put, List.setIfInBounds_toArray, List.set_cons_zero, List.set_cons_succ]
          refine wpAnyH_take (i := 8) (oi := { dst := some 92, op := Op.move (Operand.tmp 91), type := 4, pos := "law.go:70", after := #[{ on := 7, ground := Ground.data }, { on := 3, ground := Ground.chain }], guard := none }) (v := ?tk141) rfl (by kernel_rfl) (by kernel_rfl) (by kernel_rfl) (fun _ _ _ h => h) (Or.inl ⟨by rfl, ?tw141⟩) hHeld0 ?_
          case tw141 => (intro W hW; clear hW; first | (go_simp; done) | (go_simp; with_reducible rfl))
          try simp only [Act.put, List.setIfInBounds_toArray, List.set_cons_zero, List.set_cons_succ]
          refine wpAnyH_take (i := 9) (oi := { dst := some 93, op := Op.move (Operand.tmp 16), type := 22, pos := "law.go:70", after := #[{ on := 8, ground := Ground.guard }], guard := some (8, true) }) (v := ?tk142) rfl (by kernel_rfl) (by kernel_rfl) (by kernel_rfl) (fun _ _ _ h => h) (Or.inl ⟨by rfl, ?tw142⟩) hHeld0 ?_
          case tw142 => (intro W hW; clear hW; first | (go_simp; done) | (go_simp; with_reducible rfl))
          try simp only [Act.put, List.setIfInBounds_toArray, List.set_cons_zero, List.set_cons_succ]
          refine wpAnyH_take (i := 10) (oi := { dst := some 94, op := Op.convert 22 9 (Operand.tmp 93), type := 9, pos := "law.go:70", after := #[{ on := 9, ground := Ground.data }, { on := 8, ground := Ground.guard }], guard := some (8, true) }) (v := .string (strOf zs)) rfl (by kernel_rfl) (by kernel_rfl) (by kernel_rfl) (fun _ _ _ h => h) (Or.inl ⟨by rfl, fun W hW => ?_⟩) hHeld0 ?_
          · (have hst := str_bytes hW.2 HZN.out; clear hW; go_simp)
          try simp only [Act.put, List.setIfInBounds_toArray, List.set_cons_zero, List.set_cons_succ]
          refine wpAnyH_take (i := 11) (oi := { dst := some 95, op := Op.move (Operand.tmp 13), type := 22, pos := "law.go:70", after := #[{ on := 8, ground := Ground.guard }], guard := some (8, true) }) (v := ?tk143) rfl (by kernel_rfl) (by kernel_rfl) (by kernel_rfl) (fun _ _ _ h => h) (Or.inl ⟨by rfl, ?tw143⟩) hHeld0 ?_
          case tw143 => (intro W hW; clear hW; first | (go_simp; done) | (go_simp; with_reducible rfl))
          try simp only [Act.put, List.setIfInBounds_toArray, List.set_cons_zero, List.set_cons_succ]
          refine wpAnyH_take (i := 12) (oi := { dst := some 96, op := Op.move (Operand.tmp 16), type := 22, pos := "law.go:70", after := #[{ on := 8, ground := Ground.guard }], guard := some (8, true) }) (v := ?tk144) rfl (by kernel_rfl) (by kernel_rfl) (by kernel_rfl) (fun _ _ _ h => h) (Or.inl ⟨by rfl, ?tw144⟩) hHeld0 ?_
          case tw144 => (intro W hW; clear hW; first | (go_simp; done) | (go_simp; with_reducible rfl))
          try simp only [Act.put, List.setIfInBounds_toArray, List.set_cons_zero, List.set_cons_succ]
          refine wpAnyH_take (i := 13) (oi := { dst := some 97, op := Op.call { callee := Callee.builtin Builtin.len, args := #[Operand.tmp 96], argTypes := #[22] }, type := 3, pos := "law.go:70", after := #[{ on := 12, ground := Ground.data }, { on := 8, ground := Ground.guard }], guard := some (8, true) }) (v := ?tk145) rfl (by kernel_rfl) (by kernel_rfl) (by kernel_rfl) (fun _ _ _ h => h) (Or.inl ⟨by rfl, ?tw145⟩) hHeld0 ?_
          case tw145 => (intro W hW; clear hW; first | (go_simp; done) | (go_simp; with_reducible rfl))
          try simp only [Act.put, List.setIfInBounds_toArray, List.set_cons_zero, List.set_cons_succ]
          refine wpAnyH_take (i := 14) (oi := { dst := some 98, op := Op.call { callee := Callee.builtin Builtin.min, args := #[Operand.tmp 97, Operand.const (Value.int IntKind.i64 32)], argTypes := #[3, 3] }, type := 3, pos := "law.go:70", after := #[{ on := 13, ground := Ground.data }, { on := 8, ground := Ground.guard }], guard := some (8, true) }) (v := .int .i64 (L : Nat)) rfl (by kernel_rfl) (by kernel_rfl) (by kernel_rfl) (fun _ _ _ h => h) (Or.inl ⟨by rfl, fun W hW => ?_⟩) hHeld0 ?_
          · (clear hW; go_simp)
          try simp only [Act.put, List.setIfInBounds_toArray, List.set_cons_zero, List.set_cons_succ]
          refine wpAnyH_take (i := 15) (oi := { dst := some 99, op := Op.slice 22 (Operand.tmp 95) none (some (Operand.tmp 98)) none, type := 22, pos := "law.go:70", after := #[{ on := 11, ground := Ground.data }, { on := 14, ground := Ground.data }, { on := 8, ground := Ground.guard }], guard := some (8, true) }) (v := .slice (some ⟨gw, 0, none⟩) L 32) rfl (by kernel_rfl) (by kernel_rfl) (by kernel_rfl) (fun _ _ _ h => h) (Or.inl ⟨by rfl, fun W hW => ?_⟩) hHeld0 ?_
          · (have hst := hsw W; clear hW; go_simp)
          try simp only [Act.put, List.setIfInBounds_toArray, List.set_cons_zero, List.set_cons_succ]
          refine wpAnyH_take (i := 16) (oi := { dst := some 100, op := Op.convert 22 9 (Operand.tmp 99), type := 9, pos := "law.go:70", after := #[{ on := 15, ground := Ground.data }, { on := 8, ground := Ground.guard }], guard := some (8, true) }) (v := .string (strOf (O.take L))) rfl (by kernel_rfl) (by kernel_rfl) (by kernel_rfl) (fun _ _ _ h => h) (Or.inl ⟨by rfl, fun W hW => ?_⟩) hHeld0 ?_
          · (have hst := HTK.out W hW.1; clear hW; go_simp)
          try simp only [Act.put, List.setIfInBounds_toArray, List.set_cons_zero, List.set_cons_succ]
          refine wpAnyH_take (i := 17) (oi := { dst := some 101, op := Op.binOp BinOp.eql 9 (Operand.tmp 94) (Operand.tmp 100) 9, type := 4, pos := "law.go:70", after := #[{ on := 10, ground := Ground.data }, { on := 16, ground := Ground.data }, { on := 8, ground := Ground.guard }], guard := some (8, true) }) (v := .bool false) rfl (by kernel_rfl) (by kernel_rfl) (by kernel_rfl) (fun _ _ _ h => h) (Or.inl ⟨by rfl, fun W hW => ?_⟩) hHeld0 ?_
          · (have hst := HQ3.out; clear hW; go_simp; exact HC3.out)
          try simp only [Act.put, List.setIfInBounds_toArray, List.set_cons_zero, List.set_cons_succ]
          refine wpAnyH_take (i := 18) (oi := { dst := some 102, op := Op.pick (Operand.tmp 92) (Operand.tmp 101) (Operand.const (Value.bool false)), type := 4, pos := "law.go:70", after := #[{ on := 8, ground := Ground.data }, { on := 17, ground := Ground.data }], guard := none }) (v := ?tk146) rfl (by kernel_rfl) (by kernel_rfl) (by kernel_rfl) (fun _ _ _ h => h) (Or.inl ⟨by rfl, ?tw146⟩) hHeld0 ?_
          case tw146 => (intro W hW; clear hW; first | (go_simp; done) | (go_simp; with_reducible rfl))
          try simp only [Act.put, List.setIfInBounds_toArray, List.set_cons_zero, List.set_cons_succ]
          refine wpAnyH_take (i := 19) (oi := { dst := some 17, op := Op.assign (Operand.tmp 102), type := 4, pos := "law.go:70", after := #[{ on := 18, ground := Ground.data }, { on := 8, ground := Ground.chain }, { on := 0, ground := Ground.phase }, { on := 1, ground := Ground.phase }, { on := 2, ground := Ground.phase }, { on := 3, ground := Ground.phase }, { on := 4, ground := Ground.phase }, { on := 5, ground := Ground.phase }, { on := 6, ground := Ground.phase }, { on := 7, ground := Ground.phase }, { on := 8, ground := Ground.phase }, { on := 9, ground := Ground.phase }, { on := 10, ground := Ground.phase }, { on := 11, ground := Ground.phase }, { on := 12, ground := Ground.phase }, { on := 13, ground := Ground.phase }, { on := 14, ground := Ground.phase }, { on := 15, ground := Ground.phase }, { on := 16, ground := Ground.phase }, { on := 17, ground := Ground.phase }, { on := 18, ground := Ground.phase }], guard := none }) (v := ?tk147) rfl (by kernel_rfl) (by kernel_rfl) (by kernel_rfl) (fun _ _ _ h => h) (Or.inl ⟨by rfl, ?tw147⟩) hHeld0 ?_
          case tw147 => (intro W hW; clear hW; first | (go_simp; done) | (go_simp; with_reducible rfl))
          try simp only [Act.put, List.setIfInBounds_toArray, List.set_cons_zero, List.set_cons_succ]
          refine wpAnyH_done (by kernel_rfl) ?_ _
          refine NoPanic.normal ?_
          have Hb13 := Lib.hid (show Below V.heap.size V x0 from HbX_0.out)
          have HS13 := Lib.hid Hs_0.out
          have HW13 := Lib.hid Hw_0.out
          have HL13 := Lib.hid HL_0.out
          clear Hs_0 Hw_0 HL_0 hHeld0
          go_wp2_with fail
          refine (HCK3.out _ HL13.out HS13.out).mono ?_
          rintro e x8 ⟨rfl, hb8⟩
          have HS8 := Lib.hid (HS13.out.kept hb8)
          have HW8 := Lib.hid (keptW hb8 HW13.out)
          have HL8 := Lib.hid (HL13.out.trans (hb8.mono HL13.out.size))
          have HVB8 := Lib.hid ((Hb13.out).trans (hb8.mono Hb13.out.size))
          clear hb8 HS13 HW13 HL13
          go_upto_region 17 with fail
          have Hs_0 := Lib.hid (show BytesAt zs (.slice ak L ck) x8.drew from HS8.out.kept (Below.refl _ _).drew)
          have Hw_0 := Lib.hid (show rowN x8.drew gw = some (arr .u8 O) from HW8.out)
          have Hk_0 := Lib.hid (show BytesAt key (.slice ka K kc) x8.drew from HKB.out.kept HL8.out.drew)
          have HL_0 := Lib.hid (show Below w.heap.size w x8.drew from HL8.out.drew)
          clear HS8 HW8 HL8
          have Hb_0 := Lib.hid (show Below V.heap.size V x8.drew from HVB8.out.drew)
          refine wp_region_noPanic ?_
          refine wp_region_held_drew (S := fun W => rowN W gw = some (arr .u8 O) ∧ BytesAt zs (.slice ak L ck) W ∧ BytesAt key (.slice ka K kc) W) (by kernel_rfl) ⟨Hw_0.out, Hs_0.out, Hk_0.out⟩ (fun hHeld0 => ?_)
          obtain ⟨x0, hx0⟩ : ∃ X, x8.drew = X := ⟨_, rfl⟩
          rw [hx0] at Hw_0 Hs_0 Hk_0 Hb_0 HL_0 hHeld0 ⊢
          clear hx0
          refine wpAnyH_take (i := 0) (oi := { dst := some 120, op := Op.move (Operand.tmp 16), type := 22, pos := "law.go:75", after := #[], guard := none }) (v := ?tk148) rfl (by kernel_rfl) (by kernel_rfl) (by kernel_rfl) (fun _ _ _ h => h) (Or.inl ⟨by rfl, ?tw148⟩) hHeld0 ?_
          case tw148 => (intro W hW; clear hW; first | (go_simp; done) | (go_simp; with_reducible rfl))
          try simp only [Act.put, List.setIfInBounds_toArray, List.set_cons_zero, List.set_cons_succ]
          refine wpAnyH_take (i := 1) (oi := { dst := some 121, op := Op.move (Operand.tmp 13), type := 22, pos := "law.go:75", after := #[], guard := none }) (v := ?tk149) rfl (by kernel_rfl) (by kernel_rfl) (by kernel_rfl) (fun _ _ _ h => h) (Or.inl ⟨by rfl, ?tw149⟩) hHeld0 ?_
          case tw149 => (intro W hW; clear hW; first | (go_simp; done) | (go_simp; with_reducible rfl))
          try simp only [Act.put, List.setIfInBounds_toArray, List.set_cons_zero, List.set_cons_succ]
          refine wpAnyH_take (i := 3) (oi := { dst := some 123, op := Op.move (Operand.tmp 16), type := 22, pos := "law.go:75", after := #[], guard := none }) (v := ?tk150) rfl (by kernel_rfl) (by kernel_rfl) (by kernel_rfl) (fun _ _ _ h => h) (Or.inl ⟨by rfl, ?tw150⟩) hHeld0 ?_
          case tw150 => (intro W hW; clear hW; first | (go_simp; done) | (go_simp; with_reducible rfl))
          try simp only [Act.put, List.setIfInBounds_toArray, List.set_cons_zero, List.set_cons_succ]
          refine wpAnyH_take (i := 4) (oi := { dst := some 124, op := Op.convert 22 9 (Operand.tmp 123), type := 9, pos := "law.go:75", after := #[{ on := 3, ground := Ground.data }], guard := none }) (v := .string (strOf zs)) rfl (by kernel_rfl) (by kernel_rfl) (by kernel_rfl) (fun _ _ _ h => h) (Or.inl ⟨by rfl, fun W hW => ?_⟩) hHeld0 ?_
          · (have hst := str_bytes hW.2.1 HZN.out; clear hW; go_simp)
          try simp only [Act.put, List.setIfInBounds_toArray, List.set_cons_zero, List.set_cons_succ]
          refine wpAnyH_take (i := 5) (oi := { dst := some 125, op := Op.move (Operand.tmp 13), type := 22, pos := "law.go:75", after := #[], guard := none }) (v := ?tk151) rfl (by kernel_rfl) (by kernel_rfl) (by kernel_rfl) (fun _ _ _ h => h) (Or.inl ⟨by rfl, ?tw151⟩) hHeld0 ?_
          case tw151 => (intro W hW; clear hW; first | (go_simp; done) | (go_simp; with_reducible rfl))
          try simp only [Act.put, List.setIfInBounds_toArray, List.set_cons_zero, List.set_cons_succ]
          refine wpAnyH_take (i := 6) (oi := { dst := some 126, op := Op.convert 22 9 (Operand.tmp 125), type := 9, pos := "law.go:75", after := #[{ on := 5, ground := Ground.data }], guard := none }) (v := .string (strOf O)) rfl (by kernel_rfl) (by kernel_rfl) (by kernel_rfl) (fun _ _ _ h => h) (Or.inl ⟨by rfl, fun W hW => ?_⟩) hHeld0 ?_
          · (have hst := str_arr hW.1 HO32.out; clear hW; go_simp)
          try simp only [Act.put, List.setIfInBounds_toArray, List.set_cons_zero, List.set_cons_succ]
          refine wpAnyH_take (i := 7) (oi := { dst := some 127, op := Op.binOp BinOp.eql 9 (Operand.tmp 124) (Operand.tmp 126) 9, type := 4, pos := "law.go:75", after := #[{ on := 4, ground := Ground.data }, { on := 6, ground := Ground.data }], guard := none }) (v := .bool b1) rfl (by kernel_rfl) (by kernel_rfl) (by kernel_rfl) (fun _ _ _ h => h) (Or.inl ⟨by rfl, fun W hW => ?_⟩) hHeld0 ?_
          · (have hst := HQ1.out; clear hW; go_simp)
          try simp only [Act.put, List.setIfInBounds_toArray, List.set_cons_zero, List.set_cons_succ]
          refine wpAnyH_ready (rs := [2]) (by kernel_rfl) (by simp) ?_
          refine AllReadyH.cons (o := { dst := some 122, op := Op.call { callee := Callee.value (Operand.func 14), args := #[Operand.tmp 120, Operand.tmp 121], argTypes := #[22, 22] }, type := 4, pos := "law.go:75", after := #[{ on := 0, ground := Ground.data }, { on := 1, ground := Ground.data }], guard := none }) rfl (fun K' hK => ?_) AllReadyH.nil
          go_simp
          refine ((HE1.out _ Hs_0.out Hw_0.out)).mono ?_
          rintro e x1 ⟨rfl, hb⟩
          have Hw_1 := Lib.hid (keptW hb Hw_0.out)
          have Hs_1 := Lib.hid (Hs_0.out.kept hb)
          have Hk_1 := Lib.hid (Hk_0.out.kept hb)
          have Hb_1 := Lib.hid (bthen Hb_0.out hb)
          have HL_1 := Lib.hid (HL_0.out.trans (hb.mono HL_0.out.size))
          clear hb
          refine hK.out _ _ ⟨Hw_1.out, Hs_1.out, Hk_1.out⟩ (fun hHeld1 => ?_)
          clear hK K'
          try simp only [Act.put, List.setIfInBounds_toArray, List.set_cons_zero, List.set_cons_succ]
          refine wpAnyH_take (i := 8) (oi := { dst := some 128, op := Op.binOp BinOp.neq 4 (Operand.tmp 122) (Operand.tmp 127) 4, type := 4, pos := "law.go:75", after := #[{ on := 2, ground := Ground.data }, { on := 7, ground := Ground.data }], guard := none }) (v := .bool false) rfl (by kernel_rfl) (by kernel_rfl) (by kernel_rfl) (fun _ _ _ h => h) (Or.inl ⟨by rfl, fun W hW => ?_⟩) hHeld1 ?_
          · (clear hW; cases b1 <;> go_simp)
          try simp only [Act.put, List.setIfInBounds_toArray, List.set_cons_zero, List.set_cons_succ]
          refine wpAnyH_take (i := 9) (oi := { dst := some 129, op := Op.move (Operand.tmp 128), type := 4, pos := "law.go:75", after := #[{ on := 8, ground := Ground.data }, { on := 2, ground := Ground.chain }], guard := none }) (v := ?tk152) rfl (by kernel_rfl) (by kernel_rfl) (by kernel_rfl) (fun _ _ _ h => h) (Or.inl ⟨by rfl, ?tw152⟩) hHeld1 ?_
          case tw152 => (intro W hW; clear hW; first | (go_simp; done) | (go_simp; with_reducible rfl))
          try simp only [Act.put, List.setIfInBounds_toArray, List.set_cons_zero, List.set_cons_succ]
          refine wpAnyH_take (i := 10) (oi := { dst := some 130, op := Op.move (Operand.tmp 16), type := 22, pos := "law.go:75", after := #[{ on := 9, ground := Ground.guard }], guard := some (9, false) }) (v := ?tk153) rfl (by kernel_rfl) (by kernel_rfl) (by kernel_rfl) (fun _ _ _ h => h) (Or.inl ⟨by rfl, ?tw153⟩) hHeld1 ?_
          case tw153 => (intro W hW; clear hW; first | (go_simp; done) | (go_simp; with_reducible rfl))
          try simp only [Act.put, List.setIfInBounds_toArray, List.set_cons_zero, List.set_cons_succ]
          refine wpAnyH_take (i := 11) (oi := { dst := some 131, op := Op.move (Operand.tmp 0), type := 22, pos := "law.go:75", after := #[{ on := 9, ground := Ground.guard }], guard := some (9, false) }) (v := ?tk154) rfl (by kernel_rfl) (by kernel_rfl) (by kernel_rfl) (fun _ _ _ h => h) (Or.inl ⟨by rfl, ?tw154⟩) hHeld1 ?_
          case tw154 => (intro W hW; clear hW; first | (go_simp; done) | (go_simp; with_reducible rfl))
          try simp only [Act.put, List.setIfInBounds_toArray, List.set_cons_zero, List.set_cons_succ]
          refine wpAnyH_take (i := 13) (oi := { dst := some 133, op := Op.move (Operand.tmp 16), type := 22, pos := "law.go:75", after := #[{ on := 9, ground := Ground.guard }], guard := some (9, false) }) (v := ?tk155) rfl (by kernel_rfl) (by kernel_rfl) (by kernel_rfl) (fun _ _ _ h => h) (Or.inl ⟨by rfl, ?tw155⟩) hHeld1 ?_
          case tw155 => (intro W hW; clear hW; first | (go_simp; done) | (go_simp; with_reducible rfl))
          try simp only [Act.put, List.setIfInBounds_toArray, List.set_cons_zero, List.set_cons_succ]
          refine wpAnyH_take (i := 14) (oi := { dst := some 134, op := Op.convert 22 9 (Operand.tmp 133), type := 9, pos := "law.go:75", after := #[{ on := 13, ground := Ground.data }, { on := 9, ground := Ground.guard }], guard := some (9, false) }) (v := .string (strOf zs)) rfl (by kernel_rfl) (by kernel_rfl) (by kernel_rfl) (fun _ _ _ h => h) (Or.inl ⟨by rfl, fun W hW => ?_⟩) hHeld1 ?_
          · (have hst := str_bytes hW.2.1 HZN.out; clear hW; go_simp)
          try simp only [Act.put, List.setIfInBounds_toArray, List.set_cons_zero, List.set_cons_succ]
          refine wpAnyH_take (i := 15) (oi := { dst := some 135, op := Op.move (Operand.tmp 0), type := 22, pos := "law.go:75", after := #[{ on := 9, ground := Ground.guard }], guard := some (9, false) }) (v := ?tk156) rfl (by kernel_rfl) (by kernel_rfl) (by kernel_rfl) (fun _ _ _ h => h) (Or.inl ⟨by rfl, ?tw156⟩) hHeld1 ?_
          case tw156 => (intro W hW; clear hW; first | (go_simp; done) | (go_simp; with_reducible rfl))
          try simp only [Act.put, List.setIfInBounds_toArray, List.set_cons_zero, List.set_cons_succ]
          refine wpAnyH_take (i := 16) (oi := { dst := some 136, op := Op.convert 22 9 (Operand.tmp 135), type := 9, pos := "law.go:75", after := #[{ on := 15, ground := Ground.data }, { on := 9, ground := Ground.guard }], guard := some (9, false) }) (v := .string (strOf key)) rfl (by kernel_rfl) (by kernel_rfl) (by kernel_rfl) (fun _ _ _ h => h) (Or.inl ⟨by rfl, fun W hW => ?_⟩) hHeld1 ?_
          · (have hst := str_bytes hW.2.2 HKN.out; clear hW; go_simp)
          try simp only [Act.put, List.setIfInBounds_toArray, List.set_cons_zero, List.set_cons_succ]
          refine wpAnyH_take (i := 17) (oi := { dst := some 137, op := Op.binOp BinOp.eql 9 (Operand.tmp 134) (Operand.tmp 136) 9, type := 4, pos := "law.go:75", after := #[{ on := 14, ground := Ground.data }, { on := 16, ground := Ground.data }, { on := 9, ground := Ground.guard }], guard := some (9, false) }) (v := .bool b2) rfl (by kernel_rfl) (by kernel_rfl) (by kernel_rfl) (fun _ _ _ h => h) (Or.inl ⟨by rfl, fun W hW => ?_⟩) hHeld1 ?_
          · (have hst := HQ2.out; clear hW; go_simp)
          try simp only [Act.put, List.setIfInBounds_toArray, List.set_cons_zero, List.set_cons_succ]
          refine wpAnyH_ready (rs := [12]) (by kernel_rfl) (by simp) ?_
          refine AllReadyH.cons (o := { dst := some 132, op := Op.call { callee := Callee.value (Operand.func 14), args := #[Operand.tmp 130, Operand.tmp 131], argTypes := #[22, 22] }, type := 4, pos := "law.go:75", after := #[{ on := 10, ground := Ground.data }, { on := 11, ground := Ground.data }, { on := 9, ground := Ground.chain }, { on := 9, ground := Ground.guard }], guard := some (9, false) }) rfl (fun K' hK => ?_) AllReadyH.nil
          go_simp
          refine ((HE2.out _ Hs_1.out HL_1.out)).mono ?_
          rintro e x2 ⟨rfl, hb⟩
          have Hw_2 := Lib.hid (keptW hb Hw_1.out)
          have Hs_2 := Lib.hid (Hs_1.out.kept hb)
          have Hk_2 := Lib.hid (Hk_1.out.kept hb)
          have Hb_2 := Lib.hid (bthen Hb_1.out hb)
          have HL_2 := Lib.hid (HL_1.out.trans (hb.mono HL_1.out.size))
          clear hb
          refine hK.out _ _ ⟨Hw_2.out, Hs_2.out, Hk_2.out⟩ (fun hHeld2 => ?_)
          clear hK K'
          try simp only [Act.put, List.setIfInBounds_toArray, List.set_cons_zero, List.set_cons_succ]
          refine wpAnyH_take (i := 18) (oi := { dst := some 138, op := Op.binOp BinOp.neq 4 (Operand.tmp 132) (Operand.tmp 137) 4, type := 4, pos := "law.go:75", after := #[{ on := 12, ground := Ground.data }, { on := 17, ground := Ground.data }, { on := 9, ground := Ground.guard }], guard := some (9, false) }) (v := .bool false) rfl (by kernel_rfl) (by kernel_rfl) (by kernel_rfl) (fun _ _ _ h => h) (Or.inl ⟨by rfl, fun W hW => ?_⟩) hHeld2 ?_
          · (clear hW; cases b2 <;> go_simp)
          try simp only [Act.put, List.setIfInBounds_toArray, List.set_cons_zero, List.set_cons_succ]
          refine wpAnyH_take (i := 19) (oi := { dst := some 139, op := Op.pick (Operand.tmp 129) (Operand.const (Value.bool true)) (Operand.tmp 138), type := 4, pos := "law.go:75", after := #[{ on := 9, ground := Ground.data }, { on := 18, ground := Ground.data }], guard := none }) (v := ?tk157) rfl (by kernel_rfl) (by kernel_rfl) (by kernel_rfl) (fun _ _ _ h => h) (Or.inl ⟨by rfl, ?tw157⟩) hHeld2 ?_
          case tw157 => (intro W hW; clear hW; first | (go_simp; done) | (go_simp; with_reducible rfl))
          try simp only [Act.put, List.setIfInBounds_toArray, List.set_cons_zero, List.set_cons_succ]
          refine wpAnyH_done (by kernel_rfl) ?_ _
          refine NoPanic.normal ?_
          have HLE := Lib.hid HL_2.out
          have HBE := Lib.hid Hb_2.out
          clear hHeld2
          go_wp2_with fail
          first | (refine ⟨?_, by simp [intOf]; omega⟩; exact ⟨k + 1, by omega, rfl, HBE.out⟩) | trace_state
      · obtain rfl : k = 2 := by omega
        have hkN : ¬ ((2 : Nat) : Int) < 2 := by omega
        have HB9x := Lib.hid (HBV.out.trans (HB.out.mono HBV.out.size))
        go_wp2_with fail
        refine (known_any _ (HK.out.kept HB9x.out)).mono ?_
        rintro e w9 ⟨rfl, hb9⟩
        have HB9 := Lib.hid (HB9x.out.trans (hb9.mono HB9x.out.size))
        clear hb9
        go_wp2_with fail
        go_ret
        exact ⟨rfl, HB9.out⟩
end Go.Proofs.YtmlacbdonkfbdaaDoor
