/- CtsExchanges walked. -/
import Derived.Test.YtjcdbjapadgdfaaCQ
namespace Go.Proofs.Ytjcdbjapadgdfaa
open Go.RowKit Go.Shelf

attribute [local go_sem] Oper.semAt_some
set_option maxRecDepth 100000 in
set_option maxHeartbeats 8000000 in
theorem exchanges_all (ks iv zs : List Nat) (ak av az : Option Addr) (ck cv cz : Nat) (w : World) (hk : BytesAt ks (.slice ak ks.length ck) w) (hv : BytesAt iv (.slice av iv.length cv) w) (hz : BytesAt zs (.slice az zs.length cz) w)
    (h1 : ks.length = 16) (h2 : iv.length = 16) (h3 : 16 ≤ zs.length) (h4 : zs.length ≤ 160) :
    Calls Try.prog 5 #[.slice ak ks.length ck, .slice av iv.length cv, .slice az zs.length cz] w fun e w' => e = .returned (.bool true) ∧ Below w.heap.size w w' := by
  obtain ⟨b, off, c', e, hbl, hcc⟩ := hz.cells (by omega)
  cases e
  obtain ⟨i0, hi0, hz0, hz1, hz2⟩ := info_parts inf22
  have hcz : zs.length ≤ cz := by obtain ⟨_, a, c, e, h, _⟩ := hz; cases e; exact h
  have HK := Lib.hid hk
  have HV := Lib.hid hv
  have HZ := Lib.hid hz
  rw [h1] at HK ⊢
  rw [h2] at HV ⊢
  obtain ⟨L, hL⟩ : ∃ q, zs.length = q := ⟨_, rfl⟩
  have HL := Lib.hid hL
  rw [hL] at h3 h4 hcz HZ ⊢
  obtain ⟨n, hn⟩ : ∃ q, L / 16 = q := ⟨_, rfl⟩
  have hn1 : 16 * n ≤ L := by omega
  have hn2 : 1 ≤ n := by omega
  have hn3 : n ≤ 10 := by omega
  have hq : Int.tdiv ((L : Nat) : Int) 16 = ((n : Nat) : Int) := by rw [Int.tdiv_eq_ediv_of_nonneg (by omega)]; omega
  have hq2 : ((L : Nat) : Int) / 16 = ((n : Nat) : Int) := by omega
  have i3 : ¬ ((L : Nat) : Int) < 16 := by omega
  have i4 : ¬ (160 : Int) < ((L : Nat) : Int) := by omega
  have HI0 := Lib.hid (show XlR n b off cz w (.slice none 0 0) (.int .i64 0) w from ⟨0, by omega, rfl, ⟨rfl, .inl ⟨rfl, rfl⟩⟩, Below.refl _ _⟩)
  have HN := Lib.hid (And.intro hn1 (And.intro hn2 hn3))
  have HKL := Lib.hid h1
  have HVL := Lib.hid h2
  clear hk hv hz h1 h2 hL hn h3 h4 hcc hbl hn1 hn2
  refine (callsIn_wide (n := 6)).1 ?_
  refine callsIn_of_wp_marks Try.func5 rfl trivial ?_ rfl
  simp only [Try.ntmps5, List.size_toArray, List.length_cons, List.length_nil, Nat.reduceAdd, Nat.reduceSub, Array.replicate_succ, Array.replicate_zero, List.push_toArray, List.append_toArray, List.nil_append, List.cons_append]
  refine wpIn_wide.2 ?_
  go_wp2_with fail
  go_loopw [8, 9] (fun v i wr => XlR n b off cz w v i wr) (fun _ i _ => n - (intOf i).toNat)
  case atStart => exact HI0.out
  case round =>
    obtain ⟨k, hk, rfl, ho, hB⟩ := hrel
    have HB := Lib.hid hB
    have HO := Lib.hid ho
    have hwz := hB.size
    by_cases hlt : k < n
    · have hlt2 : ((k : Nat) : Int) < ((n : Nat) : Int) := by omega
      have hs := fun W => run_slice22_lh b off L cz (16 * k) (16 * k + 16) (by omega) (by have := HN.out; omega) W
      rw [show ((16 * k : Nat) : Int) = 16 * ((k : Nat) : Int) by omega, show ((16 * k + 16 : Nat) : Int) = 16 * ((k : Nat) : Int) + 16 by omega, show 16 * k + 16 - 16 * k = 16 by omega] at hs
      have w1 : IntKind.i64.wrap (16 * ((k : Nat) : Int)) = 16 * ((k : Nat) : Int) := IntWalk.i64_in _ (by omega)
      have w2 : IntKind.i64.wrap (16 * ((k : Nat) : Int) + 16) = 16 * ((k : Nat) : Int) + 16 := IntWalk.i64_in _ (by omega)
      clear ho hB
      go_wp2_with (at_builtin; refine wpList_append_own _ rfl _ _ 29 rfl w.heap.size 22 i0 (.slice none 0 0) 1 24 Try.underlying29 hi0 hz0 hz1 hz2 rfl (by decide) _ k (vsL b off cz k) rfl (HO.out.alloc _) ⟨wr.heap.size, 0, none⟩ 1 1 [vsB b off cz k] rfl rfl (cell_one_new _ _ _) (by intro u hu; simp at hu; subst hu; rfl) (by unfold maxLen; omega) (by omega) (by simp; omega) ?_; intro v' w' hown' hgrow' _)
      have hb' := below_owned (HB.out.alloc hwz _) (HO.out.alloc _) hgrow' (by simp; omega)
      exact ⟨⟨k + 1, by omega, rfl, by rw [vsL_succ]; exact hown', hb'⟩, by simp [intOf]; omega⟩
    · obtain rfl : k = n := by omega
      obtain ⟨hls, hlb⟩ := lsAt_own ho
      have HLS := Lib.hid hls
      have HLB := Lib.hid hlb
      have HBE := Lib.hid (show BytesAt zs (.slice (some ⟨b, off, none⟩) L cz) wr from HZ.out.kept hB)
      have HKE := Lib.hid (HK.out.kept hB)
      have HVE := Lib.hid (HV.out.kept hB)
      obtain ⟨sa, sc, rfl, _, _⟩ := hls
      have hnf : ∀ (W : World) (x y : Value), (binOp BinOp.eql 31 (.func (.func 26) #[] #[x, y]) .nilFunc).run Try.prog W = .ok (.bool false) W := fun W x y => by kernel_rfl
      clear ho hB hlb hlt
      go_wp2_with fail
      refine (lblocks_any sa k sc wr).mono ?_
      rintro e w1 ⟨rfl, hw1⟩
      have hb1 : Below wr.heap.size wr w1 := by rw [hw1]; exact (Below.refl _ _).alloc (Nat.le_refl _) _
      have HZ1 := Lib.hid (show w1.heap.size = wr.heap.size + 1 by rw [hw1]; simp)
      have HR1 := Lib.hid (show rowN w1 wr.heap.size = some #[.slice sa k sc] by rw [hw1, rowN_alloc, if_pos rfl])
      have HB1 := Lib.hid hb1
      have HCH := Lib.hid (lchain_any ks iv (.slice ak 16 ck) (.slice av 16 cv) 17 #[.pointer (some ⟨wr.heap.size, 0, none⟩)] HKL.out HVL.out w1 (HKE.out.kept hb1) (HVE.out.kept hb1))
      clear hw1 hb1
      go_wp2_with fail
      refine HCH.out.mono ?_
      rintro e U ⟨gm, gc, gb, rfl, hM, q1, q2, q3, q4, q5, hr1, hr2, hb2⟩
      have HM := Lib.hid hM
      have HQ := Lib.hid (show w1.heap.size ≤ gm ∧ w1.heap.size ≤ gc ∧ gm < gb ∧ gc < gb ∧ gb + 2 = U.heap.size from ⟨q1, q2, q3, q4, q5⟩)
      have HRA := Lib.hid hr1
      have HRB := Lib.hid hr2
      have HB2 := Lib.hid hb2
      clear hM q1 q2 q3 q4 q5 hr1 hr2 hb2 HCH
      go_wp2_with fail
      obtain ⟨X0, hX0⟩ : ∃ q, U.alloc (.cells #[.slice none 0 0] 22) = q := ⟨_, rfl⟩
      have hbX : Below U.heap.size U X0 := by rw [← hX0]; exact (Below.refl _ _).alloc (Nat.le_refl _) _
      have HZX := Lib.hid (show X0.heap.size = U.heap.size + 1 by rw [← hX0]; simp)
      have HRX := Lib.hid (show rowN X0 U.heap.size = some #[.slice none 0 0] by rw [← hX0, rowN_alloc, if_pos rfl])
      rw [hX0]
      have hb1X : Below w1.heap.size w1 X0 := bthen HB2.out hbX
      have hwX : Below wr.heap.size wr X0 := bthen HB1.out hb1X
      have HBW := Lib.hid (show Below w.heap.size w X0 from bthen HB.out hwX)
      have hn := HN.out
      have hq := HQ.out
      have hzw := HZ1.out
      have hzx := HZX.out
      have hbz : b < wr.heap.size := by
        obtain ⟨_, a', c', e, _, h2⟩ := HBE.out
        cases e
        rcases h2 with h2 | ⟨b', off', ea, hlt', _⟩
        · have := HL.out; rw [h2] at this; simp at this; omega
        · cases ea; exact hlt'
      have hLSX : LsAt k (vsB b off cz) (.slice sa k sc) X0 := HLS.out.same hwX.size (fun j _ hj => hwX.block j hj)
      have hsj : ∀ j, InS (Value.slice sa k sc) j → j < wr.heap.size := fun j hj => by
        obtain ⟨o, sp, L', c', e⟩ := hj
        obtain ⟨a', c2, e2, _, h2⟩ := HLS.out
        cases e2
        rcases h2 with h2 | ⟨b', off', ea, hlt', _⟩
        · omega
        · rw [ea] at e; cases e; exact hlt'
      have hvj : ∀ q j, InS (vsB b off cz q) j → j = b := fun q j hj => by
        obtain ⟨o, sp, L', c', e⟩ := hj
        unfold vsB at e; cases e; rfl
      have HLEN := Lib.hid (show ∀ q, q < k → (blkB zs q).length = 16 from fun q hqk => blkB_len (by have := HL.out; omega))
      have HZ2 := Lib.hid HBE.out.1
      have HF := Lib.hid (fun q (h : q < k) => chS_lw (key := ks) (iv := iv) (p := blkB zs) HKE.out.1 HVL.out HVE.out.1 (q + 1) (fun q2 _ x hx => HZ2.out x (List.mem_of_mem_drop (List.mem_of_mem_take hx))))
      have HCY := Lib.hid (chain1_yieldsU (6 - 1) gb (gb + 1) gm gc k k ks iv (blkB zs) 17 #[.pointer (some ⟨wr.heap.size, 0, none⟩)] (fun q v V => BytesAt (blkB zs q) v V ∧ v = vsB b off cz q) (fun j => j = wr.heap.size ∨ (0 < k ∧ InS (.slice sa k sc) j) ∨ ∃ q, q < k ∧ 0 < (blkB zs q).length ∧ InS (vsB b off cz q) j) X0
        HKE.out.1 HVL.out HVE.out.1 (keptW hbX HRA.out) (keptW hbX HRB.out) ⟨keptW hbX HM.out.1, keptW hbX HM.out.2⟩ (enters_of Try.func17 (by kernel_rfl) rfl)
        (lblocks1_yieldsR 4 wr.heap.size k (vsB b off cz) (blkB zs) _ (by omega) X0 (keptW hb1X HR1.out) hLSX (fun q hqk => bytes_vsB (HBE.out.kept hwX) (by have := HL.out; omega) (by have := HL.out; omega) hqk))
        (fun q v V _ h => h.1) (fun q v V l o o' h hl ho => ⟨h.1.putObj o' hl ho, h.2⟩)
        (fun q v V hqk h j hj => .inr (.inr ⟨q, hqk, by rw [HLEN.out q hqk]; omega, by rw [← h.2]; exact hj⟩))
        (fun j h => by
          rcases h with h | h | ⟨q, _, _, h⟩
          · omega
          · have := hsj j h.2; omega
          · have := hvj q j h; omega)
        (Nat.le_refl _) HLEN.out (fun h => absurd h (Nat.lt_irrefl _)) (fun q hqk x hx => HZ2.out x (List.mem_of_mem_drop (List.mem_of_mem_take hx))))
      obtain ⟨f, hf⟩ : ∃ q, (fun q => chS ks iv (blkB zs) (q + 1)) = q := ⟨_, rfl⟩
      have HFE := Lib.hid (show ∀ q, f q = chS ks iv (blkB zs) (q + 1) from fun q => by rw [← hf])
      have hlt1 : U.heap.size < X0.heap.size ∧ w.heap.size ≤ U.heap.size ∧ wr.heap.size < U.heap.size ∧ gb + 1 < U.heap.size ∧ gm < U.heap.size ∧ gc < U.heap.size ∧ b < U.heap.size := by omega
      have HRD := Lib.hid (show ∀ j, (j = gb ∨ j = gb + 1 ∨ j = gm ∨ j = gc ∨ (j = wr.heap.size ∨ (0 < k ∧ InS (.slice sa k sc) j) ∨ ∃ q, q < k ∧ 0 < (blkB zs q).length ∧ InS (vsB b off cz q) j)) → j < U.heap.size from fun j h => by
        rcases h with h | h | h | h | h | h | ⟨q, _, _, h⟩
        · omega
        · omega
        · omega
        · omega
        · omega
        · have := hsj j h.2; omega
        · have := hvj q j h; omega)
      obtain ⟨Rd, hRd⟩ : ∃ q, (fun j => j = gb ∨ j = gb + 1 ∨ j = gm ∨ j = gc ∨ (j = wr.heap.size ∨ (0 < k ∧ InS (.slice sa k sc) j) ∨ ∃ q, q < k ∧ 0 < (blkB zs q).length ∧ InS (vsB b off cz q) j)) = q := ⟨_, rfl⟩
      have HRD := Lib.hid (show ∀ j, Rd j → j < U.heap.size by rw [← hRd]; exact HRD.out)
      rw [hRd] at HCY
      clear hRd hf hX0 hbX hb1X hwX hLSX hsj hvj hq hzw hzx HLS HLB HM HRA HRB
      go_wp2_with fail
      refine (wpIn_wide (n := 6)).1 ?_
      refine range_yieldsU (by omega) (gf := 26) (lb := #[.pointer (some ⟨gb, 0, none⟩), .pointer (some ⟨gb + 1, 0, none⟩)]) rfl (enters_of Try.func26 (by kernel_rfl) rfl) HCY.out
        (fun j h => by have := HRD.out j h; omega)
        (fun q v V l o o' h hl ho => ⟨⟨h.1.1.putObj o' hl ho, NF.putObj h.1.1 h.1.2 o' hl ho⟩, fun j hj => by have := h.2 j hj; simp; exact this⟩) (Below.refl _ _)
        (CxI f U.heap.size w) (fun _ _ _ _ => False) (fun B1 h => cxI_abide f U.heap.size w (by omega) (by omega) B1) (fun _ _ _ _ _ _ _ h _ _ => h)
        (fun X hX => ⟨_, keptW hX HRX.out, ⟨rfl, .inl ⟨rfl, rfl⟩⟩, bthen HBW.out hX⟩) ?a1 ?assign ?body ?done ?stop
      case assign =>
        intro l2 v X kk hkk
        gi_wp2
        exact hkk
      case body =>
        rintro l2 B1 q v X hB1 hB1X hqk ⟨s, hbx, hown, hbl⟩ ⟨⟨hbv, _⟩, hins⟩
        rw [← HFE.out] at hbv
        have hfl : (f q).length = 16 := by rw [HFE.out]; exact (HF.out q hqk).1
        obtain ⟨bv, ov, cv', rfl, hbvl, _⟩ := hbv.cells (by rw [hfl]; omega)
        have hcells := (bytes_cells hbv).2
        rw [hfl] at hins ⊢
        have hbc := (rowN_cell hbx).1 0
        obtain ⟨i5, hi5, hy0, hy1, hy2⟩ := info_parts Try.info5
        have HOWN := Lib.hid hown
        have HBX := Lib.hid hbx
        have HEND := Lib.hid (fun (s' : Value) (X2 : World) (hown2 : X2.ownsRow B1 5 1 s' (16 * q + 16) (cl (catN f q) ++ cl (f q))) (hg2 : X.grownBy X2 s.ownBlock) =>
          cx_end (f := f) (gbx := U.heap.size) (B := X0.heap.size) (R := fun j => Rd j ∨ (X0.heap.size + 2 ≤ j ∧ j < B1)) (own := InS (Value.slice (some ⟨bv, ov, none⟩) 16 cv')) (by omega) (fun h => by
            rcases h with h | h
            · have := HRD.out _ h; omega
            · omega) (fun j h => by
            rcases h with h | h
            · have := HRD.out _ h; omega
            · omega) hB1 (by omega) hbx hown hbl hown2 hg2)
        have HRW := Lib.hid (fun (X2 : World) (hg2 : X.grownBy X2 s.ownBlock) => show rowN X2 U.heap.size = some #[s] from (grownBy_rowN hg2 (rowN_lt hbx) (fun e => by
          rcases hown.2 with ⟨e1, _⟩ | ⟨g, cap, cur, e1, hb2, _⟩
          · rw [e1] at e; cases e
          · rw [e1] at e
            have e2 : U.heap.size = g := by simpa [Value.ownBlock] using e
            omega)).trans hbx)
        have hX2 := Nat.le_trans hB1 hB1X
        clear hbv hbvl hins hown hbl hbx
        gi_wp2_with (gi_at_builtin; refine wpListIn_append_own _ rfl _ _ 22 rfl B1 5 i5 (.int .u8 0) 1 1 Try.underlying22 hi5 hy0 hy1 hy2 rfl (by decide) s (16 * q) (cl (catN f q)) rfl HOWN.out ⟨bv, ov, none⟩ 16 cv' (cl (f q)) rfl (by rw [cl_len, hfl]) hcells (cl_one _) (by unfold maxLen; omega) (by omega) hB1X ?_; intro s' X2 hown2 hg2 _; obtain ⟨sa2, sc2, rfl⟩ := owns_slice hown2; have HE := Lib.hid (HEND.out _ X2 hown2 hg2); have hbx2 := HRW.out X2 hg2; have hf2 := (rowN_cell hbx2).2 0; have hc2 := (rowN_cell hbx2).1 0; clear hown2 hg2)

        have hE := HE.out
        exact ⟨hE.1, hE.2.1, .inl ⟨rfl, hE.2.2⟩⟩
      case stop => exact fun _ _ _ _ _ _ _ _ h => h.elim
      case done =>
        rintro D B1 X hD hB1 ⟨s, hbx, hown, hbl⟩ hKD
        obtain ⟨sa3, sc3, rfl⟩ := owns_slice hown
        have hCL : (catN f k).length = 16 * k := catN_len k (fun q hqk => by rw [HFE.out]; exact (HF.out q hqk).1)
        have HCL := Lib.hid hCL
        have hc1 := (rowN_cell hbx).1 0
        have HBX := Lib.hid hbx
        have HOW := Lib.hid hown
        have HBL := Lib.hid hbl
        have HKD := Lib.hid hKD
        have hgl := rowN_lt hbx
        have hDl : D < X.heap.size := (Array.getElem?_eq_some_iff.1 hKD).1
        have hs1 := fun W => run_slice22_h (some ⟨b, off, none⟩) L cz (16 * k) (by omega) (fun e => by cases e) W
        rw [show ((16 * k : Nat) : Int) = 16 * ((k : Nat) : Int) by omega] at hs1
        have w1 : IntKind.i64.wrap (16 * ((k : Nat) : Int)) = 16 * ((k : Nat) : Int) := IntWalk.i64_in _ (by omega)
        have HEC := Lib.hid (show Calls Try.prog 7 #[.slice ak 16 ck, .slice av 16 cv, .slice (some ⟨b, off, none⟩) (16 * k) cz] X (fun e w' => ∃ s', e = .returned (.tuple #[s', .int .i64 0]) ∧ BytesAt (swp (catN f k)) s' w' ∧ Nil0 s' ∧ (∀ j, InS s' j → X.heap.size ≤ j) ∧ Below X.heap.size X w') from by
          have hzX := bytes_cutm (HZ.out.kept hbl) 0 (16 * k) cz (by have := HL.out; omega) (by omega)
          rw [List.drop_zero] at hzX
          have h := enc_any ks iv (zs.take (16 * k)) (.slice ak 16 ck) (.slice av 16 cv) _ (16 * k) cz (by rw [List.length_take]; have := HL.out; omega) HKL.out HVL.out (by omega) (by omega) X (HK.out.kept hbl) (HV.out.kept hbl) hzX
          rw [enc_whole HK.out.1 HVL.out HV.out.1 HZ.out.1 (by have := HL.out; omega), catN_congr k (fun q _ => (HFE.out q).symm)] at h
          exact h)
        clear hbx hown hbl hKD hCL
        go_wp2_with fail
        refine HEC.out.mono ?_
        rintro e w2 ⟨s2, rfl, hb2, hn2, hi2, hw2⟩
        have HS2 := Lib.hid hb2
        have HN2 := Lib.hid hn2
        have HI2 := Lib.hid hi2
        have HW2 := Lib.hid hw2
        have HBX2 := Lib.hid (keptW hw2 HBX.out)
        have hc2 := (rowN_cell HBX2.out).1 0
        have HOW2 := Lib.hid (HOW.out.kept (grown_none hw2) (by cases sa3 with
          | none => exact .inl rfl
          | some a3 => exact .inr (by simp [Value.ownBlock])))
        clear hb2 hn2 hi2 hw2 hc1 HEC
        by_cases hk1 : k = 1
        · have i1 : ¬ (1 : Int) < ((k : Nat) : Int) := by omega
          have hC2 : ∀ x ∈ catN f k, x < 256 := catN_256 k (fun q hqk => by rw [HFE.out]; exact (HF.out q hqk).2)
          have ho3 := HOW2.out
          rw [← HCL.out] at ho3
          have hst1 := str_bytes HS2.out HN2.out
          rw [swp_one HCL.out (by omega)] at hst1
          have hst2 := str_bytes (owns_both hC2 ho3).1 (owns_nil0 ho3)
          rw [HCL.out] at hst2
          rw [hk1] at hst2 hc2
          simp only [Nat.mul_one] at hst2 hc2
          have HKN := Lib.hid (known_any w2)
          clear hC2 ho3
          go_wp2_with fail
          refine HKN.out.mono ?_
          rintro e w3 ⟨rfl, hw3⟩
          have HKD3 := Lib.hid (((bthen HW2.out hw3).block D hDl).trans HKD.out)
          have HB3 := Lib.hid (bthen HBL.out (bthen HW2.out hw3))
          clear hw3 HKN
          go_wp2_with fail
          refine ⟨by simp, .inl ⟨_, _, rfl, run_takeDeferred HKD3.out, ?_⟩⟩
          exact ⟨_, results_slot rfl rfl, rfl, HB3.out.grown (grownBy_putObj' _ _ _) HB3.out.size (fun r e => by cases e; omega)⟩
        · have i1 : (1 : Int) < ((k : Nat) : Int) := by omega
          have hk2 : 2 ≤ k := by omega
          have hC2 : ∀ x ∈ catN f k, x < 256 := catN_256 k (fun q hqk => by rw [HFE.out]; exact (HF.out q hqk).2)
          have ho3 := HOW2.out
          rw [← HCL.out] at ho3
          have HOB := Lib.hid (owns_both hC2 ho3)
          have HON := Lib.hid (owns_nil0 ho3)
          obtain ⟨g3, hg3, hg3b, hg3c⟩ : ∃ g3, sa3 = some ⟨g3, 0, none⟩ ∧ B1 ≤ g3 ∧ 16 * k ≤ sc3 := by
            rcases ho3.2 with ⟨_, e0⟩ | ⟨g, cap, cur, e, hb, _, hc, _⟩
            · rw [HCL.out] at e0; omega
            · cases e; exact ⟨g, rfl, hb, by rw [← HCL.out]; exact hc⟩
          subst hg3
          obtain ⟨j, hj⟩ : ∃ j, 16 * (k - 2) = j := ⟨_, rfl⟩
          have w3 : IntKind.i64.wrap (((k : Nat) : Int) - 2) = ((k : Nat) : Int) - 2 := IntWalk.i64_in _ (by omega)
          have w4 : IntKind.i64.wrap (16 * (((k : Nat) : Int) - 2)) = ((j : Nat) : Int) := by rw [IntWalk.i64_in _ (by omega)]; omega
          have w5 : IntKind.i64.wrap (((j : Nat) : Int) + 16) = ((j : Nat) : Int) + 16 := IntWalk.i64_in _ (by omega)
          have hsl1 := fun W => run_slice22_h (some ⟨g3, 0, none⟩) (16 * k) sc3 j (by omega) (fun e => by cases e) W
          have hsl2 := fun W => run_slice22_l g3 0 (16 * k) sc3 (j + 16) (by omega) (by omega) W
          have hsl3 := fun W => run_slice22_lh g3 0 (16 * k) sc3 j (j + 16) (by omega) (by omega) W
          rw [Nat.zero_add, show ((j + 16 : Nat) : Int) = ((j : Nat) : Int) + 16 by omega] at hsl2 hsl3
          rw [Nat.add_sub_cancel_left] at hsl3
          have HTA := Lib.hid (fun (W : World) (h : BytesAt (catN f k) (.slice (some ⟨g3, 0, none⟩) (catN f k).length sc3) W) => bytes_cutm h 0 j sc3 (by rw [HCL.out]; omega) (by omega))
          have hHTB := (fun (W : World) (h : BytesAt (catN f k) (.slice (some ⟨g3, 0, none⟩) (catN f k).length sc3) W) => bytes_cutm h (j + 16) (16 * k - (j + 16)) (sc3 - (j + 16)) (by rw [HCL.out]; omega) (by omega))
          simp only [Nat.zero_add] at hHTB
          have HTB := Lib.hid hHTB
          clear hHTB
          have hHTC := (fun (W : World) (h : BytesAt (catN f k) (.slice (some ⟨g3, 0, none⟩) (catN f k).length sc3) W) => bytes_cutm h j 16 (sc3 - j) (by rw [HCL.out]; omega) (by omega))
          simp only [Nat.zero_add] at hHTC
          have HTC := Lib.hid hHTC
          clear hHTC
          rw [HCL.out] at HOB HTA HTB HTC
          have HJ := Lib.hid hj
          clear ho3 hC2 hj
          go_upto_region 21 with fail
          refine wp_region_noPanic ?_
          refine wp_region_L 16 (fun W => rowN W U.heap.size = some #[.slice (some ⟨g3, 0, none⟩) (16 * k) sc3]) (by kernel_rfl) ?_
          obtain ⟨x0, hx0⟩ : ∃ X, w2.drew = X := ⟨_, rfl⟩
          have hB0 : Below w2.heap.size w2 x0 := by rw [← hx0]; exact (Below.refl _ _).drew
          have He_0 := Lib.hid (keptW hB0 HBX2.out)
          have HL_0 := Lib.hid hB0
          rw [hx0]
          clear hx0 hB0
          refine wpAnyL_take [3, 4, 9, 15, 16] (i := 1) (oi := { dst := some 90, op := Op.load 22 (Operand.tmp 11), type := 22, pos := "law.go:157", after := #[], guard := none }) (v := .slice (some ⟨g3, 0, none⟩) (16 * k) sc3) rfl (by kernel_rfl) (by kernel_rfl) (by kernel_rfl) (by kernel_rfl) (by kernel_rfl) (fun _ _ _ h => h) (Or.inl ⟨by rfl, fun W hW => ?_⟩) He_0.out ?_
          · (have hW1 := (rowN_cell hW).1 0; clear hW; go_simp)
          try simp only [Act.put, List.setIfInBounds_toArray, List.set_cons_zero, List.set_cons_succ]
          refine wpAnyL_take [3, 4, 9, 15, 16] (i := 2) (oi := { dst := some 91, op := Op.move (Operand.tmp 15), type := 3, pos := "law.go:157", after := #[], guard := none }) (v := ?tk1) rfl (by kernel_rfl) (by kernel_rfl) (by kernel_rfl) (by kernel_rfl) (by kernel_rfl) (fun _ _ _ h => h) (Or.inl ⟨by rfl, ?tw1⟩) He_0.out ?_
          case tw1 => (intro W hW; clear hW; first | (go_simp; done) | (go_simp; with_reducible rfl))
          try simp only [Act.put, List.setIfInBounds_toArray, List.set_cons_zero, List.set_cons_succ]
          refine wpAnyL_take [4, 9, 15, 16] (i := 3) (oi := { dst := some 92, op := Op.slice 22 (Operand.tmp 90) none (some (Operand.tmp 91)) none, type := 22, pos := "law.go:157", after := #[{ on := 1, ground := Ground.data }, { on := 2, ground := Ground.data }], guard := none }) (v := ?tk2) rfl (by kernel_rfl) (by kernel_rfl) (by kernel_rfl) (by kernel_rfl) (by kernel_rfl) (fun _ _ _ h => h) (Or.inl ⟨by rfl, ?tw2⟩) He_0.out ?_
          case tw2 => (intro W hW; clear hW; first | (go_simp; done) | (go_simp; with_reducible rfl))
          try simp only [Act.put, List.setIfInBounds_toArray, List.set_cons_zero, List.set_cons_succ]
          refine wpAnyL_take [8, 9, 15, 16] (i := 5) (oi := { dst := some 94, op := Op.load 22 (Operand.tmp 11), type := 22, pos := "law.go:157", after := #[], guard := none }) (v := .slice (some ⟨g3, 0, none⟩) (16 * k) sc3) rfl (by kernel_rfl) (by kernel_rfl) (by kernel_rfl) (by kernel_rfl) (by kernel_rfl) (fun _ _ _ h => h) (Or.inl ⟨by rfl, fun W hW => ?_⟩) He_0.out ?_
          · (have hW1 := (rowN_cell hW).1 0; clear hW; go_simp)
          try simp only [Act.put, List.setIfInBounds_toArray, List.set_cons_zero, List.set_cons_succ]
          refine wpAnyL_take [7, 8, 9, 15, 16] (i := 6) (oi := { dst := some 95, op := Op.move (Operand.tmp 15), type := 3, pos := "law.go:157", after := #[], guard := none }) (v := ?tk4) rfl (by kernel_rfl) (by kernel_rfl) (by kernel_rfl) (by kernel_rfl) (by kernel_rfl) (fun _ _ _ h => h) (Or.inl ⟨by rfl, ?tw4⟩) He_0.out ?_
          case tw4 => (intro W hW; clear hW; first | (go_simp; done) | (go_simp; with_reducible rfl))
          try simp only [Act.put, List.setIfInBounds_toArray, List.set_cons_zero, List.set_cons_succ]
          refine wpAnyL_take [8, 9, 15, 16] (i := 7) (oi := { dst := some 96, op := Op.binOp BinOp.add 3 (Operand.tmp 95) (Operand.const (Value.int IntKind.i64 16)) 3, type := 3, pos := "law.go:157", after := #[{ on := 6, ground := Ground.data }], guard := none }) (v := ?tk5) rfl (by kernel_rfl) (by kernel_rfl) (by kernel_rfl) (by kernel_rfl) (by kernel_rfl) (fun _ _ _ h => h) (Or.inl ⟨by rfl, ?tw5⟩) He_0.out ?_
          case tw5 => (intro W hW; clear hW; first | (go_simp; done) | (go_simp; with_reducible rfl))
          try simp only [Act.put, List.setIfInBounds_toArray, List.set_cons_zero, List.set_cons_succ]
          refine wpAnyL_take [9, 15, 16] (i := 8) (oi := { dst := some 97, op := Op.slice 22 (Operand.tmp 94) (some (Operand.tmp 96)) none none, type := 22, pos := "law.go:157", after := #[{ on := 5, ground := Ground.data }, { on := 7, ground := Ground.data }], guard := none }) (v := ?tk6) rfl (by kernel_rfl) (by kernel_rfl) (by kernel_rfl) (by kernel_rfl) (by kernel_rfl) (fun _ _ _ h => h) (Or.inl ⟨by rfl, ?tw6⟩) He_0.out ?_
          case tw6 => (intro W hW; clear hW; first | (go_simp; done) | (go_simp; with_reducible rfl))
          try simp only [Act.put, List.setIfInBounds_toArray, List.set_cons_zero, List.set_cons_succ]
          refine wpAnyL_take [14, 15, 16] (i := 10) (oi := { dst := some 99, op := Op.load 22 (Operand.tmp 11), type := 22, pos := "law.go:157", after := #[], guard := none }) (v := .slice (some ⟨g3, 0, none⟩) (16 * k) sc3) rfl (by kernel_rfl) (by kernel_rfl) (by kernel_rfl) (by kernel_rfl) (by kernel_rfl) (fun _ _ _ h => h) (Or.inl ⟨by rfl, fun W hW => ?_⟩) He_0.out ?_
          · (have hW1 := (rowN_cell hW).1 0; clear hW; go_simp)
          try simp only [Act.put, List.setIfInBounds_toArray, List.set_cons_zero, List.set_cons_succ]
          refine wpAnyL_take [14, 15, 16] (i := 11) (oi := { dst := some 100, op := Op.move (Operand.tmp 15), type := 3, pos := "law.go:157", after := #[], guard := none }) (v := ?tk8) rfl (by kernel_rfl) (by kernel_rfl) (by kernel_rfl) (by kernel_rfl) (by kernel_rfl) (fun _ _ _ h => h) (Or.inl ⟨by rfl, ?tw8⟩) He_0.out ?_
          case tw8 => (intro W hW; clear hW; first | (go_simp; done) | (go_simp; with_reducible rfl))
          try simp only [Act.put, List.setIfInBounds_toArray, List.set_cons_zero, List.set_cons_succ]
          refine wpAnyL_take [13, 14, 15, 16] (i := 12) (oi := { dst := some 101, op := Op.move (Operand.tmp 15), type := 3, pos := "law.go:157", after := #[], guard := none }) (v := ?tk9) rfl (by kernel_rfl) (by kernel_rfl) (by kernel_rfl) (by kernel_rfl) (by kernel_rfl) (fun _ _ _ h => h) (Or.inl ⟨by rfl, ?tw9⟩) He_0.out ?_
          case tw9 => (intro W hW; clear hW; first | (go_simp; done) | (go_simp; with_reducible rfl))
          try simp only [Act.put, List.setIfInBounds_toArray, List.set_cons_zero, List.set_cons_succ]
          refine wpAnyL_take [14, 15, 16] (i := 13) (oi := { dst := some 102, op := Op.binOp BinOp.add 3 (Operand.tmp 101) (Operand.const (Value.int IntKind.i64 16)) 3, type := 3, pos := "law.go:157", after := #[{ on := 12, ground := Ground.data }], guard := none }) (v := ?tk10) rfl (by kernel_rfl) (by kernel_rfl) (by kernel_rfl) (by kernel_rfl) (by kernel_rfl) (fun _ _ _ h => h) (Or.inl ⟨by rfl, ?tw10⟩) He_0.out ?_
          case tw10 => (intro W hW; clear hW; first | (go_simp; done) | (go_simp; with_reducible rfl))
          try simp only [Act.put, List.setIfInBounds_toArray, List.set_cons_zero, List.set_cons_succ]
          refine wpAnyL_take [15, 16] (i := 14) (oi := { dst := some 103, op := Op.slice 22 (Operand.tmp 99) (some (Operand.tmp 100)) (some (Operand.tmp 102)) none, type := 22, pos := "law.go:157", after := #[{ on := 10, ground := Ground.data }, { on := 11, ground := Ground.data }, { on := 13, ground := Ground.data }], guard := none }) (v := ?tk11) rfl (by kernel_rfl) (by kernel_rfl) (by kernel_rfl) (by kernel_rfl) (by kernel_rfl) (fun _ _ _ h => h) (Or.inl ⟨by rfl, ?tw11⟩) He_0.out ?_
          case tw11 => (intro W hW; clear hW; first | (go_simp; done) | (go_simp; with_reducible rfl))
          try simp only [Act.put, List.setIfInBounds_toArray, List.set_cons_zero, List.set_cons_succ]
          refine wpAnyL_one (i := 0) (o := { dst := some 89, op := Op.buildSlice 22 0 #[], type := 22, pos := "law.go:157", after := #[], guard := none }) (by kernel_rfl) rfl (fun K' hK => ?_)
          go_simp
          obtain ⟨x1, hx1⟩ : ∃ X, x0.alloc (.cells #[] 5) = X := ⟨_, rfl⟩
          have hb : Below x0.heap.size x0 x1 := by rw [← hx1]; exact (Below.refl _ _).alloc (Nat.le_refl _) _
          have Ho_1 := Lib.hid (show x1.ownsRow x0.heap.size 5 1 (.slice (some ⟨x0.heap.size, 0, none⟩) 0 0) ([] : List Nat).length (cl []) by rw [← hx1]; exact World.ownsRow_lit _ #[] 0 (Nat.le_refl _) (by unfold maxLen; omega) rfl)
          have HX_1 := Lib.hid hb
          have hx0y : x0.heap.size ≤ x1.heap.size := hb.size
          clear hb
          rw [hx1]
          clear hx1
          refine hK.out _ _ (fun _ => keptW HX_1.out He_0.out) ?_
          clear hK K'
          try simp only [Act.put, List.setIfInBounds_toArray, List.set_cons_zero, List.set_cons_succ]
          refine wpAnyL_one (i := 4) (o := { dst := some 93, op := Op.call { callee := Callee.builtin Builtin.append, args := #[Operand.tmp 89, Operand.tmp 92], argTypes := #[22, 22] }, type := 22, pos := "law.go:157", after := #[{ on := 0, ground := Ground.data }, { on := 3, ground := Ground.data }], guard := none }) (by kernel_rfl) rfl (fun K' hK => ?_)
          rw [if_pos (by rfl)]
          refine wp_app _ _ rfl x0.heap.size rfl rfl Ho_1.out (HTA.out _ (HOB.out.1.kept (bthen HL_0.out HX_1.out))) (fun _ _ e => by cases e) ?sz1 hx0y ?_
          case sz1 => (simp only [List.length_take, List.length_drop, HCL.out, List.length_nil]; omega)
          intro vb x2 hva hga
          have hbl := below_owned HX_1.out Ho_1.out hga hx0y
          have Ho_2 := Lib.hid hva
          have HX_2 := Lib.hid hbl
          have hx0z : x0.heap.size ≤ x2.heap.size := hbl.size
          clear hva hga hbl hx0y
          have hx0y := hx0z
          clear hx0z
          refine hK.out _ _ (fun _ => keptW HX_2.out He_0.out) ?_
          clear hK K'
          try simp only [Act.put, List.setIfInBounds_toArray, List.set_cons_zero, List.set_cons_succ]
          refine wpAnyL_one (i := 9) (o := { dst := some 98, op := Op.call { callee := Callee.builtin Builtin.append, args := #[Operand.tmp 93, Operand.tmp 97], argTypes := #[22, 22] }, type := 22, pos := "law.go:157", after := #[{ on := 4, ground := Ground.data }, { on := 8, ground := Ground.data }, { on := 4, ground := Ground.chain }], guard := none }) (by kernel_rfl) rfl (fun K' hK => ?_)
          rw [if_pos (by rfl)]
          refine wp_app _ _ rfl x0.heap.size rfl rfl Ho_2.out (HTB.out _ (HOB.out.1.kept (bthen HL_0.out HX_2.out))) (fun _ _ e => by cases e) ?sz2 hx0y ?_
          case sz2 => (simp only [List.length_append, List.length_take, List.length_drop, HCL.out, List.length_nil]; omega)
          intro vb x3 hva hga
          have hbl := below_owned HX_2.out Ho_2.out hga hx0y
          have Ho_3 := Lib.hid hva
          have HX_3 := Lib.hid hbl
          have hx0z : x0.heap.size ≤ x3.heap.size := hbl.size
          clear hva hga hbl hx0y
          have hx0y := hx0z
          clear hx0z
          refine hK.out _ _ (fun _ => keptW HX_3.out He_0.out) ?_
          clear hK K'
          try simp only [Act.put, List.setIfInBounds_toArray, List.set_cons_zero, List.set_cons_succ]
          refine wpAnyL_one (i := 15) (o := { dst := some 104, op := Op.call { callee := Callee.builtin Builtin.append, args := #[Operand.tmp 98, Operand.tmp 103], argTypes := #[22, 22] }, type := 22, pos := "law.go:157", after := #[{ on := 9, ground := Ground.data }, { on := 14, ground := Ground.data }, { on := 9, ground := Ground.chain }], guard := none }) (by kernel_rfl) rfl (fun K' hK => ?_)
          rw [if_pos (by rfl)]
          refine wp_app _ _ rfl x0.heap.size rfl rfl Ho_3.out (HTC.out _ (HOB.out.1.kept (bthen HL_0.out HX_3.out))) (fun _ _ e => by cases e) ?sz3 hx0y ?_
          case sz3 => (simp only [List.length_append, List.length_take, List.length_drop, HCL.out, List.length_nil]; omega)
          intro vb x4 hva hga
          have hbl := below_owned HX_3.out Ho_3.out hga hx0y
          have Ho_4 := Lib.hid hva
          have HX_4 := Lib.hid hbl
          have hx0z : x0.heap.size ≤ x4.heap.size := hbl.size
          clear hva hga hbl hx0y
          have hx0y := hx0z
          clear hx0z
          refine hK.out _ _ (fun _ => keptW HX_4.out He_0.out) ?_
          clear hK K'
          try simp only [Act.put, List.setIfInBounds_toArray, List.set_cons_zero, List.set_cons_succ]
          have hEQ : [] ++ ((catN f k).drop 0).take j ++ ((catN f k).drop (j + 16)).take (16 * k - (j + 16)) ++ ((catN f k).drop j).take 16 = swp (catN f k) := by
            rw [swp_two HCL.out hk2, HJ.out, List.nil_append, List.drop_zero, List.take_of_length_le (show ((catN f k).drop (j + 16)).length ≤ _ by rw [List.length_drop, HCL.out]; exact Nat.le_refl _), List.drop_take, Nat.add_sub_cancel_left]
          have ho4 := Ho_4.out
          rw [hEQ, swp_len, HCL.out] at ho4
          have hvl : vb.ownBlock ≠ some U.heap.size := fun e => by have h := (Ho_4.out.lt _ e).1; have := rowN_lt He_0.out; omega
          obtain ⟨sa4, sc4, rfl⟩ := owns_slice ho4
          have hc3 := (rowN_cell (keptW HX_4.out He_0.out)).1 0
          have hf3 := (rowN_cell (keptW HX_4.out He_0.out)).2 0
          refine wpAnyL_one (i := 16) (o := { dst := none, op := Op.store 22 (Operand.tmp 11) (Operand.tmp 104), type := 0, pos := "law.go:157", after := #[{ on := 15, ground := Ground.data }, { on := 15, ground := Ground.chain }, { on := 0, ground := Ground.phase }, { on := 1, ground := Ground.phase }, { on := 2, ground := Ground.phase }, { on := 3, ground := Ground.phase }, { on := 4, ground := Ground.phase }, { on := 5, ground := Ground.phase }, { on := 6, ground := Ground.phase }, { on := 7, ground := Ground.phase }, { on := 8, ground := Ground.phase }, { on := 9, ground := Ground.phase }, { on := 10, ground := Ground.phase }, { on := 11, ground := Ground.phase }, { on := 12, ground := Ground.phase }, { on := 13, ground := Ground.phase }, { on := 14, ground := Ground.phase }, { on := 15, ground := Ground.phase }], guard := none }) (by kernel_rfl) rfl (fun K' hK => ?_)
          go_simp
          obtain ⟨Y, hY⟩ : ∃ q, x4.setCell ⟨U.heap.size, 0, none⟩ (.slice sa4 (16 * k) sc4) = q := ⟨_, rfl⟩
          have hgY : x4.grownBy Y (some U.heap.size) := by rw [← hY]; exact grown_setCell _ _ _ _
          have hrY : rowN Y U.heap.size = some #[.slice sa4 (16 * k) sc4] := by rw [← hY]; exact row_set0 (keptW HX_4.out He_0.out)
          have hX4 : Below X.heap.size X x4 := bthen HW2.out (bthen HL_0.out HX_4.out)
          have hkY : Keeps (fun q => q = U.heap.size) x4 Y := Keeps.of_grownBy hgY (fun r e => by cases e; rfl)
          have hx0u : U.heap.size < x0.heap.size := rowN_lt He_0.out
          have hoY := ho4.kept hgY (.inr hvl)
          rw [show 16 * k = (swp (catN f k)).length by rw [swp_len, HCL.out]] at hoY
          have hC2 : ∀ x ∈ swp (catN f k), x < 256 := HS2.out.1
          have hst1 := str_bytes (((HS2.out.kept (bthen HL_0.out HX_4.out)).keeps hkY (fun q _ hq e => by have := HI2.out q hq; omega))) HN2.out
          have hst2 := str_bytes (owns_both hC2 hoY).1 (owns_nil0 hoY)
          rw [swp_len, HCL.out] at hst2
          have hcY := (rowN_cell hrY).1 0
          have hDg : D ≠ U.heap.size := fun e => by
            have h := HKD.out
            rw [e] at h
            obtain ⟨_, h2⟩ := rowN_some HBX.out
            rw [h2] at h; cases h
          have HKDY := Lib.hid ((hgY.block D (Nat.lt_of_lt_of_le hDl hX4.size) (fun e => hDg (by injection e))).trans ((hX4.block D hDl).trans HKD.out))
          have HBY := Lib.hid (show Below w.heap.size w Y from by rw [← hY]; exact (bthen HBL.out hX4).setCell (p := ⟨U.heap.size, 0, none⟩) (by show w.heap.size ≤ U.heap.size; omega) _)
          have HKN := Lib.hid (known_any Y)
          have HYS := Lib.hid (show X.heap.size ≤ Y.heap.size from Nat.le_trans hX4.size hgY.size)
          rw [hY]
          refine hK.out _ _ (fun h => absurd rfl h) ?_
          clear hK K' hY hgY hkY hoY hEQ hC2 hrY hvl ho4 hX4 hx0u hc3 hf3 hx0y Ho_1 Ho_2 Ho_3 Ho_4 HX_1 HX_2 HX_3 HX_4 He_0 HL_0 hc2
          try simp only [Act.put, List.setIfInBounds_toArray, List.set_cons_zero, List.set_cons_succ]
          refine wpAnyL_done (by kernel_rfl) ?_ _
          refine NoPanic.normal ?_
          go_wp2_with fail
          refine HKN.out.mono ?_
          rintro e w3 ⟨rfl, hw3⟩
          have HKD3 := Lib.hid ((hw3.block D (Nat.lt_of_lt_of_le hDl HYS.out)).trans HKDY.out)
          have HB3 := Lib.hid (bthen HBY.out hw3)
          clear hw3 HKN
          go_wp2_with fail
          refine ⟨by simp, .inl ⟨_, _, rfl, run_takeDeferred HKD3.out, ?_⟩⟩
          exact ⟨_, results_slot rfl rfl, rfl, HB3.out.grown (grownBy_putObj' _ _ _) HB3.out.size (fun r e => by cases e; omega)⟩
end Go.Proofs.Ytjcdbjapadgdfaa
