/- The reference of layer 7: Encrypt. -/
import Derived.Test.YtjcdbjapadgdfaaDoorDB
namespace Go.Proofs.YtjcdbjapadgdfaaDoor
open Go.RowKit Go.Shelf

attribute [local go_sem] Oper.semAt_some
theorem lit0 (W : World) : BytesAt [0] (.slice (some ⟨W.heap.size, 0, none⟩) 1 1) (W.alloc (.cells #[.int .u8 0] 5)) := by
  refine ⟨fun x hx => by simp at hx; omega, _, 1, rfl, Nat.le_refl _, .inr ⟨W.heap.size, 0, rfl, by simp, fun j hj => ?_⟩⟩
  have hj0 : j = 0 := by simp at hj; omega
  subst hj0
  have hr : rowN (W.alloc (.cells #[.int .u8 0] 5)) W.heap.size = some #[.int .u8 0] := by rw [rowN_alloc, if_pos rfl]
  exact (rowN_cell hr).1 0
theorem rep_succ (m : Nat) : List.replicate m 0 ++ [0] = List.replicate (m + 1) (0 : Nat) := by rw [← List.replicate_succ']
def slLen : Value → Nat
  | .slice _ n _ => n
  | _ => 0
def PdI (zs : List Nat) (w : World) (v : Value) (wr : World) : Prop :=
  ∃ m t : Nat, zs.length + m = t ∧ t ≤ 16 * nB zs.length ∧ wr.ownsRow w.heap.size 5 1 v t (cl (zs ++ List.replicate m 0)) ∧ Below w.heap.size w wr
theorem owns_keep {base n : Nat} {W V : World} {v : Value} {xs : List Value} (h : W.ownsRow base 5 1 v n xs) (hb : Below W.heap.size W V) : V.ownsRow base 5 1 v n xs :=
  h.kept (grown_none hb) (by
    rcases owns_slice h with ⟨x, c, rfl⟩
    cases x with
    | none => exact .inl rfl
    | some x => exact .inr (by simp [Value.ownBlock]))
set_option maxRecDepth 100000 in
set_option maxHeartbeats 800000 in
theorem rencrypt_any (key iv zs : List Nat) (sk sv sz : Value) (hk : key.length = 16) (hi : iv.length = 16) (h16 : 16 ≤ zs.length) (hmx : zs.length ≤ 200) (w : World) (hG : SG w) (hK : BytesAt key sk w) (hV : BytesAt iv sv w) (hZ : BytesAt zs sz w) :
    Calls Tryd.prog 8 #[sk, sv, sz] w fun e w' => ∃ s', e = .returned s' ∧ BytesAt (encL key iv zs) s' w' ∧ Nil0 s' ∧ Below w.heap.size w w' := by
  have hle := nB_le zs.length
  have hnb : nB zs.length ≤ 20 ∧ 1 ≤ nB zs.length := by unfold nB; omega
  have hlt : 16 * nB zs.length < zs.length + 16 := by unfold nB; omega
  have HCH := Lib.hid (fun (s : Value) (W : World) (hb : Below w.heap.size w W) (hs : BytesAt (padB zs) s W) => rchain_any key iv (padB zs) sk sv s (nB zs.length) hk hi (padB_len zs) (by omega) W (hG.kept hb) (hK.kept hb) (hV.kept hb) hs)
  have HLX := Lib.hid (show (catN (fun k => chS key iv (blkB (padB zs)) (k + 1)) (nB zs.length)).length = 16 * nB zs.length from catN_len _ (fun k _ => (chF_lw hK.1 hi hV.1 hZ.1 k).1))
  have HEL := Lib.hid (show encL key iv zs = (swp (catN (fun k => chS key iv (blkB (padB zs)) (k + 1)) (nB zs.length))).take zs.length from rfl)
  have HPD := Lib.hid (show padB zs = zs ++ List.replicate (16 * nB zs.length - zs.length) 0 from rfl)
  have HZ := Lib.hid hZ
  have HZN := Lib.hid (nil0_of hZ (by omega))
  have HPI := Lib.hid (show ∀ v wr, PdI zs w v wr ↔ ∃ m t : Nat, zs.length + m = t ∧ t ≤ 16 * nB zs.length ∧ wr.ownsRow w.heap.size 5 1 v t (cl (zs ++ List.replicate m 0)) ∧ Below w.heap.size w wr from fun _ _ => Iff.rfl)
  obtain ⟨X, hX⟩ : ∃ X, catN (fun k => chS key iv (blkB (padB zs)) (k + 1)) (nB zs.length) = X := ⟨_, rfl⟩
  rw [hX] at HCH HLX HEL
  obtain ⟨E, hE⟩ : ∃ E, encL key iv zs = E := ⟨_, rfl⟩
  rw [hE] at HEL ⊢
  obtain ⟨bz, oz, cz, rfl, hcz⟩ := bytes_shape hZ rfl (by omega)
  obtain ⟨n, hn⟩ : ∃ n, nB zs.length = n := ⟨_, rfl⟩
  rw [hn] at hle hnb hlt HLX HPD HPI
  obtain ⟨L, hL⟩ : ∃ L, zs.length = L := ⟨_, rfl⟩
  have HL := Lib.hid hL
  rw [hL] at hle hlt h16 hmx HEL HPD HZ HZN HPI hcz ⊢
  have HW0 := Lib.hid (show Below w.heap.size w (w.alloc (.cells #[] 5)) from (Below.refl _ _).alloc (Nat.le_refl _) _)
  have HO0 := Lib.hid (show (w.alloc (.cells #[] 5)).ownsRow w.heap.size 5 1 (.slice (some ⟨w.heap.size, 0, none⟩) 0 0) ([] : List Nat).length (cl []) from World.ownsRow_lit _ #[] 0 (Nat.le_refl _) (by unfold maxLen; omega) rfl)
  clear hK hV hZ hG hX hE hn hL hk hi
  go_enter Tryd.func8, Tryd.ntmps8
  go_wp2_with (at_builtin; refine wpList_app rfl _ _ rfl w.heap.size rfl rfl HO0.out (HZ.out.kept HW0.out) HZN.out (by rw [HL.out]; simp; omega) (by simp) ?_; intro v1 w1 hown1 hgrow1)
  have hb1 := below_owned HW0.out HO0.out hgrow1 (by simp)
  rw [List.nil_append, HL.out] at hown1
  have HI0 := Lib.hid (show PdI zs w v1 w1 from (HPI.out _ _).2 ⟨0, L, by omega, by omega, by rw [List.replicate_zero, List.append_nil]; exact hown1, hb1⟩)
  obtain ⟨x1, c1, rfl⟩ := owns_slice hown1
  clear hown1 hgrow1 hb1
  go_wp2_with fail
  go_loopw [7] (fun v wr => PdI zs w v wr) (fun v _ => 16 * n - slLen v)
  case atStart => exact HI0.out
  case round =>
    clear HI0
    obtain ⟨m, t, ht, htn, ho, hb⟩ := (HPI.out _ _).1 hrel
    obtain ⟨xa, c, rfl⟩ := owns_slice ho
    have HB := Lib.hid hb
    have HO := Lib.hid ho
    by_cases hlt2 : t < 16 * n
    · obtain ⟨r, hr⟩ : ∃ r, t % 16 = r := ⟨_, rfl⟩
      have hq1 : ((t : Nat) : Int) % 16 = ((r : Nat) : Int) := by omega
      have hq2 : ((t : Nat) : Int).tmod 16 = ((r : Nat) : Int) := by rw [Int.tmod_eq_emod_of_nonneg (by omega)]; exact hq1
      have hq3 : ¬ ((r : Nat) : Int) = 0 := by omega
      have HLI := Lib.hid (lit0 wr)
      have hlc : (zs ++ List.replicate m 0).length = t := by rw [List.length_append, List.length_replicate, HL.out]; exact ht
      have hwz := hb.size
      have hba := Lib.hid (hb.alloc hwz (.cells #[.int .u8 0] 5))
      clear ho hb hr hrel
      go_upto_region 3 with fail
      have hv0 := HO.out
      obtain ⟨v, hv⟩ : ∃ v, Value.slice xa t c = v := ⟨_, rfl⟩
      rw [hv] at hv0 ⊢
      clear hv
      have ho2 := hv0.alloc (.cells #[.int .u8 0] 5)
      rw [← hlc] at ho2
      have HO2 := Lib.hid ho2
      clear hv0 ho2
      go_wp2_with (at_builtin; refine wpList_app rfl _ _ rfl w.heap.size rfl rfl HO2.out HLI.out (fun _ _ e => by cases e) (by rw [hlc]; simp; omega) (by simp; omega) ?_; intro v' w' hown' hgrow')
      have hbl := below_owned hba.out HO2.out hgrow' (by simp; omega)
      rw [List.append_assoc, rep_succ, show (zs ++ List.replicate (m + 1) (0 : Nat)).length = t + 1 by rw [List.length_append, List.length_replicate, HL.out]; omega] at hown'
      obtain ⟨a', c', rfl⟩ := owns_slice hown'
      exact ⟨(HPI.out _ _).2 ⟨m + 1, t + 1, by omega, by omega, hown', hbl⟩, by simp [slLen]; omega⟩
    · have ht16 : t = 16 * n := by omega
      have hm : m = 16 * n - L := by omega
      rw [hm, ← HPD.out] at ho
      have hq1 : ((t : Nat) : Int) % 16 = 0 := by omega
      have hq2 : ((t : Nat) : Int).tmod 16 = 0 := by rw [Int.tmod_eq_emod_of_nonneg (by omega)]; exact hq1
      have hpl : (padB zs).length = t := by rw [HPD.out, List.length_append, List.length_replicate, HL.out]; omega
      have ho2 := ho
      rw [← hpl] at ho2
      have hp256 : ∀ x ∈ padB zs, x < 256 := padB_256 HZ.out.1
      have HBY := Lib.hid (owns_both hp256 ho2).1
      rw [hpl] at HBY
      have HC := Lib.hid (HCH.out _ wr hb HBY.out)
      have HT := Lib.hid ht16
      clear ho ho2 hb hrel HO hp256 hpl ht16 hm ht htn hlt2
      go_wp2_with fail
      refine HC.out.mono ?_
      rintro e w2 ⟨s2, rfl, hb2, hn2, hi2, hw2⟩
      obtain ⟨b2, o2, c2, rfl, hc2⟩ := bytes_shape hb2 HLX.out (by omega)
      have HB2 := Lib.hid hb2
      have HN2 := Lib.hid hn2
      have HW2 := Lib.hid (bthen HB.out hw2)
      clear hb2 hn2 hi2 hw2 HC
      by_cases h1 : n = 1
      · have hEX : E = X := by
          rw [HEL.out, swp_one HLX.out (by omega), List.take_of_length_le (by rw [HLX.out]; omega)]
        rw [h1] at HB2 ⊢
        simp only [Nat.mul_one] at HB2 ⊢
        have HEX := Lib.hid hEX
        clear hEX h1 hc2 hle hnb hlt hq1 hq2
        go_wp2_with fail
        go_ret
        exact ⟨_, rfl, by rw [HEX.out]; exact HB2.out, (fun _ _ e => by cases e), HW2.out⟩
      · obtain ⟨k, hk⟩ : ∃ k, n = k + 2 := ⟨n - 2, by omega⟩
        have HSW := Lib.hid (swp_two HLX.out (by omega))
        rw [show 16 * (n - 2) = 16 * k by omega] at HSW
        obtain ⟨j, hj⟩ : ∃ j, 16 * k = j := ⟨_, rfl⟩
        rw [hj] at HSW
        obtain ⟨N, hN⟩ : ∃ N, 16 * n = N := ⟨_, rfl⟩
        have HLN := Lib.hid (show X.length = N by rw [HLX.out, hN])
        rw [hN] at HB2 hc2 ⊢
        have HNJ := Lib.hid (show N = j + 32 ∧ N ≤ 320 ∧ L ≤ N ∧ N ≤ c2 by omega)
        have n16 : ¬ ((N : Nat) : Int) = 16 := by have := HNJ.out; omega
        have i1 : IntKind.i64.wrap (((N : Nat) : Int) - 32) = ((j : Nat) : Int) := by rw [IntWalk.i64_in _ (by have := HNJ.out; omega)]; have := HNJ.out; omega
        have i2 : IntKind.i64.wrap (((N : Nat) : Int) - 16) = ((j : Nat) : Int) + 16 := by rw [IntWalk.i64_in _ (by have := HNJ.out; omega)]; have := HNJ.out; omega
        have hs1 := fun W => run_slice22_h (some ⟨b2, o2, none⟩) N c2 j (by have := HNJ.out; omega) (fun e => by cases e) W
        have hs2 := fun W => run_slice22_l b2 o2 N c2 (j + 16) (by have := HNJ.out; omega) (by have := HNJ.out; omega) W
        have hs3 := fun W => run_slice22_lh b2 o2 N c2 j (j + 16) (by omega) (by have := HNJ.out; omega) W
        rw [show ((j + 16 : Nat) : Int) = ((j : Nat) : Int) + 16 by omega] at hs2 hs3
        rw [Nat.add_sub_cancel_left] at hs3
        have HPA := Lib.hid (fun (W : World) (hb : Below w2.heap.size w2 W) => bytes_cutm (HB2.out.kept hb) 0 j c2 (by have := HNJ.out; rw [HLN.out]; omega) (by have := HNJ.out; omega))
        have HPB := Lib.hid (fun (W : World) (hb : Below w2.heap.size w2 W) => bytes_cutm (HB2.out.kept hb) (j + 16) (N - (j + 16)) (c2 - (j + 16)) (by have := HNJ.out; rw [HLN.out]; omega) (by have := HNJ.out; omega))
        have HPC := Lib.hid (fun (W : World) (hb : Below w2.heap.size w2 W) => bytes_cutm (HB2.out.kept hb) j 16 (c2 - j) (by have := HNJ.out; rw [HLN.out]; omega) (by have := HNJ.out; omega))
        have HQ := Lib.hid (show ((X.drop 0).take j) ++ ((X.drop (j + 16)).take (N - (j + 16))) ++ ((X.drop j).take 16) = swp X by
          rw [HSW.out, List.drop_zero, List.take_of_length_le (show (X.drop (j + 16)).length ≤ _ by rw [List.length_drop, HLN.out]; exact Nat.le_refl _), List.drop_take, Nat.add_sub_cancel_left])
        have HLA := Lib.hid (show ((X.drop 0).take j).length = j by rw [List.length_take, List.length_drop, HLN.out]; have := HNJ.out; omega)
        have HLB := Lib.hid (show ((X.drop (j + 16)).take (N - (j + 16))).length = 16 by rw [List.length_take, List.length_drop, HLN.out]; have := HNJ.out; omega)
        have HLC := Lib.hid (show ((X.drop j).take 16).length = 16 by rw [List.length_take, List.length_drop, HLN.out]; have := HNJ.out; omega)
        obtain ⟨pa, hpa⟩ : ∃ q, (X.drop 0).take j = q := ⟨_, rfl⟩
        obtain ⟨pb, hpb⟩ : ∃ q, (X.drop (j + 16)).take (N - (j + 16)) = q := ⟨_, rfl⟩
        obtain ⟨pc, hpc⟩ : ∃ q, (X.drop j).take 16 = q := ⟨_, rfl⟩
        rw [hpa] at HPA HLA HQ
        rw [hpb] at HPB HLB HQ
        rw [hpc] at HPC HLC HQ
        have HW3 := Lib.hid (show Below w2.heap.size w2 (w2.alloc (.cells #[] 5)) from (Below.refl _ _).alloc (Nat.le_refl _) _)
        have HO3 := Lib.hid (show (w2.alloc (.cells #[] 5)).ownsRow w2.heap.size 5 1 (.slice (some ⟨w2.heap.size, 0, none⟩) 0 0) ([] : List Nat).length (cl []) from World.ownsRow_lit _ #[] 0 (Nat.le_refl _) (by unfold maxLen; omega) rfl)
        clear hpa hpb hpc hN hj hk h1 hc2 hq1 hq2 hle hnb hlt
        go_wp2_with (at_builtin; refine wpList_app rfl _ _ rfl w2.heap.size rfl rfl HO3.out (HPA.out _ HW3.out) (fun _ _ e => by cases e) (by rw [HLA.out]; have := HNJ.out; simp; omega) (by simp) ?_; intro v4 w4 hown4 hgrow4)
        have hb4 := below_owned HW3.out HO3.out hgrow4 (by simp)
        rw [List.nil_append] at hown4
        have Ho_0 := Lib.hid (show w4.drew.ownsRow w2.heap.size 5 1 v4 pa.length (cl pa) from hown4.drew)
        have HL_0 := Lib.hid (show Below w2.heap.size w2 w4.drew from hb4.drew)
        have hx0y : w2.heap.size ≤ w4.drew.heap.size := hb4.size
        clear hown4 hgrow4 hb4 HO3 HW3 HPA
        go_upto_region 9 with fail
        refine wp_region_noPanic ?_
        refine wp_region_held_drew (S := fun W => True) (by kernel_rfl) trivial (fun hHeld0 => ?_)
        obtain ⟨x0, hx0⟩ : ∃ X, w4.drew = X := ⟨_, rfl⟩
        rw [hx0] at Ho_0 HL_0 ⊢
        clear hx0
        refine wpAnyH_take (i := 0) (oi := { dst := some 36, op := Op.move (Operand.tmp 10), type := 22, pos := "ref.go:39", after := #[], guard := none }) (v := ?tk0) rfl (by kernel_rfl) (by kernel_rfl) (by kernel_rfl) (fun _ _ _ h => h) (Or.inl ⟨by rfl, ?tw0⟩) hHeld0 ?_
        case tw0 => (intro W hW; clear hW; first | (go_simp; done) | (go_simp; with_reducible rfl))
        try simp only [Act.put, List.setIfInBounds_toArray, List.set_cons_zero, List.set_cons_succ]
        refine wpAnyH_take (i := 1) (oi := { dst := some 37, op := Op.move (Operand.tmp 8), type := 22, pos := "ref.go:39", after := #[], guard := none }) (v := ?tk1) rfl (by kernel_rfl) (by kernel_rfl) (by kernel_rfl) (fun _ _ _ h => h) (Or.inl ⟨by rfl, ?tw1⟩) hHeld0 ?_
        case tw1 => (intro W hW; clear hW; first | (go_simp; done) | (go_simp; with_reducible rfl))
        try simp only [Act.put, List.setIfInBounds_toArray, List.set_cons_zero, List.set_cons_succ]
        refine wpAnyH_take (i := 2) (oi := { dst := some 38, op := Op.move (Operand.tmp 9), type := 3, pos := "ref.go:39", after := #[], guard := none }) (v := ?tk2) rfl (by kernel_rfl) (by kernel_rfl) (by kernel_rfl) (fun _ _ _ h => h) (Or.inl ⟨by rfl, ?tw2⟩) hHeld0 ?_
        case tw2 => (intro W hW; clear hW; first | (go_simp; done) | (go_simp; with_reducible rfl))
        try simp only [Act.put, List.setIfInBounds_toArray, List.set_cons_zero, List.set_cons_succ]
        refine wpAnyH_take (i := 3) (oi := { dst := some 39, op := Op.binOp BinOp.sub 3 (Operand.tmp 38) (Operand.const (Value.int IntKind.i64 16)) 3, type := 3, pos := "ref.go:39", after := #[{ on := 2, ground := Ground.data }], guard := none }) (v := ?tk3) rfl (by kernel_rfl) (by kernel_rfl) (by kernel_rfl) (fun _ _ _ h => h) (Or.inl ⟨by rfl, ?tw3⟩) hHeld0 ?_
        case tw3 => (intro W hW; clear hW; first | (go_simp; done) | (go_simp; with_reducible rfl))
        try simp only [Act.put, List.setIfInBounds_toArray, List.set_cons_zero, List.set_cons_succ]
        refine wpAnyH_take (i := 4) (oi := { dst := some 40, op := Op.slice 22 (Operand.tmp 37) (some (Operand.tmp 39)) none none, type := 22, pos := "ref.go:39", after := #[{ on := 1, ground := Ground.data }, { on := 3, ground := Ground.data }], guard := none }) (v := ?tk4) rfl (by kernel_rfl) (by kernel_rfl) (by kernel_rfl) (fun _ _ _ h => h) (Or.inl ⟨by rfl, ?tw4⟩) hHeld0 ?_
        case tw4 => (intro W hW; clear hW; first | (go_simp; done) | (go_simp; with_reducible rfl))
        try simp only [Act.put, List.setIfInBounds_toArray, List.set_cons_zero, List.set_cons_succ]
        refine wpAnyH_take (i := 6) (oi := { dst := some 42, op := Op.move (Operand.tmp 8), type := 22, pos := "ref.go:39", after := #[], guard := none }) (v := ?tk5) rfl (by kernel_rfl) (by kernel_rfl) (by kernel_rfl) (fun _ _ _ h => h) (Or.inl ⟨by rfl, ?tw5⟩) hHeld0 ?_
        case tw5 => (intro W hW; clear hW; first | (go_simp; done) | (go_simp; with_reducible rfl))
        try simp only [Act.put, List.setIfInBounds_toArray, List.set_cons_zero, List.set_cons_succ]
        refine wpAnyH_take (i := 7) (oi := { dst := some 43, op := Op.move (Operand.tmp 9), type := 3, pos := "ref.go:39", after := #[], guard := none }) (v := ?tk6) rfl (by kernel_rfl) (by kernel_rfl) (by kernel_rfl) (fun _ _ _ h => h) (Or.inl ⟨by rfl, ?tw6⟩) hHeld0 ?_
        case tw6 => (intro W hW; clear hW; first | (go_simp; done) | (go_simp; with_reducible rfl))
        try simp only [Act.put, List.setIfInBounds_toArray, List.set_cons_zero, List.set_cons_succ]
        refine wpAnyH_take (i := 8) (oi := { dst := some 44, op := Op.binOp BinOp.sub 3 (Operand.tmp 43) (Operand.const (Value.int IntKind.i64 32)) 3, type := 3, pos := "ref.go:39", after := #[{ on := 7, ground := Ground.data }], guard := none }) (v := ?tk7) rfl (by kernel_rfl) (by kernel_rfl) (by kernel_rfl) (fun _ _ _ h => h) (Or.inl ⟨by rfl, ?tw7⟩) hHeld0 ?_
        case tw7 => (intro W hW; clear hW; first | (go_simp; done) | (go_simp; with_reducible rfl))
        try simp only [Act.put, List.setIfInBounds_toArray, List.set_cons_zero, List.set_cons_succ]
        refine wpAnyH_take (i := 9) (oi := { dst := some 45, op := Op.move (Operand.tmp 9), type := 3, pos := "ref.go:39", after := #[], guard := none }) (v := ?tk8) rfl (by kernel_rfl) (by kernel_rfl) (by kernel_rfl) (fun _ _ _ h => h) (Or.inl ⟨by rfl, ?tw8⟩) hHeld0 ?_
        case tw8 => (intro W hW; clear hW; first | (go_simp; done) | (go_simp; with_reducible rfl))
        try simp only [Act.put, List.setIfInBounds_toArray, List.set_cons_zero, List.set_cons_succ]
        refine wpAnyH_take (i := 10) (oi := { dst := some 46, op := Op.binOp BinOp.sub 3 (Operand.tmp 45) (Operand.const (Value.int IntKind.i64 16)) 3, type := 3, pos := "ref.go:39", after := #[{ on := 9, ground := Ground.data }], guard := none }) (v := ?tk9) rfl (by kernel_rfl) (by kernel_rfl) (by kernel_rfl) (fun _ _ _ h => h) (Or.inl ⟨by rfl, ?tw9⟩) hHeld0 ?_
        case tw9 => (intro W hW; clear hW; first | (go_simp; done) | (go_simp; with_reducible rfl))
        try simp only [Act.put, List.setIfInBounds_toArray, List.set_cons_zero, List.set_cons_succ]
        refine wpAnyH_take (i := 11) (oi := { dst := some 47, op := Op.slice 22 (Operand.tmp 42) (some (Operand.tmp 44)) (some (Operand.tmp 46)) none, type := 22, pos := "ref.go:39", after := #[{ on := 6, ground := Ground.data }, { on := 8, ground := Ground.data }, { on := 10, ground := Ground.data }], guard := none }) (v := ?tk10) rfl (by kernel_rfl) (by kernel_rfl) (by kernel_rfl) (fun _ _ _ h => h) (Or.inl ⟨by rfl, ?tw10⟩) hHeld0 ?_
        case tw10 => (intro W hW; clear hW; first | (go_simp; done) | (go_simp; with_reducible rfl))
        try simp only [Act.put, List.setIfInBounds_toArray, List.set_cons_zero, List.set_cons_succ]
        refine wpAnyH_ready (rs := [5]) (by kernel_rfl) (by simp) ?_
        refine AllReadyH.cons (o := { dst := some 41, op := Op.call { callee := Callee.builtin Builtin.append, args := #[Operand.tmp 36, Operand.tmp 40], argTypes := #[22, 22] }, type := 22, pos := "ref.go:39", after := #[{ on := 0, ground := Ground.data }, { on := 4, ground := Ground.data }], guard := none }) rfl (fun K' hK => ?_) AllReadyH.nil
        rw [if_pos (by rfl)]
        refine wp_app _ _ rfl w2.heap.size rfl rfl Ho_0.out (HPB.out _ HL_0.out) (fun _ _ e => by cases e) ?sz0 HL_0.out.size ?_
        case sz0 => (simp only [HLA.out, HLB.out]; have := HNJ.out; omega)
        intro vb1 x1 hva hga
        have hbl := below_owned HL_0.out Ho_0.out hga HL_0.out.size
        have Ho_1 := Lib.hid hva
        have HL_1 := Lib.hid hbl
        clear hva hga hbl
        refine hK.out _ _ trivial (fun hHeld1 => ?_)
        clear hK K'
        try simp only [Act.put, List.setIfInBounds_toArray, List.set_cons_zero, List.set_cons_succ]
        refine wpAnyH_ready (rs := [12]) (by kernel_rfl) (by simp) ?_
        refine AllReadyH.cons (o := { dst := some 48, op := Op.call { callee := Callee.builtin Builtin.append, args := #[Operand.tmp 41, Operand.tmp 47], argTypes := #[22, 22] }, type := 22, pos := "ref.go:39", after := #[{ on := 5, ground := Ground.data }, { on := 11, ground := Ground.data }, { on := 5, ground := Ground.chain }], guard := none }) rfl (fun K' hK => ?_) AllReadyH.nil
        rw [if_pos (by rfl)]
        refine wp_app _ _ rfl w2.heap.size rfl rfl Ho_1.out (HPC.out _ HL_1.out) (fun _ _ e => by cases e) ?sz1 HL_1.out.size ?_
        case sz1 => (simp only [List.length_append, HLB.out, HLA.out, HLC.out]; have := HNJ.out; omega)
        intro vb2 x2 hva hga
        have hbl := below_owned HL_1.out Ho_1.out hga HL_1.out.size
        have Ho_2 := Lib.hid hva
        have HL_2 := Lib.hid hbl
        clear hva hga hbl
        refine hK.out _ _ trivial (fun hHeld2 => ?_)
        clear hK K'
        try simp only [Act.put, List.setIfInBounds_toArray, List.set_cons_zero, List.set_cons_succ]
        refine wpAnyH_take (i := 13) (oi := { dst := some 10, op := Op.assign (Operand.tmp 48), type := 22, pos := "ref.go:39", after := #[{ on := 12, ground := Ground.data }, { on := 12, ground := Ground.chain }, { on := 0, ground := Ground.phase }, { on := 1, ground := Ground.phase }, { on := 2, ground := Ground.phase }, { on := 3, ground := Ground.phase }, { on := 4, ground := Ground.phase }, { on := 5, ground := Ground.phase }, { on := 6, ground := Ground.phase }, { on := 7, ground := Ground.phase }, { on := 8, ground := Ground.phase }, { on := 9, ground := Ground.phase }, { on := 10, ground := Ground.phase }, { on := 11, ground := Ground.phase }, { on := 12, ground := Ground.phase }], guard := none }) (v := ?tk11) rfl (by kernel_rfl) (by kernel_rfl) (by kernel_rfl) (fun _ _ _ h => h) (Or.inl ⟨by rfl, ?tw11⟩) hHeld2 ?_
        case tw11 => (intro W hW; clear hW; first | (go_simp; done) | (go_simp; with_reducible rfl))
        try simp only [Act.put, List.setIfInBounds_toArray, List.set_cons_zero, List.set_cons_succ]
        refine wpAnyH_done (by kernel_rfl) ?_ _
        refine NoPanic.normal ?_
        have ho4 := Ho_2.out
        have hly : (pa ++ pb ++ pc).length = N := by rw [List.length_append, List.length_append, HLA.out, HLB.out, HLC.out]; have := HNJ.out; omega
        have hs256 : ∀ x ∈ pa ++ pb ++ pc, x < 256 := by rw [HQ.out]; exact swp_256 HB2.out.1
        have hb5 := (owns_both hs256 ho4).1
        obtain ⟨b5, o5, c5, hv5, hc5⟩ := bytes_shape hb5 hly (by have := HNJ.out; omega)
        subst hv5
        have hb6 := bytes_cutm hb5 0 L c5 (by rw [hly]; have := HNJ.out; omega) (by have := HNJ.out; omega)
        rw [List.drop_zero, Nat.add_zero, HQ.out, ← HEL.out] at hb6
        have HB6 := Lib.hid hb6
        have HW6 := Lib.hid (bthen HW2.out HL_2.out)
        have hs6 := fun W => run_slice22_h (some ⟨b5, o5, none⟩) N c5 L (by have := HNJ.out; omega) (fun e => by cases e) W
        clear ho4 hly hs256 hb5 hc5 hb6 Ho_0 Ho_1 Ho_2 HL_0 HL_1 HL_2 hHeld0 hHeld1 hHeld2
        go_wp2_with fail
        go_ret
        exact ⟨_, rfl, HB6.out, (fun _ _ e => by cases e), HW6.out⟩
end Go.Proofs.YtjcdbjapadgdfaaDoor
