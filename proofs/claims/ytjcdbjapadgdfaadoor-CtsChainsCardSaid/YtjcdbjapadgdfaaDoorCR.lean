/- CTS: what decrypt changes at a string's end. -/
import Derived.Test.YtjcdbjapadgdfaaDoorCF
namespace Go.Proofs.YtjcdbjapadgdfaaDoor
open Go.RowKit Go.Shelf

attribute [local go_sem] Oper.semAt_some
/-- The bytes of an array from kp on, as a slice that may be copied to. -/
theorem sl47_dest (g q kp : Nat) (h : kp ≤ 16) : ∃ (a : Option Addr) (c : Nat), (∀ W, (Instr.sliceAt 48 (.pointer (some ⟨g, q, none⟩)) (some (.int .i64 (kp : Nat))) none none).run Tryd.prog W = .ok (.slice a (16 - kp) c) W) ∧
    ∀ (W : World) (l bs : List Nat) (src : Value), rowN W g = some (arr .u8 l) → q + 16 ≤ l.length → bs.length = 16 - kp → BytesAt bs src W →
      (Builtin.copy_ #[22, 22] 3 #[.slice a (16 - kp) c, src]).run Tryd.prog W = .ok (.int .i64 ((16 - kp : Nat) : Int)) (W.setRow g (arr .u8 (spl l (q + kp) bs))) := by
  obtain ⟨h1, h2, h3⟩ := arr47
  have h4 : ∀ W, (sizeOf 5).run Tryd.prog W = .ok 1 W := fun W => by kernel_rfl
  have hrun : ∀ W, (Instr.sliceAt 48 (.pointer (some ⟨g, q, none⟩)) (some (.int .i64 (kp : Nat))) none none).run Tryd.prog W = .ok (slicedAt ⟨g, q, none⟩ kp 16 16 1) W := fun W => by
    rw [run_sliceAt_array_l W 48 _ h3 .i64 (kp : Nat) (by omega) (by rw [h1]; omega), h2, h1, h4 W, Int.toNat_natCast]; rfl
  by_cases hk : kp = 16
  · subst hk
    have e : slicedAt ⟨g, q, none⟩ 16 16 16 1 = .slice (some ⟨g, q, none⟩) (16 - 16) 0 := by
      unfold slicedAt; rw [if_pos rfl]
    rw [e] at hrun
    refine ⟨_, _, hrun, fun W l bs src hr hq hb hB => ?_⟩
    obtain ⟨_, a, c2, rfl, _, _⟩ := hB
    obtain rfl : bs = [] := List.length_eq_zero_iff.1 (by omega)
    rw [show (16 - 16 : Nat) = 0 from rfl, run_copy_none (P := Tryd.prog) W 22 22 3 5 _ a 0 _ _ c2 Tryd.underlying22 (by kernel_rfl) rfl]
    have : spl l (q + 16) [] = l := by unfold spl; simp
    rw [this, setRow_row hr]; rfl
  · have e : slicedAt ⟨g, q, none⟩ kp 16 16 1 = .slice (some ⟨g, q + kp, none⟩) (16 - kp) (16 - kp) := by
      unfold slicedAt; rw [if_neg (by omega)]; simp [Addr.add]
    rw [e] at hrun
    refine ⟨_, _, hrun, fun W l bs src hr hq hb hB => ?_⟩
    have := copy_row (W := W) (g := g) (o := q + kp) (L := 16 - kp) (c := 16 - kp) (m := 16 - kp) hr hB (by omega) (by omega)
    rw [List.take_of_length_le (by omega)] at this
    exact this
/-- The bytes of a slice of 16 from kp on. -/
theorem sl22_src (b o c kp : Nat) (h : kp ≤ 16) (hc : 16 ≤ c) : ∃ (a : Option Addr) (c' : Nat), (∀ W, (Instr.sliceAt 22 (.slice (some ⟨b, o, none⟩) 16 c) (some (.int .i64 (kp : Nat))) none none).run Tryd.prog W = .ok (.slice a (16 - kp) c') W) ∧
    ∀ (W : World) (D : List Nat), D.length = 16 → BytesAt D (.slice (some ⟨b, o, none⟩) 16 c) W → BytesAt (D.drop kp) (.slice a (16 - kp) c') W := by
  by_cases hk : kp = 16
  · subst hk
    have hrun : ∃ (a : Option Addr), ∀ W, (Instr.sliceAt 22 (.slice (some ⟨b, o, none⟩) 16 c) (some (.int .i64 (16 : Nat))) none none).run Tryd.prog W = .ok (.slice a 0 (c - 16)) W := by
      by_cases hcc : c = 16
      · subst hcc; exact ⟨some ⟨b, o, none⟩, fun W => by go_simp⟩
      · refine ⟨some ⟨b, o + 16, none⟩, fun W => ?_⟩
        have e5 : ¬ c = 16 := hcc
        have e6 : (16 : Int) ≤ (c : Int) := by omega
        go_simp
    obtain ⟨a, hrun⟩ := hrun
    refine ⟨a, c - 16, hrun, fun W D hD hB => ?_⟩
    rw [List.drop_of_length_le (by omega)]
    exact ⟨fun x hx => (by cases hx), a, c - 16, rfl, Nat.zero_le _, .inl rfl⟩
  · refine ⟨some ⟨b, o + kp, none⟩, c - kp, fun W => run_slice22_l b o 16 c kp (by omega) hc W, fun W D hD hB => ?_⟩
    have := bytes_cutm (hD ▸ hB) kp (16 - kp) (c - kp) (by omega) (by omega)
    rw [List.take_of_length_le (by rw [List.length_drop]; omega)] at this
    exact this
theorem spl_256 {l b : List Nat} {o : Nat} (hl : ∀ x ∈ l, x < 256) (hb : ∀ x ∈ b, x < 256) : ∀ x ∈ spl l o b, x < 256 := by
  intro x hx
  unfold spl at hx
  rcases List.mem_append.1 hx with hx | hx
  · rcases List.mem_append.1 hx with hx | hx
    · exact hl x (List.mem_of_mem_take hx)
    · exact hb x hx
  · exact hl x (List.mem_of_mem_drop hx)
set_option maxRecDepth 100000 in
set_option maxHeartbeats 4000000 in
theorem mend_any (key iv l lz : List Nat) (g o q gm gc g1 g2 g3 n L sc kp : Nat) (sa : Option Addr) (hlz : spl l (q + kp) ((aD key ((l.drop o).take 16)).drop kp) = lz) (hk : ∀ x ∈ key, x < 256) (h256 : ∀ x ∈ l, x < 256) (hl : l.length = n) (ho : o + 16 = q) (hq : q + 16 = n) (_ : n ≤ 1000000) (hkp : kp + n = 16 + L) (hk16 : kp ≤ 16) (w : World)
    (hM : MdAt key iv gm gc w) (hr : rowN w g = some (arr .u8 l)) (h1 : rowN w g1 = some #[.pointer (some ⟨gm, 0, none⟩)]) (h2 : rowN w g2 = some #[.slice (some ⟨g, 0, none⟩) n n]) (h3 : rowN w g3 = some #[.slice sa L sc]) :
    Calls Tryd.prog 28 #[.pointer (some ⟨g, o, none⟩), .pointer (some ⟨g, q, none⟩), .pointer (some ⟨g1, 0, none⟩), .pointer (some ⟨g2, 0, none⟩), .pointer (some ⟨g3, 0, none⟩)] w fun e w' => e = .returned (.tuple #[]) ∧
      rowN w' g = some (arr .u8 (put16 (put16 lz o ((lz.drop q).take 16)) q ((lz.drop o).take 16))) ∧ w.grownBy w' (some g) := by
  have hbl : ((l.drop o).take 16).length = 16 := by rw [List.length_take, List.length_drop]; omega
  have hb256 : ∀ x ∈ (l.drop o).take 16, x < 256 := fun x hx => h256 x (List.mem_of_mem_drop (List.mem_of_mem_take hx))
  have HAL := Lib.hid (aD_len hk hb256)
  have HA2 := Lib.hid (aD_256 hk hb256)
  have HCUT := Lib.hid (fun (W : World) (h : rowN W g = some (arr .u8 l)) => bytes_cutm (bytes_row h256 h n hl) o 16 16 (by omega) (Nat.le_refl _))
  rw [Nat.zero_add] at HCUT
  have HDE := Lib.hid (fun (W : World) (hC : CphAt key gc W) (hB : BytesAt ((l.drop o).take 16) (.slice (some ⟨g, o, none⟩) 16 16) W) => decrypt_any gc key ((l.drop o).take 16) _ hbl hk W hC hB)
  have HDD := Lib.hid (show aD key ((l.drop o).take 16) = bytesL ((decS (wordsL key) (wordsL ((l.drop o).take 16))) 11) from rfl)
  rw [← HDD.out] at HDE
  obtain ⟨D, hD⟩ : ∃ x, aD key ((l.drop o).take 16) = x := ⟨_, rfl⟩
  obtain ⟨bk, hbk⟩ : ∃ x, (l.drop o).take 16 = x := ⟨_, rfl⟩
  rw [hD] at HAL HA2 HDE hlz
  have HLZ := Lib.hid hlz
  clear hlz
  rw [hbk] at HCUT HDE
  have hl2 : (spl l (q + kp) (D.drop kp)).length = n := by rw [spl_len (by rw [List.length_drop, HAL.out]; omega), hl]
  have HL2 := Lib.hid hl2
  have HSP := Lib.hid (show spl l (q + kp) (D.drop kp) = spl l (q + kp) (D.drop kp) from rfl)
  obtain ⟨da, dc, hsd, hcopy⟩ := sl47_dest g q kp hk16
  have HCOPY := Lib.hid hcopy
  have i1 : IntKind.i64.wrap (((n : Nat) : Int) - ((L : Nat) : Int)) = ((n : Nat) : Int) - ((L : Nat) : Int) := IntWalk.i64_in _ (by omega)
  have i2 : IntKind.i64.wrap (16 - (((n : Nat) : Int) - ((L : Nat) : Int))) = ((kp : Nat) : Int) := by rw [IntWalk.i64_in _ (by omega)]; omega
  have Hb_0 := Lib.hid (show rowN w.drew g1 = some #[.pointer (some ⟨gm, 0, none⟩)] from h1)
  have Hm_0 := Lib.hid (show rowN w.drew gm = some (mdA gc iv) from hM.1)
  have Hc_0 := Lib.hid (show CphAt key gc w.drew from hM.2)
  have Hr_0 := Lib.hid (show rowN w.drew g = some (arr .u8 l) from hr)
  have Hx_0 := Lib.hid (show rowN w.drew g2 = some #[.slice (some ⟨g, 0, none⟩) n n] from h2)
  have Hy_0 := Lib.hid (show rowN w.drew g3 = some #[.slice sa L sc] from h3)
  have HL_0 := Lib.hid (show Below w.heap.size w w.drew from (Below.refl _ _).drew)
  clear hM hr h1 h2 h3 hD hbk hbl hb256 HDD h256 hk hcopy hl2
  go_enter Tryd.func28, Tryd.ntmps28
  go_upto_region 0 with fail
  refine wp_region_noPanic ?_
  refine wp_region_held_drew (S := fun W => rowN W g1 = some #[.pointer (some ⟨gm, 0, none⟩)] ∧ rowN W gm = some (mdA gc iv)) (by kernel_rfl) ⟨Hb_0.out, Hm_0.out⟩ (fun hHeld0 => ?_)
  obtain ⟨x0, hx0⟩ : ∃ X, w.drew = X := ⟨_, rfl⟩
  rw [hx0] at Hb_0 Hm_0 Hc_0 Hr_0 Hx_0 Hy_0 HL_0 hHeld0 ⊢
  clear hx0
  refine wpAnyH_take (i := 0) (oi := { dst := some 11, op := Op.load 38 (Operand.tmp 2), type := 38, pos := "mode.go:73", after := #[], guard := none }) (v := .pointer (some ⟨gm, 0, none⟩)) rfl (by kernel_rfl) (by kernel_rfl) (by kernel_rfl) (fun _ _ _ h => h) (Or.inl ⟨by rfl, fun W hW => ?_⟩) hHeld0 ?_
  · (have hW1 := (rowN_cell hW.1).1 0; clear hW; go_simp)
  try simp only [Act.put, List.setIfInBounds_toArray, List.set_cons_zero, List.set_cons_succ]
  refine wpAnyH_take (i := 1) (oi := { dst := some 12, op := Op.nilCheck (Operand.tmp 11), type := 0, pos := "mode.go:73", after := #[{ on := 0, ground := Ground.data }], guard := none }) (v := ?tk0) rfl (by kernel_rfl) (by kernel_rfl) (by kernel_rfl) (fun _ _ _ h => h) (Or.inl ⟨by rfl, ?tw0⟩) hHeld0 ?_
  case tw0 => (intro W hW; clear hW; first | (go_simp; done) | (go_simp; with_reducible rfl))
  try simp only [Act.put, List.setIfInBounds_toArray, List.set_cons_zero, List.set_cons_succ]
  refine wpAnyH_take (i := 2) (oi := { dst := some 13, op := Op.fieldAddr 53 (Operand.tmp 12) 0, type := 0, pos := "mode.go:73", after := #[{ on := 1, ground := Ground.data }], guard := none }) (v := ?tk1) rfl (by kernel_rfl) (by kernel_rfl) (by kernel_rfl) (fun _ _ _ h => h) (Or.inl ⟨by rfl, ?tw1⟩) hHeld0 ?_
  case tw1 => (intro W hW; clear hW; first | (go_simp; done) | (go_simp; with_reducible rfl))
  try simp only [Act.put, List.setIfInBounds_toArray, List.set_cons_zero, List.set_cons_succ]
  refine wpAnyH_take (i := 3) (oi := { dst := some 14, op := Op.load 51 (Operand.tmp 13), type := 51, pos := "mode.go:73", after := #[{ on := 2, ground := Ground.data }], guard := none }) (v := .pointer (some ⟨gc, 0, none⟩)) rfl (by kernel_rfl) (by kernel_rfl) (by kernel_rfl) (fun _ _ _ h => h) (Or.inl ⟨by rfl, fun W hW => ?_⟩) hHeld0 ?_
  · (have hW1 := (rowN_cell hW.2).1 0; rw [mdA_zero] at hW1; clear hW; go_simp)
  try simp only [Act.put, List.setIfInBounds_toArray, List.set_cons_zero, List.set_cons_succ]
  refine wpAnyH_take (i := 4) (oi := { dst := some 15, op := Op.move (Operand.tmp 0), type := 46, pos := "mode.go:73", after := #[], guard := none }) (v := ?tk2) rfl (by kernel_rfl) (by kernel_rfl) (by kernel_rfl) (fun _ _ _ h => h) (Or.inl ⟨by rfl, ?tw2⟩) hHeld0 ?_
  case tw2 => (intro W hW; clear hW; first | (go_simp; done) | (go_simp; with_reducible rfl))
  try simp only [Act.put, List.setIfInBounds_toArray, List.set_cons_zero, List.set_cons_succ]
  refine wpAnyH_take (i := 5) (oi := { dst := some 16, op := Op.nilCheck (Operand.tmp 15), type := 46, pos := "mode.go:73", after := #[{ on := 4, ground := Ground.data }], guard := none }) (v := ?tk3) rfl (by kernel_rfl) (by kernel_rfl) (by kernel_rfl) (fun _ _ _ h => h) (Or.inl ⟨by rfl, ?tw3⟩) hHeld0 ?_
  case tw3 => (intro W hW; clear hW; first | (go_simp; done) | (go_simp; with_reducible rfl))
  try simp only [Act.put, List.setIfInBounds_toArray, List.set_cons_zero, List.set_cons_succ]
  refine wpAnyH_take (i := 6) (oi := { dst := some 17, op := Op.slice 48 (Operand.tmp 16) none none none, type := 22, pos := "mode.go:73", after := #[{ on := 5, ground := Ground.data }], guard := none }) (v := ?tk4) rfl (by kernel_rfl) (by kernel_rfl) (by kernel_rfl) (fun _ _ _ h => h) (Or.inl ⟨by rfl, ?tw4⟩) hHeld0 ?_
  case tw4 => (intro W hW; clear hW; first | (go_simp; done) | (go_simp; with_reducible rfl))
  try simp only [Act.put, List.setIfInBounds_toArray, List.set_cons_zero, List.set_cons_succ]
  refine wpAnyH_ready (rs := [7]) (by kernel_rfl) (by simp) ?_
  refine AllReadyH.cons (o := { dst := some 18, op := Op.call { callee := Callee.value (Operand.func 29), args := #[Operand.tmp 14, Operand.tmp 17], argTypes := #[51, 22] }, type := 25, pos := "mode.go:73", after := #[{ on := 3, ground := Ground.data }, { on := 6, ground := Ground.data }], guard := none }) rfl (fun K' hK => ?_) AllReadyH.nil
  go_simp
  refine (HDE.out _ Hc_0.out (HCUT.out _ Hr_0.out)).mono ?_
  rintro e x1 ⟨s3, rfl, hb3, hn3, hf3, hnf3, hB3⟩
  have Hb_1 := Lib.hid (keptW hB3 Hb_0.out)
  have Hm_1 := Lib.hid (keptW hB3 Hm_0.out)
  have Hc_1 := Lib.hid (keptW hB3 Hc_0.out)
  have Hr_1 := Lib.hid (keptW hB3 Hr_0.out)
  have Hx_1 := Lib.hid (keptW hB3 Hx_0.out)
  have Hy_1 := Lib.hid (keptW hB3 Hy_0.out)
  have HL_1 := Lib.hid (HL_0.out.trans (hB3.mono HL_0.out.size))
  have HB3 := Lib.hid hb3
  clear hb3 hn3 hf3 hnf3 hB3
  refine hK.out _ _ ⟨Hb_1.out, Hm_1.out⟩ (fun hHeld1 => ?_)
  clear hK K'
  try simp only [Act.put, List.setIfInBounds_toArray, List.set_cons_zero, List.set_cons_succ]
  refine wpAnyH_take (i := 8) (oi := { dst := some 10, op := Op.move (Operand.tmp 18), type := 25, pos := "mode.go:73", after := #[{ on := 7, ground := Ground.data }], guard := none }) (v := ?tk5) rfl (by kernel_rfl) (by kernel_rfl) (by kernel_rfl) (fun _ _ _ h => h) (Or.inl ⟨by rfl, ?tw5⟩) hHeld1 ?_
  case tw5 => (intro W hW; clear hW; first | (go_simp; done) | (go_simp; with_reducible rfl))
  try simp only [Act.put, List.setIfInBounds_toArray, List.set_cons_zero, List.set_cons_succ]
  refine wpAnyH_take (i := 9) (oi := { dst := some 19, op := Op.extract (Operand.tmp 10) 0, type := 22, pos := "mode.go:73", after := #[{ on := 8, ground := Ground.data }], guard := none }) (v := ?tk6) rfl (by kernel_rfl) (by kernel_rfl) (by kernel_rfl) (fun _ _ _ h => h) (Or.inl ⟨by rfl, ?tw6⟩) hHeld1 ?_
  case tw6 => (intro W hW; clear hW; first | (go_simp; done) | (go_simp; with_reducible rfl))
  try simp only [Act.put, List.setIfInBounds_toArray, List.set_cons_zero, List.set_cons_succ]
  refine wpAnyH_take (i := 10) (oi := { dst := some 20, op := Op.extract (Operand.tmp 10) 1, type := 24, pos := "mode.go:73", after := #[{ on := 8, ground := Ground.data }, { on := 11, ground := Ground.gcOnly Departure.lateStores }], guard := none }) (v := ?tk7) rfl (by kernel_rfl) (by kernel_rfl) (by kernel_rfl) (fun _ _ _ h => h) (Or.inl ⟨by rfl, ?tw7⟩) hHeld1 ?_
  case tw7 => (intro W hW; clear hW; first | (go_simp; done) | (go_simp; with_reducible rfl))
  try simp only [Act.put, List.setIfInBounds_toArray, List.set_cons_zero, List.set_cons_succ]
  refine wpAnyH_take (i := 11) (oi := { dst := some 7, op := Op.assign (Operand.tmp 19), type := 22, pos := "mode.go:73", after := #[{ on := 9, ground := Ground.data }, { on := 7, ground := Ground.chain }, { on := 0, ground := Ground.phase }, { on := 1, ground := Ground.phase }, { on := 2, ground := Ground.phase }, { on := 3, ground := Ground.phase }, { on := 4, ground := Ground.phase }, { on := 5, ground := Ground.phase }, { on := 6, ground := Ground.phase }, { on := 7, ground := Ground.phase }, { on := 8, ground := Ground.phase }, { on := 9, ground := Ground.phase }, { on := 10, ground := Ground.textOnly Departure.lateStores }], guard := none }) (v := ?tk8) rfl (by kernel_rfl) (by kernel_rfl) (by kernel_rfl) (fun _ _ _ h => h) (Or.inl ⟨by rfl, ?tw8⟩) hHeld1 ?_
  case tw8 => (intro W hW; clear hW; first | (go_simp; done) | (go_simp; with_reducible rfl))
  try simp only [Act.put, List.setIfInBounds_toArray, List.set_cons_zero, List.set_cons_succ]
  refine wpAnyH_take (i := 12) (oi := { dst := some 8, op := Op.assign (Operand.tmp 20), type := 24, pos := "mode.go:73", after := #[{ on := 10, ground := Ground.data }, { on := 11, ground := Ground.chain }, { on := 0, ground := Ground.phase }, { on := 1, ground := Ground.phase }, { on := 2, ground := Ground.phase }, { on := 3, ground := Ground.phase }, { on := 4, ground := Ground.phase }, { on := 5, ground := Ground.phase }, { on := 6, ground := Ground.phase }, { on := 7, ground := Ground.phase }, { on := 8, ground := Ground.phase }, { on := 9, ground := Ground.phase }, { on := 10, ground := Ground.phase }, { on := 11, ground := Ground.phase }], guard := none }) (v := ?tk9) rfl (by kernel_rfl) (by kernel_rfl) (by kernel_rfl) (fun _ _ _ h => h) (Or.inl ⟨by rfl, ?tw9⟩) hHeld1 ?_
  case tw9 => (intro W hW; clear hW; first | (go_simp; done) | (go_simp; with_reducible rfl))
  try simp only [Act.put, List.setIfInBounds_toArray, List.set_cons_zero, List.set_cons_succ]
  refine wpAnyH_done (by kernel_rfl) ?_ _
  refine NoPanic.normal ?_
  obtain ⟨b3, o3, c3, rfl, _, _⟩ := HB3.out.cells (by rw [HAL.out]; omega)
  have hc3 : 16 ≤ c3 := by obtain ⟨_, _, _, e, h, _⟩ := HB3.out; cases e; rw [← HAL.out]; exact h
  rw [HAL.out] at HB3 ⊢
  obtain ⟨va, vc, hss, hsrc⟩ := sl22_src b3 o3 c3 kp hk16 hc3
  have HSRC := Lib.hid (hsrc x1 D HAL.out HB3.out)
  clear hsrc
  have hcx := (rowN_cell Hx_1.out).1 0
  have hcy := (rowN_cell Hy_1.out).1 0
  go_upto_region 2 with fail
  have Hs_0 := Lib.hid (show BytesAt (D.drop kp) (.slice va (16 - kp) vc) x1.drew from HSRC.out)
  have HR_0 := Lib.hid (show rowN x1.drew g = some (arr .u8 l) from Hr_1.out)
  have HG_0 := Lib.hid (show w.grownBy x1.drew (some g) from grown_of_below HL_1.out.drew _)
  have HJ_0 := HL_1
  clear HSRC Hr_1 Hb_0 Hb_1 Hm_0 Hm_1 Hc_0 Hc_1 Hr_0 Hx_0 Hx_1 Hy_0 Hy_1 HL_0 hcx hcy hHeld1 HDE HCUT HB3
  have HL_0 := Lib.hid (show Below x1.heap.size x1 x1.drew from (Below.refl _ _).drew)
  refine wp_region_noPanic ?_
  refine wp_region_held_drew (S := fun W => True) (by kernel_rfl) trivial (fun hHeld0 => ?_)
  obtain ⟨y0, hx0⟩ : ∃ X, x1.drew = X := ⟨_, rfl⟩
  rw [hx0] at HR_0 HG_0 Hs_0 HL_0 ⊢
  clear hx0
  refine wpAnyH_take (i := 0) (oi := { dst := some 27, op := Op.move (Operand.tmp 1), type := 46, pos := "mode.go:75", after := #[], guard := none }) (v := ?tk10) rfl (by kernel_rfl) (by kernel_rfl) (by kernel_rfl) (fun _ _ _ h => h) (Or.inl ⟨by rfl, ?tw10⟩) hHeld0 ?_
  case tw10 => (intro W hW; clear hW; first | (go_simp; done) | (go_simp; with_reducible rfl))
  try simp only [Act.put, List.setIfInBounds_toArray, List.set_cons_zero, List.set_cons_succ]
  refine wpAnyH_take (i := 1) (oi := { dst := some 28, op := Op.nilCheck (Operand.tmp 27), type := 46, pos := "mode.go:75", after := #[{ on := 0, ground := Ground.data }], guard := none }) (v := ?tk11) rfl (by kernel_rfl) (by kernel_rfl) (by kernel_rfl) (fun _ _ _ h => h) (Or.inl ⟨by rfl, ?tw11⟩) hHeld0 ?_
  case tw11 => (intro W hW; clear hW; first | (go_simp; done) | (go_simp; with_reducible rfl))
  try simp only [Act.put, List.setIfInBounds_toArray, List.set_cons_zero, List.set_cons_succ]
  refine wpAnyH_take (i := 2) (oi := { dst := some 29, op := Op.move (Operand.tmp 9), type := 3, pos := "mode.go:75", after := #[], guard := none }) (v := ?tk12) rfl (by kernel_rfl) (by kernel_rfl) (by kernel_rfl) (fun _ _ _ h => h) (Or.inl ⟨by rfl, ?tw12⟩) hHeld0 ?_
  case tw12 => (intro W hW; clear hW; first | (go_simp; done) | (go_simp; with_reducible rfl))
  try simp only [Act.put, List.setIfInBounds_toArray, List.set_cons_zero, List.set_cons_succ]
  refine wpAnyH_take (i := 3) (oi := { dst := some 30, op := Op.slice 48 (Operand.tmp 28) (some (Operand.tmp 29)) none none, type := 22, pos := "mode.go:75", after := #[{ on := 1, ground := Ground.data }, { on := 2, ground := Ground.data }], guard := none }) (v := ?tk13) rfl (by kernel_rfl) (by kernel_rfl) (by kernel_rfl) (fun _ _ _ h => h) (Or.inl ⟨by rfl, ?tw13⟩) hHeld0 ?_
  case tw13 => (intro W hW; clear hW; first | (go_simp; done) | (go_simp; with_reducible rfl))
  try simp only [Act.put, List.setIfInBounds_toArray, List.set_cons_zero, List.set_cons_succ]
  refine wpAnyH_take (i := 4) (oi := { dst := some 31, op := Op.move (Operand.tmp 7), type := 22, pos := "mode.go:75", after := #[], guard := none }) (v := ?tk14) rfl (by kernel_rfl) (by kernel_rfl) (by kernel_rfl) (fun _ _ _ h => h) (Or.inl ⟨by rfl, ?tw14⟩) hHeld0 ?_
  case tw14 => (intro W hW; clear hW; first | (go_simp; done) | (go_simp; with_reducible rfl))
  try simp only [Act.put, List.setIfInBounds_toArray, List.set_cons_zero, List.set_cons_succ]
  refine wpAnyH_take (i := 5) (oi := { dst := some 32, op := Op.move (Operand.tmp 9), type := 3, pos := "mode.go:75", after := #[], guard := none }) (v := ?tk15) rfl (by kernel_rfl) (by kernel_rfl) (by kernel_rfl) (fun _ _ _ h => h) (Or.inl ⟨by rfl, ?tw15⟩) hHeld0 ?_
  case tw15 => (intro W hW; clear hW; first | (go_simp; done) | (go_simp; with_reducible rfl))
  try simp only [Act.put, List.setIfInBounds_toArray, List.set_cons_zero, List.set_cons_succ]
  refine wpAnyH_take (i := 6) (oi := { dst := some 33, op := Op.slice 22 (Operand.tmp 31) (some (Operand.tmp 32)) none none, type := 22, pos := "mode.go:75", after := #[{ on := 4, ground := Ground.data }, { on := 5, ground := Ground.data }], guard := none }) (v := ?tk16) rfl (by kernel_rfl) (by kernel_rfl) (by kernel_rfl) (fun _ _ _ h => h) (Or.inl ⟨by rfl, ?tw16⟩) hHeld0 ?_
  case tw16 => (intro W hW; clear hW; first | (go_simp; done) | (go_simp; with_reducible rfl))
  try simp only [Act.put, List.setIfInBounds_toArray, List.set_cons_zero, List.set_cons_succ]
  refine wpAnyH_ready (rs := [7]) (by kernel_rfl) (by simp) ?_
  refine AllReadyH.cons (o := { dst := some 34, op := Op.call { callee := Callee.builtin Builtin.copy, args := #[Operand.tmp 30, Operand.tmp 33], argTypes := #[22, 22] }, type := 3, pos := "mode.go:75", after := #[{ on := 3, ground := Ground.data }, { on := 6, ground := Ground.data }], guard := none }) rfl (fun K' hK => ?_) AllReadyH.nil
  rw [if_pos (by rfl)]
  have hcp := HCOPY.out _ l (D.drop kp) (.slice va (16 - kp) vc) HR_0.out (by omega) (by rw [List.length_drop, HAL.out]) Hs_0.out
  go_simp
  clear hcp
  obtain ⟨y1, hyy⟩ : ∃ X, y0.setRow g (arr .u8 (spl l (q + kp) (D.drop kp))) = X := ⟨_, rfl⟩
  have HR_1 := Lib.hid (show rowN y1 g = some (arr .u8 (spl l (q + kp) (D.drop kp))) by rw [← hyy]; exact row_new HR_0.out)
  have HG_1 := Lib.hid (show w.grownBy y1 (some g) by rw [← hyy]; exact grownBy_trans HG_0.out (setRow_grown _ _ _))
  have HL_1 := HL_0
  have Hs_1 := Hs_0
  rw [hyy]
  clear hyy
  refine hK.out _ _ trivial (fun hHeld1 => ?_)
  clear hK K'
  try simp only [Act.put, List.setIfInBounds_toArray, List.set_cons_zero, List.set_cons_succ]
  refine wpAnyH_done (by kernel_rfl) ?_ _
  refine NoPanic.normal ?_
  rw [HLZ.out] at HL2 HR_1
  have HB1 := Lib.hid (show ((lz.drop o).take 16).length = 16 by rw [List.length_take, List.length_drop, HL2.out]; omega)
  have HB2 := Lib.hid (show ((lz.drop q).take 16).length = 16 by rw [List.length_take, List.length_drop, HL2.out]; omega)
  have HD1 := Lib.hid (fun (W : World) (h : rowN W g = some (arr .u8 lz)) => load16_mid (o := o) h (by rw [HL2.out]; omega))
  have HD2 := Lib.hid (fun (W : World) (h : rowN W g = some (arr .u8 lz)) => load16_mid (o := q) h (by rw [HL2.out]; omega))
  have HPC := Lib.hid (put16_comm lz ((lz.drop q).take 16) ((lz.drop o).take 16) o q HB2.out HB1.out (by omega) (by rw [HL2.out]; omega))
  obtain ⟨b1, hb1⟩ : ∃ x, (lz.drop o).take 16 = x := ⟨_, rfl⟩
  obtain ⟨b2, hb2⟩ : ∃ x, (lz.drop q).take 16 = x := ⟨_, rfl⟩
  rw [hb1] at HB1 HD1 HPC
  rw [hb2] at HB2 HD2 HPC
  have HE1 := Lib.hid hb1
  have HE2 := Lib.hid hb2
  clear hb1 hb2 HL_0 HR_0 HG_0 Hs_0 Hs_1 HL_1 HJ_0 HCOPY
  go_upto_region 3 with fail
  have HR_0 := Lib.hid (show rowN y1.drew g = some (arr .u8 lz) from HR_1.out)
  have HG_0 := Lib.hid (show w.grownBy y1.drew (some g) from grownBy_trans HG_1.out (grown_of_below (Below.refl _ _).drew _))
  have HN_0 := Lib.hid (show lz.length = n from HL2.out)
  have HL_0 := Lib.hid (show Below y1.heap.size y1 y1.drew from (Below.refl _ _).drew)
  clear HR_1 HG_1
  refine wp_region_noPanic ?_
  refine wp_region_held_drew (S := fun W => True) (by kernel_rfl) trivial (fun hHeld0 => ?_)
  obtain ⟨x0, hx0⟩ : ∃ X, y1.drew = X := ⟨_, rfl⟩
  rw [hx0] at HR_0 HG_0 HL_0 ⊢
  clear hx0
  refine wpAnyH_take (i := 0) (oi := { dst := some 35, op := Op.move (Operand.tmp 0), type := 46, pos := "mode.go:76", after := #[], guard := none }) (v := ?tk17) rfl (by kernel_rfl) (by kernel_rfl) (by kernel_rfl) (fun _ _ _ h => h) (Or.inl ⟨by rfl, ?tw17⟩) hHeld0 ?_
  case tw17 => (intro W hW; clear hW; first | (go_simp; done) | (go_simp; with_reducible rfl))
  try simp only [Act.put, List.setIfInBounds_toArray, List.set_cons_zero, List.set_cons_succ]
  refine wpAnyH_take (i := 1) (oi := { dst := some 36, op := Op.move (Operand.tmp 1), type := 46, pos := "mode.go:76", after := #[{ on := 9, ground := Ground.gcOnly Departure.lateStores }], guard := none }) (v := ?tk18) rfl (by kernel_rfl) (by kernel_rfl) (by kernel_rfl) (fun _ _ _ h => h) (Or.inl ⟨by rfl, ?tw18⟩) hHeld0 ?_
  case tw18 => (intro W hW; clear hW; first | (go_simp; done) | (go_simp; with_reducible rfl))
  try simp only [Act.put, List.setIfInBounds_toArray, List.set_cons_zero, List.set_cons_succ]
  refine wpAnyH_take (i := 2) (oi := { dst := some 37, op := Op.move (Operand.tmp 1), type := 46, pos := "mode.go:76", after := #[], guard := none }) (v := ?tk19) rfl (by kernel_rfl) (by kernel_rfl) (by kernel_rfl) (fun _ _ _ h => h) (Or.inl ⟨by rfl, ?tw19⟩) hHeld0 ?_
  case tw19 => (intro W hW; clear hW; first | (go_simp; done) | (go_simp; with_reducible rfl))
  try simp only [Act.put, List.setIfInBounds_toArray, List.set_cons_zero, List.set_cons_succ]
  refine wpAnyH_take (i := 3) (oi := { dst := some 38, op := Op.nilCheck (Operand.tmp 37), type := 0, pos := "mode.go:76", after := #[{ on := 2, ground := Ground.data }], guard := none }) (v := ?tk20) rfl (by kernel_rfl) (by kernel_rfl) (by kernel_rfl) (fun _ _ _ h => h) (Or.inl ⟨by rfl, ?tw20⟩) hHeld0 ?_
  case tw20 => (intro W hW; clear hW; first | (go_simp; done) | (go_simp; with_reducible rfl))
  try simp only [Act.put, List.setIfInBounds_toArray, List.set_cons_zero, List.set_cons_succ]
  refine wpAnyH_take (i := 5) (oi := { dst := some 40, op := Op.move (Operand.tmp 0), type := 46, pos := "mode.go:76", after := #[], guard := none }) (v := ?tk21) rfl (by kernel_rfl) (by kernel_rfl) (by kernel_rfl) (fun _ _ _ h => h) (Or.inl ⟨by rfl, ?tw21⟩) hHeld0 ?_
  case tw21 => (intro W hW; clear hW; first | (go_simp; done) | (go_simp; with_reducible rfl))
  try simp only [Act.put, List.setIfInBounds_toArray, List.set_cons_zero, List.set_cons_succ]
  refine wpAnyH_take (i := 6) (oi := { dst := some 41, op := Op.nilCheck (Operand.tmp 40), type := 0, pos := "mode.go:76", after := #[{ on := 5, ground := Ground.data }], guard := none }) (v := ?tk22) rfl (by kernel_rfl) (by kernel_rfl) (by kernel_rfl) (fun _ _ _ h => h) (Or.inl ⟨by rfl, ?tw22⟩) hHeld0 ?_
  case tw22 => (intro W hW; clear hW; first | (go_simp; done) | (go_simp; with_reducible rfl))
  try simp only [Act.put, List.setIfInBounds_toArray, List.set_cons_zero, List.set_cons_succ]
  refine wpAnyH_ready (rs := [4, 7]) (by kernel_rfl) (by simp) ?_
  refine AllReadyH.cons (o := { dst := some 39, op := Op.load 48 (Operand.tmp 38), type := 48, pos := "mode.go:76", after := #[{ on := 3, ground := Ground.data }], guard := none }) rfl (fun K' hK => ?_) ?_
  · have hld := HD2.out _ HR_0.out
    go_simp
    clear hld
    obtain ⟨x1, hxx⟩ : ∃ X, X = x0 := ⟨_, rfl⟩
    subst hxx
    have HR_1 := HR_0
    have HG_1 := HG_0
    have HN_1 := HN_0
    have HL_1 := HL_0
    refine hK.out _ _ trivial (fun hHeld1 => ?_)
    clear hK K'
    try simp only [Act.put, List.setIfInBounds_toArray, List.set_cons_zero, List.set_cons_succ]
    refine wpAnyH_ready (rs := [7]) (by kernel_rfl) (by simp) ?_
    refine AllReadyH.cons (o := { dst := some 42, op := Op.load 48 (Operand.tmp 41), type := 48, pos := "mode.go:76", after := #[{ on := 6, ground := Ground.data }], guard := none }) rfl (fun K' hK => ?_) AllReadyH.nil
    have hld := HD1.out _ HR_1.out
    go_simp
    clear hld
    obtain ⟨x2, hxx⟩ : ∃ X, X = x1 := ⟨_, rfl⟩
    subst hxx
    have HR_2 := HR_1
    have HG_2 := HG_1
    have HN_2 := HN_1
    have HL_2 := HL_1
    refine hK.out _ _ trivial (fun hHeld2 => ?_)
    clear hK K'
    try simp only [Act.put, List.setIfInBounds_toArray, List.set_cons_zero, List.set_cons_succ]
    refine wpAnyH_take (i := 8) (oi := { dst := some 43, op := Op.nilCheck (Operand.tmp 35), type := 0, pos := "mode.go:76", after := #[{ on := 0, ground := Ground.data }, { on := 0, ground := Ground.phase }, { on := 1, ground := Ground.textOnly Departure.lateStores }, { on := 2, ground := Ground.phase }, { on := 3, ground := Ground.phase }, { on := 4, ground := Ground.phase }, { on := 5, ground := Ground.textOnly Departure.lateStores }, { on := 6, ground := Ground.textOnly Departure.lateStoresUnsure }, { on := 7, ground := Ground.phase }], guard := none }) (v := ?tk23) rfl (by kernel_rfl) (by kernel_rfl) (by kernel_rfl) (fun _ _ _ h => h) (Or.inl ⟨by rfl, ?tw23⟩) hHeld2 ?_
    case tw23 => (intro W hW; clear hW; first | (go_simp; done) | (go_simp; with_reducible rfl))
    try simp only [Act.put, List.setIfInBounds_toArray, List.set_cons_zero, List.set_cons_succ]
    refine wpAnyH_ready (rs := [9]) (by kernel_rfl) (by simp) ?_
    refine AllReadyH.cons (o := { dst := none, op := Op.store 48 (Operand.tmp 43) (Operand.tmp 39), type := 0, pos := "mode.go:76", after := #[{ on := 8, ground := Ground.data }, { on := 4, ground := Ground.data }, { on := 0, ground := Ground.phase }, { on := 1, ground := Ground.textOnly Departure.lateStores }, { on := 2, ground := Ground.phase }, { on := 3, ground := Ground.phase }, { on := 4, ground := Ground.phase }, { on := 5, ground := Ground.textOnly Departure.lateStores }, { on := 6, ground := Ground.textOnly Departure.lateStoresUnsure }, { on := 7, ground := Ground.phase }], guard := none }) rfl (fun K' hK => ?_) AllReadyH.nil
    have hst := store16_mid (o := o) HR_2.out HB2.out (by rw [HN_2.out]; omega)
    go_simp
    clear hst
    obtain ⟨x3, hyy⟩ : ∃ X, x2.setRow g (arr .u8 (put16 lz o b2)) = X := ⟨_, rfl⟩
    obtain ⟨C3, hC3⟩ : ∃ c, put16 lz o b2 = c := ⟨_, rfl⟩
    have HN_3 := Lib.hid (show C3.length = n from Eq.trans (by rw [← hC3, put16_len HB2.out (by rw [HN_2.out]; omega)]) HN_2.out)
    have HR_3 := Lib.hid (show rowN x3 g = some (arr .u8 C3) by rw [← hyy, ← hC3]; exact row_new HR_2.out)
    have HG_3 := Lib.hid (show w.grownBy x3 (some g) by rw [← hyy]; exact grownBy_trans HG_2.out (setRow_grown _ _ _))
    have HL_3 := HL_2
    rw [hyy]
    clear hyy
    refine hK.out _ _ trivial (fun hHeld3 => ?_)
    clear hK K'
    try simp only [Act.put, List.setIfInBounds_toArray, List.set_cons_zero, List.set_cons_succ]
    refine wpAnyH_take (i := 10) (oi := { dst := some 44, op := Op.nilCheck (Operand.tmp 36), type := 0, pos := "mode.go:76", after := #[{ on := 1, ground := Ground.data }, { on := 0, ground := Ground.phase }, { on := 1, ground := Ground.phase }, { on := 2, ground := Ground.phase }, { on := 3, ground := Ground.phase }, { on := 4, ground := Ground.phase }, { on := 5, ground := Ground.phase }, { on := 6, ground := Ground.phase }, { on := 7, ground := Ground.phase }, { on := 8, ground := Ground.phase }, { on := 9, ground := Ground.phase }], guard := none }) (v := ?tk24) rfl (by kernel_rfl) (by kernel_rfl) (by kernel_rfl) (fun _ _ _ h => h) (Or.inl ⟨by rfl, ?tw24⟩) hHeld3 ?_
    case tw24 => (intro W hW; clear hW; first | (go_simp; done) | (go_simp; with_reducible rfl))
    try simp only [Act.put, List.setIfInBounds_toArray, List.set_cons_zero, List.set_cons_succ]
    refine wpAnyH_ready (rs := [11]) (by kernel_rfl) (by simp) ?_
    refine AllReadyH.cons (o := { dst := none, op := Op.store 48 (Operand.tmp 44) (Operand.tmp 42), type := 0, pos := "mode.go:76", after := #[{ on := 10, ground := Ground.data }, { on := 7, ground := Ground.data }, { on := 9, ground := Ground.chain }, { on := 0, ground := Ground.phase }, { on := 1, ground := Ground.phase }, { on := 2, ground := Ground.phase }, { on := 3, ground := Ground.phase }, { on := 4, ground := Ground.phase }, { on := 5, ground := Ground.phase }, { on := 6, ground := Ground.phase }, { on := 7, ground := Ground.phase }, { on := 8, ground := Ground.phase }, { on := 9, ground := Ground.phase }], guard := none }) rfl (fun K' hK => ?_) AllReadyH.nil
    have hst := store16_mid (o := q) HR_3.out HB1.out (by rw [HN_3.out]; omega)
    go_simp
    clear hst
    obtain ⟨x4, hyy⟩ : ∃ X, x3.setRow g (arr .u8 (put16 C3 q b1)) = X := ⟨_, rfl⟩
    obtain ⟨C4, hC4⟩ : ∃ c, put16 C3 q b1 = c := ⟨_, rfl⟩
    have HN_4 := Lib.hid (show C4.length = n from Eq.trans (by rw [← hC4, put16_len HB1.out (by rw [HN_3.out]; omega)]) HN_3.out)
    have HR_4 := Lib.hid (show rowN x4 g = some (arr .u8 C4) by rw [← hyy, ← hC4]; exact row_new HR_3.out)
    have HG_4 := Lib.hid (show w.grownBy x4 (some g) by rw [← hyy]; exact grownBy_trans HG_3.out (setRow_grown _ _ _))
    have HL_4 := HL_3
    rw [hyy]
    clear hyy
    refine hK.out _ _ trivial (fun hHeld4 => ?_)
    clear hK K'
    try simp only [Act.put, List.setIfInBounds_toArray, List.set_cons_zero, List.set_cons_succ]
    refine wpAnyH_done (by kernel_rfl) ?_ _
    refine NoPanic.normal ?_
    go_wp2_with fail
    go_end0
    refine ⟨rfl, ?_, HG_4.out⟩
    rw [HE1.out, HE2.out]
    first | exact HR_4.out | (rw [hC3, hC4]; exact HR_4.out) | (rw [HPC.out, hC3, hC4]; exact HR_4.out)
  refine AllReadyH.cons (o := { dst := some 42, op := Op.load 48 (Operand.tmp 41), type := 48, pos := "mode.go:76", after := #[{ on := 6, ground := Ground.data }], guard := none }) rfl (fun K' hK => ?_) AllReadyH.nil
  have hld := HD1.out _ HR_0.out
  go_simp
  clear hld
  obtain ⟨x1, hxx⟩ : ∃ X, X = x0 := ⟨_, rfl⟩
  subst hxx
  have HR_1 := HR_0
  have HG_1 := HG_0
  have HN_1 := HN_0
  have HL_1 := HL_0
  refine hK.out _ _ trivial (fun hHeld1 => ?_)
  clear hK K'
  try simp only [Act.put, List.setIfInBounds_toArray, List.set_cons_zero, List.set_cons_succ]
  refine wpAnyH_ready (rs := [4]) (by kernel_rfl) (by simp) ?_
  refine AllReadyH.cons (o := { dst := some 39, op := Op.load 48 (Operand.tmp 38), type := 48, pos := "mode.go:76", after := #[{ on := 3, ground := Ground.data }], guard := none }) rfl (fun K' hK => ?_) AllReadyH.nil
  have hld := HD2.out _ HR_1.out
  go_simp
  clear hld
  obtain ⟨x2, hxx⟩ : ∃ X, X = x1 := ⟨_, rfl⟩
  subst hxx
  have HR_2 := HR_1
  have HG_2 := HG_1
  have HN_2 := HN_1
  have HL_2 := HL_1
  refine hK.out _ _ trivial (fun hHeld2 => ?_)
  clear hK K'
  try simp only [Act.put, List.setIfInBounds_toArray, List.set_cons_zero, List.set_cons_succ]
  refine wpAnyH_take (i := 8) (oi := { dst := some 43, op := Op.nilCheck (Operand.tmp 35), type := 0, pos := "mode.go:76", after := #[{ on := 0, ground := Ground.data }, { on := 0, ground := Ground.phase }, { on := 1, ground := Ground.textOnly Departure.lateStores }, { on := 2, ground := Ground.phase }, { on := 3, ground := Ground.phase }, { on := 4, ground := Ground.phase }, { on := 5, ground := Ground.textOnly Departure.lateStores }, { on := 6, ground := Ground.textOnly Departure.lateStoresUnsure }, { on := 7, ground := Ground.phase }], guard := none }) (v := ?tk25) rfl (by kernel_rfl) (by kernel_rfl) (by kernel_rfl) (fun _ _ _ h => h) (Or.inl ⟨by rfl, ?tw25⟩) hHeld2 ?_
  case tw25 => (intro W hW; clear hW; first | (go_simp; done) | (go_simp; with_reducible rfl))
  try simp only [Act.put, List.setIfInBounds_toArray, List.set_cons_zero, List.set_cons_succ]
  refine wpAnyH_ready (rs := [9]) (by kernel_rfl) (by simp) ?_
  refine AllReadyH.cons (o := { dst := none, op := Op.store 48 (Operand.tmp 43) (Operand.tmp 39), type := 0, pos := "mode.go:76", after := #[{ on := 8, ground := Ground.data }, { on := 4, ground := Ground.data }, { on := 0, ground := Ground.phase }, { on := 1, ground := Ground.textOnly Departure.lateStores }, { on := 2, ground := Ground.phase }, { on := 3, ground := Ground.phase }, { on := 4, ground := Ground.phase }, { on := 5, ground := Ground.textOnly Departure.lateStores }, { on := 6, ground := Ground.textOnly Departure.lateStoresUnsure }, { on := 7, ground := Ground.phase }], guard := none }) rfl (fun K' hK => ?_) AllReadyH.nil
  have hst := store16_mid (o := o) HR_2.out HB2.out (by rw [HN_2.out]; omega)
  go_simp
  clear hst
  obtain ⟨x3, hyy⟩ : ∃ X, x2.setRow g (arr .u8 (put16 lz o b2)) = X := ⟨_, rfl⟩
  obtain ⟨C3, hC3⟩ : ∃ c, put16 lz o b2 = c := ⟨_, rfl⟩
  have HN_3 := Lib.hid (show C3.length = n from Eq.trans (by rw [← hC3, put16_len HB2.out (by rw [HN_2.out]; omega)]) HN_2.out)
  have HR_3 := Lib.hid (show rowN x3 g = some (arr .u8 C3) by rw [← hyy, ← hC3]; exact row_new HR_2.out)
  have HG_3 := Lib.hid (show w.grownBy x3 (some g) by rw [← hyy]; exact grownBy_trans HG_2.out (setRow_grown _ _ _))
  have HL_3 := HL_2
  rw [hyy]
  clear hyy
  refine hK.out _ _ trivial (fun hHeld3 => ?_)
  clear hK K'
  try simp only [Act.put, List.setIfInBounds_toArray, List.set_cons_zero, List.set_cons_succ]
  refine wpAnyH_take (i := 10) (oi := { dst := some 44, op := Op.nilCheck (Operand.tmp 36), type := 0, pos := "mode.go:76", after := #[{ on := 1, ground := Ground.data }, { on := 0, ground := Ground.phase }, { on := 1, ground := Ground.phase }, { on := 2, ground := Ground.phase }, { on := 3, ground := Ground.phase }, { on := 4, ground := Ground.phase }, { on := 5, ground := Ground.phase }, { on := 6, ground := Ground.phase }, { on := 7, ground := Ground.phase }, { on := 8, ground := Ground.phase }, { on := 9, ground := Ground.phase }], guard := none }) (v := ?tk26) rfl (by kernel_rfl) (by kernel_rfl) (by kernel_rfl) (fun _ _ _ h => h) (Or.inl ⟨by rfl, ?tw26⟩) hHeld3 ?_
  case tw26 => (intro W hW; clear hW; first | (go_simp; done) | (go_simp; with_reducible rfl))
  try simp only [Act.put, List.setIfInBounds_toArray, List.set_cons_zero, List.set_cons_succ]
  refine wpAnyH_ready (rs := [11]) (by kernel_rfl) (by simp) ?_
  refine AllReadyH.cons (o := { dst := none, op := Op.store 48 (Operand.tmp 44) (Operand.tmp 42), type := 0, pos := "mode.go:76", after := #[{ on := 10, ground := Ground.data }, { on := 7, ground := Ground.data }, { on := 9, ground := Ground.chain }, { on := 0, ground := Ground.phase }, { on := 1, ground := Ground.phase }, { on := 2, ground := Ground.phase }, { on := 3, ground := Ground.phase }, { on := 4, ground := Ground.phase }, { on := 5, ground := Ground.phase }, { on := 6, ground := Ground.phase }, { on := 7, ground := Ground.phase }, { on := 8, ground := Ground.phase }, { on := 9, ground := Ground.phase }], guard := none }) rfl (fun K' hK => ?_) AllReadyH.nil
  have hst := store16_mid (o := q) HR_3.out HB1.out (by rw [HN_3.out]; omega)
  go_simp
  clear hst
  obtain ⟨x4, hyy⟩ : ∃ X, x3.setRow g (arr .u8 (put16 C3 q b1)) = X := ⟨_, rfl⟩
  obtain ⟨C4, hC4⟩ : ∃ c, put16 C3 q b1 = c := ⟨_, rfl⟩
  have HN_4 := Lib.hid (show C4.length = n from Eq.trans (by rw [← hC4, put16_len HB1.out (by rw [HN_3.out]; omega)]) HN_3.out)
  have HR_4 := Lib.hid (show rowN x4 g = some (arr .u8 C4) by rw [← hyy, ← hC4]; exact row_new HR_3.out)
  have HG_4 := Lib.hid (show w.grownBy x4 (some g) by rw [← hyy]; exact grownBy_trans HG_3.out (setRow_grown _ _ _))
  have HL_4 := HL_3
  rw [hyy]
  clear hyy
  refine hK.out _ _ trivial (fun hHeld4 => ?_)
  clear hK K'
  try simp only [Act.put, List.setIfInBounds_toArray, List.set_cons_zero, List.set_cons_succ]
  refine wpAnyH_done (by kernel_rfl) ?_ _
  refine NoPanic.normal ?_
  go_wp2_with fail
  go_end0
  refine ⟨rfl, ?_, HG_4.out⟩
  rw [HE1.out, HE2.out]
  first | exact HR_4.out | (rw [hC3, hC4]; exact HR_4.out) | (rw [HPC.out, hC3, hC4]; exact HR_4.out)
end Go.Proofs.YtjcdbjapadgdfaaDoor
