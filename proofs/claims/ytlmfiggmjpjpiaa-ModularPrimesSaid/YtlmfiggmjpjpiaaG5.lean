/- divideLong: its beginning. -/
import Derived.Test.YtlmfiggmjpjpiaaG2
import Derived.Test.YtlmfiggmjpjpiaaG4
import Derived.Test.YtlmfiggmjpjpiaaQ4
import Derived.Test.YtlmfiggmjpjpiaaLongKit
import Derived.Test.YtlmfiggmjpjpiaaZMath
import Derived.Deep.DeepCutAuto
namespace Go.Proofs.Ytlmfiggmjpjpiaa
open Go.RowKit

theorem lead_any (d s : Nat) (hd : d < P64) (hs : Lib.bitLen d + s = 64) (w : World) : Calls Try.prog 79 #[.int .u64 (d : Nat)] w fun e w' => e = .returned (.int .i64 (s : Nat)) ∧ w' = w := by
  have h := Try.bits_LeadingZeros64 (d : Nat) w (by omega) (by rw [P64_eq] at hd; omega)
  rw [Int.toNat_natCast, show (64 : Int) - (Lib.bitLen d : Int) = ((s : Nat) : Int) by omega] at h
  exact h

set_option maxRecDepth 100000 in
set_option maxHeartbeats 8000000 in
theorem divideLong_any (v u s : Nat) (hv : v < P64 ^ 16) (hu : u < P64 ^ 16) (hn2 : 2 ≤ natLen u) (hs : Lib.bitLen (dgt P64 u (natLen u - 1)) + s = 64) (hs1 : s < 64) (w : World) :
    Calls Try.prog 73 #[.agg (natA v), .agg (natA u)] w fun e w' => e = .returned (.tuple #[.agg (natA (v / u)), .agg (natA (v % u))]) ∧ Below w.heap.size w w' := by
  have HLU := Lib.hid (length_any u hu)
  have HLV := Lib.hid (length_any v hv)
  have hn := natLen_le hu
  have hm := natLen_le hv
  have HWV := Lib.hid (widened_any v s hv hs1)
  have HWU := Lib.hid (widened_any u s hu hs1)
  have HLEAD := Lib.hid (lead_any (dgt P64 u (natLen u - 1)) s (dgt_lt P64_pos) hs)
  have HV := Lib.hid hv
  have HU := Lib.hid hu
  have HNU := Lib.hid (natLen_pow (v := u))
  have HNV := Lib.hid (natLen_pow (v := v))
  have HNP := Lib.hid (natLen_pos (v := u) (by omega))
  obtain ⟨n, hne⟩ : ∃ n, natLen u = n := ⟨_, rfl⟩
  obtain ⟨m, hme⟩ : ∃ m, natLen v = m := ⟨_, rfl⟩
  have HNE := Lib.hid hne
  rw [hne] at HLU hn hn2 HLEAD HNU HNP
  rw [hme] at HLV hm HNV
  obtain ⟨d, hd⟩ : ∃ d, dgt P64 u (n - 1) = d := ⟨_, rfl⟩
  rw [hd] at HLEAD
  have HD := Lib.hid hd
  have HSS := Lib.hid hs
  have hA : rowN ((((w.alloc (.cells (natA v) 28)).alloc (.cells (natA u) 28)).alloc (.cells (natA 0) 28)).alloc (.cells (natA 0) 28)) w.heap.size = some (natA v) := by
    simp only [rowN_alloc, World.size_alloc, if_true] <;> (repeat rw [if_neg (by omega)])
  have hB : rowN ((((w.alloc (.cells (natA v) 28)).alloc (.cells (natA u) 28)).alloc (.cells (natA 0) 28)).alloc (.cells (natA 0) 28)) (w.heap.size + 1) = some (natA u) := by
    simp only [rowN_alloc, World.size_alloc, if_true] <;> (repeat rw [if_neg (by omega)])
  have hQ : rowN ((((w.alloc (.cells (natA v) 28)).alloc (.cells (natA u) 28)).alloc (.cells (natA 0) 28)).alloc (.cells (natA 0) 28)) (w.heap.size + 1 + 1) = some (natA 0) := by
    simp only [rowN_alloc, World.size_alloc, if_true] <;> (repeat rw [if_neg (by omega)])
  have hR : rowN ((((w.alloc (.cells (natA v) 28)).alloc (.cells (natA u) 28)).alloc (.cells (natA 0) 28)).alloc (.cells (natA 0) 28)) (w.heap.size + 1 + 1 + 1) = some (natA 0) := by
    simp only [rowN_alloc, World.size_alloc, if_true] <;> (repeat rw [if_neg (by omega)])
  have hbel : Below w.heap.size w ((((w.alloc (.cells (natA v) 28)).alloc (.cells (natA u) 28)).alloc (.cells (natA 0) 28)).alloc (.cells (natA 0) 28)) := ((((Below.refl _ _).alloc (Nat.le_refl _) _).alloc (by simp) _).alloc (by simp <;> omega) _).alloc (by simp <;> omega) _
  have HA := Lib.hid hA
  have HBu := Lib.hid hB
  have HQ := Lib.hid hQ
  have HR := Lib.hid hR
  have HBel := Lib.hid hbel
  clear hv hu hs hne hme hd hA hQ hR hbel
  go_enter Try.func73, Try.ntmps73
  go_wp2_with fail
  refine (HLU.out _).mono ?_
  rintro e w1 ⟨rfl, hb⟩
  have hA1 := keptW hb HA.out
  have hB1 := keptW hb HBu.out
  have hQ1 := keptW hb HQ.out
  have hR1 := keptW hb HR.out
  have HBel1 := Lib.hid (HBel.out.trans (hb.mono HBel.out.size))
  have hcd := (rowN_cell hB1).1 (n - 1)
  rw [natA_get _ _ (by omega), HD.out] at hcd
  have HA1 := Lib.hid hA1
  have HB1 := Lib.hid hB1
  have HQ1 := Lib.hid hQ1
  have HR1 := Lib.hid hR1
  have c1 : (1 : Int) ≤ (n : Int) := by omega
  have c2 : (n : Int) - 1 < 16 := by omega
  have c3 : ((n : Int) - 1).toNat = n - 1 := by omega
  clear hb hB hA1 hB1 hQ1 hR1
  go_wp2_with fail
  refine (HLEAD.out _).mono ?_
  rintro e w9 ⟨rfl, hw⟩
  subst hw
  clear hcd c1 c2 c3
  go_upto_region 3 with fail
  go_cut [8, 9] (fun s8 s9 wx => ∃ g8 g9 : Nat, s8 = .pointer (some ⟨g8, 0, none⟩) ∧ s9 = .pointer (some ⟨g9, 0, none⟩) ∧ g8 ≠ g9 ∧ w.heap.size + 1 + 1 + 1 < g8 ∧ w.heap.size + 1 + 1 + 1 < g9 ∧ rowN wx g8 = some (wdA 17 (v * 2 ^ s)) ∧ rowN wx g9 = some (wdA 17 (u * 2 ^ s)) ∧
    rowN wx w.heap.size = some (natA v) ∧ rowN wx (w.heap.size + 1) = some (natA u) ∧ rowN wx (w.heap.size + 1 + 1) = some (natA 0) ∧ rowN wx (w.heap.size + 1 + 1 + 1) = some (natA 0) ∧ Below w.heap.size w wx)
  case first =>
    have HA0 := Lib.hid (show rowN w9.drew w.heap.size = some (natA v) from HA1.out)
    have HB0 := Lib.hid (show rowN w9.drew (w.heap.size + 1) = some (natA u) from HB1.out)
    have HQ0 := Lib.hid (show rowN w9.drew (w.heap.size + 1 + 1) = some (natA 0) from HQ1.out)
    have HR0 := Lib.hid (show rowN w9.drew (w.heap.size + 1 + 1 + 1) = some (natA 0) from HR1.out)
    have HL0 := Lib.hid (show Below w.heap.size w w9.drew from HBel1.out.drew)
    refine wp_region_noPanic ?_
    refine wp_region_held_drew (S := fun W => rowN W w.heap.size = some (natA v) ∧ rowN W (w.heap.size + 1) = some (natA u) ∧ rowN W (w.heap.size + 1 + 1) = some (natA 0) ∧ rowN W (w.heap.size + 1 + 1 + 1) = some (natA 0)) (by kernel_rfl) ⟨HA0.out, HB0.out, HQ0.out, HR0.out⟩ (fun hHeld0 => ?_)
    obtain ⟨x0, hx0⟩ : ∃ X, w9.drew = X := ⟨_, rfl⟩
    rw [hx0] at HA0 HB0 HQ0 HR0 HL0 hHeld0 ⊢
    clear hx0
    refine wpAnyH_take (i := 0) (oi := { dst := some 21, op := Op.fieldAddr 28 (Operand.tmp 2) 0, type := 0, pos := "divide.go:41", after := #[], guard := none }) (v := ?_) rfl (by kernel_rfl) (by kernel_rfl) (by kernel_rfl) (fun _ _ _ h => h) (Or.inl ⟨by rfl, ?_⟩) hHeld0 ?_
    rotate_left
    · (intro W hW; clear hW; first | (go_simp; done) | (go_simp; with_reducible rfl))
    try simp only [Act.put, List.setIfInBounds_toArray, List.set_cons_zero, List.set_cons_succ]
    refine wpAnyH_take (i := 1) (oi := { dst := some 22, op := Op.load 26 (Operand.tmp 21), type := 26, pos := "divide.go:41", after := #[{ on := 0, ground := Ground.data }], guard := none }) (v := _) rfl (by kernel_rfl) (by kernel_rfl) (by kernel_rfl) (fun _ _ _ h => h) (yields_load26 rfl _ rfl w.heap.size rfl v (fun W hW => hW.1)) hHeld0 ?_
    try simp only [Act.put, List.setIfInBounds_toArray, List.set_cons_zero, List.set_cons_succ]
    refine wpAnyH_take (i := 2) (oi := { dst := some 23, op := Op.move (Operand.tmp 7), type := 3, pos := "divide.go:41", after := #[], guard := none }) (v := ?_) rfl (by kernel_rfl) (by kernel_rfl) (by kernel_rfl) (fun _ _ _ h => h) (Or.inl ⟨by rfl, ?_⟩) hHeld0 ?_
    rotate_left
    · (intro W hW; clear hW; first | (go_simp; done) | (go_simp; with_reducible rfl))
    try simp only [Act.put, List.setIfInBounds_toArray, List.set_cons_zero, List.set_cons_succ]
    refine wpAnyH_take (i := 4) (oi := { dst := some 25, op := Op.fieldAddr 28 (Operand.tmp 3) 0, type := 0, pos := "divide.go:41", after := #[], guard := none }) (v := ?_) rfl (by kernel_rfl) (by kernel_rfl) (by kernel_rfl) (fun _ _ _ h => h) (Or.inl ⟨by rfl, ?_⟩) hHeld0 ?_
    rotate_left
    · (intro W hW; clear hW; first | (go_simp; done) | (go_simp; with_reducible rfl))
    try simp only [Act.put, List.setIfInBounds_toArray, List.set_cons_zero, List.set_cons_succ]
    refine wpAnyH_take (i := 5) (oi := { dst := some 26, op := Op.load 26 (Operand.tmp 25), type := 26, pos := "divide.go:41", after := #[{ on := 4, ground := Ground.data }], guard := none }) (v := _) rfl (by kernel_rfl) (by kernel_rfl) (by kernel_rfl) (fun _ _ _ h => h) (yields_load26 rfl _ rfl (w.heap.size + 1) rfl u (fun W hW => hW.2.1)) hHeld0 ?_
    try simp only [Act.put, List.setIfInBounds_toArray, List.set_cons_zero, List.set_cons_succ]
    refine wpAnyH_take (i := 6) (oi := { dst := some 27, op := Op.move (Operand.tmp 7), type := 3, pos := "divide.go:41", after := #[], guard := none }) (v := ?_) rfl (by kernel_rfl) (by kernel_rfl) (by kernel_rfl) (fun _ _ _ h => h) (Or.inl ⟨by rfl, ?_⟩) hHeld0 ?_
    rotate_left
    · (intro W hW; clear hW; first | (go_simp; done) | (go_simp; with_reducible rfl))
    try simp only [Act.put, List.setIfInBounds_toArray, List.set_cons_zero, List.set_cons_succ]
    refine wpAnyH_ready (rs := [3, 8, 9]) (by kernel_rfl) (by simp) ?_
    refine AllReadyH.cons (o := { dst := some 24, op := Op.call { callee := Callee.value (Operand.func 86), args := #[Operand.tmp 22, Operand.tmp 23], argTypes := #[26, 3] }, type := 104, pos := "divide.go:41", after := #[{ on := 1, ground := Ground.data }, { on := 2, ground := Ground.data }], guard := none }) rfl (fun K hK => ?_) ?_
    · go_simp
      refine (HWV.out _).mono ?_
      rintro e x1 ⟨rfl, hb⟩
      have HA1 := Lib.hid (keptW hb HA0.out)
      have HB1 := Lib.hid (keptW hb HB0.out)
      have HQ1 := Lib.hid (keptW hb HQ0.out)
      have HR1 := Lib.hid (keptW hb HR0.out)
      have HL1 := Lib.hid (HL0.out.trans (hb.mono HL0.out.size))
      clear hb
      refine hK.out _ _ ⟨HA1.out, HB1.out, HQ1.out, HR1.out⟩ (fun hHeld1 => ?_)
      clear hK K
      try simp only [Act.put, List.setIfInBounds_toArray, List.set_cons_zero, List.set_cons_succ]
      refine wpAnyH_ready (rs := [7, 8, 9]) (by kernel_rfl) (by simp) ?_
      refine AllReadyH.cons (o := { dst := some 28, op := Op.call { callee := Callee.value (Operand.func 86), args := #[Operand.tmp 26, Operand.tmp 27], argTypes := #[26, 3] }, type := 104, pos := "divide.go:41", after := #[{ on := 5, ground := Ground.data }, { on := 6, ground := Ground.data }, { on := 3, ground := Ground.chain }], guard := none }) rfl (fun K hK => ?_) ?_
      · go_simp
        refine (HWU.out _).mono ?_
        rintro e x2 ⟨rfl, hb⟩
        have HA2 := Lib.hid (keptW hb HA1.out)
        have HB2 := Lib.hid (keptW hb HB1.out)
        have HQ2 := Lib.hid (keptW hb HQ1.out)
        have HR2 := Lib.hid (keptW hb HR1.out)
        have HL2 := Lib.hid (HL1.out.trans (hb.mono HL1.out.size))
        clear hb
        refine hK.out _ _ ⟨HA2.out, HB2.out, HQ2.out, HR2.out⟩ (fun hHeld2 => ?_)
        clear hK K
        try simp only [Act.put, List.setIfInBounds_toArray, List.set_cons_zero, List.set_cons_succ]
        refine wpAnyH_ready (rs := [8, 9]) (by kernel_rfl) (by simp) ?_
        refine AllReadyH.cons (o := { dst := some 8, op := Op.alloc 104, type := 0, pos := "divide.go:41", after := #[], guard := none }) rfl (fun K hK => ?_) ?_
        · go_simp
          obtain ⟨x3, hx3⟩ : ∃ X, x2.alloc (.cells (wdA 17 0) 104) = X := ⟨_, rfl⟩
          have hb : Below x2.heap.size x2 x3 := by rw [← hx3]; exact (Below.refl _ _).alloc (Nat.le_refl _) _
          have HA3 := Lib.hid (keptW hb HA2.out)
          have HB3 := Lib.hid (keptW hb HB2.out)
          have HQ3 := Lib.hid (keptW hb HQ2.out)
          have HR3 := Lib.hid (keptW hb HR2.out)
          have HL3 := Lib.hid (HL2.out.trans (hb.mono HL2.out.size))
          have hnew : rowN x3 x2.heap.size = some (wdA 17 0) := by rw [← hx3, rowN_alloc, if_pos rfl]
          have hlr := rowN_lt HR2.out
          rw [hx3]
          obtain ⟨g8, hg8⟩ : ∃ g, x2.heap.size = g := ⟨_, rfl⟩
          rw [hg8] at hnew hlr ⊢
          have HE83 := Lib.hid hnew
          have hlr8 : w.heap.size + 1 + 1 + 1 < g8 := hlr
          clear hb hnew hlr hg8 hx3
          refine hK.out _ _ ⟨HA3.out, HB3.out, HQ3.out, HR3.out⟩ (fun hHeld3 => ?_)
          clear hK K
          try simp only [Act.put, List.setIfInBounds_toArray, List.set_cons_zero, List.set_cons_succ]
          refine wpAnyH_ready (rs := [9]) (by kernel_rfl) (by simp) ?_
          refine AllReadyH.cons (o := { dst := some 9, op := Op.alloc 104, type := 0, pos := "divide.go:41", after := #[], guard := none }) rfl (fun K hK => ?_) AllReadyH.nil
          go_simp
          obtain ⟨x4, hx4⟩ : ∃ X, x3.alloc (.cells (wdA 17 0) 104) = X := ⟨_, rfl⟩
          have hb : Below x3.heap.size x3 x4 := by rw [← hx4]; exact (Below.refl _ _).alloc (Nat.le_refl _) _
          have HA4 := Lib.hid (keptW hb HA3.out)
          have HB4 := Lib.hid (keptW hb HB3.out)
          have HQ4 := Lib.hid (keptW hb HQ3.out)
          have HR4 := Lib.hid (keptW hb HR3.out)
          have HE84 := Lib.hid (keptW hb HE83.out)
          have HL4 := Lib.hid (HL3.out.trans (hb.mono HL3.out.size))
          have hnew : rowN x4 x3.heap.size = some (wdA 17 0) := by rw [← hx4, rowN_alloc, if_pos rfl]
          have hlr := rowN_lt HR3.out
          have hlE8 := rowN_lt HE83.out
          rw [hx4]
          obtain ⟨g9, hg9⟩ : ∃ g, x3.heap.size = g := ⟨_, rfl⟩
          rw [hg9] at hnew hlr ⊢
          rw [hg9] at hlE8
          have HE94 := Lib.hid hnew
          have hlr9 : w.heap.size + 1 + 1 + 1 < g9 := hlr
          have hne89 : g8 ≠ g9 := by omega
          clear hb hnew hlr hg9 hx4 hlE8
          refine hK.out _ _ ⟨HA4.out, HB4.out, HQ4.out, HR4.out⟩ (fun hHeld4 => ?_)
          clear hK K
          try simp only [Act.put, List.setIfInBounds_toArray, List.set_cons_zero, List.set_cons_succ]
          refine wpAnyH_ready (rs := [10]) (by kernel_rfl) (by simp) ?_
          refine AllReadyH.cons (o := { dst := none, op := Op.store 104 (Operand.tmp 8) (Operand.tmp 24), type := 0, pos := "divide.go:41", after := #[{ on := 8, ground := Ground.data }, { on := 3, ground := Ground.data }, { on := 7, ground := Ground.chain }, { on := 0, ground := Ground.phase }, { on := 1, ground := Ground.phase }, { on := 2, ground := Ground.phase }, { on := 3, ground := Ground.phase }, { on := 4, ground := Ground.textOnly Departure.lateStores }, { on := 5, ground := Ground.textOnly Departure.lateStores }, { on := 6, ground := Ground.textOnly Departure.lateStores }, { on := 7, ground := Ground.phase }, { on := 8, ground := Ground.phase }, { on := 9, ground := Ground.phase }], guard := none }) rfl (fun K hK => ?_) AllReadyH.nil
          have hrow := HE84.out
          go_simp
          obtain ⟨x5, hx5⟩ : ∃ X, x4.setRow g8 (wdA 17 (v * 2 ^ s)) = X := ⟨_, rfl⟩
          rw [hx5]
          have HA5 := Lib.hid (show rowN x5 w.heap.size = some (natA v) by rw [← hx5, rowN_setRow, if_neg (by omega)]; exact HA4.out)
          have HB5 := Lib.hid (show rowN x5 (w.heap.size + 1) = some (natA u) by rw [← hx5, rowN_setRow, if_neg (by omega)]; exact HB4.out)
          have HQ5 := Lib.hid (show rowN x5 (w.heap.size + 1 + 1) = some (natA 0) by rw [← hx5, rowN_setRow, if_neg (by omega)]; exact HQ4.out)
          have HR5 := Lib.hid (show rowN x5 (w.heap.size + 1 + 1 + 1) = some (natA 0) by rw [← hx5, rowN_setRow, if_neg (by omega)]; exact HR4.out)
          have HE95 := Lib.hid (show rowN x5 g9 = some (wdA 17 0) by rw [← hx5, rowN_setRow, if_neg (by omega)]; exact HE94.out)
          have HE85 := Lib.hid (show rowN x5 g8 = some (wdA 17 (v * 2 ^ s)) by rw [← hx5, rowN_setRow, if_pos rfl, hrow]; rfl)
          have HL5 := Lib.hid (show Below w.heap.size w x5 by rw [← hx5]; exact below_setRow' HL4.out (by omega) _)
          clear hrow hx5
          refine hK.out _ _ ⟨HA5.out, HB5.out, HQ5.out, HR5.out⟩ (fun hHeld5 => ?_)
          clear hK K
          try simp only [Act.put, List.setIfInBounds_toArray, List.set_cons_zero, List.set_cons_succ]
          refine wpAnyH_ready (rs := [11]) (by kernel_rfl) (by simp) ?_
          refine AllReadyH.cons (o := { dst := none, op := Op.store 104 (Operand.tmp 9) (Operand.tmp 28), type := 0, pos := "divide.go:41", after := #[{ on := 9, ground := Ground.data }, { on := 7, ground := Ground.data }, { on := 10, ground := Ground.chain }, { on := 0, ground := Ground.phase }, { on := 1, ground := Ground.phase }, { on := 2, ground := Ground.phase }, { on := 3, ground := Ground.phase }, { on := 4, ground := Ground.phase }, { on := 5, ground := Ground.phase }, { on := 6, ground := Ground.phase }, { on := 7, ground := Ground.phase }, { on := 8, ground := Ground.phase }, { on := 9, ground := Ground.phase }, { on := 10, ground := Ground.phase }], guard := none }) rfl (fun K hK => ?_) AllReadyH.nil
          have hrow := HE95.out
          go_simp
          obtain ⟨x6, hx6⟩ : ∃ X, x5.setRow g9 (wdA 17 (u * 2 ^ s)) = X := ⟨_, rfl⟩
          rw [hx6]
          have HA6 := Lib.hid (show rowN x6 w.heap.size = some (natA v) by rw [← hx6, rowN_setRow, if_neg (by omega)]; exact HA5.out)
          have HB6 := Lib.hid (show rowN x6 (w.heap.size + 1) = some (natA u) by rw [← hx6, rowN_setRow, if_neg (by omega)]; exact HB5.out)
          have HQ6 := Lib.hid (show rowN x6 (w.heap.size + 1 + 1) = some (natA 0) by rw [← hx6, rowN_setRow, if_neg (by omega)]; exact HQ5.out)
          have HR6 := Lib.hid (show rowN x6 (w.heap.size + 1 + 1 + 1) = some (natA 0) by rw [← hx6, rowN_setRow, if_neg (by omega)]; exact HR5.out)
          have HE86 := Lib.hid (show rowN x6 g8 = some (wdA 17 (v * 2 ^ s)) by rw [← hx6, rowN_setRow, if_neg (by omega)]; exact HE85.out)
          have HE96 := Lib.hid (show rowN x6 g9 = some (wdA 17 (u * 2 ^ s)) by rw [← hx6, rowN_setRow, if_pos rfl, hrow]; rfl)
          have HL6 := Lib.hid (show Below w.heap.size w x6 by rw [← hx6]; exact below_setRow' HL5.out (by omega) _)
          clear hrow hx6
          refine hK.out _ _ ⟨HA6.out, HB6.out, HQ6.out, HR6.out⟩ (fun hHeld6 => ?_)
          clear hK K
          try simp only [Act.put, List.setIfInBounds_toArray, List.set_cons_zero, List.set_cons_succ]
          refine wpAnyH_done (by kernel_rfl) ?_ _
          refine NoPanic.normal ?_
          go_wp2_with fail
          go_meet
          exact ⟨g8, g9, rfl, rfl, by omega, by omega, by omega, HE86.out, HE96.out, HA6.out, HB6.out, HQ6.out, HR6.out, HL6.out⟩
        refine AllReadyH.cons (o := { dst := some 9, op := Op.alloc 104, type := 0, pos := "divide.go:41", after := #[], guard := none }) rfl (fun K hK => ?_) AllReadyH.nil
        go_simp
        obtain ⟨x3, hx3⟩ : ∃ X, x2.alloc (.cells (wdA 17 0) 104) = X := ⟨_, rfl⟩
        have hb : Below x2.heap.size x2 x3 := by rw [← hx3]; exact (Below.refl _ _).alloc (Nat.le_refl _) _
        have HA3 := Lib.hid (keptW hb HA2.out)
        have HB3 := Lib.hid (keptW hb HB2.out)
        have HQ3 := Lib.hid (keptW hb HQ2.out)
        have HR3 := Lib.hid (keptW hb HR2.out)
        have HL3 := Lib.hid (HL2.out.trans (hb.mono HL2.out.size))
        have hnew : rowN x3 x2.heap.size = some (wdA 17 0) := by rw [← hx3, rowN_alloc, if_pos rfl]
        have hlr := rowN_lt HR2.out
        rw [hx3]
        obtain ⟨g9, hg9⟩ : ∃ g, x2.heap.size = g := ⟨_, rfl⟩
        rw [hg9] at hnew hlr ⊢
        have HE93 := Lib.hid hnew
        have hlr9 : w.heap.size + 1 + 1 + 1 < g9 := hlr
        clear hb hnew hlr hg9 hx3
        refine hK.out _ _ ⟨HA3.out, HB3.out, HQ3.out, HR3.out⟩ (fun hHeld3 => ?_)
        clear hK K
        try simp only [Act.put, List.setIfInBounds_toArray, List.set_cons_zero, List.set_cons_succ]
        refine wpAnyH_ready (rs := [8]) (by kernel_rfl) (by simp) ?_
        refine AllReadyH.cons (o := { dst := some 8, op := Op.alloc 104, type := 0, pos := "divide.go:41", after := #[], guard := none }) rfl (fun K hK => ?_) AllReadyH.nil
        go_simp
        obtain ⟨x4, hx4⟩ : ∃ X, x3.alloc (.cells (wdA 17 0) 104) = X := ⟨_, rfl⟩
        have hb : Below x3.heap.size x3 x4 := by rw [← hx4]; exact (Below.refl _ _).alloc (Nat.le_refl _) _
        have HA4 := Lib.hid (keptW hb HA3.out)
        have HB4 := Lib.hid (keptW hb HB3.out)
        have HQ4 := Lib.hid (keptW hb HQ3.out)
        have HR4 := Lib.hid (keptW hb HR3.out)
        have HE94 := Lib.hid (keptW hb HE93.out)
        have HL4 := Lib.hid (HL3.out.trans (hb.mono HL3.out.size))
        have hnew : rowN x4 x3.heap.size = some (wdA 17 0) := by rw [← hx4, rowN_alloc, if_pos rfl]
        have hlr := rowN_lt HR3.out
        have hlE9 := rowN_lt HE93.out
        rw [hx4]
        obtain ⟨g8, hg8⟩ : ∃ g, x3.heap.size = g := ⟨_, rfl⟩
        rw [hg8] at hnew hlr ⊢
        rw [hg8] at hlE9
        have HE84 := Lib.hid hnew
        have hlr8 : w.heap.size + 1 + 1 + 1 < g8 := hlr
        have hne89 : g8 ≠ g9 := by omega
        clear hb hnew hlr hg8 hx4 hlE9
        refine hK.out _ _ ⟨HA4.out, HB4.out, HQ4.out, HR4.out⟩ (fun hHeld4 => ?_)
        clear hK K
        try simp only [Act.put, List.setIfInBounds_toArray, List.set_cons_zero, List.set_cons_succ]
        refine wpAnyH_ready (rs := [10]) (by kernel_rfl) (by simp) ?_
        refine AllReadyH.cons (o := { dst := none, op := Op.store 104 (Operand.tmp 8) (Operand.tmp 24), type := 0, pos := "divide.go:41", after := #[{ on := 8, ground := Ground.data }, { on := 3, ground := Ground.data }, { on := 7, ground := Ground.chain }, { on := 0, ground := Ground.phase }, { on := 1, ground := Ground.phase }, { on := 2, ground := Ground.phase }, { on := 3, ground := Ground.phase }, { on := 4, ground := Ground.textOnly Departure.lateStores }, { on := 5, ground := Ground.textOnly Departure.lateStores }, { on := 6, ground := Ground.textOnly Departure.lateStores }, { on := 7, ground := Ground.phase }, { on := 8, ground := Ground.phase }, { on := 9, ground := Ground.phase }], guard := none }) rfl (fun K hK => ?_) AllReadyH.nil
        have hrow := HE84.out
        go_simp
        obtain ⟨x5, hx5⟩ : ∃ X, x4.setRow g8 (wdA 17 (v * 2 ^ s)) = X := ⟨_, rfl⟩
        rw [hx5]
        have HA5 := Lib.hid (show rowN x5 w.heap.size = some (natA v) by rw [← hx5, rowN_setRow, if_neg (by omega)]; exact HA4.out)
        have HB5 := Lib.hid (show rowN x5 (w.heap.size + 1) = some (natA u) by rw [← hx5, rowN_setRow, if_neg (by omega)]; exact HB4.out)
        have HQ5 := Lib.hid (show rowN x5 (w.heap.size + 1 + 1) = some (natA 0) by rw [← hx5, rowN_setRow, if_neg (by omega)]; exact HQ4.out)
        have HR5 := Lib.hid (show rowN x5 (w.heap.size + 1 + 1 + 1) = some (natA 0) by rw [← hx5, rowN_setRow, if_neg (by omega)]; exact HR4.out)
        have HE95 := Lib.hid (show rowN x5 g9 = some (wdA 17 0) by rw [← hx5, rowN_setRow, if_neg (by omega)]; exact HE94.out)
        have HE85 := Lib.hid (show rowN x5 g8 = some (wdA 17 (v * 2 ^ s)) by rw [← hx5, rowN_setRow, if_pos rfl, hrow]; rfl)
        have HL5 := Lib.hid (show Below w.heap.size w x5 by rw [← hx5]; exact below_setRow' HL4.out (by omega) _)
        clear hrow hx5
        refine hK.out _ _ ⟨HA5.out, HB5.out, HQ5.out, HR5.out⟩ (fun hHeld5 => ?_)
        clear hK K
        try simp only [Act.put, List.setIfInBounds_toArray, List.set_cons_zero, List.set_cons_succ]
        refine wpAnyH_ready (rs := [11]) (by kernel_rfl) (by simp) ?_
        refine AllReadyH.cons (o := { dst := none, op := Op.store 104 (Operand.tmp 9) (Operand.tmp 28), type := 0, pos := "divide.go:41", after := #[{ on := 9, ground := Ground.data }, { on := 7, ground := Ground.data }, { on := 10, ground := Ground.chain }, { on := 0, ground := Ground.phase }, { on := 1, ground := Ground.phase }, { on := 2, ground := Ground.phase }, { on := 3, ground := Ground.phase }, { on := 4, ground := Ground.phase }, { on := 5, ground := Ground.phase }, { on := 6, ground := Ground.phase }, { on := 7, ground := Ground.phase }, { on := 8, ground := Ground.phase }, { on := 9, ground := Ground.phase }, { on := 10, ground := Ground.phase }], guard := none }) rfl (fun K hK => ?_) AllReadyH.nil
        have hrow := HE95.out
        go_simp
        obtain ⟨x6, hx6⟩ : ∃ X, x5.setRow g9 (wdA 17 (u * 2 ^ s)) = X := ⟨_, rfl⟩
        rw [hx6]
        have HA6 := Lib.hid (show rowN x6 w.heap.size = some (natA v) by rw [← hx6, rowN_setRow, if_neg (by omega)]; exact HA5.out)
        have HB6 := Lib.hid (show rowN x6 (w.heap.size + 1) = some (natA u) by rw [← hx6, rowN_setRow, if_neg (by omega)]; exact HB5.out)
        have HQ6 := Lib.hid (show rowN x6 (w.heap.size + 1 + 1) = some (natA 0) by rw [← hx6, rowN_setRow, if_neg (by omega)]; exact HQ5.out)
        have HR6 := Lib.hid (show rowN x6 (w.heap.size + 1 + 1 + 1) = some (natA 0) by rw [← hx6, rowN_setRow, if_neg (by omega)]; exact HR5.out)
        have HE86 := Lib.hid (show rowN x6 g8 = some (wdA 17 (v * 2 ^ s)) by rw [← hx6, rowN_setRow, if_neg (by omega)]; exact HE85.out)
        have HE96 := Lib.hid (show rowN x6 g9 = some (wdA 17 (u * 2 ^ s)) by rw [← hx6, rowN_setRow, if_pos rfl, hrow]; rfl)
        have HL6 := Lib.hid (show Below w.heap.size w x6 by rw [← hx6]; exact below_setRow' HL5.out (by omega) _)
        clear hrow hx6
        refine hK.out _ _ ⟨HA6.out, HB6.out, HQ6.out, HR6.out⟩ (fun hHeld6 => ?_)
        clear hK K
        try simp only [Act.put, List.setIfInBounds_toArray, List.set_cons_zero, List.set_cons_succ]
        refine wpAnyH_done (by kernel_rfl) ?_ _
        refine NoPanic.normal ?_
        go_wp2_with fail
        go_meet
        exact ⟨g8, g9, rfl, rfl, by omega, by omega, by omega, HE86.out, HE96.out, HA6.out, HB6.out, HQ6.out, HR6.out, HL6.out⟩
      refine AllReadyH.cons (o := { dst := some 8, op := Op.alloc 104, type := 0, pos := "divide.go:41", after := #[], guard := none }) rfl (fun K hK => ?_) ?_
      · go_simp
        obtain ⟨x2, hx2⟩ : ∃ X, x1.alloc (.cells (wdA 17 0) 104) = X := ⟨_, rfl⟩
        have hb : Below x1.heap.size x1 x2 := by rw [← hx2]; exact (Below.refl _ _).alloc (Nat.le_refl _) _
        have HA2 := Lib.hid (keptW hb HA1.out)
        have HB2 := Lib.hid (keptW hb HB1.out)
        have HQ2 := Lib.hid (keptW hb HQ1.out)
        have HR2 := Lib.hid (keptW hb HR1.out)
        have HL2 := Lib.hid (HL1.out.trans (hb.mono HL1.out.size))
        have hnew : rowN x2 x1.heap.size = some (wdA 17 0) := by rw [← hx2, rowN_alloc, if_pos rfl]
        have hlr := rowN_lt HR1.out
        rw [hx2]
        obtain ⟨g8, hg8⟩ : ∃ g, x1.heap.size = g := ⟨_, rfl⟩
        rw [hg8] at hnew hlr ⊢
        have HE82 := Lib.hid hnew
        have hlr8 : w.heap.size + 1 + 1 + 1 < g8 := hlr
        clear hb hnew hlr hg8 hx2
        refine hK.out _ _ ⟨HA2.out, HB2.out, HQ2.out, HR2.out⟩ (fun hHeld2 => ?_)
        clear hK K
        try simp only [Act.put, List.setIfInBounds_toArray, List.set_cons_zero, List.set_cons_succ]
        refine wpAnyH_ready (rs := [7, 9]) (by kernel_rfl) (by simp) ?_
        refine AllReadyH.cons (o := { dst := some 28, op := Op.call { callee := Callee.value (Operand.func 86), args := #[Operand.tmp 26, Operand.tmp 27], argTypes := #[26, 3] }, type := 104, pos := "divide.go:41", after := #[{ on := 5, ground := Ground.data }, { on := 6, ground := Ground.data }, { on := 3, ground := Ground.chain }], guard := none }) rfl (fun K hK => ?_) ?_
        · go_simp
          refine (HWU.out _).mono ?_
          rintro e x3 ⟨rfl, hb⟩
          have HA3 := Lib.hid (keptW hb HA2.out)
          have HB3 := Lib.hid (keptW hb HB2.out)
          have HQ3 := Lib.hid (keptW hb HQ2.out)
          have HR3 := Lib.hid (keptW hb HR2.out)
          have HE83 := Lib.hid (keptW hb HE82.out)
          have HL3 := Lib.hid (HL2.out.trans (hb.mono HL2.out.size))
          clear hb
          refine hK.out _ _ ⟨HA3.out, HB3.out, HQ3.out, HR3.out⟩ (fun hHeld3 => ?_)
          clear hK K
          try simp only [Act.put, List.setIfInBounds_toArray, List.set_cons_zero, List.set_cons_succ]
          refine wpAnyH_ready (rs := [9]) (by kernel_rfl) (by simp) ?_
          refine AllReadyH.cons (o := { dst := some 9, op := Op.alloc 104, type := 0, pos := "divide.go:41", after := #[], guard := none }) rfl (fun K hK => ?_) AllReadyH.nil
          go_simp
          obtain ⟨x4, hx4⟩ : ∃ X, x3.alloc (.cells (wdA 17 0) 104) = X := ⟨_, rfl⟩
          have hb : Below x3.heap.size x3 x4 := by rw [← hx4]; exact (Below.refl _ _).alloc (Nat.le_refl _) _
          have HA4 := Lib.hid (keptW hb HA3.out)
          have HB4 := Lib.hid (keptW hb HB3.out)
          have HQ4 := Lib.hid (keptW hb HQ3.out)
          have HR4 := Lib.hid (keptW hb HR3.out)
          have HE84 := Lib.hid (keptW hb HE83.out)
          have HL4 := Lib.hid (HL3.out.trans (hb.mono HL3.out.size))
          have hnew : rowN x4 x3.heap.size = some (wdA 17 0) := by rw [← hx4, rowN_alloc, if_pos rfl]
          have hlr := rowN_lt HR3.out
          have hlE8 := rowN_lt HE83.out
          rw [hx4]
          obtain ⟨g9, hg9⟩ : ∃ g, x3.heap.size = g := ⟨_, rfl⟩
          rw [hg9] at hnew hlr ⊢
          rw [hg9] at hlE8
          have HE94 := Lib.hid hnew
          have hlr9 : w.heap.size + 1 + 1 + 1 < g9 := hlr
          have hne89 : g8 ≠ g9 := by omega
          clear hb hnew hlr hg9 hx4 hlE8
          refine hK.out _ _ ⟨HA4.out, HB4.out, HQ4.out, HR4.out⟩ (fun hHeld4 => ?_)
          clear hK K
          try simp only [Act.put, List.setIfInBounds_toArray, List.set_cons_zero, List.set_cons_succ]
          refine wpAnyH_ready (rs := [10]) (by kernel_rfl) (by simp) ?_
          refine AllReadyH.cons (o := { dst := none, op := Op.store 104 (Operand.tmp 8) (Operand.tmp 24), type := 0, pos := "divide.go:41", after := #[{ on := 8, ground := Ground.data }, { on := 3, ground := Ground.data }, { on := 7, ground := Ground.chain }, { on := 0, ground := Ground.phase }, { on := 1, ground := Ground.phase }, { on := 2, ground := Ground.phase }, { on := 3, ground := Ground.phase }, { on := 4, ground := Ground.textOnly Departure.lateStores }, { on := 5, ground := Ground.textOnly Departure.lateStores }, { on := 6, ground := Ground.textOnly Departure.lateStores }, { on := 7, ground := Ground.phase }, { on := 8, ground := Ground.phase }, { on := 9, ground := Ground.phase }], guard := none }) rfl (fun K hK => ?_) AllReadyH.nil
          have hrow := HE84.out
          go_simp
          obtain ⟨x5, hx5⟩ : ∃ X, x4.setRow g8 (wdA 17 (v * 2 ^ s)) = X := ⟨_, rfl⟩
          rw [hx5]
          have HA5 := Lib.hid (show rowN x5 w.heap.size = some (natA v) by rw [← hx5, rowN_setRow, if_neg (by omega)]; exact HA4.out)
          have HB5 := Lib.hid (show rowN x5 (w.heap.size + 1) = some (natA u) by rw [← hx5, rowN_setRow, if_neg (by omega)]; exact HB4.out)
          have HQ5 := Lib.hid (show rowN x5 (w.heap.size + 1 + 1) = some (natA 0) by rw [← hx5, rowN_setRow, if_neg (by omega)]; exact HQ4.out)
          have HR5 := Lib.hid (show rowN x5 (w.heap.size + 1 + 1 + 1) = some (natA 0) by rw [← hx5, rowN_setRow, if_neg (by omega)]; exact HR4.out)
          have HE95 := Lib.hid (show rowN x5 g9 = some (wdA 17 0) by rw [← hx5, rowN_setRow, if_neg (by omega)]; exact HE94.out)
          have HE85 := Lib.hid (show rowN x5 g8 = some (wdA 17 (v * 2 ^ s)) by rw [← hx5, rowN_setRow, if_pos rfl, hrow]; rfl)
          have HL5 := Lib.hid (show Below w.heap.size w x5 by rw [← hx5]; exact below_setRow' HL4.out (by omega) _)
          clear hrow hx5
          refine hK.out _ _ ⟨HA5.out, HB5.out, HQ5.out, HR5.out⟩ (fun hHeld5 => ?_)
          clear hK K
          try simp only [Act.put, List.setIfInBounds_toArray, List.set_cons_zero, List.set_cons_succ]
          refine wpAnyH_ready (rs := [11]) (by kernel_rfl) (by simp) ?_
          refine AllReadyH.cons (o := { dst := none, op := Op.store 104 (Operand.tmp 9) (Operand.tmp 28), type := 0, pos := "divide.go:41", after := #[{ on := 9, ground := Ground.data }, { on := 7, ground := Ground.data }, { on := 10, ground := Ground.chain }, { on := 0, ground := Ground.phase }, { on := 1, ground := Ground.phase }, { on := 2, ground := Ground.phase }, { on := 3, ground := Ground.phase }, { on := 4, ground := Ground.phase }, { on := 5, ground := Ground.phase }, { on := 6, ground := Ground.phase }, { on := 7, ground := Ground.phase }, { on := 8, ground := Ground.phase }, { on := 9, ground := Ground.phase }, { on := 10, ground := Ground.phase }], guard := none }) rfl (fun K hK => ?_) AllReadyH.nil
          have hrow := HE95.out
          go_simp
          obtain ⟨x6, hx6⟩ : ∃ X, x5.setRow g9 (wdA 17 (u * 2 ^ s)) = X := ⟨_, rfl⟩
          rw [hx6]
          have HA6 := Lib.hid (show rowN x6 w.heap.size = some (natA v) by rw [← hx6, rowN_setRow, if_neg (by omega)]; exact HA5.out)
          have HB6 := Lib.hid (show rowN x6 (w.heap.size + 1) = some (natA u) by rw [← hx6, rowN_setRow, if_neg (by omega)]; exact HB5.out)
          have HQ6 := Lib.hid (show rowN x6 (w.heap.size + 1 + 1) = some (natA 0) by rw [← hx6, rowN_setRow, if_neg (by omega)]; exact HQ5.out)
          have HR6 := Lib.hid (show rowN x6 (w.heap.size + 1 + 1 + 1) = some (natA 0) by rw [← hx6, rowN_setRow, if_neg (by omega)]; exact HR5.out)
          have HE86 := Lib.hid (show rowN x6 g8 = some (wdA 17 (v * 2 ^ s)) by rw [← hx6, rowN_setRow, if_neg (by omega)]; exact HE85.out)
          have HE96 := Lib.hid (show rowN x6 g9 = some (wdA 17 (u * 2 ^ s)) by rw [← hx6, rowN_setRow, if_pos rfl, hrow]; rfl)
          have HL6 := Lib.hid (show Below w.heap.size w x6 by rw [← hx6]; exact below_setRow' HL5.out (by omega) _)
          clear hrow hx6
          refine hK.out _ _ ⟨HA6.out, HB6.out, HQ6.out, HR6.out⟩ (fun hHeld6 => ?_)
          clear hK K
          try simp only [Act.put, List.setIfInBounds_toArray, List.set_cons_zero, List.set_cons_succ]
          refine wpAnyH_done (by kernel_rfl) ?_ _
          refine NoPanic.normal ?_
          go_wp2_with fail
          go_meet
          exact ⟨g8, g9, rfl, rfl, by omega, by omega, by omega, HE86.out, HE96.out, HA6.out, HB6.out, HQ6.out, HR6.out, HL6.out⟩
        refine AllReadyH.cons (o := { dst := some 9, op := Op.alloc 104, type := 0, pos := "divide.go:41", after := #[], guard := none }) rfl (fun K hK => ?_) AllReadyH.nil
        go_simp
        obtain ⟨x3, hx3⟩ : ∃ X, x2.alloc (.cells (wdA 17 0) 104) = X := ⟨_, rfl⟩
        have hb : Below x2.heap.size x2 x3 := by rw [← hx3]; exact (Below.refl _ _).alloc (Nat.le_refl _) _
        have HA3 := Lib.hid (keptW hb HA2.out)
        have HB3 := Lib.hid (keptW hb HB2.out)
        have HQ3 := Lib.hid (keptW hb HQ2.out)
        have HR3 := Lib.hid (keptW hb HR2.out)
        have HE83 := Lib.hid (keptW hb HE82.out)
        have HL3 := Lib.hid (HL2.out.trans (hb.mono HL2.out.size))
        have hnew : rowN x3 x2.heap.size = some (wdA 17 0) := by rw [← hx3, rowN_alloc, if_pos rfl]
        have hlr := rowN_lt HR2.out
        have hlE8 := rowN_lt HE82.out
        rw [hx3]
        obtain ⟨g9, hg9⟩ : ∃ g, x2.heap.size = g := ⟨_, rfl⟩
        rw [hg9] at hnew hlr ⊢
        rw [hg9] at hlE8
        have HE93 := Lib.hid hnew
        have hlr9 : w.heap.size + 1 + 1 + 1 < g9 := hlr
        have hne89 : g8 ≠ g9 := by omega
        clear hb hnew hlr hg9 hx3 hlE8
        refine hK.out _ _ ⟨HA3.out, HB3.out, HQ3.out, HR3.out⟩ (fun hHeld3 => ?_)
        clear hK K
        try simp only [Act.put, List.setIfInBounds_toArray, List.set_cons_zero, List.set_cons_succ]
        refine wpAnyH_ready (rs := [7]) (by kernel_rfl) (by simp) ?_
        refine AllReadyH.cons (o := { dst := some 28, op := Op.call { callee := Callee.value (Operand.func 86), args := #[Operand.tmp 26, Operand.tmp 27], argTypes := #[26, 3] }, type := 104, pos := "divide.go:41", after := #[{ on := 5, ground := Ground.data }, { on := 6, ground := Ground.data }, { on := 3, ground := Ground.chain }], guard := none }) rfl (fun K hK => ?_) AllReadyH.nil
        go_simp
        refine (HWU.out _).mono ?_
        rintro e x4 ⟨rfl, hb⟩
        have HA4 := Lib.hid (keptW hb HA3.out)
        have HB4 := Lib.hid (keptW hb HB3.out)
        have HQ4 := Lib.hid (keptW hb HQ3.out)
        have HR4 := Lib.hid (keptW hb HR3.out)
        have HE84 := Lib.hid (keptW hb HE83.out)
        have HE94 := Lib.hid (keptW hb HE93.out)
        have HL4 := Lib.hid (HL3.out.trans (hb.mono HL3.out.size))
        clear hb
        refine hK.out _ _ ⟨HA4.out, HB4.out, HQ4.out, HR4.out⟩ (fun hHeld4 => ?_)
        clear hK K
        try simp only [Act.put, List.setIfInBounds_toArray, List.set_cons_zero, List.set_cons_succ]
        refine wpAnyH_ready (rs := [10]) (by kernel_rfl) (by simp) ?_
        refine AllReadyH.cons (o := { dst := none, op := Op.store 104 (Operand.tmp 8) (Operand.tmp 24), type := 0, pos := "divide.go:41", after := #[{ on := 8, ground := Ground.data }, { on := 3, ground := Ground.data }, { on := 7, ground := Ground.chain }, { on := 0, ground := Ground.phase }, { on := 1, ground := Ground.phase }, { on := 2, ground := Ground.phase }, { on := 3, ground := Ground.phase }, { on := 4, ground := Ground.textOnly Departure.lateStores }, { on := 5, ground := Ground.textOnly Departure.lateStores }, { on := 6, ground := Ground.textOnly Departure.lateStores }, { on := 7, ground := Ground.phase }, { on := 8, ground := Ground.phase }, { on := 9, ground := Ground.phase }], guard := none }) rfl (fun K hK => ?_) AllReadyH.nil
        have hrow := HE84.out
        go_simp
        obtain ⟨x5, hx5⟩ : ∃ X, x4.setRow g8 (wdA 17 (v * 2 ^ s)) = X := ⟨_, rfl⟩
        rw [hx5]
        have HA5 := Lib.hid (show rowN x5 w.heap.size = some (natA v) by rw [← hx5, rowN_setRow, if_neg (by omega)]; exact HA4.out)
        have HB5 := Lib.hid (show rowN x5 (w.heap.size + 1) = some (natA u) by rw [← hx5, rowN_setRow, if_neg (by omega)]; exact HB4.out)
        have HQ5 := Lib.hid (show rowN x5 (w.heap.size + 1 + 1) = some (natA 0) by rw [← hx5, rowN_setRow, if_neg (by omega)]; exact HQ4.out)
        have HR5 := Lib.hid (show rowN x5 (w.heap.size + 1 + 1 + 1) = some (natA 0) by rw [← hx5, rowN_setRow, if_neg (by omega)]; exact HR4.out)
        have HE95 := Lib.hid (show rowN x5 g9 = some (wdA 17 0) by rw [← hx5, rowN_setRow, if_neg (by omega)]; exact HE94.out)
        have HE85 := Lib.hid (show rowN x5 g8 = some (wdA 17 (v * 2 ^ s)) by rw [← hx5, rowN_setRow, if_pos rfl, hrow]; rfl)
        have HL5 := Lib.hid (show Below w.heap.size w x5 by rw [← hx5]; exact below_setRow' HL4.out (by omega) _)
        clear hrow hx5
        refine hK.out _ _ ⟨HA5.out, HB5.out, HQ5.out, HR5.out⟩ (fun hHeld5 => ?_)
        clear hK K
        try simp only [Act.put, List.setIfInBounds_toArray, List.set_cons_zero, List.set_cons_succ]
        refine wpAnyH_ready (rs := [11]) (by kernel_rfl) (by simp) ?_
        refine AllReadyH.cons (o := { dst := none, op := Op.store 104 (Operand.tmp 9) (Operand.tmp 28), type := 0, pos := "divide.go:41", after := #[{ on := 9, ground := Ground.data }, { on := 7, ground := Ground.data }, { on := 10, ground := Ground.chain }, { on := 0, ground := Ground.phase }, { on := 1, ground := Ground.phase }, { on := 2, ground := Ground.phase }, { on := 3, ground := Ground.phase }, { on := 4, ground := Ground.phase }, { on := 5, ground := Ground.phase }, { on := 6, ground := Ground.phase }, { on := 7, ground := Ground.phase }, { on := 8, ground := Ground.phase }, { on := 9, ground := Ground.phase }, { on := 10, ground := Ground.phase }], guard := none }) rfl (fun K hK => ?_) AllReadyH.nil
        have hrow := HE95.out
        go_simp
        obtain ⟨x6, hx6⟩ : ∃ X, x5.setRow g9 (wdA 17 (u * 2 ^ s)) = X := ⟨_, rfl⟩
        rw [hx6]
        have HA6 := Lib.hid (show rowN x6 w.heap.size = some (natA v) by rw [← hx6, rowN_setRow, if_neg (by omega)]; exact HA5.out)
        have HB6 := Lib.hid (show rowN x6 (w.heap.size + 1) = some (natA u) by rw [← hx6, rowN_setRow, if_neg (by omega)]; exact HB5.out)
        have HQ6 := Lib.hid (show rowN x6 (w.heap.size + 1 + 1) = some (natA 0) by rw [← hx6, rowN_setRow, if_neg (by omega)]; exact HQ5.out)
        have HR6 := Lib.hid (show rowN x6 (w.heap.size + 1 + 1 + 1) = some (natA 0) by rw [← hx6, rowN_setRow, if_neg (by omega)]; exact HR5.out)
        have HE86 := Lib.hid (show rowN x6 g8 = some (wdA 17 (v * 2 ^ s)) by rw [← hx6, rowN_setRow, if_neg (by omega)]; exact HE85.out)
        have HE96 := Lib.hid (show rowN x6 g9 = some (wdA 17 (u * 2 ^ s)) by rw [← hx6, rowN_setRow, if_pos rfl, hrow]; rfl)
        have HL6 := Lib.hid (show Below w.heap.size w x6 by rw [← hx6]; exact below_setRow' HL5.out (by omega) _)
        clear hrow hx6
        refine hK.out _ _ ⟨HA6.out, HB6.out, HQ6.out, HR6.out⟩ (fun hHeld6 => ?_)
        clear hK K
        try simp only [Act.put, List.setIfInBounds_toArray, List.set_cons_zero, List.set_cons_succ]
        refine wpAnyH_done (by kernel_rfl) ?_ _
        refine NoPanic.normal ?_
        go_wp2_with fail
        go_meet
        exact ⟨g8, g9, rfl, rfl, by omega, by omega, by omega, HE86.out, HE96.out, HA6.out, HB6.out, HQ6.out, HR6.out, HL6.out⟩
      refine AllReadyH.cons (o := { dst := some 9, op := Op.alloc 104, type := 0, pos := "divide.go:41", after := #[], guard := none }) rfl (fun K hK => ?_) AllReadyH.nil
      go_simp
      obtain ⟨x2, hx2⟩ : ∃ X, x1.alloc (.cells (wdA 17 0) 104) = X := ⟨_, rfl⟩
      have hb : Below x1.heap.size x1 x2 := by rw [← hx2]; exact (Below.refl _ _).alloc (Nat.le_refl _) _
      have HA2 := Lib.hid (keptW hb HA1.out)
      have HB2 := Lib.hid (keptW hb HB1.out)
      have HQ2 := Lib.hid (keptW hb HQ1.out)
      have HR2 := Lib.hid (keptW hb HR1.out)
      have HL2 := Lib.hid (HL1.out.trans (hb.mono HL1.out.size))
      have hnew : rowN x2 x1.heap.size = some (wdA 17 0) := by rw [← hx2, rowN_alloc, if_pos rfl]
      have hlr := rowN_lt HR1.out
      rw [hx2]
      obtain ⟨g9, hg9⟩ : ∃ g, x1.heap.size = g := ⟨_, rfl⟩
      rw [hg9] at hnew hlr ⊢
      have HE92 := Lib.hid hnew
      have hlr9 : w.heap.size + 1 + 1 + 1 < g9 := hlr
      clear hb hnew hlr hg9 hx2
      refine hK.out _ _ ⟨HA2.out, HB2.out, HQ2.out, HR2.out⟩ (fun hHeld2 => ?_)
      clear hK K
      try simp only [Act.put, List.setIfInBounds_toArray, List.set_cons_zero, List.set_cons_succ]
      refine wpAnyH_ready (rs := [7, 8]) (by kernel_rfl) (by simp) ?_
      refine AllReadyH.cons (o := { dst := some 28, op := Op.call { callee := Callee.value (Operand.func 86), args := #[Operand.tmp 26, Operand.tmp 27], argTypes := #[26, 3] }, type := 104, pos := "divide.go:41", after := #[{ on := 5, ground := Ground.data }, { on := 6, ground := Ground.data }, { on := 3, ground := Ground.chain }], guard := none }) rfl (fun K hK => ?_) ?_
      · go_simp
        refine (HWU.out _).mono ?_
        rintro e x3 ⟨rfl, hb⟩
        have HA3 := Lib.hid (keptW hb HA2.out)
        have HB3 := Lib.hid (keptW hb HB2.out)
        have HQ3 := Lib.hid (keptW hb HQ2.out)
        have HR3 := Lib.hid (keptW hb HR2.out)
        have HE93 := Lib.hid (keptW hb HE92.out)
        have HL3 := Lib.hid (HL2.out.trans (hb.mono HL2.out.size))
        clear hb
        refine hK.out _ _ ⟨HA3.out, HB3.out, HQ3.out, HR3.out⟩ (fun hHeld3 => ?_)
        clear hK K
        try simp only [Act.put, List.setIfInBounds_toArray, List.set_cons_zero, List.set_cons_succ]
        refine wpAnyH_ready (rs := [8]) (by kernel_rfl) (by simp) ?_
        refine AllReadyH.cons (o := { dst := some 8, op := Op.alloc 104, type := 0, pos := "divide.go:41", after := #[], guard := none }) rfl (fun K hK => ?_) AllReadyH.nil
        go_simp
        obtain ⟨x4, hx4⟩ : ∃ X, x3.alloc (.cells (wdA 17 0) 104) = X := ⟨_, rfl⟩
        have hb : Below x3.heap.size x3 x4 := by rw [← hx4]; exact (Below.refl _ _).alloc (Nat.le_refl _) _
        have HA4 := Lib.hid (keptW hb HA3.out)
        have HB4 := Lib.hid (keptW hb HB3.out)
        have HQ4 := Lib.hid (keptW hb HQ3.out)
        have HR4 := Lib.hid (keptW hb HR3.out)
        have HE94 := Lib.hid (keptW hb HE93.out)
        have HL4 := Lib.hid (HL3.out.trans (hb.mono HL3.out.size))
        have hnew : rowN x4 x3.heap.size = some (wdA 17 0) := by rw [← hx4, rowN_alloc, if_pos rfl]
        have hlr := rowN_lt HR3.out
        have hlE9 := rowN_lt HE93.out
        rw [hx4]
        obtain ⟨g8, hg8⟩ : ∃ g, x3.heap.size = g := ⟨_, rfl⟩
        rw [hg8] at hnew hlr ⊢
        rw [hg8] at hlE9
        have HE84 := Lib.hid hnew
        have hlr8 : w.heap.size + 1 + 1 + 1 < g8 := hlr
        have hne89 : g8 ≠ g9 := by omega
        clear hb hnew hlr hg8 hx4 hlE9
        refine hK.out _ _ ⟨HA4.out, HB4.out, HQ4.out, HR4.out⟩ (fun hHeld4 => ?_)
        clear hK K
        try simp only [Act.put, List.setIfInBounds_toArray, List.set_cons_zero, List.set_cons_succ]
        refine wpAnyH_ready (rs := [10]) (by kernel_rfl) (by simp) ?_
        refine AllReadyH.cons (o := { dst := none, op := Op.store 104 (Operand.tmp 8) (Operand.tmp 24), type := 0, pos := "divide.go:41", after := #[{ on := 8, ground := Ground.data }, { on := 3, ground := Ground.data }, { on := 7, ground := Ground.chain }, { on := 0, ground := Ground.phase }, { on := 1, ground := Ground.phase }, { on := 2, ground := Ground.phase }, { on := 3, ground := Ground.phase }, { on := 4, ground := Ground.textOnly Departure.lateStores }, { on := 5, ground := Ground.textOnly Departure.lateStores }, { on := 6, ground := Ground.textOnly Departure.lateStores }, { on := 7, ground := Ground.phase }, { on := 8, ground := Ground.phase }, { on := 9, ground := Ground.phase }], guard := none }) rfl (fun K hK => ?_) AllReadyH.nil
        have hrow := HE84.out
        go_simp
        obtain ⟨x5, hx5⟩ : ∃ X, x4.setRow g8 (wdA 17 (v * 2 ^ s)) = X := ⟨_, rfl⟩
        rw [hx5]
        have HA5 := Lib.hid (show rowN x5 w.heap.size = some (natA v) by rw [← hx5, rowN_setRow, if_neg (by omega)]; exact HA4.out)
        have HB5 := Lib.hid (show rowN x5 (w.heap.size + 1) = some (natA u) by rw [← hx5, rowN_setRow, if_neg (by omega)]; exact HB4.out)
        have HQ5 := Lib.hid (show rowN x5 (w.heap.size + 1 + 1) = some (natA 0) by rw [← hx5, rowN_setRow, if_neg (by omega)]; exact HQ4.out)
        have HR5 := Lib.hid (show rowN x5 (w.heap.size + 1 + 1 + 1) = some (natA 0) by rw [← hx5, rowN_setRow, if_neg (by omega)]; exact HR4.out)
        have HE95 := Lib.hid (show rowN x5 g9 = some (wdA 17 0) by rw [← hx5, rowN_setRow, if_neg (by omega)]; exact HE94.out)
        have HE85 := Lib.hid (show rowN x5 g8 = some (wdA 17 (v * 2 ^ s)) by rw [← hx5, rowN_setRow, if_pos rfl, hrow]; rfl)
        have HL5 := Lib.hid (show Below w.heap.size w x5 by rw [← hx5]; exact below_setRow' HL4.out (by omega) _)
        clear hrow hx5
        refine hK.out _ _ ⟨HA5.out, HB5.out, HQ5.out, HR5.out⟩ (fun hHeld5 => ?_)
        clear hK K
        try simp only [Act.put, List.setIfInBounds_toArray, List.set_cons_zero, List.set_cons_succ]
        refine wpAnyH_ready (rs := [11]) (by kernel_rfl) (by simp) ?_
        refine AllReadyH.cons (o := { dst := none, op := Op.store 104 (Operand.tmp 9) (Operand.tmp 28), type := 0, pos := "divide.go:41", after := #[{ on := 9, ground := Ground.data }, { on := 7, ground := Ground.data }, { on := 10, ground := Ground.chain }, { on := 0, ground := Ground.phase }, { on := 1, ground := Ground.phase }, { on := 2, ground := Ground.phase }, { on := 3, ground := Ground.phase }, { on := 4, ground := Ground.phase }, { on := 5, ground := Ground.phase }, { on := 6, ground := Ground.phase }, { on := 7, ground := Ground.phase }, { on := 8, ground := Ground.phase }, { on := 9, ground := Ground.phase }, { on := 10, ground := Ground.phase }], guard := none }) rfl (fun K hK => ?_) AllReadyH.nil
        have hrow := HE95.out
        go_simp
        obtain ⟨x6, hx6⟩ : ∃ X, x5.setRow g9 (wdA 17 (u * 2 ^ s)) = X := ⟨_, rfl⟩
        rw [hx6]
        have HA6 := Lib.hid (show rowN x6 w.heap.size = some (natA v) by rw [← hx6, rowN_setRow, if_neg (by omega)]; exact HA5.out)
        have HB6 := Lib.hid (show rowN x6 (w.heap.size + 1) = some (natA u) by rw [← hx6, rowN_setRow, if_neg (by omega)]; exact HB5.out)
        have HQ6 := Lib.hid (show rowN x6 (w.heap.size + 1 + 1) = some (natA 0) by rw [← hx6, rowN_setRow, if_neg (by omega)]; exact HQ5.out)
        have HR6 := Lib.hid (show rowN x6 (w.heap.size + 1 + 1 + 1) = some (natA 0) by rw [← hx6, rowN_setRow, if_neg (by omega)]; exact HR5.out)
        have HE86 := Lib.hid (show rowN x6 g8 = some (wdA 17 (v * 2 ^ s)) by rw [← hx6, rowN_setRow, if_neg (by omega)]; exact HE85.out)
        have HE96 := Lib.hid (show rowN x6 g9 = some (wdA 17 (u * 2 ^ s)) by rw [← hx6, rowN_setRow, if_pos rfl, hrow]; rfl)
        have HL6 := Lib.hid (show Below w.heap.size w x6 by rw [← hx6]; exact below_setRow' HL5.out (by omega) _)
        clear hrow hx6
        refine hK.out _ _ ⟨HA6.out, HB6.out, HQ6.out, HR6.out⟩ (fun hHeld6 => ?_)
        clear hK K
        try simp only [Act.put, List.setIfInBounds_toArray, List.set_cons_zero, List.set_cons_succ]
        refine wpAnyH_done (by kernel_rfl) ?_ _
        refine NoPanic.normal ?_
        go_wp2_with fail
        go_meet
        exact ⟨g8, g9, rfl, rfl, by omega, by omega, by omega, HE86.out, HE96.out, HA6.out, HB6.out, HQ6.out, HR6.out, HL6.out⟩
      refine AllReadyH.cons (o := { dst := some 8, op := Op.alloc 104, type := 0, pos := "divide.go:41", after := #[], guard := none }) rfl (fun K hK => ?_) AllReadyH.nil
      go_simp
      obtain ⟨x3, hx3⟩ : ∃ X, x2.alloc (.cells (wdA 17 0) 104) = X := ⟨_, rfl⟩
      have hb : Below x2.heap.size x2 x3 := by rw [← hx3]; exact (Below.refl _ _).alloc (Nat.le_refl _) _
      have HA3 := Lib.hid (keptW hb HA2.out)
      have HB3 := Lib.hid (keptW hb HB2.out)
      have HQ3 := Lib.hid (keptW hb HQ2.out)
      have HR3 := Lib.hid (keptW hb HR2.out)
      have HE93 := Lib.hid (keptW hb HE92.out)
      have HL3 := Lib.hid (HL2.out.trans (hb.mono HL2.out.size))
      have hnew : rowN x3 x2.heap.size = some (wdA 17 0) := by rw [← hx3, rowN_alloc, if_pos rfl]
      have hlr := rowN_lt HR2.out
      have hlE9 := rowN_lt HE92.out
      rw [hx3]
      obtain ⟨g8, hg8⟩ : ∃ g, x2.heap.size = g := ⟨_, rfl⟩
      rw [hg8] at hnew hlr ⊢
      rw [hg8] at hlE9
      have HE83 := Lib.hid hnew
      have hlr8 : w.heap.size + 1 + 1 + 1 < g8 := hlr
      have hne89 : g8 ≠ g9 := by omega
      clear hb hnew hlr hg8 hx3 hlE9
      refine hK.out _ _ ⟨HA3.out, HB3.out, HQ3.out, HR3.out⟩ (fun hHeld3 => ?_)
      clear hK K
      try simp only [Act.put, List.setIfInBounds_toArray, List.set_cons_zero, List.set_cons_succ]
      refine wpAnyH_ready (rs := [7]) (by kernel_rfl) (by simp) ?_
      refine AllReadyH.cons (o := { dst := some 28, op := Op.call { callee := Callee.value (Operand.func 86), args := #[Operand.tmp 26, Operand.tmp 27], argTypes := #[26, 3] }, type := 104, pos := "divide.go:41", after := #[{ on := 5, ground := Ground.data }, { on := 6, ground := Ground.data }, { on := 3, ground := Ground.chain }], guard := none }) rfl (fun K hK => ?_) AllReadyH.nil
      go_simp
      refine (HWU.out _).mono ?_
      rintro e x4 ⟨rfl, hb⟩
      have HA4 := Lib.hid (keptW hb HA3.out)
      have HB4 := Lib.hid (keptW hb HB3.out)
      have HQ4 := Lib.hid (keptW hb HQ3.out)
      have HR4 := Lib.hid (keptW hb HR3.out)
      have HE94 := Lib.hid (keptW hb HE93.out)
      have HE84 := Lib.hid (keptW hb HE83.out)
      have HL4 := Lib.hid (HL3.out.trans (hb.mono HL3.out.size))
      clear hb
      refine hK.out _ _ ⟨HA4.out, HB4.out, HQ4.out, HR4.out⟩ (fun hHeld4 => ?_)
      clear hK K
      try simp only [Act.put, List.setIfInBounds_toArray, List.set_cons_zero, List.set_cons_succ]
      refine wpAnyH_ready (rs := [10]) (by kernel_rfl) (by simp) ?_
      refine AllReadyH.cons (o := { dst := none, op := Op.store 104 (Operand.tmp 8) (Operand.tmp 24), type := 0, pos := "divide.go:41", after := #[{ on := 8, ground := Ground.data }, { on := 3, ground := Ground.data }, { on := 7, ground := Ground.chain }, { on := 0, ground := Ground.phase }, { on := 1, ground := Ground.phase }, { on := 2, ground := Ground.phase }, { on := 3, ground := Ground.phase }, { on := 4, ground := Ground.textOnly Departure.lateStores }, { on := 5, ground := Ground.textOnly Departure.lateStores }, { on := 6, ground := Ground.textOnly Departure.lateStores }, { on := 7, ground := Ground.phase }, { on := 8, ground := Ground.phase }, { on := 9, ground := Ground.phase }], guard := none }) rfl (fun K hK => ?_) AllReadyH.nil
      have hrow := HE84.out
      go_simp
      obtain ⟨x5, hx5⟩ : ∃ X, x4.setRow g8 (wdA 17 (v * 2 ^ s)) = X := ⟨_, rfl⟩
      rw [hx5]
      have HA5 := Lib.hid (show rowN x5 w.heap.size = some (natA v) by rw [← hx5, rowN_setRow, if_neg (by omega)]; exact HA4.out)
      have HB5 := Lib.hid (show rowN x5 (w.heap.size + 1) = some (natA u) by rw [← hx5, rowN_setRow, if_neg (by omega)]; exact HB4.out)
      have HQ5 := Lib.hid (show rowN x5 (w.heap.size + 1 + 1) = some (natA 0) by rw [← hx5, rowN_setRow, if_neg (by omega)]; exact HQ4.out)
      have HR5 := Lib.hid (show rowN x5 (w.heap.size + 1 + 1 + 1) = some (natA 0) by rw [← hx5, rowN_setRow, if_neg (by omega)]; exact HR4.out)
      have HE95 := Lib.hid (show rowN x5 g9 = some (wdA 17 0) by rw [← hx5, rowN_setRow, if_neg (by omega)]; exact HE94.out)
      have HE85 := Lib.hid (show rowN x5 g8 = some (wdA 17 (v * 2 ^ s)) by rw [← hx5, rowN_setRow, if_pos rfl, hrow]; rfl)
      have HL5 := Lib.hid (show Below w.heap.size w x5 by rw [← hx5]; exact below_setRow' HL4.out (by omega) _)
      clear hrow hx5
      refine hK.out _ _ ⟨HA5.out, HB5.out, HQ5.out, HR5.out⟩ (fun hHeld5 => ?_)
      clear hK K
      try simp only [Act.put, List.setIfInBounds_toArray, List.set_cons_zero, List.set_cons_succ]
      refine wpAnyH_ready (rs := [11]) (by kernel_rfl) (by simp) ?_
      refine AllReadyH.cons (o := { dst := none, op := Op.store 104 (Operand.tmp 9) (Operand.tmp 28), type := 0, pos := "divide.go:41", after := #[{ on := 9, ground := Ground.data }, { on := 7, ground := Ground.data }, { on := 10, ground := Ground.chain }, { on := 0, ground := Ground.phase }, { on := 1, ground := Ground.phase }, { on := 2, ground := Ground.phase }, { on := 3, ground := Ground.phase }, { on := 4, ground := Ground.phase }, { on := 5, ground := Ground.phase }, { on := 6, ground := Ground.phase }, { on := 7, ground := Ground.phase }, { on := 8, ground := Ground.phase }, { on := 9, ground := Ground.phase }, { on := 10, ground := Ground.phase }], guard := none }) rfl (fun K hK => ?_) AllReadyH.nil
      have hrow := HE95.out
      go_simp
      obtain ⟨x6, hx6⟩ : ∃ X, x5.setRow g9 (wdA 17 (u * 2 ^ s)) = X := ⟨_, rfl⟩
      rw [hx6]
      have HA6 := Lib.hid (show rowN x6 w.heap.size = some (natA v) by rw [← hx6, rowN_setRow, if_neg (by omega)]; exact HA5.out)
      have HB6 := Lib.hid (show rowN x6 (w.heap.size + 1) = some (natA u) by rw [← hx6, rowN_setRow, if_neg (by omega)]; exact HB5.out)
      have HQ6 := Lib.hid (show rowN x6 (w.heap.size + 1 + 1) = some (natA 0) by rw [← hx6, rowN_setRow, if_neg (by omega)]; exact HQ5.out)
      have HR6 := Lib.hid (show rowN x6 (w.heap.size + 1 + 1 + 1) = some (natA 0) by rw [← hx6, rowN_setRow, if_neg (by omega)]; exact HR5.out)
      have HE86 := Lib.hid (show rowN x6 g8 = some (wdA 17 (v * 2 ^ s)) by rw [← hx6, rowN_setRow, if_neg (by omega)]; exact HE85.out)
      have HE96 := Lib.hid (show rowN x6 g9 = some (wdA 17 (u * 2 ^ s)) by rw [← hx6, rowN_setRow, if_pos rfl, hrow]; rfl)
      have HL6 := Lib.hid (show Below w.heap.size w x6 by rw [← hx6]; exact below_setRow' HL5.out (by omega) _)
      clear hrow hx6
      refine hK.out _ _ ⟨HA6.out, HB6.out, HQ6.out, HR6.out⟩ (fun hHeld6 => ?_)
      clear hK K
      try simp only [Act.put, List.setIfInBounds_toArray, List.set_cons_zero, List.set_cons_succ]
      refine wpAnyH_done (by kernel_rfl) ?_ _
      refine NoPanic.normal ?_
      go_wp2_with fail
      go_meet
      exact ⟨g8, g9, rfl, rfl, by omega, by omega, by omega, HE86.out, HE96.out, HA6.out, HB6.out, HQ6.out, HR6.out, HL6.out⟩
    refine AllReadyH.cons (o := { dst := some 8, op := Op.alloc 104, type := 0, pos := "divide.go:41", after := #[], guard := none }) rfl (fun K hK => ?_) ?_
    · go_simp
      obtain ⟨x1, hx1⟩ : ∃ X, x0.alloc (.cells (wdA 17 0) 104) = X := ⟨_, rfl⟩
      have hb : Below x0.heap.size x0 x1 := by rw [← hx1]; exact (Below.refl _ _).alloc (Nat.le_refl _) _
      have HA1 := Lib.hid (keptW hb HA0.out)
      have HB1 := Lib.hid (keptW hb HB0.out)
      have HQ1 := Lib.hid (keptW hb HQ0.out)
      have HR1 := Lib.hid (keptW hb HR0.out)
      have HL1 := Lib.hid (HL0.out.trans (hb.mono HL0.out.size))
      have hnew : rowN x1 x0.heap.size = some (wdA 17 0) := by rw [← hx1, rowN_alloc, if_pos rfl]
      have hlr := rowN_lt HR0.out
      rw [hx1]
      obtain ⟨g8, hg8⟩ : ∃ g, x0.heap.size = g := ⟨_, rfl⟩
      rw [hg8] at hnew hlr ⊢
      have HE81 := Lib.hid hnew
      have hlr8 : w.heap.size + 1 + 1 + 1 < g8 := hlr
      clear hb hnew hlr hg8 hx1
      refine hK.out _ _ ⟨HA1.out, HB1.out, HQ1.out, HR1.out⟩ (fun hHeld1 => ?_)
      clear hK K
      try simp only [Act.put, List.setIfInBounds_toArray, List.set_cons_zero, List.set_cons_succ]
      refine wpAnyH_ready (rs := [3, 9]) (by kernel_rfl) (by simp) ?_
      refine AllReadyH.cons (o := { dst := some 24, op := Op.call { callee := Callee.value (Operand.func 86), args := #[Operand.tmp 22, Operand.tmp 23], argTypes := #[26, 3] }, type := 104, pos := "divide.go:41", after := #[{ on := 1, ground := Ground.data }, { on := 2, ground := Ground.data }], guard := none }) rfl (fun K hK => ?_) ?_
      · go_simp
        refine (HWV.out _).mono ?_
        rintro e x2 ⟨rfl, hb⟩
        have HA2 := Lib.hid (keptW hb HA1.out)
        have HB2 := Lib.hid (keptW hb HB1.out)
        have HQ2 := Lib.hid (keptW hb HQ1.out)
        have HR2 := Lib.hid (keptW hb HR1.out)
        have HE82 := Lib.hid (keptW hb HE81.out)
        have HL2 := Lib.hid (HL1.out.trans (hb.mono HL1.out.size))
        clear hb
        refine hK.out _ _ ⟨HA2.out, HB2.out, HQ2.out, HR2.out⟩ (fun hHeld2 => ?_)
        clear hK K
        try simp only [Act.put, List.setIfInBounds_toArray, List.set_cons_zero, List.set_cons_succ]
        refine wpAnyH_ready (rs := [7, 9]) (by kernel_rfl) (by simp) ?_
        refine AllReadyH.cons (o := { dst := some 28, op := Op.call { callee := Callee.value (Operand.func 86), args := #[Operand.tmp 26, Operand.tmp 27], argTypes := #[26, 3] }, type := 104, pos := "divide.go:41", after := #[{ on := 5, ground := Ground.data }, { on := 6, ground := Ground.data }, { on := 3, ground := Ground.chain }], guard := none }) rfl (fun K hK => ?_) ?_
        · go_simp
          refine (HWU.out _).mono ?_
          rintro e x3 ⟨rfl, hb⟩
          have HA3 := Lib.hid (keptW hb HA2.out)
          have HB3 := Lib.hid (keptW hb HB2.out)
          have HQ3 := Lib.hid (keptW hb HQ2.out)
          have HR3 := Lib.hid (keptW hb HR2.out)
          have HE83 := Lib.hid (keptW hb HE82.out)
          have HL3 := Lib.hid (HL2.out.trans (hb.mono HL2.out.size))
          clear hb
          refine hK.out _ _ ⟨HA3.out, HB3.out, HQ3.out, HR3.out⟩ (fun hHeld3 => ?_)
          clear hK K
          try simp only [Act.put, List.setIfInBounds_toArray, List.set_cons_zero, List.set_cons_succ]
          refine wpAnyH_ready (rs := [9]) (by kernel_rfl) (by simp) ?_
          refine AllReadyH.cons (o := { dst := some 9, op := Op.alloc 104, type := 0, pos := "divide.go:41", after := #[], guard := none }) rfl (fun K hK => ?_) AllReadyH.nil
          go_simp
          obtain ⟨x4, hx4⟩ : ∃ X, x3.alloc (.cells (wdA 17 0) 104) = X := ⟨_, rfl⟩
          have hb : Below x3.heap.size x3 x4 := by rw [← hx4]; exact (Below.refl _ _).alloc (Nat.le_refl _) _
          have HA4 := Lib.hid (keptW hb HA3.out)
          have HB4 := Lib.hid (keptW hb HB3.out)
          have HQ4 := Lib.hid (keptW hb HQ3.out)
          have HR4 := Lib.hid (keptW hb HR3.out)
          have HE84 := Lib.hid (keptW hb HE83.out)
          have HL4 := Lib.hid (HL3.out.trans (hb.mono HL3.out.size))
          have hnew : rowN x4 x3.heap.size = some (wdA 17 0) := by rw [← hx4, rowN_alloc, if_pos rfl]
          have hlr := rowN_lt HR3.out
          have hlE8 := rowN_lt HE83.out
          rw [hx4]
          obtain ⟨g9, hg9⟩ : ∃ g, x3.heap.size = g := ⟨_, rfl⟩
          rw [hg9] at hnew hlr ⊢
          rw [hg9] at hlE8
          have HE94 := Lib.hid hnew
          have hlr9 : w.heap.size + 1 + 1 + 1 < g9 := hlr
          have hne89 : g8 ≠ g9 := by omega
          clear hb hnew hlr hg9 hx4 hlE8
          refine hK.out _ _ ⟨HA4.out, HB4.out, HQ4.out, HR4.out⟩ (fun hHeld4 => ?_)
          clear hK K
          try simp only [Act.put, List.setIfInBounds_toArray, List.set_cons_zero, List.set_cons_succ]
          refine wpAnyH_ready (rs := [10]) (by kernel_rfl) (by simp) ?_
          refine AllReadyH.cons (o := { dst := none, op := Op.store 104 (Operand.tmp 8) (Operand.tmp 24), type := 0, pos := "divide.go:41", after := #[{ on := 8, ground := Ground.data }, { on := 3, ground := Ground.data }, { on := 7, ground := Ground.chain }, { on := 0, ground := Ground.phase }, { on := 1, ground := Ground.phase }, { on := 2, ground := Ground.phase }, { on := 3, ground := Ground.phase }, { on := 4, ground := Ground.textOnly Departure.lateStores }, { on := 5, ground := Ground.textOnly Departure.lateStores }, { on := 6, ground := Ground.textOnly Departure.lateStores }, { on := 7, ground := Ground.phase }, { on := 8, ground := Ground.phase }, { on := 9, ground := Ground.phase }], guard := none }) rfl (fun K hK => ?_) AllReadyH.nil
          have hrow := HE84.out
          go_simp
          obtain ⟨x5, hx5⟩ : ∃ X, x4.setRow g8 (wdA 17 (v * 2 ^ s)) = X := ⟨_, rfl⟩
          rw [hx5]
          have HA5 := Lib.hid (show rowN x5 w.heap.size = some (natA v) by rw [← hx5, rowN_setRow, if_neg (by omega)]; exact HA4.out)
          have HB5 := Lib.hid (show rowN x5 (w.heap.size + 1) = some (natA u) by rw [← hx5, rowN_setRow, if_neg (by omega)]; exact HB4.out)
          have HQ5 := Lib.hid (show rowN x5 (w.heap.size + 1 + 1) = some (natA 0) by rw [← hx5, rowN_setRow, if_neg (by omega)]; exact HQ4.out)
          have HR5 := Lib.hid (show rowN x5 (w.heap.size + 1 + 1 + 1) = some (natA 0) by rw [← hx5, rowN_setRow, if_neg (by omega)]; exact HR4.out)
          have HE95 := Lib.hid (show rowN x5 g9 = some (wdA 17 0) by rw [← hx5, rowN_setRow, if_neg (by omega)]; exact HE94.out)
          have HE85 := Lib.hid (show rowN x5 g8 = some (wdA 17 (v * 2 ^ s)) by rw [← hx5, rowN_setRow, if_pos rfl, hrow]; rfl)
          have HL5 := Lib.hid (show Below w.heap.size w x5 by rw [← hx5]; exact below_setRow' HL4.out (by omega) _)
          clear hrow hx5
          refine hK.out _ _ ⟨HA5.out, HB5.out, HQ5.out, HR5.out⟩ (fun hHeld5 => ?_)
          clear hK K
          try simp only [Act.put, List.setIfInBounds_toArray, List.set_cons_zero, List.set_cons_succ]
          refine wpAnyH_ready (rs := [11]) (by kernel_rfl) (by simp) ?_
          refine AllReadyH.cons (o := { dst := none, op := Op.store 104 (Operand.tmp 9) (Operand.tmp 28), type := 0, pos := "divide.go:41", after := #[{ on := 9, ground := Ground.data }, { on := 7, ground := Ground.data }, { on := 10, ground := Ground.chain }, { on := 0, ground := Ground.phase }, { on := 1, ground := Ground.phase }, { on := 2, ground := Ground.phase }, { on := 3, ground := Ground.phase }, { on := 4, ground := Ground.phase }, { on := 5, ground := Ground.phase }, { on := 6, ground := Ground.phase }, { on := 7, ground := Ground.phase }, { on := 8, ground := Ground.phase }, { on := 9, ground := Ground.phase }, { on := 10, ground := Ground.phase }], guard := none }) rfl (fun K hK => ?_) AllReadyH.nil
          have hrow := HE95.out
          go_simp
          obtain ⟨x6, hx6⟩ : ∃ X, x5.setRow g9 (wdA 17 (u * 2 ^ s)) = X := ⟨_, rfl⟩
          rw [hx6]
          have HA6 := Lib.hid (show rowN x6 w.heap.size = some (natA v) by rw [← hx6, rowN_setRow, if_neg (by omega)]; exact HA5.out)
          have HB6 := Lib.hid (show rowN x6 (w.heap.size + 1) = some (natA u) by rw [← hx6, rowN_setRow, if_neg (by omega)]; exact HB5.out)
          have HQ6 := Lib.hid (show rowN x6 (w.heap.size + 1 + 1) = some (natA 0) by rw [← hx6, rowN_setRow, if_neg (by omega)]; exact HQ5.out)
          have HR6 := Lib.hid (show rowN x6 (w.heap.size + 1 + 1 + 1) = some (natA 0) by rw [← hx6, rowN_setRow, if_neg (by omega)]; exact HR5.out)
          have HE86 := Lib.hid (show rowN x6 g8 = some (wdA 17 (v * 2 ^ s)) by rw [← hx6, rowN_setRow, if_neg (by omega)]; exact HE85.out)
          have HE96 := Lib.hid (show rowN x6 g9 = some (wdA 17 (u * 2 ^ s)) by rw [← hx6, rowN_setRow, if_pos rfl, hrow]; rfl)
          have HL6 := Lib.hid (show Below w.heap.size w x6 by rw [← hx6]; exact below_setRow' HL5.out (by omega) _)
          clear hrow hx6
          refine hK.out _ _ ⟨HA6.out, HB6.out, HQ6.out, HR6.out⟩ (fun hHeld6 => ?_)
          clear hK K
          try simp only [Act.put, List.setIfInBounds_toArray, List.set_cons_zero, List.set_cons_succ]
          refine wpAnyH_done (by kernel_rfl) ?_ _
          refine NoPanic.normal ?_
          go_wp2_with fail
          go_meet
          exact ⟨g8, g9, rfl, rfl, by omega, by omega, by omega, HE86.out, HE96.out, HA6.out, HB6.out, HQ6.out, HR6.out, HL6.out⟩
        refine AllReadyH.cons (o := { dst := some 9, op := Op.alloc 104, type := 0, pos := "divide.go:41", after := #[], guard := none }) rfl (fun K hK => ?_) AllReadyH.nil
        go_simp
        obtain ⟨x3, hx3⟩ : ∃ X, x2.alloc (.cells (wdA 17 0) 104) = X := ⟨_, rfl⟩
        have hb : Below x2.heap.size x2 x3 := by rw [← hx3]; exact (Below.refl _ _).alloc (Nat.le_refl _) _
        have HA3 := Lib.hid (keptW hb HA2.out)
        have HB3 := Lib.hid (keptW hb HB2.out)
        have HQ3 := Lib.hid (keptW hb HQ2.out)
        have HR3 := Lib.hid (keptW hb HR2.out)
        have HE83 := Lib.hid (keptW hb HE82.out)
        have HL3 := Lib.hid (HL2.out.trans (hb.mono HL2.out.size))
        have hnew : rowN x3 x2.heap.size = some (wdA 17 0) := by rw [← hx3, rowN_alloc, if_pos rfl]
        have hlr := rowN_lt HR2.out
        have hlE8 := rowN_lt HE82.out
        rw [hx3]
        obtain ⟨g9, hg9⟩ : ∃ g, x2.heap.size = g := ⟨_, rfl⟩
        rw [hg9] at hnew hlr ⊢
        rw [hg9] at hlE8
        have HE93 := Lib.hid hnew
        have hlr9 : w.heap.size + 1 + 1 + 1 < g9 := hlr
        have hne89 : g8 ≠ g9 := by omega
        clear hb hnew hlr hg9 hx3 hlE8
        refine hK.out _ _ ⟨HA3.out, HB3.out, HQ3.out, HR3.out⟩ (fun hHeld3 => ?_)
        clear hK K
        try simp only [Act.put, List.setIfInBounds_toArray, List.set_cons_zero, List.set_cons_succ]
        refine wpAnyH_ready (rs := [7]) (by kernel_rfl) (by simp) ?_
        refine AllReadyH.cons (o := { dst := some 28, op := Op.call { callee := Callee.value (Operand.func 86), args := #[Operand.tmp 26, Operand.tmp 27], argTypes := #[26, 3] }, type := 104, pos := "divide.go:41", after := #[{ on := 5, ground := Ground.data }, { on := 6, ground := Ground.data }, { on := 3, ground := Ground.chain }], guard := none }) rfl (fun K hK => ?_) AllReadyH.nil
        go_simp
        refine (HWU.out _).mono ?_
        rintro e x4 ⟨rfl, hb⟩
        have HA4 := Lib.hid (keptW hb HA3.out)
        have HB4 := Lib.hid (keptW hb HB3.out)
        have HQ4 := Lib.hid (keptW hb HQ3.out)
        have HR4 := Lib.hid (keptW hb HR3.out)
        have HE84 := Lib.hid (keptW hb HE83.out)
        have HE94 := Lib.hid (keptW hb HE93.out)
        have HL4 := Lib.hid (HL3.out.trans (hb.mono HL3.out.size))
        clear hb
        refine hK.out _ _ ⟨HA4.out, HB4.out, HQ4.out, HR4.out⟩ (fun hHeld4 => ?_)
        clear hK K
        try simp only [Act.put, List.setIfInBounds_toArray, List.set_cons_zero, List.set_cons_succ]
        refine wpAnyH_ready (rs := [10]) (by kernel_rfl) (by simp) ?_
        refine AllReadyH.cons (o := { dst := none, op := Op.store 104 (Operand.tmp 8) (Operand.tmp 24), type := 0, pos := "divide.go:41", after := #[{ on := 8, ground := Ground.data }, { on := 3, ground := Ground.data }, { on := 7, ground := Ground.chain }, { on := 0, ground := Ground.phase }, { on := 1, ground := Ground.phase }, { on := 2, ground := Ground.phase }, { on := 3, ground := Ground.phase }, { on := 4, ground := Ground.textOnly Departure.lateStores }, { on := 5, ground := Ground.textOnly Departure.lateStores }, { on := 6, ground := Ground.textOnly Departure.lateStores }, { on := 7, ground := Ground.phase }, { on := 8, ground := Ground.phase }, { on := 9, ground := Ground.phase }], guard := none }) rfl (fun K hK => ?_) AllReadyH.nil
        have hrow := HE84.out
        go_simp
        obtain ⟨x5, hx5⟩ : ∃ X, x4.setRow g8 (wdA 17 (v * 2 ^ s)) = X := ⟨_, rfl⟩
        rw [hx5]
        have HA5 := Lib.hid (show rowN x5 w.heap.size = some (natA v) by rw [← hx5, rowN_setRow, if_neg (by omega)]; exact HA4.out)
        have HB5 := Lib.hid (show rowN x5 (w.heap.size + 1) = some (natA u) by rw [← hx5, rowN_setRow, if_neg (by omega)]; exact HB4.out)
        have HQ5 := Lib.hid (show rowN x5 (w.heap.size + 1 + 1) = some (natA 0) by rw [← hx5, rowN_setRow, if_neg (by omega)]; exact HQ4.out)
        have HR5 := Lib.hid (show rowN x5 (w.heap.size + 1 + 1 + 1) = some (natA 0) by rw [← hx5, rowN_setRow, if_neg (by omega)]; exact HR4.out)
        have HE95 := Lib.hid (show rowN x5 g9 = some (wdA 17 0) by rw [← hx5, rowN_setRow, if_neg (by omega)]; exact HE94.out)
        have HE85 := Lib.hid (show rowN x5 g8 = some (wdA 17 (v * 2 ^ s)) by rw [← hx5, rowN_setRow, if_pos rfl, hrow]; rfl)
        have HL5 := Lib.hid (show Below w.heap.size w x5 by rw [← hx5]; exact below_setRow' HL4.out (by omega) _)
        clear hrow hx5
        refine hK.out _ _ ⟨HA5.out, HB5.out, HQ5.out, HR5.out⟩ (fun hHeld5 => ?_)
        clear hK K
        try simp only [Act.put, List.setIfInBounds_toArray, List.set_cons_zero, List.set_cons_succ]
        refine wpAnyH_ready (rs := [11]) (by kernel_rfl) (by simp) ?_
        refine AllReadyH.cons (o := { dst := none, op := Op.store 104 (Operand.tmp 9) (Operand.tmp 28), type := 0, pos := "divide.go:41", after := #[{ on := 9, ground := Ground.data }, { on := 7, ground := Ground.data }, { on := 10, ground := Ground.chain }, { on := 0, ground := Ground.phase }, { on := 1, ground := Ground.phase }, { on := 2, ground := Ground.phase }, { on := 3, ground := Ground.phase }, { on := 4, ground := Ground.phase }, { on := 5, ground := Ground.phase }, { on := 6, ground := Ground.phase }, { on := 7, ground := Ground.phase }, { on := 8, ground := Ground.phase }, { on := 9, ground := Ground.phase }, { on := 10, ground := Ground.phase }], guard := none }) rfl (fun K hK => ?_) AllReadyH.nil
        have hrow := HE95.out
        go_simp
        obtain ⟨x6, hx6⟩ : ∃ X, x5.setRow g9 (wdA 17 (u * 2 ^ s)) = X := ⟨_, rfl⟩
        rw [hx6]
        have HA6 := Lib.hid (show rowN x6 w.heap.size = some (natA v) by rw [← hx6, rowN_setRow, if_neg (by omega)]; exact HA5.out)
        have HB6 := Lib.hid (show rowN x6 (w.heap.size + 1) = some (natA u) by rw [← hx6, rowN_setRow, if_neg (by omega)]; exact HB5.out)
        have HQ6 := Lib.hid (show rowN x6 (w.heap.size + 1 + 1) = some (natA 0) by rw [← hx6, rowN_setRow, if_neg (by omega)]; exact HQ5.out)
        have HR6 := Lib.hid (show rowN x6 (w.heap.size + 1 + 1 + 1) = some (natA 0) by rw [← hx6, rowN_setRow, if_neg (by omega)]; exact HR5.out)
        have HE86 := Lib.hid (show rowN x6 g8 = some (wdA 17 (v * 2 ^ s)) by rw [← hx6, rowN_setRow, if_neg (by omega)]; exact HE85.out)
        have HE96 := Lib.hid (show rowN x6 g9 = some (wdA 17 (u * 2 ^ s)) by rw [← hx6, rowN_setRow, if_pos rfl, hrow]; rfl)
        have HL6 := Lib.hid (show Below w.heap.size w x6 by rw [← hx6]; exact below_setRow' HL5.out (by omega) _)
        clear hrow hx6
        refine hK.out _ _ ⟨HA6.out, HB6.out, HQ6.out, HR6.out⟩ (fun hHeld6 => ?_)
        clear hK K
        try simp only [Act.put, List.setIfInBounds_toArray, List.set_cons_zero, List.set_cons_succ]
        refine wpAnyH_done (by kernel_rfl) ?_ _
        refine NoPanic.normal ?_
        go_wp2_with fail
        go_meet
        exact ⟨g8, g9, rfl, rfl, by omega, by omega, by omega, HE86.out, HE96.out, HA6.out, HB6.out, HQ6.out, HR6.out, HL6.out⟩
      refine AllReadyH.cons (o := { dst := some 9, op := Op.alloc 104, type := 0, pos := "divide.go:41", after := #[], guard := none }) rfl (fun K hK => ?_) AllReadyH.nil
      go_simp
      obtain ⟨x2, hx2⟩ : ∃ X, x1.alloc (.cells (wdA 17 0) 104) = X := ⟨_, rfl⟩
      have hb : Below x1.heap.size x1 x2 := by rw [← hx2]; exact (Below.refl _ _).alloc (Nat.le_refl _) _
      have HA2 := Lib.hid (keptW hb HA1.out)
      have HB2 := Lib.hid (keptW hb HB1.out)
      have HQ2 := Lib.hid (keptW hb HQ1.out)
      have HR2 := Lib.hid (keptW hb HR1.out)
      have HE82 := Lib.hid (keptW hb HE81.out)
      have HL2 := Lib.hid (HL1.out.trans (hb.mono HL1.out.size))
      have hnew : rowN x2 x1.heap.size = some (wdA 17 0) := by rw [← hx2, rowN_alloc, if_pos rfl]
      have hlr := rowN_lt HR1.out
      have hlE8 := rowN_lt HE81.out
      rw [hx2]
      obtain ⟨g9, hg9⟩ : ∃ g, x1.heap.size = g := ⟨_, rfl⟩
      rw [hg9] at hnew hlr ⊢
      rw [hg9] at hlE8
      have HE92 := Lib.hid hnew
      have hlr9 : w.heap.size + 1 + 1 + 1 < g9 := hlr
      have hne89 : g8 ≠ g9 := by omega
      clear hb hnew hlr hg9 hx2 hlE8
      refine hK.out _ _ ⟨HA2.out, HB2.out, HQ2.out, HR2.out⟩ (fun hHeld2 => ?_)
      clear hK K
      try simp only [Act.put, List.setIfInBounds_toArray, List.set_cons_zero, List.set_cons_succ]
      refine wpAnyH_ready (rs := [3]) (by kernel_rfl) (by simp) ?_
      refine AllReadyH.cons (o := { dst := some 24, op := Op.call { callee := Callee.value (Operand.func 86), args := #[Operand.tmp 22, Operand.tmp 23], argTypes := #[26, 3] }, type := 104, pos := "divide.go:41", after := #[{ on := 1, ground := Ground.data }, { on := 2, ground := Ground.data }], guard := none }) rfl (fun K hK => ?_) AllReadyH.nil
      go_simp
      refine (HWV.out _).mono ?_
      rintro e x3 ⟨rfl, hb⟩
      have HA3 := Lib.hid (keptW hb HA2.out)
      have HB3 := Lib.hid (keptW hb HB2.out)
      have HQ3 := Lib.hid (keptW hb HQ2.out)
      have HR3 := Lib.hid (keptW hb HR2.out)
      have HE83 := Lib.hid (keptW hb HE82.out)
      have HE93 := Lib.hid (keptW hb HE92.out)
      have HL3 := Lib.hid (HL2.out.trans (hb.mono HL2.out.size))
      clear hb
      refine hK.out _ _ ⟨HA3.out, HB3.out, HQ3.out, HR3.out⟩ (fun hHeld3 => ?_)
      clear hK K
      try simp only [Act.put, List.setIfInBounds_toArray, List.set_cons_zero, List.set_cons_succ]
      refine wpAnyH_ready (rs := [7]) (by kernel_rfl) (by simp) ?_
      refine AllReadyH.cons (o := { dst := some 28, op := Op.call { callee := Callee.value (Operand.func 86), args := #[Operand.tmp 26, Operand.tmp 27], argTypes := #[26, 3] }, type := 104, pos := "divide.go:41", after := #[{ on := 5, ground := Ground.data }, { on := 6, ground := Ground.data }, { on := 3, ground := Ground.chain }], guard := none }) rfl (fun K hK => ?_) AllReadyH.nil
      go_simp
      refine (HWU.out _).mono ?_
      rintro e x4 ⟨rfl, hb⟩
      have HA4 := Lib.hid (keptW hb HA3.out)
      have HB4 := Lib.hid (keptW hb HB3.out)
      have HQ4 := Lib.hid (keptW hb HQ3.out)
      have HR4 := Lib.hid (keptW hb HR3.out)
      have HE84 := Lib.hid (keptW hb HE83.out)
      have HE94 := Lib.hid (keptW hb HE93.out)
      have HL4 := Lib.hid (HL3.out.trans (hb.mono HL3.out.size))
      clear hb
      refine hK.out _ _ ⟨HA4.out, HB4.out, HQ4.out, HR4.out⟩ (fun hHeld4 => ?_)
      clear hK K
      try simp only [Act.put, List.setIfInBounds_toArray, List.set_cons_zero, List.set_cons_succ]
      refine wpAnyH_ready (rs := [10]) (by kernel_rfl) (by simp) ?_
      refine AllReadyH.cons (o := { dst := none, op := Op.store 104 (Operand.tmp 8) (Operand.tmp 24), type := 0, pos := "divide.go:41", after := #[{ on := 8, ground := Ground.data }, { on := 3, ground := Ground.data }, { on := 7, ground := Ground.chain }, { on := 0, ground := Ground.phase }, { on := 1, ground := Ground.phase }, { on := 2, ground := Ground.phase }, { on := 3, ground := Ground.phase }, { on := 4, ground := Ground.textOnly Departure.lateStores }, { on := 5, ground := Ground.textOnly Departure.lateStores }, { on := 6, ground := Ground.textOnly Departure.lateStores }, { on := 7, ground := Ground.phase }, { on := 8, ground := Ground.phase }, { on := 9, ground := Ground.phase }], guard := none }) rfl (fun K hK => ?_) AllReadyH.nil
      have hrow := HE84.out
      go_simp
      obtain ⟨x5, hx5⟩ : ∃ X, x4.setRow g8 (wdA 17 (v * 2 ^ s)) = X := ⟨_, rfl⟩
      rw [hx5]
      have HA5 := Lib.hid (show rowN x5 w.heap.size = some (natA v) by rw [← hx5, rowN_setRow, if_neg (by omega)]; exact HA4.out)
      have HB5 := Lib.hid (show rowN x5 (w.heap.size + 1) = some (natA u) by rw [← hx5, rowN_setRow, if_neg (by omega)]; exact HB4.out)
      have HQ5 := Lib.hid (show rowN x5 (w.heap.size + 1 + 1) = some (natA 0) by rw [← hx5, rowN_setRow, if_neg (by omega)]; exact HQ4.out)
      have HR5 := Lib.hid (show rowN x5 (w.heap.size + 1 + 1 + 1) = some (natA 0) by rw [← hx5, rowN_setRow, if_neg (by omega)]; exact HR4.out)
      have HE95 := Lib.hid (show rowN x5 g9 = some (wdA 17 0) by rw [← hx5, rowN_setRow, if_neg (by omega)]; exact HE94.out)
      have HE85 := Lib.hid (show rowN x5 g8 = some (wdA 17 (v * 2 ^ s)) by rw [← hx5, rowN_setRow, if_pos rfl, hrow]; rfl)
      have HL5 := Lib.hid (show Below w.heap.size w x5 by rw [← hx5]; exact below_setRow' HL4.out (by omega) _)
      clear hrow hx5
      refine hK.out _ _ ⟨HA5.out, HB5.out, HQ5.out, HR5.out⟩ (fun hHeld5 => ?_)
      clear hK K
      try simp only [Act.put, List.setIfInBounds_toArray, List.set_cons_zero, List.set_cons_succ]
      refine wpAnyH_ready (rs := [11]) (by kernel_rfl) (by simp) ?_
      refine AllReadyH.cons (o := { dst := none, op := Op.store 104 (Operand.tmp 9) (Operand.tmp 28), type := 0, pos := "divide.go:41", after := #[{ on := 9, ground := Ground.data }, { on := 7, ground := Ground.data }, { on := 10, ground := Ground.chain }, { on := 0, ground := Ground.phase }, { on := 1, ground := Ground.phase }, { on := 2, ground := Ground.phase }, { on := 3, ground := Ground.phase }, { on := 4, ground := Ground.phase }, { on := 5, ground := Ground.phase }, { on := 6, ground := Ground.phase }, { on := 7, ground := Ground.phase }, { on := 8, ground := Ground.phase }, { on := 9, ground := Ground.phase }, { on := 10, ground := Ground.phase }], guard := none }) rfl (fun K hK => ?_) AllReadyH.nil
      have hrow := HE95.out
      go_simp
      obtain ⟨x6, hx6⟩ : ∃ X, x5.setRow g9 (wdA 17 (u * 2 ^ s)) = X := ⟨_, rfl⟩
      rw [hx6]
      have HA6 := Lib.hid (show rowN x6 w.heap.size = some (natA v) by rw [← hx6, rowN_setRow, if_neg (by omega)]; exact HA5.out)
      have HB6 := Lib.hid (show rowN x6 (w.heap.size + 1) = some (natA u) by rw [← hx6, rowN_setRow, if_neg (by omega)]; exact HB5.out)
      have HQ6 := Lib.hid (show rowN x6 (w.heap.size + 1 + 1) = some (natA 0) by rw [← hx6, rowN_setRow, if_neg (by omega)]; exact HQ5.out)
      have HR6 := Lib.hid (show rowN x6 (w.heap.size + 1 + 1 + 1) = some (natA 0) by rw [← hx6, rowN_setRow, if_neg (by omega)]; exact HR5.out)
      have HE86 := Lib.hid (show rowN x6 g8 = some (wdA 17 (v * 2 ^ s)) by rw [← hx6, rowN_setRow, if_neg (by omega)]; exact HE85.out)
      have HE96 := Lib.hid (show rowN x6 g9 = some (wdA 17 (u * 2 ^ s)) by rw [← hx6, rowN_setRow, if_pos rfl, hrow]; rfl)
      have HL6 := Lib.hid (show Below w.heap.size w x6 by rw [← hx6]; exact below_setRow' HL5.out (by omega) _)
      clear hrow hx6
      refine hK.out _ _ ⟨HA6.out, HB6.out, HQ6.out, HR6.out⟩ (fun hHeld6 => ?_)
      clear hK K
      try simp only [Act.put, List.setIfInBounds_toArray, List.set_cons_zero, List.set_cons_succ]
      refine wpAnyH_done (by kernel_rfl) ?_ _
      refine NoPanic.normal ?_
      go_wp2_with fail
      go_meet
      exact ⟨g8, g9, rfl, rfl, by omega, by omega, by omega, HE86.out, HE96.out, HA6.out, HB6.out, HQ6.out, HR6.out, HL6.out⟩
    refine AllReadyH.cons (o := { dst := some 9, op := Op.alloc 104, type := 0, pos := "divide.go:41", after := #[], guard := none }) rfl (fun K hK => ?_) AllReadyH.nil
    go_simp
    obtain ⟨x1, hx1⟩ : ∃ X, x0.alloc (.cells (wdA 17 0) 104) = X := ⟨_, rfl⟩
    have hb : Below x0.heap.size x0 x1 := by rw [← hx1]; exact (Below.refl _ _).alloc (Nat.le_refl _) _
    have HA1 := Lib.hid (keptW hb HA0.out)
    have HB1 := Lib.hid (keptW hb HB0.out)
    have HQ1 := Lib.hid (keptW hb HQ0.out)
    have HR1 := Lib.hid (keptW hb HR0.out)
    have HL1 := Lib.hid (HL0.out.trans (hb.mono HL0.out.size))
    have hnew : rowN x1 x0.heap.size = some (wdA 17 0) := by rw [← hx1, rowN_alloc, if_pos rfl]
    have hlr := rowN_lt HR0.out
    rw [hx1]
    obtain ⟨g9, hg9⟩ : ∃ g, x0.heap.size = g := ⟨_, rfl⟩
    rw [hg9] at hnew hlr ⊢
    have HE91 := Lib.hid hnew
    have hlr9 : w.heap.size + 1 + 1 + 1 < g9 := hlr
    clear hb hnew hlr hg9 hx1
    refine hK.out _ _ ⟨HA1.out, HB1.out, HQ1.out, HR1.out⟩ (fun hHeld1 => ?_)
    clear hK K
    try simp only [Act.put, List.setIfInBounds_toArray, List.set_cons_zero, List.set_cons_succ]
    refine wpAnyH_ready (rs := [3, 8]) (by kernel_rfl) (by simp) ?_
    refine AllReadyH.cons (o := { dst := some 24, op := Op.call { callee := Callee.value (Operand.func 86), args := #[Operand.tmp 22, Operand.tmp 23], argTypes := #[26, 3] }, type := 104, pos := "divide.go:41", after := #[{ on := 1, ground := Ground.data }, { on := 2, ground := Ground.data }], guard := none }) rfl (fun K hK => ?_) ?_
    · go_simp
      refine (HWV.out _).mono ?_
      rintro e x2 ⟨rfl, hb⟩
      have HA2 := Lib.hid (keptW hb HA1.out)
      have HB2 := Lib.hid (keptW hb HB1.out)
      have HQ2 := Lib.hid (keptW hb HQ1.out)
      have HR2 := Lib.hid (keptW hb HR1.out)
      have HE92 := Lib.hid (keptW hb HE91.out)
      have HL2 := Lib.hid (HL1.out.trans (hb.mono HL1.out.size))
      clear hb
      refine hK.out _ _ ⟨HA2.out, HB2.out, HQ2.out, HR2.out⟩ (fun hHeld2 => ?_)
      clear hK K
      try simp only [Act.put, List.setIfInBounds_toArray, List.set_cons_zero, List.set_cons_succ]
      refine wpAnyH_ready (rs := [7, 8]) (by kernel_rfl) (by simp) ?_
      refine AllReadyH.cons (o := { dst := some 28, op := Op.call { callee := Callee.value (Operand.func 86), args := #[Operand.tmp 26, Operand.tmp 27], argTypes := #[26, 3] }, type := 104, pos := "divide.go:41", after := #[{ on := 5, ground := Ground.data }, { on := 6, ground := Ground.data }, { on := 3, ground := Ground.chain }], guard := none }) rfl (fun K hK => ?_) ?_
      · go_simp
        refine (HWU.out _).mono ?_
        rintro e x3 ⟨rfl, hb⟩
        have HA3 := Lib.hid (keptW hb HA2.out)
        have HB3 := Lib.hid (keptW hb HB2.out)
        have HQ3 := Lib.hid (keptW hb HQ2.out)
        have HR3 := Lib.hid (keptW hb HR2.out)
        have HE93 := Lib.hid (keptW hb HE92.out)
        have HL3 := Lib.hid (HL2.out.trans (hb.mono HL2.out.size))
        clear hb
        refine hK.out _ _ ⟨HA3.out, HB3.out, HQ3.out, HR3.out⟩ (fun hHeld3 => ?_)
        clear hK K
        try simp only [Act.put, List.setIfInBounds_toArray, List.set_cons_zero, List.set_cons_succ]
        refine wpAnyH_ready (rs := [8]) (by kernel_rfl) (by simp) ?_
        refine AllReadyH.cons (o := { dst := some 8, op := Op.alloc 104, type := 0, pos := "divide.go:41", after := #[], guard := none }) rfl (fun K hK => ?_) AllReadyH.nil
        go_simp
        obtain ⟨x4, hx4⟩ : ∃ X, x3.alloc (.cells (wdA 17 0) 104) = X := ⟨_, rfl⟩
        have hb : Below x3.heap.size x3 x4 := by rw [← hx4]; exact (Below.refl _ _).alloc (Nat.le_refl _) _
        have HA4 := Lib.hid (keptW hb HA3.out)
        have HB4 := Lib.hid (keptW hb HB3.out)
        have HQ4 := Lib.hid (keptW hb HQ3.out)
        have HR4 := Lib.hid (keptW hb HR3.out)
        have HE94 := Lib.hid (keptW hb HE93.out)
        have HL4 := Lib.hid (HL3.out.trans (hb.mono HL3.out.size))
        have hnew : rowN x4 x3.heap.size = some (wdA 17 0) := by rw [← hx4, rowN_alloc, if_pos rfl]
        have hlr := rowN_lt HR3.out
        have hlE9 := rowN_lt HE93.out
        rw [hx4]
        obtain ⟨g8, hg8⟩ : ∃ g, x3.heap.size = g := ⟨_, rfl⟩
        rw [hg8] at hnew hlr ⊢
        rw [hg8] at hlE9
        have HE84 := Lib.hid hnew
        have hlr8 : w.heap.size + 1 + 1 + 1 < g8 := hlr
        have hne89 : g8 ≠ g9 := by omega
        clear hb hnew hlr hg8 hx4 hlE9
        refine hK.out _ _ ⟨HA4.out, HB4.out, HQ4.out, HR4.out⟩ (fun hHeld4 => ?_)
        clear hK K
        try simp only [Act.put, List.setIfInBounds_toArray, List.set_cons_zero, List.set_cons_succ]
        refine wpAnyH_ready (rs := [10]) (by kernel_rfl) (by simp) ?_
        refine AllReadyH.cons (o := { dst := none, op := Op.store 104 (Operand.tmp 8) (Operand.tmp 24), type := 0, pos := "divide.go:41", after := #[{ on := 8, ground := Ground.data }, { on := 3, ground := Ground.data }, { on := 7, ground := Ground.chain }, { on := 0, ground := Ground.phase }, { on := 1, ground := Ground.phase }, { on := 2, ground := Ground.phase }, { on := 3, ground := Ground.phase }, { on := 4, ground := Ground.textOnly Departure.lateStores }, { on := 5, ground := Ground.textOnly Departure.lateStores }, { on := 6, ground := Ground.textOnly Departure.lateStores }, { on := 7, ground := Ground.phase }, { on := 8, ground := Ground.phase }, { on := 9, ground := Ground.phase }], guard := none }) rfl (fun K hK => ?_) AllReadyH.nil
        have hrow := HE84.out
        go_simp
        obtain ⟨x5, hx5⟩ : ∃ X, x4.setRow g8 (wdA 17 (v * 2 ^ s)) = X := ⟨_, rfl⟩
        rw [hx5]
        have HA5 := Lib.hid (show rowN x5 w.heap.size = some (natA v) by rw [← hx5, rowN_setRow, if_neg (by omega)]; exact HA4.out)
        have HB5 := Lib.hid (show rowN x5 (w.heap.size + 1) = some (natA u) by rw [← hx5, rowN_setRow, if_neg (by omega)]; exact HB4.out)
        have HQ5 := Lib.hid (show rowN x5 (w.heap.size + 1 + 1) = some (natA 0) by rw [← hx5, rowN_setRow, if_neg (by omega)]; exact HQ4.out)
        have HR5 := Lib.hid (show rowN x5 (w.heap.size + 1 + 1 + 1) = some (natA 0) by rw [← hx5, rowN_setRow, if_neg (by omega)]; exact HR4.out)
        have HE95 := Lib.hid (show rowN x5 g9 = some (wdA 17 0) by rw [← hx5, rowN_setRow, if_neg (by omega)]; exact HE94.out)
        have HE85 := Lib.hid (show rowN x5 g8 = some (wdA 17 (v * 2 ^ s)) by rw [← hx5, rowN_setRow, if_pos rfl, hrow]; rfl)
        have HL5 := Lib.hid (show Below w.heap.size w x5 by rw [← hx5]; exact below_setRow' HL4.out (by omega) _)
        clear hrow hx5
        refine hK.out _ _ ⟨HA5.out, HB5.out, HQ5.out, HR5.out⟩ (fun hHeld5 => ?_)
        clear hK K
        try simp only [Act.put, List.setIfInBounds_toArray, List.set_cons_zero, List.set_cons_succ]
        refine wpAnyH_ready (rs := [11]) (by kernel_rfl) (by simp) ?_
        refine AllReadyH.cons (o := { dst := none, op := Op.store 104 (Operand.tmp 9) (Operand.tmp 28), type := 0, pos := "divide.go:41", after := #[{ on := 9, ground := Ground.data }, { on := 7, ground := Ground.data }, { on := 10, ground := Ground.chain }, { on := 0, ground := Ground.phase }, { on := 1, ground := Ground.phase }, { on := 2, ground := Ground.phase }, { on := 3, ground := Ground.phase }, { on := 4, ground := Ground.phase }, { on := 5, ground := Ground.phase }, { on := 6, ground := Ground.phase }, { on := 7, ground := Ground.phase }, { on := 8, ground := Ground.phase }, { on := 9, ground := Ground.phase }, { on := 10, ground := Ground.phase }], guard := none }) rfl (fun K hK => ?_) AllReadyH.nil
        have hrow := HE95.out
        go_simp
        obtain ⟨x6, hx6⟩ : ∃ X, x5.setRow g9 (wdA 17 (u * 2 ^ s)) = X := ⟨_, rfl⟩
        rw [hx6]
        have HA6 := Lib.hid (show rowN x6 w.heap.size = some (natA v) by rw [← hx6, rowN_setRow, if_neg (by omega)]; exact HA5.out)
        have HB6 := Lib.hid (show rowN x6 (w.heap.size + 1) = some (natA u) by rw [← hx6, rowN_setRow, if_neg (by omega)]; exact HB5.out)
        have HQ6 := Lib.hid (show rowN x6 (w.heap.size + 1 + 1) = some (natA 0) by rw [← hx6, rowN_setRow, if_neg (by omega)]; exact HQ5.out)
        have HR6 := Lib.hid (show rowN x6 (w.heap.size + 1 + 1 + 1) = some (natA 0) by rw [← hx6, rowN_setRow, if_neg (by omega)]; exact HR5.out)
        have HE86 := Lib.hid (show rowN x6 g8 = some (wdA 17 (v * 2 ^ s)) by rw [← hx6, rowN_setRow, if_neg (by omega)]; exact HE85.out)
        have HE96 := Lib.hid (show rowN x6 g9 = some (wdA 17 (u * 2 ^ s)) by rw [← hx6, rowN_setRow, if_pos rfl, hrow]; rfl)
        have HL6 := Lib.hid (show Below w.heap.size w x6 by rw [← hx6]; exact below_setRow' HL5.out (by omega) _)
        clear hrow hx6
        refine hK.out _ _ ⟨HA6.out, HB6.out, HQ6.out, HR6.out⟩ (fun hHeld6 => ?_)
        clear hK K
        try simp only [Act.put, List.setIfInBounds_toArray, List.set_cons_zero, List.set_cons_succ]
        refine wpAnyH_done (by kernel_rfl) ?_ _
        refine NoPanic.normal ?_
        go_wp2_with fail
        go_meet
        exact ⟨g8, g9, rfl, rfl, by omega, by omega, by omega, HE86.out, HE96.out, HA6.out, HB6.out, HQ6.out, HR6.out, HL6.out⟩
      refine AllReadyH.cons (o := { dst := some 8, op := Op.alloc 104, type := 0, pos := "divide.go:41", after := #[], guard := none }) rfl (fun K hK => ?_) AllReadyH.nil
      go_simp
      obtain ⟨x3, hx3⟩ : ∃ X, x2.alloc (.cells (wdA 17 0) 104) = X := ⟨_, rfl⟩
      have hb : Below x2.heap.size x2 x3 := by rw [← hx3]; exact (Below.refl _ _).alloc (Nat.le_refl _) _
      have HA3 := Lib.hid (keptW hb HA2.out)
      have HB3 := Lib.hid (keptW hb HB2.out)
      have HQ3 := Lib.hid (keptW hb HQ2.out)
      have HR3 := Lib.hid (keptW hb HR2.out)
      have HE93 := Lib.hid (keptW hb HE92.out)
      have HL3 := Lib.hid (HL2.out.trans (hb.mono HL2.out.size))
      have hnew : rowN x3 x2.heap.size = some (wdA 17 0) := by rw [← hx3, rowN_alloc, if_pos rfl]
      have hlr := rowN_lt HR2.out
      have hlE9 := rowN_lt HE92.out
      rw [hx3]
      obtain ⟨g8, hg8⟩ : ∃ g, x2.heap.size = g := ⟨_, rfl⟩
      rw [hg8] at hnew hlr ⊢
      rw [hg8] at hlE9
      have HE83 := Lib.hid hnew
      have hlr8 : w.heap.size + 1 + 1 + 1 < g8 := hlr
      have hne89 : g8 ≠ g9 := by omega
      clear hb hnew hlr hg8 hx3 hlE9
      refine hK.out _ _ ⟨HA3.out, HB3.out, HQ3.out, HR3.out⟩ (fun hHeld3 => ?_)
      clear hK K
      try simp only [Act.put, List.setIfInBounds_toArray, List.set_cons_zero, List.set_cons_succ]
      refine wpAnyH_ready (rs := [7]) (by kernel_rfl) (by simp) ?_
      refine AllReadyH.cons (o := { dst := some 28, op := Op.call { callee := Callee.value (Operand.func 86), args := #[Operand.tmp 26, Operand.tmp 27], argTypes := #[26, 3] }, type := 104, pos := "divide.go:41", after := #[{ on := 5, ground := Ground.data }, { on := 6, ground := Ground.data }, { on := 3, ground := Ground.chain }], guard := none }) rfl (fun K hK => ?_) AllReadyH.nil
      go_simp
      refine (HWU.out _).mono ?_
      rintro e x4 ⟨rfl, hb⟩
      have HA4 := Lib.hid (keptW hb HA3.out)
      have HB4 := Lib.hid (keptW hb HB3.out)
      have HQ4 := Lib.hid (keptW hb HQ3.out)
      have HR4 := Lib.hid (keptW hb HR3.out)
      have HE94 := Lib.hid (keptW hb HE93.out)
      have HE84 := Lib.hid (keptW hb HE83.out)
      have HL4 := Lib.hid (HL3.out.trans (hb.mono HL3.out.size))
      clear hb
      refine hK.out _ _ ⟨HA4.out, HB4.out, HQ4.out, HR4.out⟩ (fun hHeld4 => ?_)
      clear hK K
      try simp only [Act.put, List.setIfInBounds_toArray, List.set_cons_zero, List.set_cons_succ]
      refine wpAnyH_ready (rs := [10]) (by kernel_rfl) (by simp) ?_
      refine AllReadyH.cons (o := { dst := none, op := Op.store 104 (Operand.tmp 8) (Operand.tmp 24), type := 0, pos := "divide.go:41", after := #[{ on := 8, ground := Ground.data }, { on := 3, ground := Ground.data }, { on := 7, ground := Ground.chain }, { on := 0, ground := Ground.phase }, { on := 1, ground := Ground.phase }, { on := 2, ground := Ground.phase }, { on := 3, ground := Ground.phase }, { on := 4, ground := Ground.textOnly Departure.lateStores }, { on := 5, ground := Ground.textOnly Departure.lateStores }, { on := 6, ground := Ground.textOnly Departure.lateStores }, { on := 7, ground := Ground.phase }, { on := 8, ground := Ground.phase }, { on := 9, ground := Ground.phase }], guard := none }) rfl (fun K hK => ?_) AllReadyH.nil
      have hrow := HE84.out
      go_simp
      obtain ⟨x5, hx5⟩ : ∃ X, x4.setRow g8 (wdA 17 (v * 2 ^ s)) = X := ⟨_, rfl⟩
      rw [hx5]
      have HA5 := Lib.hid (show rowN x5 w.heap.size = some (natA v) by rw [← hx5, rowN_setRow, if_neg (by omega)]; exact HA4.out)
      have HB5 := Lib.hid (show rowN x5 (w.heap.size + 1) = some (natA u) by rw [← hx5, rowN_setRow, if_neg (by omega)]; exact HB4.out)
      have HQ5 := Lib.hid (show rowN x5 (w.heap.size + 1 + 1) = some (natA 0) by rw [← hx5, rowN_setRow, if_neg (by omega)]; exact HQ4.out)
      have HR5 := Lib.hid (show rowN x5 (w.heap.size + 1 + 1 + 1) = some (natA 0) by rw [← hx5, rowN_setRow, if_neg (by omega)]; exact HR4.out)
      have HE95 := Lib.hid (show rowN x5 g9 = some (wdA 17 0) by rw [← hx5, rowN_setRow, if_neg (by omega)]; exact HE94.out)
      have HE85 := Lib.hid (show rowN x5 g8 = some (wdA 17 (v * 2 ^ s)) by rw [← hx5, rowN_setRow, if_pos rfl, hrow]; rfl)
      have HL5 := Lib.hid (show Below w.heap.size w x5 by rw [← hx5]; exact below_setRow' HL4.out (by omega) _)
      clear hrow hx5
      refine hK.out _ _ ⟨HA5.out, HB5.out, HQ5.out, HR5.out⟩ (fun hHeld5 => ?_)
      clear hK K
      try simp only [Act.put, List.setIfInBounds_toArray, List.set_cons_zero, List.set_cons_succ]
      refine wpAnyH_ready (rs := [11]) (by kernel_rfl) (by simp) ?_
      refine AllReadyH.cons (o := { dst := none, op := Op.store 104 (Operand.tmp 9) (Operand.tmp 28), type := 0, pos := "divide.go:41", after := #[{ on := 9, ground := Ground.data }, { on := 7, ground := Ground.data }, { on := 10, ground := Ground.chain }, { on := 0, ground := Ground.phase }, { on := 1, ground := Ground.phase }, { on := 2, ground := Ground.phase }, { on := 3, ground := Ground.phase }, { on := 4, ground := Ground.phase }, { on := 5, ground := Ground.phase }, { on := 6, ground := Ground.phase }, { on := 7, ground := Ground.phase }, { on := 8, ground := Ground.phase }, { on := 9, ground := Ground.phase }, { on := 10, ground := Ground.phase }], guard := none }) rfl (fun K hK => ?_) AllReadyH.nil
      have hrow := HE95.out
      go_simp
      obtain ⟨x6, hx6⟩ : ∃ X, x5.setRow g9 (wdA 17 (u * 2 ^ s)) = X := ⟨_, rfl⟩
      rw [hx6]
      have HA6 := Lib.hid (show rowN x6 w.heap.size = some (natA v) by rw [← hx6, rowN_setRow, if_neg (by omega)]; exact HA5.out)
      have HB6 := Lib.hid (show rowN x6 (w.heap.size + 1) = some (natA u) by rw [← hx6, rowN_setRow, if_neg (by omega)]; exact HB5.out)
      have HQ6 := Lib.hid (show rowN x6 (w.heap.size + 1 + 1) = some (natA 0) by rw [← hx6, rowN_setRow, if_neg (by omega)]; exact HQ5.out)
      have HR6 := Lib.hid (show rowN x6 (w.heap.size + 1 + 1 + 1) = some (natA 0) by rw [← hx6, rowN_setRow, if_neg (by omega)]; exact HR5.out)
      have HE86 := Lib.hid (show rowN x6 g8 = some (wdA 17 (v * 2 ^ s)) by rw [← hx6, rowN_setRow, if_neg (by omega)]; exact HE85.out)
      have HE96 := Lib.hid (show rowN x6 g9 = some (wdA 17 (u * 2 ^ s)) by rw [← hx6, rowN_setRow, if_pos rfl, hrow]; rfl)
      have HL6 := Lib.hid (show Below w.heap.size w x6 by rw [← hx6]; exact below_setRow' HL5.out (by omega) _)
      clear hrow hx6
      refine hK.out _ _ ⟨HA6.out, HB6.out, HQ6.out, HR6.out⟩ (fun hHeld6 => ?_)
      clear hK K
      try simp only [Act.put, List.setIfInBounds_toArray, List.set_cons_zero, List.set_cons_succ]
      refine wpAnyH_done (by kernel_rfl) ?_ _
      refine NoPanic.normal ?_
      go_wp2_with fail
      go_meet
      exact ⟨g8, g9, rfl, rfl, by omega, by omega, by omega, HE86.out, HE96.out, HA6.out, HB6.out, HQ6.out, HR6.out, HL6.out⟩
    refine AllReadyH.cons (o := { dst := some 8, op := Op.alloc 104, type := 0, pos := "divide.go:41", after := #[], guard := none }) rfl (fun K hK => ?_) AllReadyH.nil
    go_simp
    obtain ⟨x2, hx2⟩ : ∃ X, x1.alloc (.cells (wdA 17 0) 104) = X := ⟨_, rfl⟩
    have hb : Below x1.heap.size x1 x2 := by rw [← hx2]; exact (Below.refl _ _).alloc (Nat.le_refl _) _
    have HA2 := Lib.hid (keptW hb HA1.out)
    have HB2 := Lib.hid (keptW hb HB1.out)
    have HQ2 := Lib.hid (keptW hb HQ1.out)
    have HR2 := Lib.hid (keptW hb HR1.out)
    have HE92 := Lib.hid (keptW hb HE91.out)
    have HL2 := Lib.hid (HL1.out.trans (hb.mono HL1.out.size))
    have hnew : rowN x2 x1.heap.size = some (wdA 17 0) := by rw [← hx2, rowN_alloc, if_pos rfl]
    have hlr := rowN_lt HR1.out
    have hlE9 := rowN_lt HE91.out
    rw [hx2]
    obtain ⟨g8, hg8⟩ : ∃ g, x1.heap.size = g := ⟨_, rfl⟩
    rw [hg8] at hnew hlr ⊢
    rw [hg8] at hlE9
    have HE82 := Lib.hid hnew
    have hlr8 : w.heap.size + 1 + 1 + 1 < g8 := hlr
    have hne89 : g8 ≠ g9 := by omega
    clear hb hnew hlr hg8 hx2 hlE9
    refine hK.out _ _ ⟨HA2.out, HB2.out, HQ2.out, HR2.out⟩ (fun hHeld2 => ?_)
    clear hK K
    try simp only [Act.put, List.setIfInBounds_toArray, List.set_cons_zero, List.set_cons_succ]
    refine wpAnyH_ready (rs := [3]) (by kernel_rfl) (by simp) ?_
    refine AllReadyH.cons (o := { dst := some 24, op := Op.call { callee := Callee.value (Operand.func 86), args := #[Operand.tmp 22, Operand.tmp 23], argTypes := #[26, 3] }, type := 104, pos := "divide.go:41", after := #[{ on := 1, ground := Ground.data }, { on := 2, ground := Ground.data }], guard := none }) rfl (fun K hK => ?_) AllReadyH.nil
    go_simp
    refine (HWV.out _).mono ?_
    rintro e x3 ⟨rfl, hb⟩
    have HA3 := Lib.hid (keptW hb HA2.out)
    have HB3 := Lib.hid (keptW hb HB2.out)
    have HQ3 := Lib.hid (keptW hb HQ2.out)
    have HR3 := Lib.hid (keptW hb HR2.out)
    have HE93 := Lib.hid (keptW hb HE92.out)
    have HE83 := Lib.hid (keptW hb HE82.out)
    have HL3 := Lib.hid (HL2.out.trans (hb.mono HL2.out.size))
    clear hb
    refine hK.out _ _ ⟨HA3.out, HB3.out, HQ3.out, HR3.out⟩ (fun hHeld3 => ?_)
    clear hK K
    try simp only [Act.put, List.setIfInBounds_toArray, List.set_cons_zero, List.set_cons_succ]
    refine wpAnyH_ready (rs := [7]) (by kernel_rfl) (by simp) ?_
    refine AllReadyH.cons (o := { dst := some 28, op := Op.call { callee := Callee.value (Operand.func 86), args := #[Operand.tmp 26, Operand.tmp 27], argTypes := #[26, 3] }, type := 104, pos := "divide.go:41", after := #[{ on := 5, ground := Ground.data }, { on := 6, ground := Ground.data }, { on := 3, ground := Ground.chain }], guard := none }) rfl (fun K hK => ?_) AllReadyH.nil
    go_simp
    refine (HWU.out _).mono ?_
    rintro e x4 ⟨rfl, hb⟩
    have HA4 := Lib.hid (keptW hb HA3.out)
    have HB4 := Lib.hid (keptW hb HB3.out)
    have HQ4 := Lib.hid (keptW hb HQ3.out)
    have HR4 := Lib.hid (keptW hb HR3.out)
    have HE94 := Lib.hid (keptW hb HE93.out)
    have HE84 := Lib.hid (keptW hb HE83.out)
    have HL4 := Lib.hid (HL3.out.trans (hb.mono HL3.out.size))
    clear hb
    refine hK.out _ _ ⟨HA4.out, HB4.out, HQ4.out, HR4.out⟩ (fun hHeld4 => ?_)
    clear hK K
    try simp only [Act.put, List.setIfInBounds_toArray, List.set_cons_zero, List.set_cons_succ]
    refine wpAnyH_ready (rs := [10]) (by kernel_rfl) (by simp) ?_
    refine AllReadyH.cons (o := { dst := none, op := Op.store 104 (Operand.tmp 8) (Operand.tmp 24), type := 0, pos := "divide.go:41", after := #[{ on := 8, ground := Ground.data }, { on := 3, ground := Ground.data }, { on := 7, ground := Ground.chain }, { on := 0, ground := Ground.phase }, { on := 1, ground := Ground.phase }, { on := 2, ground := Ground.phase }, { on := 3, ground := Ground.phase }, { on := 4, ground := Ground.textOnly Departure.lateStores }, { on := 5, ground := Ground.textOnly Departure.lateStores }, { on := 6, ground := Ground.textOnly Departure.lateStores }, { on := 7, ground := Ground.phase }, { on := 8, ground := Ground.phase }, { on := 9, ground := Ground.phase }], guard := none }) rfl (fun K hK => ?_) AllReadyH.nil
    have hrow := HE84.out
    go_simp
    obtain ⟨x5, hx5⟩ : ∃ X, x4.setRow g8 (wdA 17 (v * 2 ^ s)) = X := ⟨_, rfl⟩
    rw [hx5]
    have HA5 := Lib.hid (show rowN x5 w.heap.size = some (natA v) by rw [← hx5, rowN_setRow, if_neg (by omega)]; exact HA4.out)
    have HB5 := Lib.hid (show rowN x5 (w.heap.size + 1) = some (natA u) by rw [← hx5, rowN_setRow, if_neg (by omega)]; exact HB4.out)
    have HQ5 := Lib.hid (show rowN x5 (w.heap.size + 1 + 1) = some (natA 0) by rw [← hx5, rowN_setRow, if_neg (by omega)]; exact HQ4.out)
    have HR5 := Lib.hid (show rowN x5 (w.heap.size + 1 + 1 + 1) = some (natA 0) by rw [← hx5, rowN_setRow, if_neg (by omega)]; exact HR4.out)
    have HE95 := Lib.hid (show rowN x5 g9 = some (wdA 17 0) by rw [← hx5, rowN_setRow, if_neg (by omega)]; exact HE94.out)
    have HE85 := Lib.hid (show rowN x5 g8 = some (wdA 17 (v * 2 ^ s)) by rw [← hx5, rowN_setRow, if_pos rfl, hrow]; rfl)
    have HL5 := Lib.hid (show Below w.heap.size w x5 by rw [← hx5]; exact below_setRow' HL4.out (by omega) _)
    clear hrow hx5
    refine hK.out _ _ ⟨HA5.out, HB5.out, HQ5.out, HR5.out⟩ (fun hHeld5 => ?_)
    clear hK K
    try simp only [Act.put, List.setIfInBounds_toArray, List.set_cons_zero, List.set_cons_succ]
    refine wpAnyH_ready (rs := [11]) (by kernel_rfl) (by simp) ?_
    refine AllReadyH.cons (o := { dst := none, op := Op.store 104 (Operand.tmp 9) (Operand.tmp 28), type := 0, pos := "divide.go:41", after := #[{ on := 9, ground := Ground.data }, { on := 7, ground := Ground.data }, { on := 10, ground := Ground.chain }, { on := 0, ground := Ground.phase }, { on := 1, ground := Ground.phase }, { on := 2, ground := Ground.phase }, { on := 3, ground := Ground.phase }, { on := 4, ground := Ground.phase }, { on := 5, ground := Ground.phase }, { on := 6, ground := Ground.phase }, { on := 7, ground := Ground.phase }, { on := 8, ground := Ground.phase }, { on := 9, ground := Ground.phase }, { on := 10, ground := Ground.phase }], guard := none }) rfl (fun K hK => ?_) AllReadyH.nil
    have hrow := HE95.out
    go_simp
    obtain ⟨x6, hx6⟩ : ∃ X, x5.setRow g9 (wdA 17 (u * 2 ^ s)) = X := ⟨_, rfl⟩
    rw [hx6]
    have HA6 := Lib.hid (show rowN x6 w.heap.size = some (natA v) by rw [← hx6, rowN_setRow, if_neg (by omega)]; exact HA5.out)
    have HB6 := Lib.hid (show rowN x6 (w.heap.size + 1) = some (natA u) by rw [← hx6, rowN_setRow, if_neg (by omega)]; exact HB5.out)
    have HQ6 := Lib.hid (show rowN x6 (w.heap.size + 1 + 1) = some (natA 0) by rw [← hx6, rowN_setRow, if_neg (by omega)]; exact HQ5.out)
    have HR6 := Lib.hid (show rowN x6 (w.heap.size + 1 + 1 + 1) = some (natA 0) by rw [← hx6, rowN_setRow, if_neg (by omega)]; exact HR5.out)
    have HE86 := Lib.hid (show rowN x6 g8 = some (wdA 17 (v * 2 ^ s)) by rw [← hx6, rowN_setRow, if_neg (by omega)]; exact HE85.out)
    have HE96 := Lib.hid (show rowN x6 g9 = some (wdA 17 (u * 2 ^ s)) by rw [← hx6, rowN_setRow, if_pos rfl, hrow]; rfl)
    have HL6 := Lib.hid (show Below w.heap.size w x6 by rw [← hx6]; exact below_setRow' HL5.out (by omega) _)
    clear hrow hx6
    refine hK.out _ _ ⟨HA6.out, HB6.out, HQ6.out, HR6.out⟩ (fun hHeld6 => ?_)
    clear hK K
    try simp only [Act.put, List.setIfInBounds_toArray, List.set_cons_zero, List.set_cons_succ]
    refine wpAnyH_done (by kernel_rfl) ?_ _
    refine NoPanic.normal ?_
    go_wp2_with fail
    go_meet
    exact ⟨g8, g9, rfl, rfl, by omega, by omega, by omega, HE86.out, HE96.out, HA6.out, HB6.out, HQ6.out, HR6.out, HL6.out⟩
  case rest =>
    obtain ⟨g8, g9, rfl, rfl, h89, h8, h9, hU, hV, hA, hB, hQ, hR, hL⟩ := hcut
    have hv := HV.out
    have hu := HU.out
    have hne := HNE.out
    have hd := HD.out
    obtain ⟨l1, l2⟩ := lead_bounds (d := d) (by rw [← hd]; exact dgt_lt P64_pos) (by rw [← hd, ← hne]; exact HSS.out) hs1
    obtain ⟨hVn, hV1⟩ := norm_facts (B := P64) P64_pow HNU.out (by omega) hd l1 l2
    have hS : 0 < 2 ^ s := Nat.two_pow_pos s
    have hV0 : 0 < u * 2 ^ s := Nat.mul_pos (Nat.lt_of_lt_of_le (Nat.pow_pos P64_pos) HNP.out) hS
    have hst : ∀ j : Nat, m ≤ n - 1 + j → v * 2 ^ s < u * 2 ^ s * P64 ^ j := fun j hj => long_start HNV.out HNP.out hj
    have hfin1 : v * 2 ^ s / (u * 2 ^ s) = v / u := Nat.mul_div_mul_right _ _ hS
    have hfin2 : left P64 (v * 2 ^ s) (u * 2 ^ s) 0 / 2 ^ s = v % u := by
      rw [left_zero, Nat.mul_mod_mul_right, Nat.mul_div_cancel _ hS]
    have hfin3 : v % u < P64 ^ 16 := Nat.lt_of_le_of_lt (Nat.mod_le _ _) hv
    have HST := Lib.hid hst
    have HF1 := Lib.hid hfin1
    have HF2 := Lib.hid hfin2
    have HF3 := Lib.hid hfin3
    have HVn := Lib.hid hVn
    have HV1 := Lib.hid hV1
    have HV0 := Lib.hid hV0
    clear hst hfin1 hfin2 hfin3 hVn hV1 hV0 hS hv hu hne hd l1 l2
    have HGU := Lib.hid hU
    have HGV := Lib.hid hV
    have HGA := Lib.hid hA
    have HGQ := Lib.hid hQ
    have HGR := Lib.hid hR
    have HGL := Lib.hid hL
    clear hU hV hB hQ hR hL
    generalize hUe : v * 2 ^ s = U at *
    generalize hVe : u * 2 ^ s = V at *
    clear hUe hVe
    go_wp2_with fail
    refine (HLV.out _).mono ?_
    rintro e x1 ⟨rfl, hb⟩
    have HGU1 := Lib.hid (keptW hb HGU.out)
    have HGV1 := Lib.hid (keptW hb HGV.out)
    have HGQ1 := Lib.hid (keptW hb HGQ.out)
    have HGR1 := Lib.hid (keptW hb HGR.out)
    have HGL1 := Lib.hid (HGL.out.trans (hb.mono HGL.out.size))
    clear hA hb
    have c1 : IntKind.i64.wrap ((m : Int) - (n : Int)) = (m : Int) - (n : Int) := IntWalk.i64_in _ (by omega)
    go_wp2_with fail
    go_loopw [10] (fun x wr => ∃ (i : Int) (j : Nat), x = .int .i64 i ∧ (i + 1).toNat = j ∧ i ≤ (m : Int) - (n : Int) ∧ -17 < i ∧ rowN wr g8 = some (wdA 17 (left P64 U V j)) ∧ rowN wr g9 = some (wdA 17 V) ∧ rowN wr (w.heap.size + 1 + 1) = some (natA (hiDg P64 (U / V) j)) ∧ rowN wr (w.heap.size + 1 + 1 + 1) = some (natA 0) ∧ Below w.heap.size w wr)
      (fun x _ => (intOf x + 1).toNat)
    case atStart =>
      have hj := HST.out ((m : Int) - (n : Int) + 1).toNat (by omega)
      refine ⟨(m : Int) - (n : Int), ((m : Int) - (n : Int) + 1).toNat, rfl, rfl, by omega, by omega, ?_, HGV1.out, ?_, HGR1.out, HGL1.out⟩
      · rw [left_all P64_pos hj]; exact HGU1.out
      · rw [hiDg_top (by rw [Nat.div_lt_iff_lt_mul HV0.out, Nat.mul_comm]; exact hj)]; exact HGQ1.out
    case round =>
      obtain ⟨i, j, rfl, hj, hi, hi0, hU, hV, hQ, hR, hL⟩ := hrel
      have HGU2 := Lib.hid hU
      have HGV2 := Lib.hid hV
      have HGQ2 := Lib.hid hQ
      have HGR2 := Lib.hid hR
      have HGL2 := Lib.hid hL
      by_cases hneg : i < 0
      · obtain rfl : j = 0 := by omega
        have c2 : ¬ (0 ≤ i) := by omega
        rw [hiDg_zero, HF1.out] at hQ
        have HQ3 := Lib.hid hQ
        clear hV hR hL hneg hi hi0 hj c1
        go_wp2_with fail
        obtain ⟨X0, hX0⟩ : ∃ X0, left P64 U V 0 = X0 := ⟨_, rfl⟩
        have HNA := Lib.hid (narrowed_any X0 s (by rw [← hX0, HF2.out]; exact HF3.out) hs1)
        have hX1 : X0 / 2 ^ s = v % u := by rw [← hX0]; exact HF2.out
        rw [hX1] at HNA
        rw [hX0] at hU
        clear hX0 hX1 c2 hQ
        have hst := Lib.hid (show rowN wr.drew (w.heap.size + 1 + 1) = some (natA (v / u)) ∧ rowN wr.drew g8 = some (wdA 17 X0) from ⟨HQ3.out, hU⟩)
        have HRd := Lib.hid (show rowN wr.drew (w.heap.size + 1 + 1 + 1) = some (natA 0) from HGR2.out)
        have HLd := Lib.hid (show Below w.heap.size w wr.drew from HGL2.out.drew)
        clear hU
        refine wp_region_noPanic ?_
        refine wp_region_held_drew (S := fun W => rowN W (w.heap.size + 1 + 1) = some (natA (v / u)) ∧ rowN W g8 = some (wdA 17 X0)) (by kernel_rfl) hst.out (fun hHeld0 => ?_)
        refine wpAnyH_take (i := 0) (oi := { dst := some 92, op := Op.load 28 (Operand.tmp 4), type := 28, pos := "divide.go:50", after := #[], guard := none }) (v := _) rfl (by kernel_rfl) (by kernel_rfl) (by kernel_rfl) (fun _ _ _ h => h) (yields_load28 rfl _ rfl (w.heap.size + 1 + 1) rfl (v / u) (fun W hW => hW.1)) hHeld0 ?_
        try simp only [Act.put, List.setIfInBounds_toArray, List.set_cons_zero, List.set_cons_succ]
        refine wpAnyH_take (i := 1) (oi := { dst := some 93, op := Op.load 104 (Operand.tmp 8), type := 104, pos := "divide.go:50", after := #[], guard := none }) (v := _) rfl (by kernel_rfl) (by kernel_rfl) (by kernel_rfl) (fun _ _ _ h => h) (yields_load95 rfl _ rfl g8 rfl X0 (fun W hW => hW.2)) hHeld0 ?_
        try simp only [Act.put, List.setIfInBounds_toArray, List.set_cons_zero, List.set_cons_succ]
        refine wpAnyH_take (i := 2) (oi := { dst := some 94, op := Op.move (Operand.tmp 7), type := 3, pos := "divide.go:50", after := #[], guard := none }) (v := ?_) rfl (by kernel_rfl) (by kernel_rfl) (by kernel_rfl) (fun _ _ _ h => h) (Or.inl ⟨by rfl, ?_⟩) hHeld0 ?_
        rotate_left
        · (intro W hW; clear hW; first | (go_simp; done) | (go_simp; with_reducible rfl))
        try simp only [Act.put, List.setIfInBounds_toArray, List.set_cons_zero, List.set_cons_succ]
        refine wpAnyH_ready (rs := [3]) (by kernel_rfl) (by simp) ?_
        refine AllReadyH.cons (o := { dst := some 95, op := Op.call { callee := Callee.value (Operand.func 90), args := #[Operand.tmp 93, Operand.tmp 94], argTypes := #[104, 3] }, type := 28, pos := "divide.go:50", after := #[{ on := 1, ground := Ground.data }, { on := 2, ground := Ground.data }], guard := none }) rfl (fun K hK => ?_) AllReadyH.nil
        go_simp
        (refine (HNA.out _).mono ?_; rintro e x3 ⟨rfl, hb⟩; have hQ4 := keptW hb hHeld0.1; have hR4 := keptW hb HRd.out; have HG4 := Lib.hid (keptW hb hHeld0.2); have HL4 := Lib.hid (HLd.out.trans (hb.mono HLd.out.size)); clear hb)
        refine hK.out _ _ ⟨hQ4, HG4.out⟩ (fun hHeld1 => ?_)
        clear hK K
        try simp only [Act.put, List.setIfInBounds_toArray, List.set_cons_zero, List.set_cons_succ]
        refine wpAnyH_ready (rs := [4]) (by kernel_rfl) (by simp) ?_
        refine AllReadyH.cons (o := { dst := none, op := Op.store 28 (Operand.tmp 4) (Operand.tmp 92), type := 0, pos := "divide.go:50", after := #[{ on := 0, ground := Ground.data }, { on := 3, ground := Ground.chain }, { on := 0, ground := Ground.phase }, { on := 1, ground := Ground.textOnly Departure.lateStores }, { on := 2, ground := Ground.textOnly Departure.lateStores }, { on := 3, ground := Ground.textOnly Departure.lateStoresUnsure }], guard := none }) rfl (fun K hK => ?_) AllReadyH.nil
        go_simp
        refine hK.out _ _ ⟨(by rw [rowN_setRow, if_pos rfl, hQ4]; rfl), (by rw [rowN_setRow, if_neg (by omega)]; exact HG4.out)⟩ (fun hHeld2 => ?_)
        clear hK K
        try simp only [Act.put, List.setIfInBounds_toArray, List.set_cons_zero, List.set_cons_succ]
        refine wpAnyH_ready (rs := [5]) (by kernel_rfl) (by simp) ?_
        refine AllReadyH.cons (o := { dst := none, op := Op.store 28 (Operand.tmp 5) (Operand.tmp 95), type := 0, pos := "divide.go:50", after := #[{ on := 3, ground := Ground.data }, { on := 4, ground := Ground.chain }, { on := 0, ground := Ground.phase }, { on := 1, ground := Ground.phase }, { on := 2, ground := Ground.phase }, { on := 3, ground := Ground.phase }, { on := 4, ground := Ground.phase }], guard := none }) rfl (fun K hK => ?_) AllReadyH.nil
        go_simp
        refine hK.out _ _ ⟨(by rw [rowN_setRow, if_neg (by omega), rowN_setRow, if_pos rfl, hQ4]; rfl), (by rw [rowN_setRow, if_neg (by omega), rowN_setRow, if_neg (by omega)]; exact HG4.out)⟩ (fun hHeld3 => ?_)
        clear hK K
        try simp only [Act.put, List.setIfInBounds_toArray, List.set_cons_zero, List.set_cons_succ]
        refine wpAnyH_done (by kernel_rfl) ?_ _
        refine NoPanic.normal ?_
        go_wp2_with fail
        refine ret_nat_nat _ _ (natA (v / u)) (natA (v % u)) rfl rfl rfl rfl ?_ (natA_size _) ?_ (natA_size _) ⟨rfl, below_setRow' (below_setRow' HL4.out (by omega) _) (by omega) _⟩
        · rw [rowN_setRow, if_neg (by omega), rowN_setRow, if_pos rfl, hQ4]; rfl
        · rw [rowN_setRow, if_pos rfl, rowN_setRow, if_neg (by omega), hR4]; rfl
      · obtain ⟨k, rfl⟩ : ∃ k : Nat, i = (k : Int) := ⟨i.toNat, by omega⟩
        obtain rfl : j = k + 1 := by omega
        obtain ⟨q, a0, a1, a2, b0, b1, hRd⟩ := round_any (U := U) (k := k) hn2 HVn.out HV1.out HV0.out
        obtain ⟨X, hX⟩ : ∃ X, left P64 U V (k + 1) = X := ⟨_, rfl⟩
        obtain ⟨X', hX'⟩ : ∃ X, left P64 U V k = X := ⟨_, rfl⟩
        obtain ⟨d', hd'⟩ : ∃ d, dgt P64 (U / V) k = d := ⟨_, rfl⟩
        rw [hX, hX', hd'] at hRd
        rw [hX] at hU
        have HX' := Lib.hid hX'
        have HD' := Lib.hid hd'
        have HRD := Lib.hid hRd
        have hk : k + n < 17 := by omega
        have hk16 : (k : Int) < 16 := by omega
        have hkN : k < 16 := by omega
        have cX : ∀ j, j < 17 → ∀ W, rowN W g8 = some (wdA 17 X) → W.cell? ⟨g8, j, none⟩ = some (.int .u64 (dgt P64 X j : Nat)) := fun j hj W h => ((rowN_cell h).1 j).trans (wdA_get _ _ _ hj)
        have cV : ∀ j, j < 17 → ∀ W, rowN W g9 = some (wdA 17 V) → W.cell? ⟨g9, j, none⟩ = some (.int .u64 (dgt P64 V j : Nat)) := fun j hj W h => ((rowN_cell h).1 j).trans (wdA_get _ _ _ hj)
        have hX0 := cX (k + n) (by omega)
        have hX1 := cX (k + n - 1) (by omega)
        have hX2 := cX (k + n - 2) (by omega)
        have hV0 := cV (n - 1) (by omega)
        have hV1 := cV (n - 2) (by omega)
        rw [hRd.e0] at hX0
        rw [hRd.e1] at hX1
        rw [hRd.e2] at hX2
        rw [hRd.f0] at hV0
        rw [hRd.f1] at hV1
        have hE : ∀ w, Calls Try.prog 87 #[.agg #[.int .u64 (a0 : Nat), .int .u64 (a1 : Nat), .int .u64 (a2 : Nat)], .int .u64 (b0 : Nat), .int .u64 (b1 : Nat)] w fun e w' => e = .returned (.int .u64 (q : Nat)) ∧ Below w.heap.size w w' := fun w => by
          have := estimate_any a0 a1 a2 b0 b1 (by rw [← hRd.f0]; exact dgt_lt P64_pos) (by rw [← hRd.e1]; exact dgt_lt P64_pos) (by rw [← hRd.e2]; exact dgt_lt P64_pos) (by rw [← hRd.f1]; exact dgt_lt P64_pos) w
          rw [hRd.est] at this
          exact this
        have HEST := Lib.hid hE
        have s8 : ∀ W : World, (Instr.sliceAt 104 (.pointer (some ⟨g8, 0, none⟩)) (some (.int .i64 (k : Nat))) (some (.int .i64 (k + n + 1 : Nat))) none).run Try.prog W = .ok (.slice (some ⟨g8, k, none⟩) (n + 1) (17 - k)) W := fun W => by
          rw [run_slice95_lh g8 k (k + n + 1) (by omega) (by omega) (by omega) W, show k + n + 1 - k = n + 1 by omega]
        have s9 : ∀ W : World, (Instr.sliceAt 104 (.pointer (some ⟨g9, 0, none⟩)) none (some (.int .i64 (n + 1 : Nat))) none).run Try.prog W = .ok (.slice (some ⟨g9, 0, none⟩) (n + 1) 17) W := fun W => run_slice95_h g9 (n + 1) (by omega) W
        have e1 : IntKind.i64.wrap ((k : Int) + (n : Int)) = ((k + n : Nat) : Int) := (IntWalk.i64_in _ (by omega)).trans (by omega)
        have e2 : IntKind.i64.wrap (((k + n : Nat) : Int) - 1) = ((k + n - 1 : Nat) : Int) := (IntWalk.i64_in _ (by omega)).trans (by omega)
        have e3 : IntKind.i64.wrap (((k + n : Nat) : Int) - 2) = ((k + n - 2 : Nat) : Int) := (IntWalk.i64_in _ (by omega)).trans (by omega)
        have e4 : IntKind.i64.wrap ((n : Int) - 1) = ((n - 1 : Nat) : Int) := (IntWalk.i64_in _ (by omega)).trans (by omega)
        have e5 : IntKind.i64.wrap ((n : Int) - 2) = ((n - 2 : Nat) : Int) := (IntWalk.i64_in _ (by omega)).trans (by omega)
        have e6 : IntKind.i64.wrap (((k + n : Nat) : Int) + 1) = ((k + n + 1 : Nat) : Int) := (IntWalk.i64_in _ (by omega)).trans (by omega)
        have e7 : IntKind.i64.wrap ((n : Int) + 1) = ((n + 1 : Nat) : Int) := (IntWalk.i64_in _ (by omega)).trans (by omega)
        have b1' : ((k + n : Nat) : Int) < 17 := by omega
        have b2' : ((k + n - 1 : Nat) : Int) < 17 := by omega
        have b3' : ((k + n - 2 : Nat) : Int) < 17 := by omega
        have b4' : ((n - 1 : Nat) : Int) < 17 := by omega
        have b5' : ((n - 2 : Nat) : Int) < 17 := by omega
        have hkm : (k : Int) ≤ (m : Int) - (n : Int) := by omega
        clear cX cV hRd hE hX hX' hd' hQ hR hL hneg hi hi0 hj c1
        generalize k + n + 1 = pp at *
        generalize k + n - 1 = p1 at *
        generalize k + n - 2 = p2 at *
        have hkn : k + n < 17 := hk
        generalize hp : k + n = p at *
        generalize n - 1 = n1 at *
        generalize n - 2 = n2 at *
        generalize hnn : n + 1 = nn at *
        have hst := Lib.hid (show rowN wr.drew g8 = some (wdA 17 X) ∧ rowN wr.drew g9 = some (wdA 17 V) from ⟨hU, hV⟩)
        have HQd := Lib.hid (show rowN wr.drew (w.heap.size + 1 + 1) = some (natA (hiDg P64 (U / V) (k + 1))) from HGQ2.out)
        have HRd := Lib.hid (show rowN wr.drew (w.heap.size + 1 + 1 + 1) = some (natA 0) from HGR2.out)
        have HLd := Lib.hid (show Below w.heap.size w wr.drew from HGL2.out.drew)
        clear hU hV
        have HX0 := Lib.hid hX0
        have HX1 := Lib.hid hX1
        have HX2 := Lib.hid hX2
        have HV0' := Lib.hid hV0
        have HV1' := Lib.hid hV1
        clear hX0 hX1 hX2 hV0 hV1
        go_wp2_with fail
        refine wp_region_noPanic ?_
        refine wp_region_held_drew (S := fun W => rowN W g8 = some (wdA 17 X) ∧ rowN W g9 = some (wdA 17 V)) (by kernel_rfl) hst.out (fun hHeld0 => ?_)
        refine wpAnyH_take (i := 0) (oi := { dst := some 38, op := Op.move (Operand.tmp 10), type := 3, pos := "divide.go:43", after := #[], guard := none }) (v := ?_) rfl (by kernel_rfl) (by kernel_rfl) (by kernel_rfl) (fun _ _ _ h => h) (Or.inl ⟨by rfl, ?_⟩) hHeld0 ?_
        rotate_left
        · (intro W hW; clear hW; first | (go_simp; done) | (go_simp; with_reducible rfl))
        try simp only [Act.put, List.setIfInBounds_toArray, List.set_cons_zero, List.set_cons_succ]
        refine wpAnyH_take (i := 1) (oi := { dst := some 39, op := Op.move (Operand.tmp 6), type := 3, pos := "divide.go:43", after := #[], guard := none }) (v := ?_) rfl (by kernel_rfl) (by kernel_rfl) (by kernel_rfl) (fun _ _ _ h => h) (Or.inl ⟨by rfl, ?_⟩) hHeld0 ?_
        rotate_left
        · (intro W hW; clear hW; first | (go_simp; done) | (go_simp; with_reducible rfl))
        try simp only [Act.put, List.setIfInBounds_toArray, List.set_cons_zero, List.set_cons_succ]
        refine wpAnyH_take (i := 2) (oi := { dst := some 40, op := Op.binOp BinOp.add 3 (Operand.tmp 38) (Operand.tmp 39) 3, type := 3, pos := "divide.go:43", after := #[{ on := 0, ground := Ground.data }, { on := 1, ground := Ground.data }], guard := none }) (v := ?_) rfl (by kernel_rfl) (by kernel_rfl) (by kernel_rfl) (fun _ _ _ h => h) (Or.inl ⟨by rfl, ?_⟩) hHeld0 ?_
        rotate_left
        · (intro W hW; clear hW; first | (go_simp; done) | (go_simp; with_reducible rfl))
        try simp only [Act.put, List.setIfInBounds_toArray, List.set_cons_zero, List.set_cons_succ]
        refine wpAnyH_take (i := 3) (oi := { dst := some 41, op := Op.indexAddr 104 (Operand.tmp 8) (Operand.tmp 40), type := 0, pos := "divide.go:43", after := #[{ on := 2, ground := Ground.data }], guard := none }) (v := ?_) rfl (by kernel_rfl) (by kernel_rfl) (by kernel_rfl) (fun _ _ _ h => h) (Or.inl ⟨by rfl, ?_⟩) hHeld0 ?_
        rotate_left
        · (intro W hW; clear hW; first | (go_simp; done) | (go_simp; with_reducible rfl))
        try simp only [Act.put, List.setIfInBounds_toArray, List.set_cons_zero, List.set_cons_succ]
        refine wpAnyH_take (i := 4) (oi := { dst := some 42, op := Op.load 24 (Operand.tmp 41), type := 24, pos := "divide.go:43", after := #[{ on := 3, ground := Ground.data }], guard := none }) (v := .int .u64 (a0 : Nat)) rfl (by kernel_rfl) (by kernel_rfl) (by kernel_rfl) (fun _ _ _ h => h) (Or.inl ⟨by rfl, fun W hW => ?_⟩) hHeld0 ?_
        · (have hc := HX0.out W hW.1; clear hW; go_simp)
        try simp only [Act.put, List.setIfInBounds_toArray, List.set_cons_zero, List.set_cons_succ]
        refine wpAnyH_take (i := 5) (oi := { dst := some 43, op := Op.move (Operand.tmp 10), type := 3, pos := "divide.go:43", after := #[], guard := none }) (v := ?_) rfl (by kernel_rfl) (by kernel_rfl) (by kernel_rfl) (fun _ _ _ h => h) (Or.inl ⟨by rfl, ?_⟩) hHeld0 ?_
        rotate_left
        · (intro W hW; clear hW; first | (go_simp; done) | (go_simp; with_reducible rfl))
        try simp only [Act.put, List.setIfInBounds_toArray, List.set_cons_zero, List.set_cons_succ]
        refine wpAnyH_take (i := 6) (oi := { dst := some 44, op := Op.move (Operand.tmp 6), type := 3, pos := "divide.go:43", after := #[], guard := none }) (v := ?_) rfl (by kernel_rfl) (by kernel_rfl) (by kernel_rfl) (fun _ _ _ h => h) (Or.inl ⟨by rfl, ?_⟩) hHeld0 ?_
        rotate_left
        · (intro W hW; clear hW; first | (go_simp; done) | (go_simp; with_reducible rfl))
        try simp only [Act.put, List.setIfInBounds_toArray, List.set_cons_zero, List.set_cons_succ]
        refine wpAnyH_take (i := 7) (oi := { dst := some 45, op := Op.binOp BinOp.add 3 (Operand.tmp 43) (Operand.tmp 44) 3, type := 3, pos := "divide.go:43", after := #[{ on := 5, ground := Ground.data }, { on := 6, ground := Ground.data }], guard := none }) (v := ?_) rfl (by kernel_rfl) (by kernel_rfl) (by kernel_rfl) (fun _ _ _ h => h) (Or.inl ⟨by rfl, ?_⟩) hHeld0 ?_
        rotate_left
        · (intro W hW; clear hW; first | (go_simp; done) | (go_simp; with_reducible rfl))
        try simp only [Act.put, List.setIfInBounds_toArray, List.set_cons_zero, List.set_cons_succ]
        refine wpAnyH_take (i := 8) (oi := { dst := some 46, op := Op.binOp BinOp.sub 3 (Operand.tmp 45) (Operand.const (Value.int IntKind.i64 1)) 3, type := 3, pos := "divide.go:43", after := #[{ on := 7, ground := Ground.data }], guard := none }) (v := ?_) rfl (by kernel_rfl) (by kernel_rfl) (by kernel_rfl) (fun _ _ _ h => h) (Or.inl ⟨by rfl, ?_⟩) hHeld0 ?_
        rotate_left
        · (intro W hW; clear hW; first | (go_simp; done) | (go_simp; with_reducible rfl))
        try simp only [Act.put, List.setIfInBounds_toArray, List.set_cons_zero, List.set_cons_succ]
        refine wpAnyH_take (i := 9) (oi := { dst := some 47, op := Op.indexAddr 104 (Operand.tmp 8) (Operand.tmp 46), type := 0, pos := "divide.go:43", after := #[{ on := 8, ground := Ground.data }], guard := none }) (v := ?_) rfl (by kernel_rfl) (by kernel_rfl) (by kernel_rfl) (fun _ _ _ h => h) (Or.inl ⟨by rfl, ?_⟩) hHeld0 ?_
        rotate_left
        · (intro W hW; clear hW; first | (go_simp; done) | (go_simp; with_reducible rfl))
        try simp only [Act.put, List.setIfInBounds_toArray, List.set_cons_zero, List.set_cons_succ]
        refine wpAnyH_take (i := 10) (oi := { dst := some 48, op := Op.load 24 (Operand.tmp 47), type := 24, pos := "divide.go:43", after := #[{ on := 9, ground := Ground.data }], guard := none }) (v := .int .u64 (a1 : Nat)) rfl (by kernel_rfl) (by kernel_rfl) (by kernel_rfl) (fun _ _ _ h => h) (Or.inl ⟨by rfl, fun W hW => ?_⟩) hHeld0 ?_
        · (have hc := HX1.out W hW.1; clear hW; go_simp)
        try simp only [Act.put, List.setIfInBounds_toArray, List.set_cons_zero, List.set_cons_succ]
        refine wpAnyH_take (i := 11) (oi := { dst := some 49, op := Op.move (Operand.tmp 10), type := 3, pos := "divide.go:43", after := #[], guard := none }) (v := ?_) rfl (by kernel_rfl) (by kernel_rfl) (by kernel_rfl) (fun _ _ _ h => h) (Or.inl ⟨by rfl, ?_⟩) hHeld0 ?_
        rotate_left
        · (intro W hW; clear hW; first | (go_simp; done) | (go_simp; with_reducible rfl))
        try simp only [Act.put, List.setIfInBounds_toArray, List.set_cons_zero, List.set_cons_succ]
        refine wpAnyH_take (i := 12) (oi := { dst := some 50, op := Op.move (Operand.tmp 6), type := 3, pos := "divide.go:43", after := #[], guard := none }) (v := ?_) rfl (by kernel_rfl) (by kernel_rfl) (by kernel_rfl) (fun _ _ _ h => h) (Or.inl ⟨by rfl, ?_⟩) hHeld0 ?_
        rotate_left
        · (intro W hW; clear hW; first | (go_simp; done) | (go_simp; with_reducible rfl))
        try simp only [Act.put, List.setIfInBounds_toArray, List.set_cons_zero, List.set_cons_succ]
        refine wpAnyH_take (i := 13) (oi := { dst := some 51, op := Op.binOp BinOp.add 3 (Operand.tmp 49) (Operand.tmp 50) 3, type := 3, pos := "divide.go:43", after := #[{ on := 11, ground := Ground.data }, { on := 12, ground := Ground.data }], guard := none }) (v := ?_) rfl (by kernel_rfl) (by kernel_rfl) (by kernel_rfl) (fun _ _ _ h => h) (Or.inl ⟨by rfl, ?_⟩) hHeld0 ?_
        rotate_left
        · (intro W hW; clear hW; first | (go_simp; done) | (go_simp; with_reducible rfl))
        try simp only [Act.put, List.setIfInBounds_toArray, List.set_cons_zero, List.set_cons_succ]
        refine wpAnyH_take (i := 14) (oi := { dst := some 52, op := Op.binOp BinOp.sub 3 (Operand.tmp 51) (Operand.const (Value.int IntKind.i64 2)) 3, type := 3, pos := "divide.go:43", after := #[{ on := 13, ground := Ground.data }], guard := none }) (v := ?_) rfl (by kernel_rfl) (by kernel_rfl) (by kernel_rfl) (fun _ _ _ h => h) (Or.inl ⟨by rfl, ?_⟩) hHeld0 ?_
        rotate_left
        · (intro W hW; clear hW; first | (go_simp; done) | (go_simp; with_reducible rfl))
        try simp only [Act.put, List.setIfInBounds_toArray, List.set_cons_zero, List.set_cons_succ]
        refine wpAnyH_take (i := 15) (oi := { dst := some 53, op := Op.indexAddr 104 (Operand.tmp 8) (Operand.tmp 52), type := 0, pos := "divide.go:43", after := #[{ on := 14, ground := Ground.data }], guard := none }) (v := ?_) rfl (by kernel_rfl) (by kernel_rfl) (by kernel_rfl) (fun _ _ _ h => h) (Or.inl ⟨by rfl, ?_⟩) hHeld0 ?_
        rotate_left
        · (intro W hW; clear hW; first | (go_simp; done) | (go_simp; with_reducible rfl))
        try simp only [Act.put, List.setIfInBounds_toArray, List.set_cons_zero, List.set_cons_succ]
        refine wpAnyH_take (i := 16) (oi := { dst := some 54, op := Op.load 24 (Operand.tmp 53), type := 24, pos := "divide.go:43", after := #[{ on := 15, ground := Ground.data }], guard := none }) (v := .int .u64 (a2 : Nat)) rfl (by kernel_rfl) (by kernel_rfl) (by kernel_rfl) (fun _ _ _ h => h) (Or.inl ⟨by rfl, fun W hW => ?_⟩) hHeld0 ?_
        · (have hc := HX2.out W hW.1; clear hW; go_simp)
        try simp only [Act.put, List.setIfInBounds_toArray, List.set_cons_zero, List.set_cons_succ]
        refine wpAnyH_take (i := 17) (oi := { dst := some 55, op := Op.build 107 #[(0, Operand.tmp 42), (1, Operand.tmp 48), (2, Operand.tmp 54)], type := 107, pos := "divide.go:43", after := #[{ on := 4, ground := Ground.data }, { on := 10, ground := Ground.data }, { on := 16, ground := Ground.data }], guard := none }) (v := ?_) rfl (by kernel_rfl) (by kernel_rfl) (by kernel_rfl) (fun _ _ _ h => h) (Or.inl ⟨by rfl, ?_⟩) hHeld0 ?_
        rotate_left
        · (intro W hW; clear hW; first | (go_simp; done) | (go_simp; with_reducible rfl))
        try simp only [Act.put, List.setIfInBounds_toArray, List.set_cons_zero, List.set_cons_succ]
        refine wpAnyH_take (i := 18) (oi := { dst := some 56, op := Op.move (Operand.tmp 6), type := 3, pos := "divide.go:43", after := #[], guard := none }) (v := ?_) rfl (by kernel_rfl) (by kernel_rfl) (by kernel_rfl) (fun _ _ _ h => h) (Or.inl ⟨by rfl, ?_⟩) hHeld0 ?_
        rotate_left
        · (intro W hW; clear hW; first | (go_simp; done) | (go_simp; with_reducible rfl))
        try simp only [Act.put, List.setIfInBounds_toArray, List.set_cons_zero, List.set_cons_succ]
        refine wpAnyH_take (i := 19) (oi := { dst := some 57, op := Op.binOp BinOp.sub 3 (Operand.tmp 56) (Operand.const (Value.int IntKind.i64 1)) 3, type := 3, pos := "divide.go:43", after := #[{ on := 18, ground := Ground.data }], guard := none }) (v := ?_) rfl (by kernel_rfl) (by kernel_rfl) (by kernel_rfl) (fun _ _ _ h => h) (Or.inl ⟨by rfl, ?_⟩) hHeld0 ?_
        rotate_left
        · (intro W hW; clear hW; first | (go_simp; done) | (go_simp; with_reducible rfl))
        try simp only [Act.put, List.setIfInBounds_toArray, List.set_cons_zero, List.set_cons_succ]
        refine wpAnyH_take (i := 20) (oi := { dst := some 58, op := Op.indexAddr 104 (Operand.tmp 9) (Operand.tmp 57), type := 0, pos := "divide.go:43", after := #[{ on := 19, ground := Ground.data }], guard := none }) (v := ?_) rfl (by kernel_rfl) (by kernel_rfl) (by kernel_rfl) (fun _ _ _ h => h) (Or.inl ⟨by rfl, ?_⟩) hHeld0 ?_
        rotate_left
        · (intro W hW; clear hW; first | (go_simp; done) | (go_simp; with_reducible rfl))
        try simp only [Act.put, List.setIfInBounds_toArray, List.set_cons_zero, List.set_cons_succ]
        refine wpAnyH_take (i := 21) (oi := { dst := some 59, op := Op.load 24 (Operand.tmp 58), type := 24, pos := "divide.go:43", after := #[{ on := 20, ground := Ground.data }], guard := none }) (v := .int .u64 (b0 : Nat)) rfl (by kernel_rfl) (by kernel_rfl) (by kernel_rfl) (fun _ _ _ h => h) (Or.inl ⟨by rfl, fun W hW => ?_⟩) hHeld0 ?_
        · (have hc := HV0'.out W hW.2; clear hW; go_simp)
        try simp only [Act.put, List.setIfInBounds_toArray, List.set_cons_zero, List.set_cons_succ]
        refine wpAnyH_take (i := 22) (oi := { dst := some 60, op := Op.move (Operand.tmp 6), type := 3, pos := "divide.go:43", after := #[], guard := none }) (v := ?_) rfl (by kernel_rfl) (by kernel_rfl) (by kernel_rfl) (fun _ _ _ h => h) (Or.inl ⟨by rfl, ?_⟩) hHeld0 ?_
        rotate_left
        · (intro W hW; clear hW; first | (go_simp; done) | (go_simp; with_reducible rfl))
        try simp only [Act.put, List.setIfInBounds_toArray, List.set_cons_zero, List.set_cons_succ]
        refine wpAnyH_take (i := 23) (oi := { dst := some 61, op := Op.binOp BinOp.sub 3 (Operand.tmp 60) (Operand.const (Value.int IntKind.i64 2)) 3, type := 3, pos := "divide.go:43", after := #[{ on := 22, ground := Ground.data }], guard := none }) (v := ?_) rfl (by kernel_rfl) (by kernel_rfl) (by kernel_rfl) (fun _ _ _ h => h) (Or.inl ⟨by rfl, ?_⟩) hHeld0 ?_
        rotate_left
        · (intro W hW; clear hW; first | (go_simp; done) | (go_simp; with_reducible rfl))
        try simp only [Act.put, List.setIfInBounds_toArray, List.set_cons_zero, List.set_cons_succ]
        refine wpAnyH_take (i := 24) (oi := { dst := some 62, op := Op.indexAddr 104 (Operand.tmp 9) (Operand.tmp 61), type := 0, pos := "divide.go:43", after := #[{ on := 23, ground := Ground.data }], guard := none }) (v := ?_) rfl (by kernel_rfl) (by kernel_rfl) (by kernel_rfl) (fun _ _ _ h => h) (Or.inl ⟨by rfl, ?_⟩) hHeld0 ?_
        rotate_left
        · (intro W hW; clear hW; first | (go_simp; done) | (go_simp; with_reducible rfl))
        try simp only [Act.put, List.setIfInBounds_toArray, List.set_cons_zero, List.set_cons_succ]
        refine wpAnyH_take (i := 25) (oi := { dst := some 63, op := Op.load 24 (Operand.tmp 62), type := 24, pos := "divide.go:43", after := #[{ on := 24, ground := Ground.data }], guard := none }) (v := .int .u64 (b1 : Nat)) rfl (by kernel_rfl) (by kernel_rfl) (by kernel_rfl) (fun _ _ _ h => h) (Or.inl ⟨by rfl, fun W hW => ?_⟩) hHeld0 ?_
        · (have hc := HV1'.out W hW.2; clear hW; go_simp)
        try simp only [Act.put, List.setIfInBounds_toArray, List.set_cons_zero, List.set_cons_succ]
        refine wpAnyH_ready (rs := [26]) (by kernel_rfl) (by simp) ?_
        refine AllReadyH.cons (o := { dst := some 64, op := Op.call { callee := Callee.value (Operand.func 87), args := #[Operand.tmp 55, Operand.tmp 59, Operand.tmp 63], argTypes := #[107, 24, 24] }, type := 24, pos := "divide.go:43", after := #[{ on := 17, ground := Ground.data }, { on := 21, ground := Ground.data }, { on := 25, ground := Ground.data }], guard := none }) rfl (fun K hK => ?_) AllReadyH.nil
        go_simp
        (refine (HEST.out _).mono ?_; rintro e x3 ⟨rfl, hb⟩; have HG3 := Lib.hid (keptW hb hHeld0.1); have HV3 := Lib.hid (keptW hb hHeld0.2); have HQ3 := Lib.hid (keptW hb HQd.out); have HR3 := Lib.hid (keptW hb HRd.out); have HL3 := Lib.hid (HLd.out.trans (hb.mono HLd.out.size)); clear hb)
        refine hK.out _ _ ⟨HG3.out, HV3.out⟩ (fun hHeld1 => ?_)
        clear hK K
        try simp only [Act.put, List.setIfInBounds_toArray, List.set_cons_zero, List.set_cons_succ]
        refine wpAnyH_take (i := 27) (oi := { dst := some 11, op := Op.assign (Operand.tmp 64), type := 24, pos := "divide.go:43", after := #[{ on := 26, ground := Ground.data }, { on := 26, ground := Ground.chain }, { on := 0, ground := Ground.phase }, { on := 1, ground := Ground.phase }, { on := 2, ground := Ground.phase }, { on := 3, ground := Ground.phase }, { on := 4, ground := Ground.phase }, { on := 5, ground := Ground.phase }, { on := 6, ground := Ground.phase }, { on := 7, ground := Ground.phase }, { on := 8, ground := Ground.phase }, { on := 9, ground := Ground.phase }, { on := 10, ground := Ground.phase }, { on := 11, ground := Ground.phase }, { on := 12, ground := Ground.phase }, { on := 13, ground := Ground.phase }, { on := 14, ground := Ground.phase }, { on := 15, ground := Ground.phase }, { on := 16, ground := Ground.phase }, { on := 17, ground := Ground.phase }, { on := 18, ground := Ground.phase }, { on := 19, ground := Ground.phase }, { on := 20, ground := Ground.phase }, { on := 21, ground := Ground.phase }, { on := 22, ground := Ground.phase }, { on := 23, ground := Ground.phase }, { on := 24, ground := Ground.phase }, { on := 25, ground := Ground.phase }, { on := 26, ground := Ground.phase }], guard := none }) (v := ?_) rfl (by kernel_rfl) (by kernel_rfl) (by kernel_rfl) (fun _ _ _ h => h) (Or.inl ⟨by rfl, ?_⟩) hHeld1 ?_
        rotate_left
        · (intro W hW; clear hW; first | (go_simp; done) | (go_simp; with_reducible rfl))
        try simp only [Act.put, List.setIfInBounds_toArray, List.set_cons_zero, List.set_cons_succ]
        refine wpAnyH_done (by kernel_rfl) ?_ _
        refine NoPanic.normal ?_
        go_wp2_with fail
        clear HEST HX0 HX1 HX2 HV0' HV1' HQd HRd HLd hst hHeld0 hHeld1 e2 e3 e4 e5 b1' b2' b3' b4' b5'
        have hways := HRD.out.ways
        rw [hnn] at hways
        rcases hways with ⟨hw1, hw2, rfl⟩ | ⟨hw1, hw2, hw3⟩
        · have hT := takeProduct_any X V q k nn (17 - k) 17 g8 g9 (by rw [← hnn]; exact HRD.out.hX) (by rw [← hnn]; exact HRD.out.hP) HRD.out.hq (by omega) (fun h => h89 h.symm) x3.drew HG3.out HV3.out
          rw [hw1, decide_eq_false hw2] at hT
          have HT := Lib.hid hT
          clear hw1 hw2 hT
          go_wp2_with fail
          refine wp_region_noPanic ?_
          refine wp_region_held_drew (S := fun W => True) (by kernel_rfl) trivial (fun hHeld0 => ?_)
          refine wpAnyH_take (i := 0) (oi := { dst := some 65, op := Op.move (Operand.tmp 10), type := 3, pos := "divide.go:44", after := #[], guard := none }) (v := ?_) rfl (by kernel_rfl) (by kernel_rfl) (by kernel_rfl) (fun _ _ _ h => h) (Or.inl ⟨by rfl, ?_⟩) hHeld0 ?_
          rotate_left
          · (intro W hW; clear hW; first | (go_simp; done) | (go_simp; with_reducible rfl))
          try simp only [Act.put, List.setIfInBounds_toArray, List.set_cons_zero, List.set_cons_succ]
          refine wpAnyH_take (i := 1) (oi := { dst := some 66, op := Op.move (Operand.tmp 10), type := 3, pos := "divide.go:44", after := #[], guard := none }) (v := ?_) rfl (by kernel_rfl) (by kernel_rfl) (by kernel_rfl) (fun _ _ _ h => h) (Or.inl ⟨by rfl, ?_⟩) hHeld0 ?_
          rotate_left
          · (intro W hW; clear hW; first | (go_simp; done) | (go_simp; with_reducible rfl))
          try simp only [Act.put, List.setIfInBounds_toArray, List.set_cons_zero, List.set_cons_succ]
          refine wpAnyH_take (i := 2) (oi := { dst := some 67, op := Op.move (Operand.tmp 6), type := 3, pos := "divide.go:44", after := #[], guard := none }) (v := ?_) rfl (by kernel_rfl) (by kernel_rfl) (by kernel_rfl) (fun _ _ _ h => h) (Or.inl ⟨by rfl, ?_⟩) hHeld0 ?_
          rotate_left
          · (intro W hW; clear hW; first | (go_simp; done) | (go_simp; with_reducible rfl))
          try simp only [Act.put, List.setIfInBounds_toArray, List.set_cons_zero, List.set_cons_succ]
          refine wpAnyH_take (i := 3) (oi := { dst := some 68, op := Op.binOp BinOp.add 3 (Operand.tmp 66) (Operand.tmp 67) 3, type := 3, pos := "divide.go:44", after := #[{ on := 1, ground := Ground.data }, { on := 2, ground := Ground.data }], guard := none }) (v := ?_) rfl (by kernel_rfl) (by kernel_rfl) (by kernel_rfl) (fun _ _ _ h => h) (Or.inl ⟨by rfl, ?_⟩) hHeld0 ?_
          rotate_left
          · (intro W hW; clear hW; first | (go_simp; done) | (go_simp; with_reducible rfl))
          try simp only [Act.put, List.setIfInBounds_toArray, List.set_cons_zero, List.set_cons_succ]
          refine wpAnyH_take (i := 4) (oi := { dst := some 69, op := Op.binOp BinOp.add 3 (Operand.tmp 68) (Operand.const (Value.int IntKind.i64 1)) 3, type := 3, pos := "divide.go:44", after := #[{ on := 3, ground := Ground.data }], guard := none }) (v := ?_) rfl (by kernel_rfl) (by kernel_rfl) (by kernel_rfl) (fun _ _ _ h => h) (Or.inl ⟨by rfl, ?_⟩) hHeld0 ?_
          rotate_left
          · (intro W hW; clear hW; first | (go_simp; done) | (go_simp; with_reducible rfl))
          try simp only [Act.put, List.setIfInBounds_toArray, List.set_cons_zero, List.set_cons_succ]
          refine wpAnyH_take (i := 5) (oi := { dst := some 70, op := Op.slice 104 (Operand.tmp 8) (some (Operand.tmp 65)) (some (Operand.tmp 69)) none, type := 93, pos := "divide.go:44", after := #[{ on := 0, ground := Ground.data }, { on := 4, ground := Ground.data }], guard := none }) (v := ?_) rfl (by kernel_rfl) (by kernel_rfl) (by kernel_rfl) (fun _ _ _ h => h) (Or.inl ⟨by rfl, ?_⟩) hHeld0 ?_
          rotate_left
          · (intro W hW; clear hW; first | (go_simp; done) | (go_simp; with_reducible rfl))
          try simp only [Act.put, List.setIfInBounds_toArray, List.set_cons_zero, List.set_cons_succ]
          refine wpAnyH_take (i := 6) (oi := { dst := some 71, op := Op.move (Operand.tmp 6), type := 3, pos := "divide.go:44", after := #[], guard := none }) (v := ?_) rfl (by kernel_rfl) (by kernel_rfl) (by kernel_rfl) (fun _ _ _ h => h) (Or.inl ⟨by rfl, ?_⟩) hHeld0 ?_
          rotate_left
          · (intro W hW; clear hW; first | (go_simp; done) | (go_simp; with_reducible rfl))
          try simp only [Act.put, List.setIfInBounds_toArray, List.set_cons_zero, List.set_cons_succ]
          refine wpAnyH_take (i := 7) (oi := { dst := some 72, op := Op.binOp BinOp.add 3 (Operand.tmp 71) (Operand.const (Value.int IntKind.i64 1)) 3, type := 3, pos := "divide.go:44", after := #[{ on := 6, ground := Ground.data }], guard := none }) (v := ?_) rfl (by kernel_rfl) (by kernel_rfl) (by kernel_rfl) (fun _ _ _ h => h) (Or.inl ⟨by rfl, ?_⟩) hHeld0 ?_
          rotate_left
          · (intro W hW; clear hW; first | (go_simp; done) | (go_simp; with_reducible rfl))
          try simp only [Act.put, List.setIfInBounds_toArray, List.set_cons_zero, List.set_cons_succ]
          refine wpAnyH_take (i := 8) (oi := { dst := some 73, op := Op.slice 104 (Operand.tmp 9) none (some (Operand.tmp 72)) none, type := 93, pos := "divide.go:44", after := #[{ on := 7, ground := Ground.data }], guard := none }) (v := ?_) rfl (by kernel_rfl) (by kernel_rfl) (by kernel_rfl) (fun _ _ _ h => h) (Or.inl ⟨by rfl, ?_⟩) hHeld0 ?_
          rotate_left
          · (intro W hW; clear hW; first | (go_simp; done) | (go_simp; with_reducible rfl))
          try simp only [Act.put, List.setIfInBounds_toArray, List.set_cons_zero, List.set_cons_succ]
          refine wpAnyH_take (i := 9) (oi := { dst := some 74, op := Op.move (Operand.tmp 11), type := 24, pos := "divide.go:44", after := #[], guard := none }) (v := ?_) rfl (by kernel_rfl) (by kernel_rfl) (by kernel_rfl) (fun _ _ _ h => h) (Or.inl ⟨by rfl, ?_⟩) hHeld0 ?_
          rotate_left
          · (intro W hW; clear hW; first | (go_simp; done) | (go_simp; with_reducible rfl))
          try simp only [Act.put, List.setIfInBounds_toArray, List.set_cons_zero, List.set_cons_succ]
          refine wpAnyH_ready (rs := [10]) (by kernel_rfl) (by simp) ?_
          refine AllReadyH.cons (o := { dst := some 75, op := Op.call { callee := Callee.value (Operand.func 88), args := #[Operand.tmp 70, Operand.tmp 73, Operand.tmp 74], argTypes := #[93, 93, 24] }, type := 4, pos := "divide.go:44", after := #[{ on := 5, ground := Ground.data }, { on := 8, ground := Ground.data }, { on := 9, ground := Ground.data }], guard := none }) rfl (fun K hK => ?_) AllReadyH.nil
          go_simp
          (refine HT.out.mono ?_; rintro e x4 ⟨rfl, hr, hch⟩)
          refine hK.out _ _ trivial (fun hHeld1 => ?_)
          clear hK K
          try simp only [Act.put, List.setIfInBounds_toArray, List.set_cons_zero, List.set_cons_succ]
          refine wpAnyH_done (by kernel_rfl) ?_ _
          refine NoPanic.normal ?_
          have HG4 := Lib.hid hr
          have HV4 := Lib.hid ((hch.row (rowN_lt (show rowN x3.drew g9 = _ from HV3.out)) (fun h => h89 h.symm)).trans HV3.out)
          have HQ4 := Lib.hid ((hch.row (rowN_lt (show rowN x3.drew (w.heap.size + 1 + 1) = _ from HQ3.out)) (by omega)).trans HQ3.out)
          have HR4 := Lib.hid ((hch.row (rowN_lt (show rowN x3.drew (w.heap.size + 1 + 1 + 1) = _ from HR3.out)) (by omega)).trans HR3.out)
          have HL4 := Lib.hid (HL3.out.drew.trans (hch.below w.heap.size HL3.out.drew.size (fun b h => by omega)))
          clear hr hch
          have hQ4 := HQ4.out
          have hold := ((rowN_cell hQ4).1 k).trans (natA_get _ k hkN)
          have hfro := (rowN_cell hQ4).2 k
          clear hQ4
          go_wp2_with fail
          refine ⟨⟨(k : Int) - 1, k, rfl, by omega, by omega, by omega, ?_, ?_, ?_, ?_, HL4.out.setCell (p := ⟨w.heap.size + 1 + 1, k, none⟩) (by show w.heap.size ≤ w.heap.size + 1 + 1; omega) _⟩, by simp [intOf]⟩
          · rw [rowN_setCell, if_neg (by show ¬ g8 = w.heap.size + 1 + 1; omega), HG4.out, HX'.out]
          · rw [rowN_setCell, if_neg (by show ¬ g9 = w.heap.size + 1 + 1; omega)]; exact HV4.out
          · rw [rowN_setCell, if_pos rfl, HQ4.out]
            exact congrArg some ((natA_setD _ k _ (by rw [← HD'.out]; exact dgt_lt P64_pos)).trans (by rw [← HD'.out, hiDg_set P64_pos]))
          · rw [rowN_setCell, if_neg (by show ¬ w.heap.size + 1 + 1 + 1 = w.heap.size + 1 + 1; omega)]; exact HR4.out
        · have HW1 := Lib.hid hw1
          have HW3 := Lib.hid hw3
          have hT := takeProduct_any X V q k nn (17 - k) 17 g8 g9 (by rw [← hnn]; exact HRD.out.hX) (by rw [← hnn]; exact HRD.out.hP) HRD.out.hq (by omega) (fun h => h89 h.symm) x3.drew HG3.out HV3.out
          rw [decide_eq_true hw2] at hT
          have HT := Lib.hid hT
          clear hT hw1 hw2 hw3
          go_wp2_with fail
          refine wp_region_noPanic ?_
          refine wp_region_held_drew (S := fun W => True) (by kernel_rfl) trivial (fun hHeld0 => ?_)
          refine wpAnyH_take (i := 0) (oi := { dst := some 65, op := Op.move (Operand.tmp 10), type := 3, pos := "divide.go:44", after := #[], guard := none }) (v := ?_) rfl (by kernel_rfl) (by kernel_rfl) (by kernel_rfl) (fun _ _ _ h => h) (Or.inl ⟨by rfl, ?_⟩) hHeld0 ?_
          rotate_left
          · (intro W hW; clear hW; first | (go_simp; done) | (go_simp; with_reducible rfl))
          try simp only [Act.put, List.setIfInBounds_toArray, List.set_cons_zero, List.set_cons_succ]
          refine wpAnyH_take (i := 1) (oi := { dst := some 66, op := Op.move (Operand.tmp 10), type := 3, pos := "divide.go:44", after := #[], guard := none }) (v := ?_) rfl (by kernel_rfl) (by kernel_rfl) (by kernel_rfl) (fun _ _ _ h => h) (Or.inl ⟨by rfl, ?_⟩) hHeld0 ?_
          rotate_left
          · (intro W hW; clear hW; first | (go_simp; done) | (go_simp; with_reducible rfl))
          try simp only [Act.put, List.setIfInBounds_toArray, List.set_cons_zero, List.set_cons_succ]
          refine wpAnyH_take (i := 2) (oi := { dst := some 67, op := Op.move (Operand.tmp 6), type := 3, pos := "divide.go:44", after := #[], guard := none }) (v := ?_) rfl (by kernel_rfl) (by kernel_rfl) (by kernel_rfl) (fun _ _ _ h => h) (Or.inl ⟨by rfl, ?_⟩) hHeld0 ?_
          rotate_left
          · (intro W hW; clear hW; first | (go_simp; done) | (go_simp; with_reducible rfl))
          try simp only [Act.put, List.setIfInBounds_toArray, List.set_cons_zero, List.set_cons_succ]
          refine wpAnyH_take (i := 3) (oi := { dst := some 68, op := Op.binOp BinOp.add 3 (Operand.tmp 66) (Operand.tmp 67) 3, type := 3, pos := "divide.go:44", after := #[{ on := 1, ground := Ground.data }, { on := 2, ground := Ground.data }], guard := none }) (v := ?_) rfl (by kernel_rfl) (by kernel_rfl) (by kernel_rfl) (fun _ _ _ h => h) (Or.inl ⟨by rfl, ?_⟩) hHeld0 ?_
          rotate_left
          · (intro W hW; clear hW; first | (go_simp; done) | (go_simp; with_reducible rfl))
          try simp only [Act.put, List.setIfInBounds_toArray, List.set_cons_zero, List.set_cons_succ]
          refine wpAnyH_take (i := 4) (oi := { dst := some 69, op := Op.binOp BinOp.add 3 (Operand.tmp 68) (Operand.const (Value.int IntKind.i64 1)) 3, type := 3, pos := "divide.go:44", after := #[{ on := 3, ground := Ground.data }], guard := none }) (v := ?_) rfl (by kernel_rfl) (by kernel_rfl) (by kernel_rfl) (fun _ _ _ h => h) (Or.inl ⟨by rfl, ?_⟩) hHeld0 ?_
          rotate_left
          · (intro W hW; clear hW; first | (go_simp; done) | (go_simp; with_reducible rfl))
          try simp only [Act.put, List.setIfInBounds_toArray, List.set_cons_zero, List.set_cons_succ]
          refine wpAnyH_take (i := 5) (oi := { dst := some 70, op := Op.slice 104 (Operand.tmp 8) (some (Operand.tmp 65)) (some (Operand.tmp 69)) none, type := 93, pos := "divide.go:44", after := #[{ on := 0, ground := Ground.data }, { on := 4, ground := Ground.data }], guard := none }) (v := ?_) rfl (by kernel_rfl) (by kernel_rfl) (by kernel_rfl) (fun _ _ _ h => h) (Or.inl ⟨by rfl, ?_⟩) hHeld0 ?_
          rotate_left
          · (intro W hW; clear hW; first | (go_simp; done) | (go_simp; with_reducible rfl))
          try simp only [Act.put, List.setIfInBounds_toArray, List.set_cons_zero, List.set_cons_succ]
          refine wpAnyH_take (i := 6) (oi := { dst := some 71, op := Op.move (Operand.tmp 6), type := 3, pos := "divide.go:44", after := #[], guard := none }) (v := ?_) rfl (by kernel_rfl) (by kernel_rfl) (by kernel_rfl) (fun _ _ _ h => h) (Or.inl ⟨by rfl, ?_⟩) hHeld0 ?_
          rotate_left
          · (intro W hW; clear hW; first | (go_simp; done) | (go_simp; with_reducible rfl))
          try simp only [Act.put, List.setIfInBounds_toArray, List.set_cons_zero, List.set_cons_succ]
          refine wpAnyH_take (i := 7) (oi := { dst := some 72, op := Op.binOp BinOp.add 3 (Operand.tmp 71) (Operand.const (Value.int IntKind.i64 1)) 3, type := 3, pos := "divide.go:44", after := #[{ on := 6, ground := Ground.data }], guard := none }) (v := ?_) rfl (by kernel_rfl) (by kernel_rfl) (by kernel_rfl) (fun _ _ _ h => h) (Or.inl ⟨by rfl, ?_⟩) hHeld0 ?_
          rotate_left
          · (intro W hW; clear hW; first | (go_simp; done) | (go_simp; with_reducible rfl))
          try simp only [Act.put, List.setIfInBounds_toArray, List.set_cons_zero, List.set_cons_succ]
          refine wpAnyH_take (i := 8) (oi := { dst := some 73, op := Op.slice 104 (Operand.tmp 9) none (some (Operand.tmp 72)) none, type := 93, pos := "divide.go:44", after := #[{ on := 7, ground := Ground.data }], guard := none }) (v := ?_) rfl (by kernel_rfl) (by kernel_rfl) (by kernel_rfl) (fun _ _ _ h => h) (Or.inl ⟨by rfl, ?_⟩) hHeld0 ?_
          rotate_left
          · (intro W hW; clear hW; first | (go_simp; done) | (go_simp; with_reducible rfl))
          try simp only [Act.put, List.setIfInBounds_toArray, List.set_cons_zero, List.set_cons_succ]
          refine wpAnyH_take (i := 9) (oi := { dst := some 74, op := Op.move (Operand.tmp 11), type := 24, pos := "divide.go:44", after := #[], guard := none }) (v := ?_) rfl (by kernel_rfl) (by kernel_rfl) (by kernel_rfl) (fun _ _ _ h => h) (Or.inl ⟨by rfl, ?_⟩) hHeld0 ?_
          rotate_left
          · (intro W hW; clear hW; first | (go_simp; done) | (go_simp; with_reducible rfl))
          try simp only [Act.put, List.setIfInBounds_toArray, List.set_cons_zero, List.set_cons_succ]
          refine wpAnyH_ready (rs := [10]) (by kernel_rfl) (by simp) ?_
          refine AllReadyH.cons (o := { dst := some 75, op := Op.call { callee := Callee.value (Operand.func 88), args := #[Operand.tmp 70, Operand.tmp 73, Operand.tmp 74], argTypes := #[93, 93, 24] }, type := 4, pos := "divide.go:44", after := #[{ on := 5, ground := Ground.data }, { on := 8, ground := Ground.data }, { on := 9, ground := Ground.data }], guard := none }) rfl (fun K hK => ?_) AllReadyH.nil
          go_simp
          (refine HT.out.mono ?_; rintro e x4 ⟨rfl, hr, hch⟩)
          refine hK.out _ _ trivial (fun hHeld1 => ?_)
          clear hK K
          try simp only [Act.put, List.setIfInBounds_toArray, List.set_cons_zero, List.set_cons_succ]
          refine wpAnyH_done (by kernel_rfl) ?_ _
          refine NoPanic.normal ?_
          have HG4 := Lib.hid hr
          have HV4 := Lib.hid ((hch.row (rowN_lt (show rowN x3.drew g9 = _ from HV3.out)) (fun h => h89 h.symm)).trans HV3.out)
          have HQ4 := Lib.hid ((hch.row (rowN_lt (show rowN x3.drew (w.heap.size + 1 + 1) = _ from HQ3.out)) (by omega)).trans HQ3.out)
          have HR4 := Lib.hid ((hch.row (rowN_lt (show rowN x3.drew (w.heap.size + 1 + 1 + 1) = _ from HR3.out)) (by omega)).trans HR3.out)
          have HL4 := Lib.hid (HL3.out.drew.trans (hch.below w.heap.size HL3.out.drew.size (fun b h => by omega)))
          clear hr hch
          obtain ⟨X1, hX1⟩ : ∃ X1, winSet P64 X k nn (subW P64 nn (X / P64 ^ k) (V * q)) = X1 := ⟨_, rfl⟩
          have hX1l : X1 < P64 ^ (k + nn) := by rw [← hX1]; exact winSet_lt P64_pos
          have hw1 := HW1.out
          have hw3 := HW3.out
          rw [hX1] at HG4 hw1
          have e8 : IntKind.u64.wrap ((q : Int) - 1) = ((d' : Nat) : Int) := by
            have := HRD.out.hq
            rw [P64_eq] at this
            rw [IntKind.wrap_u64]
            omega
          have hG := giveBack_any X1 V k nn (17 - k) 17 g8 g9 hX1l (by omega) (fun h => h89 h.symm) x4.drew HG4.out HV4.out
          rw [hw1] at hG
          have HG := Lib.hid hG
          clear hX1 hX1l hw1 hw3 hG HW1 HW3
          go_wp2_with fail
          refine wp_region_noPanic ?_
          refine wp_region_held_drew (S := fun W => True) (by kernel_rfl) trivial (fun hHeld0 => ?_)
          refine wpAnyH_take (i := 0) (oi := { dst := some 78, op := Op.move (Operand.tmp 10), type := 3, pos := "divide.go:46", after := #[], guard := none }) (v := ?_) rfl (by kernel_rfl) (by kernel_rfl) (by kernel_rfl) (fun _ _ _ h => h) (Or.inl ⟨by rfl, ?_⟩) hHeld0 ?_
          rotate_left
          · (intro W hW; clear hW; first | (go_simp; done) | (go_simp; with_reducible rfl))
          try simp only [Act.put, List.setIfInBounds_toArray, List.set_cons_zero, List.set_cons_succ]
          refine wpAnyH_take (i := 1) (oi := { dst := some 79, op := Op.move (Operand.tmp 10), type := 3, pos := "divide.go:46", after := #[], guard := none }) (v := ?_) rfl (by kernel_rfl) (by kernel_rfl) (by kernel_rfl) (fun _ _ _ h => h) (Or.inl ⟨by rfl, ?_⟩) hHeld0 ?_
          rotate_left
          · (intro W hW; clear hW; first | (go_simp; done) | (go_simp; with_reducible rfl))
          try simp only [Act.put, List.setIfInBounds_toArray, List.set_cons_zero, List.set_cons_succ]
          refine wpAnyH_take (i := 2) (oi := { dst := some 80, op := Op.move (Operand.tmp 6), type := 3, pos := "divide.go:46", after := #[], guard := none }) (v := ?_) rfl (by kernel_rfl) (by kernel_rfl) (by kernel_rfl) (fun _ _ _ h => h) (Or.inl ⟨by rfl, ?_⟩) hHeld0 ?_
          rotate_left
          · (intro W hW; clear hW; first | (go_simp; done) | (go_simp; with_reducible rfl))
          try simp only [Act.put, List.setIfInBounds_toArray, List.set_cons_zero, List.set_cons_succ]
          refine wpAnyH_take (i := 3) (oi := { dst := some 81, op := Op.binOp BinOp.add 3 (Operand.tmp 79) (Operand.tmp 80) 3, type := 3, pos := "divide.go:46", after := #[{ on := 1, ground := Ground.data }, { on := 2, ground := Ground.data }], guard := none }) (v := ?_) rfl (by kernel_rfl) (by kernel_rfl) (by kernel_rfl) (fun _ _ _ h => h) (Or.inl ⟨by rfl, ?_⟩) hHeld0 ?_
          rotate_left
          · (intro W hW; clear hW; first | (go_simp; done) | (go_simp; with_reducible rfl))
          try simp only [Act.put, List.setIfInBounds_toArray, List.set_cons_zero, List.set_cons_succ]
          refine wpAnyH_take (i := 4) (oi := { dst := some 82, op := Op.binOp BinOp.add 3 (Operand.tmp 81) (Operand.const (Value.int IntKind.i64 1)) 3, type := 3, pos := "divide.go:46", after := #[{ on := 3, ground := Ground.data }], guard := none }) (v := ?_) rfl (by kernel_rfl) (by kernel_rfl) (by kernel_rfl) (fun _ _ _ h => h) (Or.inl ⟨by rfl, ?_⟩) hHeld0 ?_
          rotate_left
          · (intro W hW; clear hW; first | (go_simp; done) | (go_simp; with_reducible rfl))
          try simp only [Act.put, List.setIfInBounds_toArray, List.set_cons_zero, List.set_cons_succ]
          refine wpAnyH_take (i := 5) (oi := { dst := some 83, op := Op.slice 104 (Operand.tmp 8) (some (Operand.tmp 78)) (some (Operand.tmp 82)) none, type := 93, pos := "divide.go:46", after := #[{ on := 0, ground := Ground.data }, { on := 4, ground := Ground.data }], guard := none }) (v := ?_) rfl (by kernel_rfl) (by kernel_rfl) (by kernel_rfl) (fun _ _ _ h => h) (Or.inl ⟨by rfl, ?_⟩) hHeld0 ?_
          rotate_left
          · (intro W hW; clear hW; first | (go_simp; done) | (go_simp; with_reducible rfl))
          try simp only [Act.put, List.setIfInBounds_toArray, List.set_cons_zero, List.set_cons_succ]
          refine wpAnyH_take (i := 6) (oi := { dst := some 84, op := Op.move (Operand.tmp 6), type := 3, pos := "divide.go:46", after := #[], guard := none }) (v := ?_) rfl (by kernel_rfl) (by kernel_rfl) (by kernel_rfl) (fun _ _ _ h => h) (Or.inl ⟨by rfl, ?_⟩) hHeld0 ?_
          rotate_left
          · (intro W hW; clear hW; first | (go_simp; done) | (go_simp; with_reducible rfl))
          try simp only [Act.put, List.setIfInBounds_toArray, List.set_cons_zero, List.set_cons_succ]
          refine wpAnyH_take (i := 7) (oi := { dst := some 85, op := Op.binOp BinOp.add 3 (Operand.tmp 84) (Operand.const (Value.int IntKind.i64 1)) 3, type := 3, pos := "divide.go:46", after := #[{ on := 6, ground := Ground.data }], guard := none }) (v := ?_) rfl (by kernel_rfl) (by kernel_rfl) (by kernel_rfl) (fun _ _ _ h => h) (Or.inl ⟨by rfl, ?_⟩) hHeld0 ?_
          rotate_left
          · (intro W hW; clear hW; first | (go_simp; done) | (go_simp; with_reducible rfl))
          try simp only [Act.put, List.setIfInBounds_toArray, List.set_cons_zero, List.set_cons_succ]
          refine wpAnyH_take (i := 8) (oi := { dst := some 86, op := Op.slice 104 (Operand.tmp 9) none (some (Operand.tmp 85)) none, type := 93, pos := "divide.go:46", after := #[{ on := 7, ground := Ground.data }], guard := none }) (v := ?_) rfl (by kernel_rfl) (by kernel_rfl) (by kernel_rfl) (fun _ _ _ h => h) (Or.inl ⟨by rfl, ?_⟩) hHeld0 ?_
          rotate_left
          · (intro W hW; clear hW; first | (go_simp; done) | (go_simp; with_reducible rfl))
          try simp only [Act.put, List.setIfInBounds_toArray, List.set_cons_zero, List.set_cons_succ]
          refine wpAnyH_ready (rs := [9]) (by kernel_rfl) (by simp) ?_
          refine AllReadyH.cons (o := { dst := some 87, op := Op.call { callee := Callee.value (Operand.func 89), args := #[Operand.tmp 83, Operand.tmp 86], argTypes := #[93, 93] }, type := 0, pos := "divide.go:46", after := #[{ on := 5, ground := Ground.data }, { on := 8, ground := Ground.data }], guard := none }) rfl (fun K hK => ?_) AllReadyH.nil
          go_simp
          (refine HG.out.mono ?_; rintro e x5 ⟨rfl, hr, hch⟩)
          refine hK.out _ _ trivial (fun hHeld1 => ?_)
          clear hK K
          try simp only [Act.put, List.setIfInBounds_toArray, List.set_cons_zero, List.set_cons_succ]
          refine wpAnyH_done (by kernel_rfl) ?_ _
          refine NoPanic.normal ?_
          have HG5 := Lib.hid hr
          have HV5 := Lib.hid ((hch.row (rowN_lt (show rowN x4.drew g9 = _ from HV4.out)) (fun h => h89 h.symm)).trans HV4.out)
          have HQ5 := Lib.hid ((hch.row (rowN_lt (show rowN x4.drew (w.heap.size + 1 + 1) = _ from HQ4.out)) (by omega)).trans HQ4.out)
          have HR5 := Lib.hid ((hch.row (rowN_lt (show rowN x4.drew (w.heap.size + 1 + 1 + 1) = _ from HR4.out)) (by omega)).trans HR4.out)
          have HL5 := Lib.hid (HL4.out.drew.trans (hch.below w.heap.size HL4.out.drew.size (fun b h => by omega)))
          clear hr hch HG4 HV4 HQ4 HR4 HL4
          have hQ5 := HQ5.out
          have hold := ((rowN_cell hQ5).1 k).trans (natA_get _ k hkN)
          have hfro := (rowN_cell hQ5).2 k
          clear hQ5
          go_wp2_with fail
          refine ⟨⟨(k : Int) - 1, k, rfl, by omega, by omega, by omega, ?_, ?_, ?_, ?_, HL5.out.setCell (p := ⟨w.heap.size + 1 + 1, k, none⟩) (by show w.heap.size ≤ w.heap.size + 1 + 1; omega) _⟩, by simp [intOf]⟩
          · rw [rowN_setCell, if_neg (by show ¬ g8 = w.heap.size + 1 + 1; omega), HG5.out, HX'.out]
          · rw [rowN_setCell, if_neg (by show ¬ g9 = w.heap.size + 1 + 1; omega)]; exact HV5.out
          · rw [rowN_setCell, if_pos rfl, HQ5.out]
            exact congrArg some ((natA_setD _ k _ (by rw [← HD'.out]; exact dgt_lt P64_pos)).trans (by rw [← HD'.out, hiDg_set P64_pos]))
          · rw [rowN_setCell, if_neg (by show ¬ w.heap.size + 1 + 1 + 1 = w.heap.size + 1 + 1; omega)]; exact HR5.out
end Go.Proofs.Ytlmfiggmjpjpiaa
