/- ModularFermat, walked. -/
import Derived.Test.YtlmfiggmjpjpiaaCL
namespace Go.Proofs.Ytlmfiggmjpjpiaa
open Go.RowKit

attribute [local go_sem] Oper.semAt_some

/-- The five primes. -/
def frP (j : Nat) : Nat := match j with | 0 => 2 | 1 => 3 | 2 => 2879 | 3 => 71850239 | _ => 2444789759
theorem frP_pr (j : Nat) : (∀ i, 0 < i → i < frP j → Nat.gcd i (frP j) = 1) ∧ 1 < frP j ∧ frP j ≤ 2444789759 := by
  match j with
  | 0 => exact ⟨pr2, by decide, by decide⟩
  | 1 => exact ⟨pr3, by decide, by decide⟩
  | 2 => exact ⟨pr2879, by decide, by decide⟩
  | 3 => exact ⟨pr71850239, by decide, by decide⟩
  | _ + 4 => exact ⟨pr2444789759, by show 1 < 2444789759; omega, by show 2444789759 ≤ 2444789759; omega⟩

set_option maxRecDepth 100000 in
set_option maxHeartbeats 4000000 in
theorem fer_zero_walk (zs ms : List Nat) (n0 n1 : Nat) (a0 a1 : Option Addr) (c0 c1 : Nat) (k : Nat) (x m p E : Nat) (w : World)
    (h0 : n0 ≤ 24) (h1 : n1 ≤ 24) (hk : k < 256) (hp : frP (k % 5) = p)
    (HBX : Go.RowKit.Hid (BytesAt zs (.slice a0 n0 c0) w))
    (HBM : Go.RowKit.Hid (BytesAt ms (.slice a1 n1 c1) w))
    (HFX : Go.RowKit.Hid (∀ W : World, BytesAt zs (.slice a0 n0 c0) W → Calls Try.prog 11 #[(.slice a0 n0 c0)] W fun e w' => e = .returned (.agg (natA x)) ∧ Below W.heap.size W w'))
    (HFM : Go.RowKit.Hid (∀ W : World, BytesAt ms (.slice a1 n1 c1) W → Calls Try.prog 11 #[(.slice a1 n1 c1)] W fun e w' => e = .returned (.agg (natA m)) ∧ Below W.heap.size W w'))
    (X1 : Go.RowKit.Hid (∀ W : World, Calls Try.prog 23 #[.agg (natA x), .agg (natA p), .agg (natA p)] W fun e w' => e = .returned (.tuple #[.agg (natA E), .int .i64 0]) ∧ Below W.heap.size W w'))
    (RD : Go.RowKit.Hid (∀ W : World, Calls Try.prog 12 #[.agg (natA x), .agg (natA p)] W fun e w' => e = .returned (.tuple #[.agg (natA E), .int .i64 0]) ∧ Below W.heap.size W w'))
    (IZ : Go.RowKit.Hid (∀ W : World, Calls Try.prog 16 #[.agg (natA m)] W fun e w' => e = .returned (.bool true) ∧ Below W.heap.size W w'))
    (NE : natEq E E = true) :
    Calls Try.prog 9 #[.slice a0 n0 c0, .slice a1 n1 c1, .int .u8 (k : Nat)] w fun e w' => e = .returned (.bool true) ∧ Below w.heap.size w w' := by
  have f0 : decide ((24 : Int) < ((n0 : Nat) : Int)) = false := by simp; omega
  have f1 : decide ((24 : Int) < ((n1 : Nat) : Int)) = false := by simp; omega
  subst hp
  go_enter Try.func9, Try.ntmps9
  go_wp2_with fail
  refine (HFX.out _ HBX.out).mono ?_
  rintro e w1 ⟨rfl, hb⟩
  replace HBM := Lib.hid (HBM.out.kept hb)
  have HB := Lib.hid hb
  clear hb
  go_wp2_with fail
  refine (HFM.out _ HBM.out).mono ?_
  rintro e w2 ⟨rfl, hb⟩
  replace HB := Lib.hid (HB.out.trans (hb.mono HB.out.size))
  clear hb
  obtain ⟨hn1, hn2, hb⟩ := two_st0 w2 x m
  replace HB := Lib.hid (HB.out.trans (hb.mono HB.out.size))
  have R_x := Lib.hid hn1
  have R_z := Lib.hid hn2
  clear hb hn1 hn2
  go_upto_region 4 with fail
  obtain ⟨W2, hW⟩ : ∃ W, (((w2.alloc (.cells (natA 0) 28)).alloc (.cells (natA 0) 28)).setRow w2.heap.size (natA x)).setRow (w2.heap.size + 1) (natA m) = W := ⟨_, rfl⟩
  rw [hW] at HB R_x R_z ⊢
  obtain ⟨gx, hb1⟩ : ∃ b, w2.heap.size = b := ⟨_, rfl⟩
  obtain ⟨gz, hb2⟩ : ∃ b, w2.heap.size + 1 = b := ⟨_, rfl⟩
  rw [hb2] at R_z ⊢
  rw [hb1] at R_x ⊢
  clear hW hb1 hb2 w2
  go_cut [9] from 9 to 38 (fun s9 wx => ∃ g : Nat, s9 = .pointer (some ⟨g, 0, none⟩) ∧ rowN wx g = some (natA (frP (k % 5))) ∧ rowN wx gx = some (natA x) ∧ rowN wx gz = some (natA m) ∧ Below w.heap.size w wx)
  case first =>
    have hj5 : k % 5 < 5 := Nat.mod_lt _ (by omega)
    have HKM := Lib.hid (show ((k : Nat) : Int) % 5 = ((k % 5 : Nat) : Int) by omega)
    obtain ⟨j, hj⟩ : ∃ j, k % 5 = j := ⟨_, rfl⟩
    rw [hj] at HKM hj5
    have HJ := Lib.hid hj
    clear hj
    have hcs : j = 0 ∨ j = 1 ∨ j = 2 ∨ j = 3 ∨ j = 4 := by omega
    clear hj5
    rcases hcs with rfl | hcs
    · have hkm : ((k : Nat) : Int) % 5 = 0 := HKM.out
      have HN := Lib.hid (fun W => number_any 2 (by omega) W)
      go_wp2_with fail
      clear hkm
      refine (HN.out _).mono ?_
      rintro e wN ⟨rfl, hb⟩
      have HC1 := Lib.hid (HB.out.trans ((((Below.refl _ _).alloc (Nat.le_refl _) _).trans (hb.mono (by simp))).mono HB.out.size))
      have hB1 := (((Below.refl W2.heap.size W2).alloc (Nat.le_refl _) (.cells #[.int .i64 2, .int .i64 3, .int .i64 2879, .int .i64 71850239, .int .i64 2444789759] 3)).trans (hb.mono (by simp)))
      have hx1 := keptW hB1 R_x.out
      have hz1 := keptW hB1 R_z.out
      clear hb hB1
      have hx2 := Lib.hid (row_st0_other wN 2 _ _ hx1)
      have hz2 := Lib.hid (row_st0_other wN 2 _ _ hz1)
      have hn2 := Lib.hid (row_st0 wN 2)
      have HL2 := Lib.hid (HC1.out.trans ((bel_st0 wN 2).mono HC1.out.size))
      clear hx1 hz1
      go_wp2_with fail
      go_meet
      exact ⟨wN.heap.size, rfl, by rw [HJ.out]; exact hn2.out, hx2.out, hz2.out, HL2.out⟩
    rcases hcs with rfl | hcs
    · have hkm : ((k : Nat) : Int) % 5 = 1 := HKM.out
      have HN := Lib.hid (fun W => number_any 3 (by omega) W)
      go_wp2_with fail
      clear hkm
      refine (HN.out _).mono ?_
      rintro e wN ⟨rfl, hb⟩
      have HC1 := Lib.hid (HB.out.trans ((((Below.refl _ _).alloc (Nat.le_refl _) _).trans (hb.mono (by simp))).mono HB.out.size))
      have hB1 := (((Below.refl W2.heap.size W2).alloc (Nat.le_refl _) (.cells #[.int .i64 2, .int .i64 3, .int .i64 2879, .int .i64 71850239, .int .i64 2444789759] 3)).trans (hb.mono (by simp)))
      have hx1 := keptW hB1 R_x.out
      have hz1 := keptW hB1 R_z.out
      clear hb hB1
      have hx2 := Lib.hid (row_st0_other wN 3 _ _ hx1)
      have hz2 := Lib.hid (row_st0_other wN 3 _ _ hz1)
      have hn2 := Lib.hid (row_st0 wN 3)
      have HL2 := Lib.hid (HC1.out.trans ((bel_st0 wN 3).mono HC1.out.size))
      clear hx1 hz1
      go_wp2_with fail
      go_meet
      exact ⟨wN.heap.size, rfl, by rw [HJ.out]; exact hn2.out, hx2.out, hz2.out, HL2.out⟩
    rcases hcs with rfl | hcs
    · have hkm : ((k : Nat) : Int) % 5 = 2 := HKM.out
      have HN := Lib.hid (fun W => number_any 2879 (by omega) W)
      go_wp2_with fail
      clear hkm
      refine (HN.out _).mono ?_
      rintro e wN ⟨rfl, hb⟩
      have HC1 := Lib.hid (HB.out.trans ((((Below.refl _ _).alloc (Nat.le_refl _) _).trans (hb.mono (by simp))).mono HB.out.size))
      have hB1 := (((Below.refl W2.heap.size W2).alloc (Nat.le_refl _) (.cells #[.int .i64 2, .int .i64 3, .int .i64 2879, .int .i64 71850239, .int .i64 2444789759] 3)).trans (hb.mono (by simp)))
      have hx1 := keptW hB1 R_x.out
      have hz1 := keptW hB1 R_z.out
      clear hb hB1
      have hx2 := Lib.hid (row_st0_other wN 2879 _ _ hx1)
      have hz2 := Lib.hid (row_st0_other wN 2879 _ _ hz1)
      have hn2 := Lib.hid (row_st0 wN 2879)
      have HL2 := Lib.hid (HC1.out.trans ((bel_st0 wN 2879).mono HC1.out.size))
      clear hx1 hz1
      go_wp2_with fail
      go_meet
      exact ⟨wN.heap.size, rfl, by rw [HJ.out]; exact hn2.out, hx2.out, hz2.out, HL2.out⟩
    rcases hcs with rfl | hcs
    · have hkm : ((k : Nat) : Int) % 5 = 3 := HKM.out
      have HN := Lib.hid (fun W => number_any 71850239 (by omega) W)
      go_wp2_with fail
      clear hkm
      refine (HN.out _).mono ?_
      rintro e wN ⟨rfl, hb⟩
      have HC1 := Lib.hid (HB.out.trans ((((Below.refl _ _).alloc (Nat.le_refl _) _).trans (hb.mono (by simp))).mono HB.out.size))
      have hB1 := (((Below.refl W2.heap.size W2).alloc (Nat.le_refl _) (.cells #[.int .i64 2, .int .i64 3, .int .i64 2879, .int .i64 71850239, .int .i64 2444789759] 3)).trans (hb.mono (by simp)))
      have hx1 := keptW hB1 R_x.out
      have hz1 := keptW hB1 R_z.out
      clear hb hB1
      have hx2 := Lib.hid (row_st0_other wN 71850239 _ _ hx1)
      have hz2 := Lib.hid (row_st0_other wN 71850239 _ _ hz1)
      have hn2 := Lib.hid (row_st0 wN 71850239)
      have HL2 := Lib.hid (HC1.out.trans ((bel_st0 wN 71850239).mono HC1.out.size))
      clear hx1 hz1
      go_wp2_with fail
      go_meet
      exact ⟨wN.heap.size, rfl, by rw [HJ.out]; exact hn2.out, hx2.out, hz2.out, HL2.out⟩
    subst hcs
    have hkm : ((k : Nat) : Int) % 5 = 4 := HKM.out
    have HN := Lib.hid (fun W => number_any 2444789759 (by omega) W)
    go_wp2_with fail
    clear hkm
    refine (HN.out _).mono ?_
    rintro e wN ⟨rfl, hb⟩
    have HC1 := Lib.hid (HB.out.trans ((((Below.refl _ _).alloc (Nat.le_refl _) _).trans (hb.mono (by simp))).mono HB.out.size))
    have hB1 := (((Below.refl W2.heap.size W2).alloc (Nat.le_refl _) (.cells #[.int .i64 2, .int .i64 3, .int .i64 2879, .int .i64 71850239, .int .i64 2444789759] 3)).trans (hb.mono (by simp)))
    have hx1 := keptW hB1 R_x.out
    have hz1 := keptW hB1 R_z.out
    clear hb hB1
    have hx2 := Lib.hid (row_st0_other wN 2444789759 _ _ hx1)
    have hz2 := Lib.hid (row_st0_other wN 2444789759 _ _ hz1)
    have hn2 := Lib.hid (row_st0 wN 2444789759)
    have HL2 := Lib.hid (HC1.out.trans ((bel_st0 wN 2444789759).mono HC1.out.size))
    clear hx1 hz1
    go_wp2_with fail
    go_meet
    exact ⟨wN.heap.size, rfl, by rw [HJ.out]; exact hn2.out, hx2.out, hz2.out, HL2.out⟩
  obtain ⟨gp, rfl, hnew, hr_x, hr_z, HL⟩ := hcut
  clear R_x R_z HB
  have HB := Lib.hid HL
  have R_p := Lib.hid hnew
  have R_x := Lib.hid hr_x
  have R_z := Lib.hid hr_z
  clear HL hnew hr_x hr_z
  generalize frP (k % 5) = p at *
  have q_x := R_x.out
  have l_x := rowN_lt q_x
  have q_p := R_p.out
  have l_p := rowN_lt q_p
  go_wp2_with fail
  clear q_x l_x q_p l_p
  refine (X1.out _).mono ?_
  rintro e w3 ⟨rfl, hb⟩
  replace R_x := Lib.hid (keptW hb R_x.out)
  replace R_z := Lib.hid (keptW hb R_z.out)
  replace R_p := Lib.hid (keptW hb R_p.out)
  replace HB := Lib.hid (HB.out.trans (hb.mono HB.out.size))
  clear hb
  have q_x := R_x.out
  have l_x := rowN_lt q_x
  have q_p := R_p.out
  have l_p := rowN_lt q_p
  replace R_x := Lib.hid (row_st0_other w3 E _ _ R_x.out)
  replace R_z := Lib.hid (row_st0_other w3 E _ _ R_z.out)
  replace R_p := Lib.hid (row_st0_other w3 E _ _ R_p.out)
  have R_r := Lib.hid (row_st0 w3 E)
  replace HB := Lib.hid (HB.out.trans ((bel_st0 w3 E).mono HB.out.size))
  go_wp2_with fail
  clear q_x l_x q_p l_p
  obtain ⟨W3, hW⟩ : ∃ W, (w3.alloc (.cells (natA 0) 28)).setRow w3.heap.size (natA E) = W := ⟨_, rfl⟩
  rw [hW] at HB R_x R_z R_p R_r ⊢
  obtain ⟨gr, hbn⟩ : ∃ b, w3.heap.size = b := ⟨_, rfl⟩
  rw [hbn] at R_r ⊢
  clear hW hbn w3
  refine (RD.out _).mono ?_
  rintro e w4 ⟨rfl, hb⟩
  replace R_x := Lib.hid (keptW hb R_x.out)
  replace R_z := Lib.hid (keptW hb R_z.out)
  replace R_p := Lib.hid (keptW hb R_p.out)
  replace R_r := Lib.hid (keptW hb R_r.out)
  replace HB := Lib.hid (HB.out.trans (hb.mono HB.out.size))
  clear hb
  have q_r := R_r.out
  have l_r := rowN_lt q_r
  have q_z := R_z.out
  have l_z := rowN_lt q_z
  replace R_x := Lib.hid (row_st0_other w4 E _ _ R_x.out)
  replace R_z := Lib.hid (row_st0_other w4 E _ _ R_z.out)
  replace R_p := Lib.hid (row_st0_other w4 E _ _ R_p.out)
  replace R_r := Lib.hid (row_st0_other w4 E _ _ R_r.out)
  have R_s := Lib.hid (row_st0 w4 E)
  replace HB := Lib.hid (HB.out.trans ((bel_st0 w4 E).mono HB.out.size))
  go_wp2_with fail
  clear q_r l_r q_z l_z
  obtain ⟨W4, hW⟩ : ∃ W, (w4.alloc (.cells (natA 0) 28)).setRow w4.heap.size (natA E) = W := ⟨_, rfl⟩
  rw [hW] at HB R_x R_z R_p R_r R_s ⊢
  obtain ⟨gs, hbn⟩ : ∃ b, w4.heap.size = b := ⟨_, rfl⟩
  rw [hbn] at R_s ⊢
  clear hW hbn w4
  refine (IZ.out _).mono ?_
  rintro e w5 ⟨rfl, hb⟩
  replace R_x := Lib.hid (keptW hb R_x.out)
  replace R_z := Lib.hid (keptW hb R_z.out)
  replace R_p := Lib.hid (keptW hb R_p.out)
  replace R_r := Lib.hid (keptW hb R_r.out)
  replace R_s := Lib.hid (keptW hb R_s.out)
  replace HB := Lib.hid (HB.out.trans (hb.mono HB.out.size))
  clear hb
  go_wp2_with fail
  refine (known_any _).mono ?_
  rintro e wK ⟨rfl, hb⟩
  have HBK := Lib.hid (HB.out.trans (hb.mono HB.out.size))
  clear hb
  go_wp2_with fail
  go_ret
  exact ⟨rfl, HBK.out⟩

set_option maxRecDepth 100000 in
set_option maxHeartbeats 4000000 in
theorem fer_no_walk (zs ms : List Nat) (n0 n1 : Nat) (a0 a1 : Option Addr) (c0 c1 : Nat) (k : Nat) (x m p E r g : Nat) (w : World)
    (h0 : n0 ≤ 24) (h1 : n1 ≤ 24) (hk : k < 256) (hp : frP (k % 5) = p)
    (HBX : Go.RowKit.Hid (BytesAt zs (.slice a0 n0 c0) w))
    (HBM : Go.RowKit.Hid (BytesAt ms (.slice a1 n1 c1) w))
    (HFX : Go.RowKit.Hid (∀ W : World, BytesAt zs (.slice a0 n0 c0) W → Calls Try.prog 11 #[(.slice a0 n0 c0)] W fun e w' => e = .returned (.agg (natA x)) ∧ Below W.heap.size W w'))
    (HFM : Go.RowKit.Hid (∀ W : World, BytesAt ms (.slice a1 n1 c1) W → Calls Try.prog 11 #[(.slice a1 n1 c1)] W fun e w' => e = .returned (.agg (natA m)) ∧ Below W.heap.size W w'))
    (X1 : Go.RowKit.Hid (∀ W : World, Calls Try.prog 23 #[.agg (natA x), .agg (natA p), .agg (natA p)] W fun e w' => e = .returned (.tuple #[.agg (natA E), .int .i64 0]) ∧ Below W.heap.size W w'))
    (RD : Go.RowKit.Hid (∀ W : World, Calls Try.prog 12 #[.agg (natA x), .agg (natA p)] W fun e w' => e = .returned (.tuple #[.agg (natA E), .int .i64 0]) ∧ Below W.heap.size W w'))
    (IZ : Go.RowKit.Hid (∀ W : World, Calls Try.prog 16 #[.agg (natA m)] W fun e w' => e = .returned (.bool false) ∧ Below W.heap.size W w'))
    (IV : Go.RowKit.Hid (∀ W : World, Calls Try.prog 25 #[.agg (natA x), .agg (natA m)] W fun e w' => e = .returned (.tuple #[.agg (natA r), .int .i64 9]) ∧ Below W.heap.size W w'))
    (GC : Go.RowKit.Hid (∀ W : World, Calls Try.prog 32 #[.agg (natA x), .agg (natA m)] W fun e w' => e = .returned (.agg (natA g)) ∧ Below W.heap.size W w'))
    (N1 : Go.RowKit.Hid (∀ W : World, Calls Try.prog 31 #[.int .i64 1] W fun e w' => e = .returned (.agg (natA 1)) ∧ Below W.heap.size W w'))
    (NE : natEq E E = true) (NG : natEq g 1 = false) :
    Calls Try.prog 9 #[.slice a0 n0 c0, .slice a1 n1 c1, .int .u8 (k : Nat)] w fun e w' => e = .returned (.bool true) ∧ Below w.heap.size w w' := by
  have f0 : decide ((24 : Int) < ((n0 : Nat) : Int)) = false := by simp; omega
  have f1 : decide ((24 : Int) < ((n1 : Nat) : Int)) = false := by simp; omega
  subst hp
  go_enter Try.func9, Try.ntmps9
  go_wp2_with fail
  refine (HFX.out _ HBX.out).mono ?_
  rintro e w1 ⟨rfl, hb⟩
  replace HBM := Lib.hid (HBM.out.kept hb)
  have HB := Lib.hid hb
  clear hb
  go_wp2_with fail
  refine (HFM.out _ HBM.out).mono ?_
  rintro e w2 ⟨rfl, hb⟩
  replace HB := Lib.hid (HB.out.trans (hb.mono HB.out.size))
  clear hb
  obtain ⟨hn1, hn2, hb⟩ := two_st0 w2 x m
  replace HB := Lib.hid (HB.out.trans (hb.mono HB.out.size))
  have R_x := Lib.hid hn1
  have R_z := Lib.hid hn2
  clear hb hn1 hn2
  go_upto_region 4 with fail
  obtain ⟨W2, hW⟩ : ∃ W, (((w2.alloc (.cells (natA 0) 28)).alloc (.cells (natA 0) 28)).setRow w2.heap.size (natA x)).setRow (w2.heap.size + 1) (natA m) = W := ⟨_, rfl⟩
  rw [hW] at HB R_x R_z ⊢
  obtain ⟨gx, hb1⟩ : ∃ b, w2.heap.size = b := ⟨_, rfl⟩
  obtain ⟨gz, hb2⟩ : ∃ b, w2.heap.size + 1 = b := ⟨_, rfl⟩
  rw [hb2] at R_z ⊢
  rw [hb1] at R_x ⊢
  clear hW hb1 hb2 w2
  go_cut [9] from 9 to 38 (fun s9 wx => ∃ g : Nat, s9 = .pointer (some ⟨g, 0, none⟩) ∧ rowN wx g = some (natA (frP (k % 5))) ∧ rowN wx gx = some (natA x) ∧ rowN wx gz = some (natA m) ∧ Below w.heap.size w wx)
  case first =>
    have hj5 : k % 5 < 5 := Nat.mod_lt _ (by omega)
    have HKM := Lib.hid (show ((k : Nat) : Int) % 5 = ((k % 5 : Nat) : Int) by omega)
    obtain ⟨j, hj⟩ : ∃ j, k % 5 = j := ⟨_, rfl⟩
    rw [hj] at HKM hj5
    have HJ := Lib.hid hj
    clear hj
    have hcs : j = 0 ∨ j = 1 ∨ j = 2 ∨ j = 3 ∨ j = 4 := by omega
    clear hj5
    rcases hcs with rfl | hcs
    · have hkm : ((k : Nat) : Int) % 5 = 0 := HKM.out
      have HN := Lib.hid (fun W => number_any 2 (by omega) W)
      go_wp2_with fail
      clear hkm
      refine (HN.out _).mono ?_
      rintro e wN ⟨rfl, hb⟩
      have HC1 := Lib.hid (HB.out.trans ((((Below.refl _ _).alloc (Nat.le_refl _) _).trans (hb.mono (by simp))).mono HB.out.size))
      have hB1 := (((Below.refl W2.heap.size W2).alloc (Nat.le_refl _) (.cells #[.int .i64 2, .int .i64 3, .int .i64 2879, .int .i64 71850239, .int .i64 2444789759] 3)).trans (hb.mono (by simp)))
      have hx1 := keptW hB1 R_x.out
      have hz1 := keptW hB1 R_z.out
      clear hb hB1
      have hx2 := Lib.hid (row_st0_other wN 2 _ _ hx1)
      have hz2 := Lib.hid (row_st0_other wN 2 _ _ hz1)
      have hn2 := Lib.hid (row_st0 wN 2)
      have HL2 := Lib.hid (HC1.out.trans ((bel_st0 wN 2).mono HC1.out.size))
      clear hx1 hz1
      go_wp2_with fail
      go_meet
      exact ⟨wN.heap.size, rfl, by rw [HJ.out]; exact hn2.out, hx2.out, hz2.out, HL2.out⟩
    rcases hcs with rfl | hcs
    · have hkm : ((k : Nat) : Int) % 5 = 1 := HKM.out
      have HN := Lib.hid (fun W => number_any 3 (by omega) W)
      go_wp2_with fail
      clear hkm
      refine (HN.out _).mono ?_
      rintro e wN ⟨rfl, hb⟩
      have HC1 := Lib.hid (HB.out.trans ((((Below.refl _ _).alloc (Nat.le_refl _) _).trans (hb.mono (by simp))).mono HB.out.size))
      have hB1 := (((Below.refl W2.heap.size W2).alloc (Nat.le_refl _) (.cells #[.int .i64 2, .int .i64 3, .int .i64 2879, .int .i64 71850239, .int .i64 2444789759] 3)).trans (hb.mono (by simp)))
      have hx1 := keptW hB1 R_x.out
      have hz1 := keptW hB1 R_z.out
      clear hb hB1
      have hx2 := Lib.hid (row_st0_other wN 3 _ _ hx1)
      have hz2 := Lib.hid (row_st0_other wN 3 _ _ hz1)
      have hn2 := Lib.hid (row_st0 wN 3)
      have HL2 := Lib.hid (HC1.out.trans ((bel_st0 wN 3).mono HC1.out.size))
      clear hx1 hz1
      go_wp2_with fail
      go_meet
      exact ⟨wN.heap.size, rfl, by rw [HJ.out]; exact hn2.out, hx2.out, hz2.out, HL2.out⟩
    rcases hcs with rfl | hcs
    · have hkm : ((k : Nat) : Int) % 5 = 2 := HKM.out
      have HN := Lib.hid (fun W => number_any 2879 (by omega) W)
      go_wp2_with fail
      clear hkm
      refine (HN.out _).mono ?_
      rintro e wN ⟨rfl, hb⟩
      have HC1 := Lib.hid (HB.out.trans ((((Below.refl _ _).alloc (Nat.le_refl _) _).trans (hb.mono (by simp))).mono HB.out.size))
      have hB1 := (((Below.refl W2.heap.size W2).alloc (Nat.le_refl _) (.cells #[.int .i64 2, .int .i64 3, .int .i64 2879, .int .i64 71850239, .int .i64 2444789759] 3)).trans (hb.mono (by simp)))
      have hx1 := keptW hB1 R_x.out
      have hz1 := keptW hB1 R_z.out
      clear hb hB1
      have hx2 := Lib.hid (row_st0_other wN 2879 _ _ hx1)
      have hz2 := Lib.hid (row_st0_other wN 2879 _ _ hz1)
      have hn2 := Lib.hid (row_st0 wN 2879)
      have HL2 := Lib.hid (HC1.out.trans ((bel_st0 wN 2879).mono HC1.out.size))
      clear hx1 hz1
      go_wp2_with fail
      go_meet
      exact ⟨wN.heap.size, rfl, by rw [HJ.out]; exact hn2.out, hx2.out, hz2.out, HL2.out⟩
    rcases hcs with rfl | hcs
    · have hkm : ((k : Nat) : Int) % 5 = 3 := HKM.out
      have HN := Lib.hid (fun W => number_any 71850239 (by omega) W)
      go_wp2_with fail
      clear hkm
      refine (HN.out _).mono ?_
      rintro e wN ⟨rfl, hb⟩
      have HC1 := Lib.hid (HB.out.trans ((((Below.refl _ _).alloc (Nat.le_refl _) _).trans (hb.mono (by simp))).mono HB.out.size))
      have hB1 := (((Below.refl W2.heap.size W2).alloc (Nat.le_refl _) (.cells #[.int .i64 2, .int .i64 3, .int .i64 2879, .int .i64 71850239, .int .i64 2444789759] 3)).trans (hb.mono (by simp)))
      have hx1 := keptW hB1 R_x.out
      have hz1 := keptW hB1 R_z.out
      clear hb hB1
      have hx2 := Lib.hid (row_st0_other wN 71850239 _ _ hx1)
      have hz2 := Lib.hid (row_st0_other wN 71850239 _ _ hz1)
      have hn2 := Lib.hid (row_st0 wN 71850239)
      have HL2 := Lib.hid (HC1.out.trans ((bel_st0 wN 71850239).mono HC1.out.size))
      clear hx1 hz1
      go_wp2_with fail
      go_meet
      exact ⟨wN.heap.size, rfl, by rw [HJ.out]; exact hn2.out, hx2.out, hz2.out, HL2.out⟩
    subst hcs
    have hkm : ((k : Nat) : Int) % 5 = 4 := HKM.out
    have HN := Lib.hid (fun W => number_any 2444789759 (by omega) W)
    go_wp2_with fail
    clear hkm
    refine (HN.out _).mono ?_
    rintro e wN ⟨rfl, hb⟩
    have HC1 := Lib.hid (HB.out.trans ((((Below.refl _ _).alloc (Nat.le_refl _) _).trans (hb.mono (by simp))).mono HB.out.size))
    have hB1 := (((Below.refl W2.heap.size W2).alloc (Nat.le_refl _) (.cells #[.int .i64 2, .int .i64 3, .int .i64 2879, .int .i64 71850239, .int .i64 2444789759] 3)).trans (hb.mono (by simp)))
    have hx1 := keptW hB1 R_x.out
    have hz1 := keptW hB1 R_z.out
    clear hb hB1
    have hx2 := Lib.hid (row_st0_other wN 2444789759 _ _ hx1)
    have hz2 := Lib.hid (row_st0_other wN 2444789759 _ _ hz1)
    have hn2 := Lib.hid (row_st0 wN 2444789759)
    have HL2 := Lib.hid (HC1.out.trans ((bel_st0 wN 2444789759).mono HC1.out.size))
    clear hx1 hz1
    go_wp2_with fail
    go_meet
    exact ⟨wN.heap.size, rfl, by rw [HJ.out]; exact hn2.out, hx2.out, hz2.out, HL2.out⟩
  obtain ⟨gp, rfl, hnew, hr_x, hr_z, HL⟩ := hcut
  clear R_x R_z HB
  have HB := Lib.hid HL
  have R_p := Lib.hid hnew
  have R_x := Lib.hid hr_x
  have R_z := Lib.hid hr_z
  clear HL hnew hr_x hr_z
  generalize frP (k % 5) = p at *
  have q_x := R_x.out
  have l_x := rowN_lt q_x
  have q_p := R_p.out
  have l_p := rowN_lt q_p
  go_wp2_with fail
  clear q_x l_x q_p l_p
  refine (X1.out _).mono ?_
  rintro e w3 ⟨rfl, hb⟩
  replace R_x := Lib.hid (keptW hb R_x.out)
  replace R_z := Lib.hid (keptW hb R_z.out)
  replace R_p := Lib.hid (keptW hb R_p.out)
  replace HB := Lib.hid (HB.out.trans (hb.mono HB.out.size))
  clear hb
  have q_x := R_x.out
  have l_x := rowN_lt q_x
  have q_p := R_p.out
  have l_p := rowN_lt q_p
  replace R_x := Lib.hid (row_st0_other w3 E _ _ R_x.out)
  replace R_z := Lib.hid (row_st0_other w3 E _ _ R_z.out)
  replace R_p := Lib.hid (row_st0_other w3 E _ _ R_p.out)
  have R_r := Lib.hid (row_st0 w3 E)
  replace HB := Lib.hid (HB.out.trans ((bel_st0 w3 E).mono HB.out.size))
  go_wp2_with fail
  clear q_x l_x q_p l_p
  obtain ⟨W3, hW⟩ : ∃ W, (w3.alloc (.cells (natA 0) 28)).setRow w3.heap.size (natA E) = W := ⟨_, rfl⟩
  rw [hW] at HB R_x R_z R_p R_r ⊢
  obtain ⟨gr, hbn⟩ : ∃ b, w3.heap.size = b := ⟨_, rfl⟩
  rw [hbn] at R_r ⊢
  clear hW hbn w3
  refine (RD.out _).mono ?_
  rintro e w4 ⟨rfl, hb⟩
  replace R_x := Lib.hid (keptW hb R_x.out)
  replace R_z := Lib.hid (keptW hb R_z.out)
  replace R_p := Lib.hid (keptW hb R_p.out)
  replace R_r := Lib.hid (keptW hb R_r.out)
  replace HB := Lib.hid (HB.out.trans (hb.mono HB.out.size))
  clear hb
  have q_r := R_r.out
  have l_r := rowN_lt q_r
  have q_z := R_z.out
  have l_z := rowN_lt q_z
  replace R_x := Lib.hid (row_st0_other w4 E _ _ R_x.out)
  replace R_z := Lib.hid (row_st0_other w4 E _ _ R_z.out)
  replace R_p := Lib.hid (row_st0_other w4 E _ _ R_p.out)
  replace R_r := Lib.hid (row_st0_other w4 E _ _ R_r.out)
  have R_s := Lib.hid (row_st0 w4 E)
  replace HB := Lib.hid (HB.out.trans ((bel_st0 w4 E).mono HB.out.size))
  go_wp2_with fail
  clear q_r l_r q_z l_z
  obtain ⟨W4, hW⟩ : ∃ W, (w4.alloc (.cells (natA 0) 28)).setRow w4.heap.size (natA E) = W := ⟨_, rfl⟩
  rw [hW] at HB R_x R_z R_p R_r R_s ⊢
  obtain ⟨gs, hbn⟩ : ∃ b, w4.heap.size = b := ⟨_, rfl⟩
  rw [hbn] at R_s ⊢
  clear hW hbn w4
  refine (IZ.out _).mono ?_
  rintro e w5 ⟨rfl, hb⟩
  replace R_x := Lib.hid (keptW hb R_x.out)
  replace R_z := Lib.hid (keptW hb R_z.out)
  replace R_p := Lib.hid (keptW hb R_p.out)
  replace R_r := Lib.hid (keptW hb R_r.out)
  replace R_s := Lib.hid (keptW hb R_s.out)
  replace HB := Lib.hid (HB.out.trans (hb.mono HB.out.size))
  clear hb
  have q_x := R_x.out
  have l_x := rowN_lt q_x
  have q_z := R_z.out
  have l_z := rowN_lt q_z
  go_wp2_with fail
  clear q_x l_x q_z l_z
  refine (IV.out _).mono ?_
  rintro e w6 ⟨rfl, hb⟩
  replace R_x := Lib.hid (keptW hb R_x.out)
  replace R_z := Lib.hid (keptW hb R_z.out)
  replace R_p := Lib.hid (keptW hb R_p.out)
  replace R_r := Lib.hid (keptW hb R_r.out)
  replace R_s := Lib.hid (keptW hb R_s.out)
  replace HB := Lib.hid (HB.out.trans (hb.mono HB.out.size))
  clear hb
  have q_x := R_x.out
  have l_x := rowN_lt q_x
  have q_z := R_z.out
  have l_z := rowN_lt q_z
  replace R_x := Lib.hid (row_st0_other w6 r _ _ R_x.out)
  replace R_z := Lib.hid (row_st0_other w6 r _ _ R_z.out)
  replace R_p := Lib.hid (row_st0_other w6 r _ _ R_p.out)
  replace R_r := Lib.hid (row_st0_other w6 r _ _ R_r.out)
  replace R_s := Lib.hid (row_st0_other w6 r _ _ R_s.out)
  have R_y := Lib.hid (row_st0 w6 r)
  replace HB := Lib.hid (HB.out.trans ((bel_st0 w6 r).mono HB.out.size))
  go_wp2_with fail
  clear q_x l_x q_z l_z
  obtain ⟨W6, hW⟩ : ∃ W, (w6.alloc (.cells (natA 0) 28)).setRow w6.heap.size (natA r) = W := ⟨_, rfl⟩
  rw [hW] at HB R_x R_z R_p R_r R_s R_y ⊢
  obtain ⟨gy, hbn⟩ : ∃ b, w6.heap.size = b := ⟨_, rfl⟩
  rw [hbn] at R_y ⊢
  clear hW hbn w6
  refine (GC.out _).mono ?_
  rintro e w7 ⟨rfl, hb⟩
  replace R_x := Lib.hid (keptW hb R_x.out)
  replace R_z := Lib.hid (keptW hb R_z.out)
  replace R_p := Lib.hid (keptW hb R_p.out)
  replace R_r := Lib.hid (keptW hb R_r.out)
  replace R_s := Lib.hid (keptW hb R_s.out)
  replace R_y := Lib.hid (keptW hb R_y.out)
  replace HB := Lib.hid (HB.out.trans (hb.mono HB.out.size))
  clear hb
  go_wp2_with fail
  refine (N1.out _).mono ?_
  rintro e w8 ⟨rfl, hb⟩
  replace R_x := Lib.hid (keptW hb R_x.out)
  replace R_z := Lib.hid (keptW hb R_z.out)
  replace R_p := Lib.hid (keptW hb R_p.out)
  replace R_r := Lib.hid (keptW hb R_r.out)
  replace R_s := Lib.hid (keptW hb R_s.out)
  replace R_y := Lib.hid (keptW hb R_y.out)
  replace HB := Lib.hid (HB.out.trans (hb.mono HB.out.size))
  clear hb
  go_wp2_with fail
  refine (known_any _).mono ?_
  rintro e wK ⟨rfl, hb⟩
  have HBK := Lib.hid (HB.out.trans (hb.mono HB.out.size))
  clear hb
  go_wp2_with fail
  go_ret
  exact ⟨rfl, HBK.out⟩

set_option maxRecDepth 100000 in
set_option maxHeartbeats 4000000 in
theorem fer_reg15 {w W : World} {Q : Exit → Act → World → Prop} {s0 s1 s2 s3 s4 s5 s6 s7 s9 s10 s11 s12 s13 s14 s15 s17 s18 s19 s20 s21 s22 s23 s24 s25 s26 s27 s28 s29 s30 s31 s32 s33 s34 s35 s36 s37 s38 s39 s40 s41 s42 s43 s44 s45 s46 s47 s48 s49 s50 s51 s52 s53 s54 s55 s56 s57 s58 s59 s60 s61 s62 s63 s64 s65 s66 s67 s68 s69 s70 s71 s72 s73 s74 s75 s76 s77 s78 s79 s80 s81 s82 s83 s84 s85 s86 s87 s88 s89 s90 s91 s92 s93 s94 s95 s96 s97 s98 s99 s100 s101 s102 s103 s104 s105 s106 s107 s108 s109 s110 s111 s112 : Value} {m O : Nat} {gz gw : Nat}
    (N1 : Go.RowKit.Hid (∀ W : World, Calls Try.prog 31 #[.int .i64 1] W fun e w' => e = .returned (.agg (natA 1)) ∧ Below W.heap.size W w'))
    (RO : Go.RowKit.Hid (∀ W : World, Calls Try.prog 12 #[.agg (natA 1), .agg (natA m)] W fun e w' => e = .returned (.tuple #[.agg (natA O), .int .i64 0]) ∧ Below W.heap.size W w'))
    (R_z : Go.RowKit.Hid (rowN W gz = some (natA m)))
    (R_w : Go.RowKit.Hid (rowN W gw = some (natA O)))
    (HB : Go.RowKit.Hid (Below w.heap.size w W))
    (hQ : ∀ (g : Nat) (u89 u90 u91 u92 u93 u94 : Value) (wx : World), rowN wx g = some (natA O) → rowN wx gz = some (natA m) → rowN wx gw = some (natA O) → Below w.heap.size w wx → Q .normal ⟨#[s0, s1, s2, s3, s4, s5, s6, s7, .pointer (some ⟨gz, 0, none⟩), s9, s10, s11, s12, s13, s14, s15, .pointer (some ⟨gw, 0, none⟩), s17, .pointer (some ⟨g, 0, none⟩), .int .i64 0, s20, s21, s22, s23, s24, s25, s26, s27, s28, s29, s30, s31, s32, s33, s34, s35, s36, s37, s38, s39, s40, s41, s42, s43, s44, s45, s46, s47, s48, s49, s50, s51, s52, s53, s54, s55, s56, s57, s58, s59, s60, s61, s62, s63, s64, s65, s66, s67, s68, s69, s70, s71, s72, s73, s74, s75, s76, s77, s78, s79, s80, s81, s82, s83, s84, s85, s86, s87, s88, u89, u90, u91, u92, u93, u94, s95, s96, s97, s98, s99, s100, s101, s102, s103, s104, s105, s106, s107, s108, s109, s110, s111, s112], []⟩ wx) :
    Code.wp Try.prog (Code.region 15 #[{ dst := some 90, op := Op.call { callee := Callee.value (Operand.func 31), args := #[Operand.const (Value.int IntKind.i64 1)], argTypes := #[3] }, type := 28, pos := "law.go:220", after := #[], guard := none }, { dst := some 91, op := Op.load 28 (Operand.tmp 8), type := 28, pos := "law.go:220", after := #[], guard := none }, { dst := some 92, op := Op.call { callee := Callee.value (Operand.func 12), args := #[Operand.tmp 90, Operand.tmp 91], argTypes := #[28, 28] }, type := 31, pos := "law.go:220", after := #[{ on := 0, ground := Ground.data }, { on := 1, ground := Ground.data }, { on := 0, ground := Ground.chain }], guard := none }, { dst := some 89, op := Op.move (Operand.tmp 92), type := 31, pos := "law.go:220", after := #[{ on := 2, ground := Ground.data }], guard := none }, { dst := some 93, op := Op.extract (Operand.tmp 89) 0, type := 28, pos := "law.go:220", after := #[{ on := 3, ground := Ground.data }], guard := none }, { dst := some 94, op := Op.extract (Operand.tmp 89) 1, type := 30, pos := "law.go:220", after := #[{ on := 3, ground := Ground.data }, { on := 7, ground := Ground.gcOnly Departure.lateStores }], guard := none }, { dst := some 18, op := Op.alloc 28, type := 0, pos := "law.go:220", after := #[], guard := none }, { dst := none, op := Op.store 28 (Operand.tmp 18) (Operand.tmp 93), type := 0, pos := "law.go:220", after := #[{ on := 6, ground := Ground.data }, { on := 4, ground := Ground.data }, { on := 2, ground := Ground.chain }, { on := 0, ground := Ground.phase }, { on := 1, ground := Ground.phase }, { on := 2, ground := Ground.phase }, { on := 3, ground := Ground.phase }, { on := 4, ground := Ground.phase }, { on := 5, ground := Ground.textOnly Departure.lateStores }, { on := 6, ground := Ground.phase }], guard := none }, { dst := some 19, op := Op.assign (Operand.tmp 94), type := 30, pos := "law.go:220", after := #[{ on := 5, ground := Ground.data }, { on := 7, ground := Ground.chain }, { on := 0, ground := Ground.phase }, { on := 1, ground := Ground.phase }, { on := 2, ground := Ground.phase }, { on := 3, ground := Ground.phase }, { on := 4, ground := Ground.phase }, { on := 5, ground := Ground.phase }, { on := 6, ground := Ground.phase }, { on := 7, ground := Ground.phase }], guard := none }] true) Q ⟨#[s0, s1, s2, s3, s4, s5, s6, s7, .pointer (some ⟨gz, 0, none⟩), s9, s10, s11, s12, s13, s14, s15, .pointer (some ⟨gw, 0, none⟩), s17, s18, s19, s20, s21, s22, s23, s24, s25, s26, s27, s28, s29, s30, s31, s32, s33, s34, s35, s36, s37, s38, s39, s40, s41, s42, s43, s44, s45, s46, s47, s48, s49, s50, s51, s52, s53, s54, s55, s56, s57, s58, s59, s60, s61, s62, s63, s64, s65, s66, s67, s68, s69, s70, s71, s72, s73, s74, s75, s76, s77, s78, s79, s80, s81, s82, s83, s84, s85, s86, s87, s88, s89, s90, s91, s92, s93, s94, s95, s96, s97, s98, s99, s100, s101, s102, s103, s104, s105, s106, s107, s108, s109, s110, s111, s112], []⟩ W := by
  have HQ := Lib.hid hQ
  clear hQ
  have Hz_0 := Lib.hid (show rowN W.drew gz = some (natA m) from R_z.out)
  have Hw_0 := Lib.hid (show rowN W.drew gw = some (natA O) from R_w.out)
  have HL_0 := Lib.hid (show Below w.heap.size w W.drew from HB.out.drew)
  clear HB R_z R_w
  refine wp_region_noPanic ?_
  refine wp_region_held_drew (S := fun W => rowN W gz = some (natA m)) (by kernel_rfl) Hz_0.out (fun hHeld0 => ?_)
  obtain ⟨x0, hx0⟩ : ∃ X, W.drew = X := ⟨_, rfl⟩
  rw [hx0] at Hz_0 Hw_0 HL_0 hHeld0 ⊢
  clear hx0
  refine wpAnyH_take (i := 1) (oi := { dst := some 91, op := Op.load 28 (Operand.tmp 8), type := 28, pos := "law.go:220", after := #[], guard := none }) (v := .agg (natA m)) rfl (by kernel_rfl) (by kernel_rfl) (by kernel_rfl) (fun _ _ _ h => h) (Or.inl ⟨by rfl, fun W hW => ?_⟩) hHeld0 ?_
  · (have hW1 := hW; clear hW; go_simp)
  try simp only [Act.put, List.setIfInBounds_toArray, List.set_cons_zero, List.set_cons_succ]
  refine wpAnyH_ready (rs := [0, 6]) (by kernel_rfl) (by simp) ?_
  refine AllReadyH.cons (o := { dst := some 90, op := Op.call { callee := Callee.value (Operand.func 31), args := #[Operand.const (Value.int IntKind.i64 1)], argTypes := #[3] }, type := 28, pos := "law.go:220", after := #[], guard := none }) rfl (fun K' hK => ?_) ?_
  · go_simp
    refine (N1.out _).mono ?_
    rintro e x1 ⟨rfl, hb⟩
    have Hz_1 := Lib.hid (keptW hb Hz_0.out)
    have Hw_1 := Lib.hid (keptW hb Hw_0.out)
    have HL_1 := Lib.hid (HL_0.out.trans (hb.mono HL_0.out.size))
    clear hb
    refine hK.out _ _ Hz_1.out (fun hHeld1 => ?_)
    clear hK K'
    try simp only [Act.put, List.setIfInBounds_toArray, List.set_cons_zero, List.set_cons_succ]
    refine wpAnyH_ready (rs := [2, 6]) (by kernel_rfl) (by simp) ?_
    refine AllReadyH.cons (o := { dst := some 92, op := Op.call { callee := Callee.value (Operand.func 12), args := #[Operand.tmp 90, Operand.tmp 91], argTypes := #[28, 28] }, type := 31, pos := "law.go:220", after := #[{ on := 0, ground := Ground.data }, { on := 1, ground := Ground.data }, { on := 0, ground := Ground.chain }], guard := none }) rfl (fun K' hK => ?_) ?_
    · go_simp
      refine (RO.out _).mono ?_
      rintro e x2 ⟨rfl, hb⟩
      have Hz_2 := Lib.hid (keptW hb Hz_1.out)
      have Hw_2 := Lib.hid (keptW hb Hw_1.out)
      have HL_2 := Lib.hid (HL_1.out.trans (hb.mono HL_1.out.size))
      clear hb
      refine hK.out _ _ Hz_2.out (fun hHeld2 => ?_)
      clear hK K'
      try simp only [Act.put, List.setIfInBounds_toArray, List.set_cons_zero, List.set_cons_succ]
      refine wpAnyH_take (i := 3) (oi := { dst := some 89, op := Op.move (Operand.tmp 92), type := 31, pos := "law.go:220", after := #[{ on := 2, ground := Ground.data }], guard := none }) (v := ?tk0) rfl (by kernel_rfl) (by kernel_rfl) (by kernel_rfl) (fun _ _ _ h => h) (Or.inl ⟨by rfl, ?tw0⟩) hHeld2 ?_
      case tw0 => (intro W hW; clear hW; first | (go_simp; done) | (go_simp; with_reducible rfl))
      try simp only [Act.put, List.setIfInBounds_toArray, List.set_cons_zero, List.set_cons_succ]
      refine wpAnyH_take (i := 4) (oi := { dst := some 93, op := Op.extract (Operand.tmp 89) 0, type := 28, pos := "law.go:220", after := #[{ on := 3, ground := Ground.data }], guard := none }) (v := ?tk1) rfl (by kernel_rfl) (by kernel_rfl) (by kernel_rfl) (fun _ _ _ h => h) (Or.inl ⟨by rfl, ?tw1⟩) hHeld2 ?_
      case tw1 => (intro W hW; clear hW; first | (go_simp; done) | (go_simp; with_reducible rfl))
      try simp only [Act.put, List.setIfInBounds_toArray, List.set_cons_zero, List.set_cons_succ]
      refine wpAnyH_take (i := 5) (oi := { dst := some 94, op := Op.extract (Operand.tmp 89) 1, type := 30, pos := "law.go:220", after := #[{ on := 3, ground := Ground.data }, { on := 7, ground := Ground.gcOnly Departure.lateStores }], guard := none }) (v := ?tk2) rfl (by kernel_rfl) (by kernel_rfl) (by kernel_rfl) (fun _ _ _ h => h) (Or.inl ⟨by rfl, ?tw2⟩) hHeld2 ?_
      case tw2 => (intro W hW; clear hW; first | (go_simp; done) | (go_simp; with_reducible rfl))
      try simp only [Act.put, List.setIfInBounds_toArray, List.set_cons_zero, List.set_cons_succ]
      refine wpAnyH_ready (rs := [6]) (by kernel_rfl) (by simp) ?_
      refine AllReadyH.cons (o := { dst := some 18, op := Op.alloc 28, type := 0, pos := "law.go:220", after := #[], guard := none }) rfl (fun K' hK => ?_) AllReadyH.nil
      go_simp
      obtain ⟨x3, hx3⟩ : ∃ X, x2.alloc (.cells (natA 0) 28) = X := ⟨_, rfl⟩
      have hb : Below x2.heap.size x2 x3 := by rw [← hx3]; exact (Below.refl _ _).alloc (Nat.le_refl _) _
      have Hz_3 := Lib.hid (keptW hb Hz_2.out)
      have Hw_3 := Lib.hid (keptW hb Hw_2.out)
      have HL_3 := Lib.hid (HL_2.out.trans (hb.mono HL_2.out.size))
      have hnew : rowN x3 x2.heap.size = some (natA 0) := by rw [← hx3, rowN_alloc, if_pos rfl]
      have hge : w.heap.size ≤ x2.heap.size := HL_2.out.size
      have hlz := rowN_lt Hz_2.out
      have hlw := rowN_lt Hw_2.out
      rw [hx3]
      obtain ⟨gnew, hgnew⟩ : ∃ g, x2.heap.size = g := ⟨_, rfl⟩
      rw [hgnew] at hnew hge hlz hlw ⊢
      have Hnew_3 := Lib.hid hnew
      clear hb hnew hgnew hx3
      refine hK.out _ _ Hz_3.out (fun hHeld3 => ?_)
      clear hK K'
      try simp only [Act.put, List.setIfInBounds_toArray, List.set_cons_zero, List.set_cons_succ]
      refine wpAnyH_ready (rs := [7]) (by kernel_rfl) (by simp) ?_
      refine AllReadyH.cons (o := { dst := none, op := Op.store 28 (Operand.tmp 18) (Operand.tmp 93), type := 0, pos := "law.go:220", after := #[{ on := 6, ground := Ground.data }, { on := 4, ground := Ground.data }, { on := 2, ground := Ground.chain }, { on := 0, ground := Ground.phase }, { on := 1, ground := Ground.phase }, { on := 2, ground := Ground.phase }, { on := 3, ground := Ground.phase }, { on := 4, ground := Ground.phase }, { on := 5, ground := Ground.textOnly Departure.lateStores }, { on := 6, ground := Ground.phase }], guard := none }) rfl (fun K' hK => ?_) AllReadyH.nil
      have hrow := Hnew_3.out
      go_simp
      obtain ⟨x4, hx4⟩ : ∃ X, x3.setRow gnew (natA O) = X := ⟨_, rfl⟩
      rw [hx4]
      have Hz_4 := Lib.hid (show rowN x4 gz = some (natA m) by rw [← hx4, rowN_setRow, if_neg (by omega)]; exact Hz_3.out)
      have Hw_4 := Lib.hid (show rowN x4 gw = some (natA O) by rw [← hx4, rowN_setRow, if_neg (by omega)]; exact Hw_3.out)
      have Hnew_4 := Lib.hid (show rowN x4 gnew = some (natA O) by rw [← hx4, rowN_setRow, if_pos rfl, hrow]; rfl)
      have hbl : Below w.heap.size w x4 := by rw [← hx4]; exact below_setRow' HL_3.out hge _
      have HL_4 := Lib.hid hbl
      clear hrow hbl hx4
      refine hK.out _ _ Hz_4.out (fun hHeld4 => ?_)
      clear hK K'
      try simp only [Act.put, List.setIfInBounds_toArray, List.set_cons_zero, List.set_cons_succ]
      refine wpAnyH_take (i := 8) (oi := { dst := some 19, op := Op.assign (Operand.tmp 94), type := 30, pos := "law.go:220", after := #[{ on := 5, ground := Ground.data }, { on := 7, ground := Ground.chain }, { on := 0, ground := Ground.phase }, { on := 1, ground := Ground.phase }, { on := 2, ground := Ground.phase }, { on := 3, ground := Ground.phase }, { on := 4, ground := Ground.phase }, { on := 5, ground := Ground.phase }, { on := 6, ground := Ground.phase }, { on := 7, ground := Ground.phase }], guard := none }) (v := ?tk3) rfl (by kernel_rfl) (by kernel_rfl) (by kernel_rfl) (fun _ _ _ h => h) (Or.inl ⟨by rfl, ?tw3⟩) hHeld4 ?_
      case tw3 => (intro W hW; clear hW; first | (go_simp; done) | (go_simp; with_reducible rfl))
      try simp only [Act.put, List.setIfInBounds_toArray, List.set_cons_zero, List.set_cons_succ]
      refine wpAnyH_done (by kernel_rfl) ?_ _
      refine NoPanic.normal ?_
      exact HQ.out gnew _ _ _ _ _ _ _ Hnew_4.out Hz_4.out Hw_4.out HL_4.out
    refine AllReadyH.cons (o := { dst := some 18, op := Op.alloc 28, type := 0, pos := "law.go:220", after := #[], guard := none }) rfl (fun K' hK => ?_) AllReadyH.nil
    go_simp
    obtain ⟨x2, hx2⟩ : ∃ X, x1.alloc (.cells (natA 0) 28) = X := ⟨_, rfl⟩
    have hb : Below x1.heap.size x1 x2 := by rw [← hx2]; exact (Below.refl _ _).alloc (Nat.le_refl _) _
    have Hz_2 := Lib.hid (keptW hb Hz_1.out)
    have Hw_2 := Lib.hid (keptW hb Hw_1.out)
    have HL_2 := Lib.hid (HL_1.out.trans (hb.mono HL_1.out.size))
    have hnew : rowN x2 x1.heap.size = some (natA 0) := by rw [← hx2, rowN_alloc, if_pos rfl]
    have hge : w.heap.size ≤ x1.heap.size := HL_1.out.size
    have hlz := rowN_lt Hz_1.out
    have hlw := rowN_lt Hw_1.out
    rw [hx2]
    obtain ⟨gnew, hgnew⟩ : ∃ g, x1.heap.size = g := ⟨_, rfl⟩
    rw [hgnew] at hnew hge hlz hlw ⊢
    have Hnew_2 := Lib.hid hnew
    clear hb hnew hgnew hx2
    refine hK.out _ _ Hz_2.out (fun hHeld2 => ?_)
    clear hK K'
    try simp only [Act.put, List.setIfInBounds_toArray, List.set_cons_zero, List.set_cons_succ]
    refine wpAnyH_ready (rs := [2]) (by kernel_rfl) (by simp) ?_
    refine AllReadyH.cons (o := { dst := some 92, op := Op.call { callee := Callee.value (Operand.func 12), args := #[Operand.tmp 90, Operand.tmp 91], argTypes := #[28, 28] }, type := 31, pos := "law.go:220", after := #[{ on := 0, ground := Ground.data }, { on := 1, ground := Ground.data }, { on := 0, ground := Ground.chain }], guard := none }) rfl (fun K' hK => ?_) AllReadyH.nil
    go_simp
    refine (RO.out _).mono ?_
    rintro e x3 ⟨rfl, hb⟩
    have Hz_3 := Lib.hid (keptW hb Hz_2.out)
    have Hw_3 := Lib.hid (keptW hb Hw_2.out)
    have Hnew_3 := Lib.hid (keptW hb Hnew_2.out)
    have HL_3 := Lib.hid (HL_2.out.trans (hb.mono HL_2.out.size))
    clear hb
    refine hK.out _ _ Hz_3.out (fun hHeld3 => ?_)
    clear hK K'
    try simp only [Act.put, List.setIfInBounds_toArray, List.set_cons_zero, List.set_cons_succ]
    refine wpAnyH_take (i := 3) (oi := { dst := some 89, op := Op.move (Operand.tmp 92), type := 31, pos := "law.go:220", after := #[{ on := 2, ground := Ground.data }], guard := none }) (v := ?tk4) rfl (by kernel_rfl) (by kernel_rfl) (by kernel_rfl) (fun _ _ _ h => h) (Or.inl ⟨by rfl, ?tw4⟩) hHeld3 ?_
    case tw4 => (intro W hW; clear hW; first | (go_simp; done) | (go_simp; with_reducible rfl))
    try simp only [Act.put, List.setIfInBounds_toArray, List.set_cons_zero, List.set_cons_succ]
    refine wpAnyH_take (i := 4) (oi := { dst := some 93, op := Op.extract (Operand.tmp 89) 0, type := 28, pos := "law.go:220", after := #[{ on := 3, ground := Ground.data }], guard := none }) (v := ?tk5) rfl (by kernel_rfl) (by kernel_rfl) (by kernel_rfl) (fun _ _ _ h => h) (Or.inl ⟨by rfl, ?tw5⟩) hHeld3 ?_
    case tw5 => (intro W hW; clear hW; first | (go_simp; done) | (go_simp; with_reducible rfl))
    try simp only [Act.put, List.setIfInBounds_toArray, List.set_cons_zero, List.set_cons_succ]
    refine wpAnyH_take (i := 5) (oi := { dst := some 94, op := Op.extract (Operand.tmp 89) 1, type := 30, pos := "law.go:220", after := #[{ on := 3, ground := Ground.data }, { on := 7, ground := Ground.gcOnly Departure.lateStores }], guard := none }) (v := ?tk6) rfl (by kernel_rfl) (by kernel_rfl) (by kernel_rfl) (fun _ _ _ h => h) (Or.inl ⟨by rfl, ?tw6⟩) hHeld3 ?_
    case tw6 => (intro W hW; clear hW; first | (go_simp; done) | (go_simp; with_reducible rfl))
    try simp only [Act.put, List.setIfInBounds_toArray, List.set_cons_zero, List.set_cons_succ]
    refine wpAnyH_ready (rs := [7]) (by kernel_rfl) (by simp) ?_
    refine AllReadyH.cons (o := { dst := none, op := Op.store 28 (Operand.tmp 18) (Operand.tmp 93), type := 0, pos := "law.go:220", after := #[{ on := 6, ground := Ground.data }, { on := 4, ground := Ground.data }, { on := 2, ground := Ground.chain }, { on := 0, ground := Ground.phase }, { on := 1, ground := Ground.phase }, { on := 2, ground := Ground.phase }, { on := 3, ground := Ground.phase }, { on := 4, ground := Ground.phase }, { on := 5, ground := Ground.textOnly Departure.lateStores }, { on := 6, ground := Ground.phase }], guard := none }) rfl (fun K' hK => ?_) AllReadyH.nil
    have hrow := Hnew_3.out
    go_simp
    obtain ⟨x4, hx4⟩ : ∃ X, x3.setRow gnew (natA O) = X := ⟨_, rfl⟩
    rw [hx4]
    have Hz_4 := Lib.hid (show rowN x4 gz = some (natA m) by rw [← hx4, rowN_setRow, if_neg (by omega)]; exact Hz_3.out)
    have Hw_4 := Lib.hid (show rowN x4 gw = some (natA O) by rw [← hx4, rowN_setRow, if_neg (by omega)]; exact Hw_3.out)
    have Hnew_4 := Lib.hid (show rowN x4 gnew = some (natA O) by rw [← hx4, rowN_setRow, if_pos rfl, hrow]; rfl)
    have hbl : Below w.heap.size w x4 := by rw [← hx4]; exact below_setRow' HL_3.out hge _
    have HL_4 := Lib.hid hbl
    clear hrow hbl hx4
    refine hK.out _ _ Hz_4.out (fun hHeld4 => ?_)
    clear hK K'
    try simp only [Act.put, List.setIfInBounds_toArray, List.set_cons_zero, List.set_cons_succ]
    refine wpAnyH_take (i := 8) (oi := { dst := some 19, op := Op.assign (Operand.tmp 94), type := 30, pos := "law.go:220", after := #[{ on := 5, ground := Ground.data }, { on := 7, ground := Ground.chain }, { on := 0, ground := Ground.phase }, { on := 1, ground := Ground.phase }, { on := 2, ground := Ground.phase }, { on := 3, ground := Ground.phase }, { on := 4, ground := Ground.phase }, { on := 5, ground := Ground.phase }, { on := 6, ground := Ground.phase }, { on := 7, ground := Ground.phase }], guard := none }) (v := ?tk7) rfl (by kernel_rfl) (by kernel_rfl) (by kernel_rfl) (fun _ _ _ h => h) (Or.inl ⟨by rfl, ?tw7⟩) hHeld4 ?_
    case tw7 => (intro W hW; clear hW; first | (go_simp; done) | (go_simp; with_reducible rfl))
    try simp only [Act.put, List.setIfInBounds_toArray, List.set_cons_zero, List.set_cons_succ]
    refine wpAnyH_done (by kernel_rfl) ?_ _
    refine NoPanic.normal ?_
    exact HQ.out gnew _ _ _ _ _ _ _ Hnew_4.out Hz_4.out Hw_4.out HL_4.out
  refine AllReadyH.cons (o := { dst := some 18, op := Op.alloc 28, type := 0, pos := "law.go:220", after := #[], guard := none }) rfl (fun K' hK => ?_) AllReadyH.nil
  go_simp
  obtain ⟨x1, hx1⟩ : ∃ X, x0.alloc (.cells (natA 0) 28) = X := ⟨_, rfl⟩
  have hb : Below x0.heap.size x0 x1 := by rw [← hx1]; exact (Below.refl _ _).alloc (Nat.le_refl _) _
  have Hz_1 := Lib.hid (keptW hb Hz_0.out)
  have Hw_1 := Lib.hid (keptW hb Hw_0.out)
  have HL_1 := Lib.hid (HL_0.out.trans (hb.mono HL_0.out.size))
  have hnew : rowN x1 x0.heap.size = some (natA 0) := by rw [← hx1, rowN_alloc, if_pos rfl]
  have hge : w.heap.size ≤ x0.heap.size := HL_0.out.size
  have hlz := rowN_lt Hz_0.out
  have hlw := rowN_lt Hw_0.out
  rw [hx1]
  obtain ⟨gnew, hgnew⟩ : ∃ g, x0.heap.size = g := ⟨_, rfl⟩
  rw [hgnew] at hnew hge hlz hlw ⊢
  have Hnew_1 := Lib.hid hnew
  clear hb hnew hgnew hx1
  refine hK.out _ _ Hz_1.out (fun hHeld1 => ?_)
  clear hK K'
  try simp only [Act.put, List.setIfInBounds_toArray, List.set_cons_zero, List.set_cons_succ]
  refine wpAnyH_ready (rs := [0]) (by kernel_rfl) (by simp) ?_
  refine AllReadyH.cons (o := { dst := some 90, op := Op.call { callee := Callee.value (Operand.func 31), args := #[Operand.const (Value.int IntKind.i64 1)], argTypes := #[3] }, type := 28, pos := "law.go:220", after := #[], guard := none }) rfl (fun K' hK => ?_) AllReadyH.nil
  go_simp
  refine (N1.out _).mono ?_
  rintro e x2 ⟨rfl, hb⟩
  have Hz_2 := Lib.hid (keptW hb Hz_1.out)
  have Hw_2 := Lib.hid (keptW hb Hw_1.out)
  have Hnew_2 := Lib.hid (keptW hb Hnew_1.out)
  have HL_2 := Lib.hid (HL_1.out.trans (hb.mono HL_1.out.size))
  clear hb
  refine hK.out _ _ Hz_2.out (fun hHeld2 => ?_)
  clear hK K'
  try simp only [Act.put, List.setIfInBounds_toArray, List.set_cons_zero, List.set_cons_succ]
  refine wpAnyH_ready (rs := [2]) (by kernel_rfl) (by simp) ?_
  refine AllReadyH.cons (o := { dst := some 92, op := Op.call { callee := Callee.value (Operand.func 12), args := #[Operand.tmp 90, Operand.tmp 91], argTypes := #[28, 28] }, type := 31, pos := "law.go:220", after := #[{ on := 0, ground := Ground.data }, { on := 1, ground := Ground.data }, { on := 0, ground := Ground.chain }], guard := none }) rfl (fun K' hK => ?_) AllReadyH.nil
  go_simp
  refine (RO.out _).mono ?_
  rintro e x3 ⟨rfl, hb⟩
  have Hz_3 := Lib.hid (keptW hb Hz_2.out)
  have Hw_3 := Lib.hid (keptW hb Hw_2.out)
  have Hnew_3 := Lib.hid (keptW hb Hnew_2.out)
  have HL_3 := Lib.hid (HL_2.out.trans (hb.mono HL_2.out.size))
  clear hb
  refine hK.out _ _ Hz_3.out (fun hHeld3 => ?_)
  clear hK K'
  try simp only [Act.put, List.setIfInBounds_toArray, List.set_cons_zero, List.set_cons_succ]
  refine wpAnyH_take (i := 3) (oi := { dst := some 89, op := Op.move (Operand.tmp 92), type := 31, pos := "law.go:220", after := #[{ on := 2, ground := Ground.data }], guard := none }) (v := ?tk8) rfl (by kernel_rfl) (by kernel_rfl) (by kernel_rfl) (fun _ _ _ h => h) (Or.inl ⟨by rfl, ?tw8⟩) hHeld3 ?_
  case tw8 => (intro W hW; clear hW; first | (go_simp; done) | (go_simp; with_reducible rfl))
  try simp only [Act.put, List.setIfInBounds_toArray, List.set_cons_zero, List.set_cons_succ]
  refine wpAnyH_take (i := 4) (oi := { dst := some 93, op := Op.extract (Operand.tmp 89) 0, type := 28, pos := "law.go:220", after := #[{ on := 3, ground := Ground.data }], guard := none }) (v := ?tk9) rfl (by kernel_rfl) (by kernel_rfl) (by kernel_rfl) (fun _ _ _ h => h) (Or.inl ⟨by rfl, ?tw9⟩) hHeld3 ?_
  case tw9 => (intro W hW; clear hW; first | (go_simp; done) | (go_simp; with_reducible rfl))
  try simp only [Act.put, List.setIfInBounds_toArray, List.set_cons_zero, List.set_cons_succ]
  refine wpAnyH_take (i := 5) (oi := { dst := some 94, op := Op.extract (Operand.tmp 89) 1, type := 30, pos := "law.go:220", after := #[{ on := 3, ground := Ground.data }, { on := 7, ground := Ground.gcOnly Departure.lateStores }], guard := none }) (v := ?tk10) rfl (by kernel_rfl) (by kernel_rfl) (by kernel_rfl) (fun _ _ _ h => h) (Or.inl ⟨by rfl, ?tw10⟩) hHeld3 ?_
  case tw10 => (intro W hW; clear hW; first | (go_simp; done) | (go_simp; with_reducible rfl))
  try simp only [Act.put, List.setIfInBounds_toArray, List.set_cons_zero, List.set_cons_succ]
  refine wpAnyH_ready (rs := [7]) (by kernel_rfl) (by simp) ?_
  refine AllReadyH.cons (o := { dst := none, op := Op.store 28 (Operand.tmp 18) (Operand.tmp 93), type := 0, pos := "law.go:220", after := #[{ on := 6, ground := Ground.data }, { on := 4, ground := Ground.data }, { on := 2, ground := Ground.chain }, { on := 0, ground := Ground.phase }, { on := 1, ground := Ground.phase }, { on := 2, ground := Ground.phase }, { on := 3, ground := Ground.phase }, { on := 4, ground := Ground.phase }, { on := 5, ground := Ground.textOnly Departure.lateStores }, { on := 6, ground := Ground.phase }], guard := none }) rfl (fun K' hK => ?_) AllReadyH.nil
  have hrow := Hnew_3.out
  go_simp
  obtain ⟨x4, hx4⟩ : ∃ X, x3.setRow gnew (natA O) = X := ⟨_, rfl⟩
  rw [hx4]
  have Hz_4 := Lib.hid (show rowN x4 gz = some (natA m) by rw [← hx4, rowN_setRow, if_neg (by omega)]; exact Hz_3.out)
  have Hw_4 := Lib.hid (show rowN x4 gw = some (natA O) by rw [← hx4, rowN_setRow, if_neg (by omega)]; exact Hw_3.out)
  have Hnew_4 := Lib.hid (show rowN x4 gnew = some (natA O) by rw [← hx4, rowN_setRow, if_pos rfl, hrow]; rfl)
  have hbl : Below w.heap.size w x4 := by rw [← hx4]; exact below_setRow' HL_3.out hge _
  have HL_4 := Lib.hid hbl
  clear hrow hbl hx4
  refine hK.out _ _ Hz_4.out (fun hHeld4 => ?_)
  clear hK K'
  try simp only [Act.put, List.setIfInBounds_toArray, List.set_cons_zero, List.set_cons_succ]
  refine wpAnyH_take (i := 8) (oi := { dst := some 19, op := Op.assign (Operand.tmp 94), type := 30, pos := "law.go:220", after := #[{ on := 5, ground := Ground.data }, { on := 7, ground := Ground.chain }, { on := 0, ground := Ground.phase }, { on := 1, ground := Ground.phase }, { on := 2, ground := Ground.phase }, { on := 3, ground := Ground.phase }, { on := 4, ground := Ground.phase }, { on := 5, ground := Ground.phase }, { on := 6, ground := Ground.phase }, { on := 7, ground := Ground.phase }], guard := none }) (v := ?tk11) rfl (by kernel_rfl) (by kernel_rfl) (by kernel_rfl) (fun _ _ _ h => h) (Or.inl ⟨by rfl, ?tw11⟩) hHeld4 ?_
  case tw11 => (intro W hW; clear hW; first | (go_simp; done) | (go_simp; with_reducible rfl))
  try simp only [Act.put, List.setIfInBounds_toArray, List.set_cons_zero, List.set_cons_succ]
  refine wpAnyH_done (by kernel_rfl) ?_ _
  refine NoPanic.normal ?_
  exact HQ.out gnew _ _ _ _ _ _ _ Hnew_4.out Hz_4.out Hw_4.out HL_4.out

set_option maxRecDepth 100000 in
set_option maxHeartbeats 4000000 in
theorem fer_is_walk (zs ms : List Nat) (n0 n1 : Nat) (a0 a1 : Option Addr) (c0 c1 : Nat) (k : Nat) (x m p E r g O : Nat) (w : World)
    (h0 : n0 ≤ 24) (h1 : n1 ≤ 24) (hk : k < 256) (hp : frP (k % 5) = p)
    (HBX : Go.RowKit.Hid (BytesAt zs (.slice a0 n0 c0) w))
    (HBM : Go.RowKit.Hid (BytesAt ms (.slice a1 n1 c1) w))
    (HFX : Go.RowKit.Hid (∀ W : World, BytesAt zs (.slice a0 n0 c0) W → Calls Try.prog 11 #[(.slice a0 n0 c0)] W fun e w' => e = .returned (.agg (natA x)) ∧ Below W.heap.size W w'))
    (HFM : Go.RowKit.Hid (∀ W : World, BytesAt ms (.slice a1 n1 c1) W → Calls Try.prog 11 #[(.slice a1 n1 c1)] W fun e w' => e = .returned (.agg (natA m)) ∧ Below W.heap.size W w'))
    (X1 : Go.RowKit.Hid (∀ W : World, Calls Try.prog 23 #[.agg (natA x), .agg (natA p), .agg (natA p)] W fun e w' => e = .returned (.tuple #[.agg (natA E), .int .i64 0]) ∧ Below W.heap.size W w'))
    (RD : Go.RowKit.Hid (∀ W : World, Calls Try.prog 12 #[.agg (natA x), .agg (natA p)] W fun e w' => e = .returned (.tuple #[.agg (natA E), .int .i64 0]) ∧ Below W.heap.size W w'))
    (IZ : Go.RowKit.Hid (∀ W : World, Calls Try.prog 16 #[.agg (natA m)] W fun e w' => e = .returned (.bool false) ∧ Below W.heap.size W w'))
    (IV : Go.RowKit.Hid (∀ W : World, Calls Try.prog 25 #[.agg (natA x), .agg (natA m)] W fun e w' => e = .returned (.tuple #[.agg (natA r), .int .i64 0]) ∧ Below W.heap.size W w'))
    (GC : Go.RowKit.Hid (∀ W : World, Calls Try.prog 32 #[.agg (natA x), .agg (natA m)] W fun e w' => e = .returned (.agg (natA g)) ∧ Below W.heap.size W w'))
    (N1 : Go.RowKit.Hid (∀ W : World, Calls Try.prog 31 #[.int .i64 1] W fun e w' => e = .returned (.agg (natA 1)) ∧ Below W.heap.size W w'))
    (M1 : Go.RowKit.Hid (∀ W : World, Calls Try.prog 21 #[.agg (natA x), .agg (natA r), .agg (natA m)] W fun e w' => e = .returned (.tuple #[.agg (natA O), .int .i64 0]) ∧ Below W.heap.size W w'))
    (RO : Go.RowKit.Hid (∀ W : World, Calls Try.prog 12 #[.agg (natA 1), .agg (natA m)] W fun e w' => e = .returned (.tuple #[.agg (natA O), .int .i64 0]) ∧ Below W.heap.size W w'))
    (NE : natEq E E = true) (NG : natEq g 1 = true) (NO : natEq O O = true) :
    Calls Try.prog 9 #[.slice a0 n0 c0, .slice a1 n1 c1, .int .u8 (k : Nat)] w fun e w' => e = .returned (.bool true) ∧ Below w.heap.size w w' := by
  have f0 : decide ((24 : Int) < ((n0 : Nat) : Int)) = false := by simp; omega
  have f1 : decide ((24 : Int) < ((n1 : Nat) : Int)) = false := by simp; omega
  subst hp
  go_enter Try.func9, Try.ntmps9
  go_wp2_with fail
  refine (HFX.out _ HBX.out).mono ?_
  rintro e w1 ⟨rfl, hb⟩
  replace HBM := Lib.hid (HBM.out.kept hb)
  have HB := Lib.hid hb
  clear hb
  go_wp2_with fail
  refine (HFM.out _ HBM.out).mono ?_
  rintro e w2 ⟨rfl, hb⟩
  replace HB := Lib.hid (HB.out.trans (hb.mono HB.out.size))
  clear hb
  obtain ⟨hn1, hn2, hb⟩ := two_st0 w2 x m
  replace HB := Lib.hid (HB.out.trans (hb.mono HB.out.size))
  have R_x := Lib.hid hn1
  have R_z := Lib.hid hn2
  clear hb hn1 hn2
  go_upto_region 4 with fail
  obtain ⟨W2, hW⟩ : ∃ W, (((w2.alloc (.cells (natA 0) 28)).alloc (.cells (natA 0) 28)).setRow w2.heap.size (natA x)).setRow (w2.heap.size + 1) (natA m) = W := ⟨_, rfl⟩
  rw [hW] at HB R_x R_z ⊢
  obtain ⟨gx, hb1⟩ : ∃ b, w2.heap.size = b := ⟨_, rfl⟩
  obtain ⟨gz, hb2⟩ : ∃ b, w2.heap.size + 1 = b := ⟨_, rfl⟩
  rw [hb2] at R_z ⊢
  rw [hb1] at R_x ⊢
  clear hW hb1 hb2 w2
  go_cut [9] from 9 to 38 (fun s9 wx => ∃ g : Nat, s9 = .pointer (some ⟨g, 0, none⟩) ∧ rowN wx g = some (natA (frP (k % 5))) ∧ rowN wx gx = some (natA x) ∧ rowN wx gz = some (natA m) ∧ Below w.heap.size w wx)
  case first =>
    have hj5 : k % 5 < 5 := Nat.mod_lt _ (by omega)
    have HKM := Lib.hid (show ((k : Nat) : Int) % 5 = ((k % 5 : Nat) : Int) by omega)
    obtain ⟨j, hj⟩ : ∃ j, k % 5 = j := ⟨_, rfl⟩
    rw [hj] at HKM hj5
    have HJ := Lib.hid hj
    clear hj
    have hcs : j = 0 ∨ j = 1 ∨ j = 2 ∨ j = 3 ∨ j = 4 := by omega
    clear hj5
    rcases hcs with rfl | hcs
    · have hkm : ((k : Nat) : Int) % 5 = 0 := HKM.out
      have HN := Lib.hid (fun W => number_any 2 (by omega) W)
      go_wp2_with fail
      clear hkm
      refine (HN.out _).mono ?_
      rintro e wN ⟨rfl, hb⟩
      have HC1 := Lib.hid (HB.out.trans ((((Below.refl _ _).alloc (Nat.le_refl _) _).trans (hb.mono (by simp))).mono HB.out.size))
      have hB1 := (((Below.refl W2.heap.size W2).alloc (Nat.le_refl _) (.cells #[.int .i64 2, .int .i64 3, .int .i64 2879, .int .i64 71850239, .int .i64 2444789759] 3)).trans (hb.mono (by simp)))
      have hx1 := keptW hB1 R_x.out
      have hz1 := keptW hB1 R_z.out
      clear hb hB1
      have hx2 := Lib.hid (row_st0_other wN 2 _ _ hx1)
      have hz2 := Lib.hid (row_st0_other wN 2 _ _ hz1)
      have hn2 := Lib.hid (row_st0 wN 2)
      have HL2 := Lib.hid (HC1.out.trans ((bel_st0 wN 2).mono HC1.out.size))
      clear hx1 hz1
      go_wp2_with fail
      go_meet
      exact ⟨wN.heap.size, rfl, by rw [HJ.out]; exact hn2.out, hx2.out, hz2.out, HL2.out⟩
    rcases hcs with rfl | hcs
    · have hkm : ((k : Nat) : Int) % 5 = 1 := HKM.out
      have HN := Lib.hid (fun W => number_any 3 (by omega) W)
      go_wp2_with fail
      clear hkm
      refine (HN.out _).mono ?_
      rintro e wN ⟨rfl, hb⟩
      have HC1 := Lib.hid (HB.out.trans ((((Below.refl _ _).alloc (Nat.le_refl _) _).trans (hb.mono (by simp))).mono HB.out.size))
      have hB1 := (((Below.refl W2.heap.size W2).alloc (Nat.le_refl _) (.cells #[.int .i64 2, .int .i64 3, .int .i64 2879, .int .i64 71850239, .int .i64 2444789759] 3)).trans (hb.mono (by simp)))
      have hx1 := keptW hB1 R_x.out
      have hz1 := keptW hB1 R_z.out
      clear hb hB1
      have hx2 := Lib.hid (row_st0_other wN 3 _ _ hx1)
      have hz2 := Lib.hid (row_st0_other wN 3 _ _ hz1)
      have hn2 := Lib.hid (row_st0 wN 3)
      have HL2 := Lib.hid (HC1.out.trans ((bel_st0 wN 3).mono HC1.out.size))
      clear hx1 hz1
      go_wp2_with fail
      go_meet
      exact ⟨wN.heap.size, rfl, by rw [HJ.out]; exact hn2.out, hx2.out, hz2.out, HL2.out⟩
    rcases hcs with rfl | hcs
    · have hkm : ((k : Nat) : Int) % 5 = 2 := HKM.out
      have HN := Lib.hid (fun W => number_any 2879 (by omega) W)
      go_wp2_with fail
      clear hkm
      refine (HN.out _).mono ?_
      rintro e wN ⟨rfl, hb⟩
      have HC1 := Lib.hid (HB.out.trans ((((Below.refl _ _).alloc (Nat.le_refl _) _).trans (hb.mono (by simp))).mono HB.out.size))
      have hB1 := (((Below.refl W2.heap.size W2).alloc (Nat.le_refl _) (.cells #[.int .i64 2, .int .i64 3, .int .i64 2879, .int .i64 71850239, .int .i64 2444789759] 3)).trans (hb.mono (by simp)))
      have hx1 := keptW hB1 R_x.out
      have hz1 := keptW hB1 R_z.out
      clear hb hB1
      have hx2 := Lib.hid (row_st0_other wN 2879 _ _ hx1)
      have hz2 := Lib.hid (row_st0_other wN 2879 _ _ hz1)
      have hn2 := Lib.hid (row_st0 wN 2879)
      have HL2 := Lib.hid (HC1.out.trans ((bel_st0 wN 2879).mono HC1.out.size))
      clear hx1 hz1
      go_wp2_with fail
      go_meet
      exact ⟨wN.heap.size, rfl, by rw [HJ.out]; exact hn2.out, hx2.out, hz2.out, HL2.out⟩
    rcases hcs with rfl | hcs
    · have hkm : ((k : Nat) : Int) % 5 = 3 := HKM.out
      have HN := Lib.hid (fun W => number_any 71850239 (by omega) W)
      go_wp2_with fail
      clear hkm
      refine (HN.out _).mono ?_
      rintro e wN ⟨rfl, hb⟩
      have HC1 := Lib.hid (HB.out.trans ((((Below.refl _ _).alloc (Nat.le_refl _) _).trans (hb.mono (by simp))).mono HB.out.size))
      have hB1 := (((Below.refl W2.heap.size W2).alloc (Nat.le_refl _) (.cells #[.int .i64 2, .int .i64 3, .int .i64 2879, .int .i64 71850239, .int .i64 2444789759] 3)).trans (hb.mono (by simp)))
      have hx1 := keptW hB1 R_x.out
      have hz1 := keptW hB1 R_z.out
      clear hb hB1
      have hx2 := Lib.hid (row_st0_other wN 71850239 _ _ hx1)
      have hz2 := Lib.hid (row_st0_other wN 71850239 _ _ hz1)
      have hn2 := Lib.hid (row_st0 wN 71850239)
      have HL2 := Lib.hid (HC1.out.trans ((bel_st0 wN 71850239).mono HC1.out.size))
      clear hx1 hz1
      go_wp2_with fail
      go_meet
      exact ⟨wN.heap.size, rfl, by rw [HJ.out]; exact hn2.out, hx2.out, hz2.out, HL2.out⟩
    subst hcs
    have hkm : ((k : Nat) : Int) % 5 = 4 := HKM.out
    have HN := Lib.hid (fun W => number_any 2444789759 (by omega) W)
    go_wp2_with fail
    clear hkm
    refine (HN.out _).mono ?_
    rintro e wN ⟨rfl, hb⟩
    have HC1 := Lib.hid (HB.out.trans ((((Below.refl _ _).alloc (Nat.le_refl _) _).trans (hb.mono (by simp))).mono HB.out.size))
    have hB1 := (((Below.refl W2.heap.size W2).alloc (Nat.le_refl _) (.cells #[.int .i64 2, .int .i64 3, .int .i64 2879, .int .i64 71850239, .int .i64 2444789759] 3)).trans (hb.mono (by simp)))
    have hx1 := keptW hB1 R_x.out
    have hz1 := keptW hB1 R_z.out
    clear hb hB1
    have hx2 := Lib.hid (row_st0_other wN 2444789759 _ _ hx1)
    have hz2 := Lib.hid (row_st0_other wN 2444789759 _ _ hz1)
    have hn2 := Lib.hid (row_st0 wN 2444789759)
    have HL2 := Lib.hid (HC1.out.trans ((bel_st0 wN 2444789759).mono HC1.out.size))
    clear hx1 hz1
    go_wp2_with fail
    go_meet
    exact ⟨wN.heap.size, rfl, by rw [HJ.out]; exact hn2.out, hx2.out, hz2.out, HL2.out⟩
  obtain ⟨gp, rfl, hnew, hr_x, hr_z, HL⟩ := hcut
  clear R_x R_z HB
  have HB := Lib.hid HL
  have R_p := Lib.hid hnew
  have R_x := Lib.hid hr_x
  have R_z := Lib.hid hr_z
  clear HL hnew hr_x hr_z
  generalize frP (k % 5) = p at *
  have q_x := R_x.out
  have l_x := rowN_lt q_x
  have q_p := R_p.out
  have l_p := rowN_lt q_p
  go_wp2_with fail
  clear q_x l_x q_p l_p
  refine (X1.out _).mono ?_
  rintro e w3 ⟨rfl, hb⟩
  replace R_x := Lib.hid (keptW hb R_x.out)
  replace R_z := Lib.hid (keptW hb R_z.out)
  replace R_p := Lib.hid (keptW hb R_p.out)
  replace HB := Lib.hid (HB.out.trans (hb.mono HB.out.size))
  clear hb
  have q_x := R_x.out
  have l_x := rowN_lt q_x
  have q_p := R_p.out
  have l_p := rowN_lt q_p
  replace R_x := Lib.hid (row_st0_other w3 E _ _ R_x.out)
  replace R_z := Lib.hid (row_st0_other w3 E _ _ R_z.out)
  replace R_p := Lib.hid (row_st0_other w3 E _ _ R_p.out)
  have R_r := Lib.hid (row_st0 w3 E)
  replace HB := Lib.hid (HB.out.trans ((bel_st0 w3 E).mono HB.out.size))
  go_wp2_with fail
  clear q_x l_x q_p l_p
  obtain ⟨W3, hW⟩ : ∃ W, (w3.alloc (.cells (natA 0) 28)).setRow w3.heap.size (natA E) = W := ⟨_, rfl⟩
  rw [hW] at HB R_x R_z R_p R_r ⊢
  obtain ⟨gr, hbn⟩ : ∃ b, w3.heap.size = b := ⟨_, rfl⟩
  rw [hbn] at R_r ⊢
  clear hW hbn w3
  refine (RD.out _).mono ?_
  rintro e w4 ⟨rfl, hb⟩
  replace R_x := Lib.hid (keptW hb R_x.out)
  replace R_z := Lib.hid (keptW hb R_z.out)
  replace R_p := Lib.hid (keptW hb R_p.out)
  replace R_r := Lib.hid (keptW hb R_r.out)
  replace HB := Lib.hid (HB.out.trans (hb.mono HB.out.size))
  clear hb
  have q_r := R_r.out
  have l_r := rowN_lt q_r
  have q_z := R_z.out
  have l_z := rowN_lt q_z
  replace R_x := Lib.hid (row_st0_other w4 E _ _ R_x.out)
  replace R_z := Lib.hid (row_st0_other w4 E _ _ R_z.out)
  replace R_p := Lib.hid (row_st0_other w4 E _ _ R_p.out)
  replace R_r := Lib.hid (row_st0_other w4 E _ _ R_r.out)
  have R_s := Lib.hid (row_st0 w4 E)
  replace HB := Lib.hid (HB.out.trans ((bel_st0 w4 E).mono HB.out.size))
  go_wp2_with fail
  clear q_r l_r q_z l_z
  obtain ⟨W4, hW⟩ : ∃ W, (w4.alloc (.cells (natA 0) 28)).setRow w4.heap.size (natA E) = W := ⟨_, rfl⟩
  rw [hW] at HB R_x R_z R_p R_r R_s ⊢
  obtain ⟨gs, hbn⟩ : ∃ b, w4.heap.size = b := ⟨_, rfl⟩
  rw [hbn] at R_s ⊢
  clear hW hbn w4
  refine (IZ.out _).mono ?_
  rintro e w5 ⟨rfl, hb⟩
  replace R_x := Lib.hid (keptW hb R_x.out)
  replace R_z := Lib.hid (keptW hb R_z.out)
  replace R_p := Lib.hid (keptW hb R_p.out)
  replace R_r := Lib.hid (keptW hb R_r.out)
  replace R_s := Lib.hid (keptW hb R_s.out)
  replace HB := Lib.hid (HB.out.trans (hb.mono HB.out.size))
  clear hb
  have q_x := R_x.out
  have l_x := rowN_lt q_x
  have q_z := R_z.out
  have l_z := rowN_lt q_z
  go_wp2_with fail
  clear q_x l_x q_z l_z
  refine (IV.out _).mono ?_
  rintro e w6 ⟨rfl, hb⟩
  replace R_x := Lib.hid (keptW hb R_x.out)
  replace R_z := Lib.hid (keptW hb R_z.out)
  replace R_p := Lib.hid (keptW hb R_p.out)
  replace R_r := Lib.hid (keptW hb R_r.out)
  replace R_s := Lib.hid (keptW hb R_s.out)
  replace HB := Lib.hid (HB.out.trans (hb.mono HB.out.size))
  clear hb
  have q_x := R_x.out
  have l_x := rowN_lt q_x
  have q_z := R_z.out
  have l_z := rowN_lt q_z
  replace R_x := Lib.hid (row_st0_other w6 r _ _ R_x.out)
  replace R_z := Lib.hid (row_st0_other w6 r _ _ R_z.out)
  replace R_p := Lib.hid (row_st0_other w6 r _ _ R_p.out)
  replace R_r := Lib.hid (row_st0_other w6 r _ _ R_r.out)
  replace R_s := Lib.hid (row_st0_other w6 r _ _ R_s.out)
  have R_y := Lib.hid (row_st0 w6 r)
  replace HB := Lib.hid (HB.out.trans ((bel_st0 w6 r).mono HB.out.size))
  go_wp2_with fail
  clear q_x l_x q_z l_z
  obtain ⟨W6, hW⟩ : ∃ W, (w6.alloc (.cells (natA 0) 28)).setRow w6.heap.size (natA r) = W := ⟨_, rfl⟩
  rw [hW] at HB R_x R_z R_p R_r R_s R_y ⊢
  obtain ⟨gy, hbn⟩ : ∃ b, w6.heap.size = b := ⟨_, rfl⟩
  rw [hbn] at R_y ⊢
  clear hW hbn w6
  refine (GC.out _).mono ?_
  rintro e w7 ⟨rfl, hb⟩
  replace R_x := Lib.hid (keptW hb R_x.out)
  replace R_z := Lib.hid (keptW hb R_z.out)
  replace R_p := Lib.hid (keptW hb R_p.out)
  replace R_r := Lib.hid (keptW hb R_r.out)
  replace R_s := Lib.hid (keptW hb R_s.out)
  replace R_y := Lib.hid (keptW hb R_y.out)
  replace HB := Lib.hid (HB.out.trans (hb.mono HB.out.size))
  clear hb
  go_wp2_with fail
  refine (N1.out _).mono ?_
  rintro e w8 ⟨rfl, hb⟩
  replace R_x := Lib.hid (keptW hb R_x.out)
  replace R_z := Lib.hid (keptW hb R_z.out)
  replace R_p := Lib.hid (keptW hb R_p.out)
  replace R_r := Lib.hid (keptW hb R_r.out)
  replace R_s := Lib.hid (keptW hb R_s.out)
  replace R_y := Lib.hid (keptW hb R_y.out)
  replace HB := Lib.hid (HB.out.trans (hb.mono HB.out.size))
  clear hb
  have q_x := R_x.out
  have l_x := rowN_lt q_x
  have q_y := R_y.out
  have l_y := rowN_lt q_y
  have q_z := R_z.out
  have l_z := rowN_lt q_z
  go_wp2_with fail
  clear q_x l_x q_y l_y q_z l_z
  refine (M1.out _).mono ?_
  rintro e w9 ⟨rfl, hb⟩
  replace R_x := Lib.hid (keptW hb R_x.out)
  replace R_z := Lib.hid (keptW hb R_z.out)
  replace R_p := Lib.hid (keptW hb R_p.out)
  replace R_r := Lib.hid (keptW hb R_r.out)
  replace R_s := Lib.hid (keptW hb R_s.out)
  replace R_y := Lib.hid (keptW hb R_y.out)
  replace HB := Lib.hid (HB.out.trans (hb.mono HB.out.size))
  clear hb
  have q_z := R_z.out
  have l_z := rowN_lt q_z
  replace R_x := Lib.hid (row_st0_other w9 O _ _ R_x.out)
  replace R_z := Lib.hid (row_st0_other w9 O _ _ R_z.out)
  replace R_p := Lib.hid (row_st0_other w9 O _ _ R_p.out)
  replace R_r := Lib.hid (row_st0_other w9 O _ _ R_r.out)
  replace R_s := Lib.hid (row_st0_other w9 O _ _ R_s.out)
  replace R_y := Lib.hid (row_st0_other w9 O _ _ R_y.out)
  have R_w := Lib.hid (row_st0 w9 O)
  replace HB := Lib.hid (HB.out.trans ((bel_st0 w9 O).mono HB.out.size))
  go_upto_region 15 with fail
  clear q_z l_z
  obtain ⟨W9, hW⟩ : ∃ W, (w9.alloc (.cells (natA 0) 28)).setRow w9.heap.size (natA O) = W := ⟨_, rfl⟩
  rw [hW] at HB R_x R_z R_p R_r R_s R_y R_w ⊢
  obtain ⟨gw, hbn⟩ : ∃ b, w9.heap.size = b := ⟨_, rfl⟩
  rw [hbn] at R_w ⊢
  clear hW hbn w9
  go_cut [18, 19] from 18 to 94 (fun s18 s19 wx => ∃ g : Nat, s18 = .pointer (some ⟨g, 0, none⟩) ∧ s19 = .int .i64 0 ∧ rowN wx g = some (natA O) ∧ rowN wx gz = some (natA m) ∧ rowN wx gw = some (natA O) ∧ Below w.heap.size w wx)
  case first =>
    refine fer_reg15 N1 RO R_z R_w HB (fun g _ _ _ _ _ _ wx hnew h_z h_w hl => ?_)
    go_wp2_with fail
    go_meet
    exact ⟨g, rfl, rfl, hnew, h_z, h_w, hl⟩
  obtain ⟨gone, rfl, rfl, hnew, hr_z, hr_w, HL⟩ := hcut
  clear R_x R_z R_p R_r R_s R_y R_w HB
  have HB := Lib.hid HL
  have R_one := Lib.hid hnew
  have R_z := Lib.hid hr_z
  have R_w := Lib.hid hr_w
  clear HL hnew hr_z hr_w
  have q_w := R_w.out
  have l_w := rowN_lt q_w
  have q_one := R_one.out
  have l_one := rowN_lt q_one
  go_wp2_with fail
  clear q_w l_w q_one l_one
  refine (known_any _).mono ?_
  rintro e wK ⟨rfl, hb⟩
  have HBK := Lib.hid (HB.out.trans (hb.mono HB.out.size))
  clear hb
  go_wp2_with fail
  go_ret
  exact ⟨rfl, HBK.out⟩

set_option maxRecDepth 100000 in
theorem fer_long (n0 n1 k : Nat) (a0 a1 : Option Addr) (c0 c1 : Nat) (w : World) (h : 24 < n0 ∨ 24 < n1) :
    Calls Try.prog 9 #[.slice a0 n0 c0, .slice a1 n1 c1, .int .u8 (k : Nat)] w fun e w' => e = .returned (.bool true) ∧ Below w.heap.size w w' := by
  by_cases h1 : 24 < n0
  · clear h
    go_enter Try.func9, Try.ntmps9
    go_wp2_with fail
    refine (known_any _).mono ?_
    rintro e wK ⟨rfl, hb⟩
    have HBK := Lib.hid hb
    clear hb
    go_wp2_with fail
    go_ret
    exact ⟨rfl, HBK.out⟩
  · have h2 : 24 < n1 := by omega
    clear h
    go_enter Try.func9, Try.ntmps9
    go_wp2_with fail
    refine (known_any _).mono ?_
    rintro e wK ⟨rfl, hb⟩
    have HBK := Lib.hid hb
    clear hb
    go_wp2_with fail
    go_ret
    exact ⟨rfl, HBK.out⟩

theorem fer_all (zs ms : List Nat) (k : Nat) (a0 a1 : Option Addr) (c0 c1 : Nat) (w : World) (hk : k < 256) (hz : BytesAt zs (.slice a0 zs.length c0) w) (hm : BytesAt ms (.slice a1 ms.length c1) w) :
    Calls Try.prog 9 #[.slice a0 zs.length c0, .slice a1 ms.length c1, .int .u8 (k : Nat)] w fun e w' => e = .returned (.bool true) ∧ Below w.heap.size w w' := by
  by_cases hl : 24 < zs.length ∨ 24 < ms.length
  · exact fer_long _ _ k a0 a1 c0 c1 w hl
  have l0 : zs.length ≤ 24 := by omega
  have l1 : ms.length ≤ 24 := by omega
  have bx : valBE 256 zs < P64 ^ 16 := short_fits0 hz.1 (by omega)
  have bm : valBE 256 ms < P64 ^ 16 := short_fits0 hm.1 (by omega)
  have HFX := fun W hW => made_any zs (.slice a0 zs.length c0) W hW (by omega)
  have HFM := fun W hW => made_any ms (.slice a1 ms.length c1) W hW (by omega)
  rw [fb_is bx] at HFX
  rw [fb_is bm] at HFM
  generalize valBE 256 zs = x at *
  generalize valBE 256 ms = m at *
  obtain ⟨hpr, hp1, hp2⟩ := frP_pr (k % 5)
  obtain ⟨p, hp⟩ : ∃ p, frP (k % 5) = p := ⟨_, rfl⟩
  rw [hp] at hpr hp1 hp2
  have bp : p < P64 ^ 16 := kS (by omega)
  have X1 : ∀ W : World, Calls Try.prog 23 #[.agg (natA x), .agg (natA p), .agg (natA p)] W fun e w' => e = .returned (.tuple #[.agg (natA (x % p)), .int .i64 0]) ∧ Below W.heap.size W w' := fun W => by
    have h := mod_exp_pos p x p bp (by omega) bx bp W
    rw [pm_eq, fermat hpr hp1] at h
    exact h
  have RD := reduce_pos p x bp (by omega) bx
  have NE := neq_self (Nat.lt_trans (Nat.mod_lt x (show 0 < p by omega)) bp)
  by_cases h0 : m = 0
  · exact fer_zero_walk zs ms zs.length ms.length a0 a1 c0 c1 k x m p (x % p) w l0 l1 hk hp hz hm HFX HFM X1 RD (isZ_true m h0) NE
  have hm0 : 0 < m := by omega
  have GC := gcd_full x m bx bm
  have N1 : ∀ W : World, Calls Try.prog 31 #[.int .i64 1] W fun e w' => e = .returned (.agg (natA 1)) ∧ Below W.heap.size W w' := fun W => number_any 1 (by omega) W
  by_cases hg : Nat.gcd x m = 1
  · have hmx : Nat.gcd m (x % m) = 1 := by rw [Nat.gcd_comm, ← Nat.gcd_rec, Nat.gcd_comm]; exact hg
    obtain ⟨r, hr, hrx⟩ := inv_ex (Nat.mod_lt x hm0) hmx
    rw [Nat.mul_mod_mod] at hrx
    have IV := mod_inv_is m x r bm bx hr hrx
    have M1 : ∀ W : World, Calls Try.prog 21 #[.agg (natA x), .agg (natA r), .agg (natA m)] W fun e w' => e = .returned (.tuple #[.agg (natA (1 % m)), .int .i64 0]) ∧ Below W.heap.size W w' := fun W =>
      mod_mul_pos m x r (1 % m) bm hm0 bx (Nat.lt_trans hr bm) (by rw [tm_mod, tm_eq, Nat.mul_comm]; exact hrx) W
    have RO := reduce_pos m 1 bm hm0 (kS (by omega))
    have NO := neq_self (Nat.lt_trans (Nat.mod_lt 1 hm0) bm)
    exact fer_is_walk zs ms zs.length ms.length a0 a1 c0 c1 k x m p (x % p) r (Nat.gcd x m) (1 % m) w l0 l1 hk hp hz hm HFX HFM X1 RD (isZ_false m bm hm0) IV GC N1 M1 RO NE (by rw [hg]; exact neq_self (kS (by omega))) NO
  · have IV := mod_inv_no m x bm hm0 bx (by rw [Nat.gcd_comm]; exact hg)
    have hgb : Nat.gcd x m < P64 ^ 16 := Nat.lt_of_le_of_lt (Nat.gcd_le_right x hm0) bm
    exact fer_no_walk zs ms zs.length ms.length a0 a1 c0 c1 k x m p (x % p) 0 (Nat.gcd x m) w l0 l1 hk hp hz hm HFX HFM X1 RD (isZ_false m bm hm0) IV GC N1 NE (by rw [natEq_iff hgb (kS (by omega))]; exact decide_eq_false hg)

end Go.Proofs.Ytlmfiggmjpjpiaa
