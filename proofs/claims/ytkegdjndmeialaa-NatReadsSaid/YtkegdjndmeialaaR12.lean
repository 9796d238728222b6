/- What the reference does not parse. -/
import Derived.Test.YtkegdjndmeialaaR11
namespace Go.Proofs.Ytkegdjndmeialaa
open Go.RowKit

theorem hexc_num {j : Nat} (h : j < 16) : isNumB (hexc j : Nat) = true := by
  rcases (by omega : j = 0 ∨ j = 1 ∨ j = 2 ∨ j = 3 ∨ j = 4 ∨ j = 5 ∨ j = 6 ∨ j = 7 ∨ j = 8 ∨ j = 9 ∨ j = 10 ∨ j = 11 ∨ j = 12 ∨ j = 13 ∨ j = 14 ∨ j = 15) with rfl | rfl | rfl | rfl | rfl | rfl | rfl | rfl | rfl | rfl | rfl | rfl | rfl | rfl | rfl | rfl
  all_goals rfl
theorem x_dlen {X k : Nat} (h : X < 65536 ^ k) : dlen 65536 X ≤ k := dlen_le (by omega) h
theorem x_dlen4 {X k : Nat} (h : X < 65536 ^ k) : dlen 65536 (X * 2 ^ 4) ≤ k + 1 ∧ ∀ j, j < 16 → X * 2 ^ 4 + j < 65536 ^ (k + 1) := by
  have e : (65536 : Nat) ^ (k + 1) = 65536 ^ k * 65536 := Nat.pow_succ ..
  generalize 65536 ^ k = Y at *
  refine ⟨dlen_le (by omega) ?_, fun j hj => ?_⟩ <;> rw [e] <;> omega

set_option maxRecDepth 100000 in
set_option maxHeartbeats 400000 in
theorem rparse_bad (s : ByteArray) (hp : 0 < s.size) (hlead : s[0].toNat ≠ 48 ∨ s.size = 1) (h : allNum s = false) (hs : s.size ≤ 1000) (w : World) :
    Calls Try.prog 20 #[.string s] w fun e w' => e = .returned (.tuple #[.slice none 0 0, .bool false]) ∧ Below w.heap.size w w' := by
  have HF := Lib.hid h
  clear h
  have hcase : (((s[0].toNat : Nat) : Int) = 48 ∧ ¬ (1 : Int) < (s.size : Int)) ∨ ¬ ((s[0].toNat : Nat) : Int) = 48 := by omega
  clear hlead
  have hne : ¬ s = ByteArray.empty := by
    rintro rfl
    exact absurd hp (by decide)
  have hne2 : ((s.size : Int) == 0) = false := by
    rw [beq_eq_false_iff_ne]; omega
  rcases hcase with ⟨h5, h6⟩ | h5
  all_goals
    go_enter Try.func20, Try.ntmps20
    go_wp2_with fail
    go_loopw [4, 5] (fun x i wr => ∃ k X : Nat, k ≤ s.size ∧ i = .int .i64 (k : Nat) ∧ (∀ j (hj : j < s.size), j < k → isNumB (s[j].toNat : Nat) = true) ∧ X < 65536 ^ k ∧ RefN X x wr ∧ Below w.heap.size w wr)
      (fun _ i _ => s.size - (intOf i).toNat)
    case atStart => exact ⟨0, 0, by omega, rfl, fun j _ h => by omega, by simp, ⟨by simp [dlen_zero], none, 0, rfl, by simp [dlen_zero], by decide, .inl (by simp [dlen_zero])⟩, Below.refl _ _⟩
    case round =>
      obtain ⟨k, X, hk, rfl, hz, hX, hR, hbel⟩ := hrel
      have HR := Lib.hid hR
      have HB := Lib.hid hbel
      have HZ := Lib.hid hz
      have hdl := x_dlen hX
      obtain ⟨hdl2, hXX⟩ := x_dlen4 hX
      have HXX := Lib.hid hXX
      clear hR hbel hz hX hXX
      by_cases hlt : k < s.size
      · have hb256 := s[k].toNat_lt
        obtain ⟨b, hbb⟩ : ∃ b, s[k].toNat = b := ⟨_, rfl⟩
        rw [hbb] at hb256
        have HBB := Lib.hid hbb
        clear hbb
        cases hb : isNumB (b : Nat) with
        | true =>
          have HNB := Lib.hid (show isNumB (s[k].toNat : Nat) = true by rw [HBB.out]; exact hb)
          obtain ⟨hn0, hn1⟩ := numV_bd _ hb
          have hx := hexc_numV b hb
          obtain ⟨x, hxx⟩ : ∃ x, (numV (b : Nat)).toNat = x := ⟨_, rfl⟩
          rw [hxx] at hx
          have hx16 : x < 16 := by omega
          have HX := Lib.hid hx
          clear hb hn0 hn1 hx hxx
          go_wp2_with fail
          go_loopw [6] (fun y wq => ∃ j : Nat, j ≤ x ∧ y = .int .i64 (j : Nat) ∧ RefN X u4 wq ∧ Below w.heap.size w wq)
            (fun y _ => 16 - (intOf y).toNat)
          case atStart => exact ⟨0, by omega, rfl, HR.out, HB.out⟩
          case round =>
            obtain ⟨j, hj, rfl, hRq, hBq⟩ := hrel
            have HRq := Lib.hid hRq
            have HBq := Lib.hid hBq
            clear hRq hBq
            have hj16 : j < 16 := by omega
            have hnum := fun W => run_numeral64 j hj16 W
            have hbb := HBB.out
            have hdec : decide ((j : Int) < 16) = true := by simp; omega
            by_cases hjx : j < x
            · have hne3 : hexc j ≠ b := fun e => by
                have := hexc_inj hj16 hx16 (e.trans HX.out.symm)
                omega
              obtain ⟨y, hy⟩ : ∃ y, hexc j = y := ⟨_, rfl⟩
              rw [hy] at hnum hne3
              clear hy
              have hne4 : ((y : Int) != (b : Int)) = true := by simp; omega
              go_wp2_with fail
              go_quiet (fail)
              go_wp2_with fail
              refine ⟨⟨j + 1, by omega, rfl, HRq.out.kept (below_drewN (Below.refl _ _) _), below_drewN HBq.out _⟩, by simp [intOf]; omega⟩
            · obtain rfl : j = x := by omega
              have hx := HX.out
              have hdj := dlen_small hj16
              rw [hx] at hnum
              have heq4 : ((b : Int) != (b : Int)) = false := by simp
              go_wp2_with fail
              go_quiet (fail)
              have HRd := Lib.hid (HRq.out.kept (below_drewN (Below.refl _ _) nq))
              have HBd := Lib.hid (below_drewN HBq.out nq)
              go_wp2_with fail
              refine (rshift4 X _ u4 _ HRd.out (by omega)).mono ?_
              rintro e w2 ⟨t2, rfl, ht, hb⟩
              have HT2 := Lib.hid ht
              have HB2 := Lib.hid (HBd.out.trans (hb.mono HBd.out.size))
              clear ht hb
              go_wp2_with fail
              refine (rof_any j (by omega) _).mono ?_
              rintro e w3 ⟨t3, rfl, ht, hb⟩
              have HT3 := Lib.hid ht
              have HS3 := Lib.hid (HT2.out.kept hb)
              have HB3 := Lib.hid (HB2.out.trans (hb.mono HB2.out.size))
              clear ht hb
              go_wp2_with fail
              refine (radd_any _ _ _ _ t2 t3 _ HS3.out HT3.out (by omega) (by omega)).mono ?_
              rintro e w4 ⟨t4, rfl, ht, hb⟩
              have HT4 := Lib.hid ht
              have HB4 := Lib.hid (HB3.out.trans (hb.mono HB3.out.size))
              clear ht hb
              go_wp2_with fail
              refine ⟨⟨k + 1, X * 2 ^ 4 + j, by omega, rfl, fun q hq h => ?_, HXX.out j hj16, HT4.out, HB4.out⟩, by simp [intOf]; omega⟩
              by_cases e : q = k
              · subst e; exact HNB.out
              · exact HZ.out q hq (by omega)
        | false =>
          have HNB := Lib.hid hb
          clear hb
          go_wp2_with fail
          go_loopw [6] (fun y wq => ∃ j : Nat, j ≤ 16 ∧ y = .int .i64 (j : Nat) ∧ RefN X u4 wq ∧ Below w.heap.size w wq)
            (fun y _ => 16 - (intOf y).toNat)
          case atStart => exact ⟨0, by omega, rfl, HR.out, HB.out⟩
          case round =>
            obtain ⟨j, hj, rfl, hRq, hBq⟩ := hrel
            have HRq := Lib.hid hRq
            have HBq := Lib.hid hBq
            clear hRq hBq
            have hbb := HBB.out
            by_cases hjx : j < 16
            · have hj16 : j < 16 := by omega
              have hnum := fun W => run_numeral64 j hj16 W
              have hdec : decide ((j : Int) < 16) = true := by simp; omega
              have hne3 : hexc j ≠ b := fun e => by
                have := hexc_num hj16
                rw [e, HNB.out] at this
                cases this
              obtain ⟨y, hy⟩ : ∃ y, hexc j = y := ⟨_, rfl⟩
              rw [hy] at hnum hne3
              clear hy
              have hne4 : ((y : Int) != (b : Int)) = true := by simp; omega
              go_wp2_with fail
              go_quiet (fail)
              go_wp2_with fail
              refine ⟨⟨j + 1, by omega, rfl, HRq.out.kept (below_drewN (Below.refl _ _) _), below_drewN HBq.out _⟩, by simp [intOf]; omega⟩
            · obtain rfl : j = 16 := by omega
              have hdec : decide (((16 : Nat) : Int) < 16) = false := by decide
              go_wp2_with fail
              go_quiet (fail)
              have HBd := Lib.hid (below_drewN HBq.out nq)
              go_wp2_with fail
              go_ret2
              exact ⟨rfl, HBd.out⟩
      · obtain rfl : k = s.size := by omega
        have := allNum_true s (fun j hj => HZ.out j hj hj)
        rw [HF.out] at this
        cases this
end Go.Proofs.Ytkegdjndmeialaa
