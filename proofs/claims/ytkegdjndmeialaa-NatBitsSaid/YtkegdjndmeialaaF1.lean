/- The answers that are known. -/
import Derived.Test.YtkegdjndmeialaaF0
import Derived.Deep.RegionHeld3
namespace Go.Proofs.Ytkegdjndmeialaa
open Go.RowKit

set_option maxRecDepth 100000 in
set_option maxHeartbeats 2000000 in
theorem known_any (w : World) : Calls Try.prog 11 #[] w fun e w' => e = .returned (.bool true) ∧ Below w.heap.size w w' := by
  have HEQ := Lib.hid natEq_7
  obtain ⟨T, HT0⟩ := known_shift
  have HT := Lib.hid HT0
  clear HT0
  go_enter Try.func11, Try.ntmps11
  go_wp2_with fail
  refine (known_from _ _ (by rw [rowN_alloc, if_pos rfl])).mono ?_
  rintro e w1 ⟨rfl, hb⟩
  have HB := Lib.hid (((Below.refl _ w).alloc (Nat.le_refl _) _).trans (hb.mono (by simp)))
  have hs1 := HB.out.size
  clear hb
  go_wp2_with fail
  refine (known_int 257 _ rfl (by omega) _).mono ?_
  rintro e w2 ⟨rfl, hb⟩
  obtain ⟨hN, hk, hBel⟩ := stored hb
  replace HB := Lib.hid (HB.out.trans (hBel.mono (by first | exact HB.out.size | (have := HB.out.size; omega))))
  clear hb hBel hk
  have hA := hN
  have lA := rowN_lt hA
  clear hN
  generalize w1.heap.size = b1 at *
  go_wp2_with fail
  refine (fromInt_neg (-1) _ (by omega)).mono ?_
  rintro e w3 ⟨rfl, hb⟩
  obtain ⟨hN, hk, hBel⟩ := stored hb
  replace hA := hk _ _ hA
  have lA := rowN_lt hA
  replace HB := Lib.hid (HB.out.trans (hBel.mono (by first | exact HB.out.size | (have := HB.out.size; omega))))
  clear hb hBel hk
  have hB := hN
  have lB := rowN_lt hB
  clear hN
  generalize w2.heap.size = b2 at *
  go_wp2_with fail
  refine (known_text _).mono ?_
  rintro e w4 ⟨rfl, hb⟩
  obtain ⟨hN, hk, hBel⟩ := stored hb
  replace hA := hk _ _ hA
  have lA := rowN_lt hA
  replace hB := hk _ _ hB
  have lB := rowN_lt hB
  replace HB := Lib.hid (HB.out.trans (hBel.mono (by first | exact HB.out.size | (have := HB.out.size; omega))))
  clear hb hBel hk
  clear hN
  generalize w3.heap.size = b3 at *
  go_wp2_with fail
  refine (known_bitLen _).mono ?_
  rintro e w5 ⟨rfl, hb⟩
  have hk := kept hb
  have hBel := hb
  replace hA := hk _ _ hA
  have lA := rowN_lt hA
  replace hB := hk _ _ hB
  have lB := rowN_lt hB
  replace HB := Lib.hid (HB.out.trans (hBel.mono (by first | exact HB.out.size | (have := HB.out.size; omega))))
  clear hb hBel hk
  go_wp2_with fail
  refine (known_bytes _).mono ?_
  rintro e w6 ⟨s, rfl, hconv, hb⟩
  have hk := kept hb
  have hBel := hb
  replace hA := hk _ _ hA
  have lA := rowN_lt hA
  replace hB := hk _ _ hB
  have lB := rowN_lt hB
  replace HB := Lib.hid (HB.out.trans (hBel.mono (by first | exact HB.out.size | (have := HB.out.size; omega))))
  clear hb hBel hk
  go_wp2_with fail
  refine (known_sub _).mono ?_
  rintro e w7 ⟨rfl, hb⟩
  have hk := kept hb
  have hBel := hb
  replace hA := hk _ _ hA
  have lA := rowN_lt hA
  replace hB := hk _ _ hB
  have lB := rowN_lt hB
  replace HB := Lib.hid (HB.out.trans (hBel.mono (by first | exact HB.out.size | (have := HB.out.size; omega))))
  clear hb hBel hk
  clear hconv
  clear hA
  clear hB
  go_wp2_with fail
  refine (known_int 1 _ rfl (by omega) _).mono ?_
  rintro e w8 ⟨rfl, hb⟩
  obtain ⟨hN, hk, hBel⟩ := stored hb
  replace HB := Lib.hid (HB.out.trans (hBel.mono (by first | exact HB.out.size | (have := HB.out.size; omega))))
  clear hb hBel hk
  clear hN
  generalize w7.heap.size = b7 at *
  go_wp2_with fail
  refine ((HT.out _).1).mono ?_
  rintro e w9 ⟨rfl, hb⟩
  obtain ⟨hN, hk, hBel⟩ := stored hb
  replace HB := Lib.hid (HB.out.trans (hBel.mono (by first | exact HB.out.size | (have := HB.out.size; omega))))
  clear hb hBel hk
  clear hN
  generalize w8.heap.size = b8 at *
  go_wp2_with fail
  refine ((HT.out _).2).mono ?_
  rintro e w10 ⟨rfl, hb⟩
  obtain ⟨hN, hk, hBel⟩ := stored hb
  replace HB := Lib.hid (HB.out.trans (hBel.mono (by first | exact HB.out.size | (have := HB.out.size; omega))))
  clear hb hBel hk
  clear hN
  generalize w9.heap.size = b9 at *
  go_wp2_with fail
  refine (known_int 1000 _ rfl (by omega) _).mono ?_
  rintro e w11 ⟨rfl, hb⟩
  obtain ⟨hN, hk, hBel⟩ := stored hb
  replace HB := Lib.hid (HB.out.trans (hBel.mono (by first | exact HB.out.size | (have := HB.out.size; omega))))
  clear hb hBel hk
  clear hN
  generalize w10.heap.size = b10 at *
  go_wp2_with fail
  refine (known_int 7 _ rfl (by omega) _).mono ?_
  rintro e w12 ⟨rfl, hb⟩
  obtain ⟨hN, hk, hBel⟩ := stored hb
  replace HB := Lib.hid (HB.out.trans (hBel.mono (by first | exact HB.out.size | (have := HB.out.size; omega))))
  clear hb hBel hk
  have hF := hN
  have lF := rowN_lt hF
  clear hN
  generalize w11.heap.size = b11 at *
  go_wp2_with fail
  refine (known_div _).mono ?_
  rintro e w13 ⟨rfl, hb⟩
  obtain ⟨hN, hk, hBel⟩ := stored hb
  replace hF := hk _ _ hF
  have lF := rowN_lt hF
  replace HB := Lib.hid (HB.out.trans (hBel.mono (by first | exact HB.out.size | (have := HB.out.size; omega))))
  clear hb hBel hk
  have hG := hN
  have lG := rowN_lt hG
  clear hN
  generalize w12.heap.size = b12 at *
  go_wp2_with fail
  refine (divide_zero 1000 _).mono ?_
  rintro e w14 ⟨rfl, hb⟩
  obtain ⟨hN, hN2, hk, hBel⟩ := stored2 hb
  replace hF := hk _ _ hF
  have lF := rowN_lt hF
  replace hG := hk _ _ hG
  have lG := rowN_lt hG
  replace HB := Lib.hid (HB.out.trans (hBel.mono (by first | exact HB.out.size | (have := HB.out.size; omega))))
  clear hb hBel hk
  have hQ := hN
  have hR := hN2
  have lQ := rowN_lt hQ
  have lR := rowN_lt hR
  clear hN hN2
  generalize w13.heap.size = b13 at *
  clear hF
  go_wp2_with fail
  refine (known_Int 142 142 rfl (by omega) _).mono ?_
  rintro e w15 ⟨rfl, hb⟩
  obtain ⟨hN, hN2, hk, hBel⟩ := stored2 hb
  replace hG := hk _ _ hG
  have lG := rowN_lt hG
  replace hQ := hk _ _ hQ
  have lQ := rowN_lt hQ
  replace hR := hk _ _ hR
  have lR := rowN_lt hR
  replace HB := Lib.hid (HB.out.trans (hBel.mono (by first | exact HB.out.size | (have := HB.out.size; omega))))
  clear hb hBel hk
  clear hN hN2
  generalize w14.heap.size = b14 at *
  go_wp2_with fail
  refine (known_Int 6 6 rfl (by omega) _).mono ?_
  rintro e w16 ⟨rfl, hb⟩
  have hk := kept hb
  have hBel := hb
  replace hG := hk _ _ hG
  have lG := rowN_lt hG
  replace hQ := hk _ _ hQ
  have lQ := rowN_lt hQ
  replace hR := hk _ _ hR
  have lR := rowN_lt hR
  replace HB := Lib.hid (HB.out.trans (hBel.mono (by first | exact HB.out.size | (have := HB.out.size; omega))))
  clear hb hBel hk
  clear hQ
  clear hR
  go_wp2_with fail
  refine (parse_ff _).mono ?_
  rintro e w17 ⟨rfl, hb⟩
  have hk := kept hb
  have hBel := hb
  replace hG := hk _ _ hG
  have lG := rowN_lt hG
  replace HB := Lib.hid (HB.out.trans (hBel.mono (by first | exact HB.out.size | (have := HB.out.size; omega))))
  clear hb hBel hk
  go_wp2_with fail
  refine (parse_0f _).mono ?_
  rintro e w18 ⟨rfl, hb⟩
  obtain ⟨hN, hk, hBel⟩ := stored hb
  replace hG := hk _ _ hG
  have lG := rowN_lt hG
  replace HB := Lib.hid (HB.out.trans (hBel.mono (by first | exact HB.out.size | (have := HB.out.size; omega))))
  clear hb hBel hk
  have hH := hN
  have lH := rowN_lt hH
  clear hN
  generalize w17.heap.size = b17 at *
  go_wp2_with fail
  refine (parse_empty _ rfl _).mono ?_
  rintro e w19 ⟨rfl, hb⟩
  obtain ⟨hN, hk, hBel⟩ := stored hb
  replace hG := hk _ _ hG
  have lG := rowN_lt hG
  replace hH := hk _ _ hH
  have lH := rowN_lt hH
  replace HB := Lib.hid (HB.out.trans (hBel.mono (by first | exact HB.out.size | (have := HB.out.size; omega))))
  clear hb hBel hk
  clear hN
  generalize w18.heap.size = b18 at *
  go_wp2_with fail
  refine (known_Int 255 255 rfl (by omega) _).mono ?_
  rintro e w20 ⟨rfl, hb⟩
  obtain ⟨hN, hk, hBel⟩ := stored hb
  replace hG := hk _ _ hG
  have lG := rowN_lt hG
  replace hH := hk _ _ hH
  have lH := rowN_lt hH
  replace HB := Lib.hid (HB.out.trans (hBel.mono (by first | exact HB.out.size | (have := HB.out.size; omega))))
  clear hb hBel hk
  clear hN
  generalize w19.heap.size = b19 at *
  clear hH
  go_wp2_with fail
  refine (known_int 12 _ rfl (by omega) _).mono ?_
  rintro e w21 ⟨rfl, hb⟩
  have hk := kept hb
  have hBel := hb
  replace hG := hk _ _ hG
  have lG := rowN_lt hG
  replace HB := Lib.hid (HB.out.trans (hBel.mono (by first | exact HB.out.size | (have := HB.out.size; omega))))
  clear hb hBel hk
  go_wp2_with fail
  refine (known_int 18 _ rfl (by omega) _).mono ?_
  rintro e w22 ⟨rfl, hb⟩
  obtain ⟨hN, hk, hBel⟩ := stored hb
  replace hG := hk _ _ hG
  have lG := rowN_lt hG
  replace HB := Lib.hid (HB.out.trans (hBel.mono (by first | exact HB.out.size | (have := HB.out.size; omega))))
  clear hb hBel hk
  have hI := hN
  have lI := rowN_lt hI
  clear hN
  generalize w21.heap.size = b21 at *
  go_wp2_with fail
  refine (known_gcd _).mono ?_
  rintro e w23 ⟨rfl, hb⟩
  obtain ⟨hN, hk, hBel⟩ := stored hb
  replace hG := hk _ _ hG
  have lG := rowN_lt hG
  replace hI := hk _ _ hI
  have lI := rowN_lt hI
  replace HB := Lib.hid (HB.out.trans (hBel.mono (by first | exact HB.out.size | (have := HB.out.size; omega))))
  clear hb hBel hk
  have hJ := hN
  have lJ := rowN_lt hJ
  clear hN
  generalize w22.heap.size = b22 at *
  clear hI
  clear hJ
  go_wp2_with fail
  refine (known_Int 6 6 rfl (by omega) _).mono ?_
  rintro e w24 ⟨rfl, hb⟩
  have hk := kept hb
  have hBel := hb
  replace hG := hk _ _ hG
  have lG := rowN_lt hG
  replace HB := Lib.hid (HB.out.trans (hBel.mono (by first | exact HB.out.size | (have := HB.out.size; omega))))
  clear hb hBel hk
  go_wp2_with fail
  have heq := HEQ.out
  have hbel := HB.out.size
  have hGd : rowN w24.drew b12 = some (natA 7) := by rw [rowN_drew]; exact hG
  have hBd := HB.out.drew
  go_region_held3 (fun W => rowN W b12 = some (natA 7) ∧ Below w.heap.size w W) (first | exact ⟨hGd, hBd⟩ | exact ⟨hG2, hB2⟩) (first | (go_at_call 38; refine (known_gcd0 _).mono ?_; rintro e w26 ⟨rfl, hb⟩; have hG2 := kept hb _ _ hGd; have hB2 := hBd.trans (hb.mono (by first | exact hBd.size | (have := hBd.size; simp; omega)))))
  go_wp2_with fail
  go_ret
  exact ⟨rfl, hB2⟩
end Go.Proofs.Ytkegdjndmeialaa
