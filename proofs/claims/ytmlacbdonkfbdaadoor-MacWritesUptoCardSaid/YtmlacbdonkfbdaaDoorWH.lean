/- package mac: isLength, equal, Truncated, Check. -/
import Derived.Test.YtmlacbdonkfbdaaDoorWG
namespace Go.Proofs.YtmlacbdonkfbdaaDoor
open Go.RowKit Go.Shelf

attribute [local go_sem] Oper.semAt_some
theorem xor_zero_iff (x y : Nat) : x ^^^ y = 0 ↔ x = y := by
  refine ⟨fun h => ?_, fun h => by rw [h, Nat.xor_self]⟩
  have h2 := congrArg (x ^^^ ·) h
  simp only [← Nat.xor_assoc, Nat.xor_self, Nat.zero_xor, Nat.xor_zero] at h2
  exact h2.symm
theorem take_eq_succ {za zb : List Nat} {k : Nat} (ha : k < za.length) (hb : k < zb.length) : za.take (k + 1) = zb.take (k + 1) ↔ za.take k = zb.take k ∧ za.getD k 0 = zb.getD k 0 := by
  have e1 : za.getD k 0 = za[k] := by rw [List.getD, List.getElem?_eq_getElem ha]; rfl
  have e2 : zb.getD k 0 = zb[k] := by rw [List.getD, List.getElem?_eq_getElem hb]; rfl
  rw [List.take_succ_eq_append_getElem ha, List.take_succ_eq_append_getElem hb, e1, e2]
  constructor
  · intro h
    have := List.append_inj h (by rw [List.length_take, List.length_take]; omega)
    exact ⟨this.1, by simpa using this.2⟩
  · rintro ⟨h1, h2⟩
    rw [h1, h2]

set_option maxRecDepth 100000 in
theorem isLength_yes (n : Int) (h1 : 1 ≤ n) (h2 : n ≤ 32) (w : World) : Calls Tryd.prog 19 #[.int .i64 n] w fun e w' => e = .returned (.bool true) ∧ Below w.heap.size w w' := by
  go_enter Tryd.func19, Tryd.ntmps19
  go_wp2_with fail
  go_ret
  refine ⟨?_, Below.refl _ _⟩
  first | rfl | simp [h1, h2]
set_option maxRecDepth 100000 in
theorem isLength_no (n : Int) (h : n < 1 ∨ 32 < n) (w : World) : Calls Tryd.prog 19 #[.int .i64 n] w fun e w' => e = .returned (.bool false) ∧ Below w.heap.size w w' := by
  by_cases h1 : 1 ≤ n
  · have h2 : ¬ n ≤ 32 := by omega
    clear h
    go_enter Tryd.func19, Tryd.ntmps19
    go_wp2_with fail
    go_ret
    refine ⟨?_, Below.refl _ _⟩
    first | rfl | simp [h1, h2]
  · clear h
    go_enter Tryd.func19, Tryd.ntmps19
    go_wp2_with fail
    go_ret
    refine ⟨?_, Below.refl _ _⟩
    first | rfl | simp [h1]

def EqRel (za zb : List Nat) (N : Nat) (w : World) (d i : Value) (wr : World) : Prop :=
  ∃ k x : Nat, k ≤ N ∧ i = .int .i64 (k : Nat) ∧ d = .int .u8 (x : Nat) ∧ x < 256 ∧ (x = 0 ↔ za.take k = zb.take k) ∧ Below w.heap.size w wr
set_option maxRecDepth 100000 in
set_option maxHeartbeats 1000000 in
theorem eq22_any (za zb : List Nat) (a b : Value) (hl : za.length ≤ 140737488355328) (w : World) (hA : BytesAt za a w) (hB : BytesAt zb b w) :
    Calls Tryd.prog 22 #[a, b] w fun e w' => e = .returned (.bool (decide (za = zb))) ∧ Below w.heap.size w w' := by
  have HA := Lib.hid hA
  have HB := Lib.hid hB
  obtain ⟨h256a, aa, ca, rfl, _, h2a⟩ := hA
  obtain ⟨h256b, ab, cb, rfl, _, h2b⟩ := hB
  by_cases hne : za.length = zb.length
  · obtain ⟨N, hN⟩ : ∃ N, zb.length = N := ⟨_, rfl⟩
    rw [hne, hN] at hl h2a ⊢
    rw [hN] at h2b
    have HLA := Lib.hid (show za.length = N by omega)
    have HLB := Lib.hid hN
    have H2A := Lib.hid h2a
    have H2B := Lib.hid h2b
    have H256A := Lib.hid h256a
    have H256B := Lib.hid h256b
    clear hN hne h2a h2b HA HB h256a h256b
    go_enter Tryd.func22, Tryd.ntmps22
    go_wp2_with fail
    go_loopw [5, 14] (fun d i wr => EqRel za zb N w d i wr) (fun _ i _ => N - (intOf i).toNat)
    case atStart => exact ⟨0, 0, by omega, rfl, rfl, by omega, by simp, Below.refl _ _⟩
    case round =>
      obtain ⟨k, x, hk, rfl, rfl, hx, hiff, hB⟩ := hrel
      have HBW := Lib.hid hB
      by_cases hlt : k < N
      · obtain ⟨ba, oa, rfl, hba, hca⟩ : ∃ b off, aa = some ⟨b, off, none⟩ ∧ b < w.heap.size ∧ ∀ j, j < N → w.cell? ⟨b, off + j, none⟩ = some (.int .u8 (za.getD j 0 : Nat)) := by
          rcases H2A.out with h | h
          · omega
          · exact h
        obtain ⟨bb, ob', rfl, hbb, hcb⟩ : ∃ b off, ab = some ⟨b, off, none⟩ ∧ b < w.heap.size ∧ ∀ j, j < N → w.cell? ⟨b, off + j, none⟩ = some (.int .u8 (zb.getD j 0 : Nat)) := by
          rcases H2B.out with h | h
          · omega
          · exact h
        have hcA : wr.drew.cell? ⟨ba, oa + k, none⟩ = some (.int .u8 (za.getD k 0 : Nat)) := (hB.cell (p := ⟨ba, oa + k, none⟩) hba).trans (hca k hlt)
        have hcB : wr.drew.cell? ⟨bb, ob' + k, none⟩ = some (.int .u8 (zb.getD k 0 : Nat)) := (hB.cell (p := ⟨bb, ob' + k, none⟩) hbb).trans (hcb k hlt)
        have hsucc := take_eq_succ (za := za) (zb := zb) (k := k) (by rw [HLA.out]; exact hlt) (by rw [HLB.out]; exact hlt)
        have hxa : za.getD k 0 < 256 := by
          have h : k < za.length := by rw [HLA.out]; exact hlt
          rw [List.getD, List.getElem?_eq_getElem h]; exact H256A.out _ (List.getElem_mem h)
        have hxb : zb.getD k 0 < 256 := by
          have h : k < zb.length := by rw [HLB.out]; exact hlt
          rw [List.getD, List.getElem?_eq_getElem h]; exact H256B.out _ (List.getElem_mem h)
        obtain ⟨y, hy⟩ : ∃ y, za.getD k 0 = y := ⟨_, rfl⟩
        obtain ⟨z, hz⟩ : ∃ z, zb.getD k 0 = z := ⟨_, rfl⟩
        rw [hy] at hcA hsucc hxa
        rw [hz] at hcB hsucc hxb
        have hX := bits_xor8 y z hxa hxb
        have hO := bits_or8 x (y ^^^ z) hx (xor8_lt hxa hxb)
        have HNX := Lib.hid (show EqRel za zb N w (.int .u8 ((x ||| (y ^^^ z) : Nat) : Int)) (.int .i64 ((k + 1 : Nat) : Int)) wr.drew from
          ⟨k + 1, _, hlt, rfl, rfl, or8_lt hx (xor8_lt hxa hxb), by rw [hsucc, Nat.or_eq_zero_iff, xor_zero_iff, hiff], hB.drew⟩)
        have hkN : ((k : Nat) : Int) < ((N : Nat) : Int) := by omega
        clear hy hz hB hca hcb hsucc hiff hxa hxb HBW hba hbb hx
        go_upto_region 7 with fail
        refine wp_region_still_lit (by kernel_rfl) (by kernel_rfl) ?_
        repeat still_step
        refine wpStill_nil ?_
        change Exit.inBlock _ _ _ _ wr.drew
        clear hcA hcB
        generalize wr.drew = V at *
        go_wp2_with fail
        first | exact ⟨HNX.out, by simp [intOf]; omega⟩ | exact ⟨by have h := HNX.out; rw [show ((k + 1 : Nat) : Int) = (k : Int) + 1 by omega] at h; exact h, by simp [intOf]; omega⟩
      · obtain rfl : N = k := by omega
        have hkN : ¬ ((N : Nat) : Int) < ((N : Nat) : Int) := by omega
        rw [List.take_of_length_le (by rw [HLA.out]; omega), List.take_of_length_le (by rw [HLB.out]; omega)] at hiff
        have HD := Lib.hid (show (((x : Nat) : Int) == 0) = decide (za = zb) by
          by_cases h : za = zb
          · have h0 := hiff.2 h
            rw [h0]; simp [h]
          · have h0 : x ≠ 0 := fun e => h (hiff.1 e)
            simp [h]; omega)
        clear hiff hB
        go_wp2_with fail
        go_ret
        refine ⟨?_, HBW.out⟩
        rw [← HD.out]
        first | rfl | simp
  · have hi : ¬ ((za.length : Nat) : Int) = ((zb.length : Nat) : Int) := by omega
    have hd : decide (za = zb) = false := by
      rw [decide_eq_false_iff_not]; intro e; exact hne (by rw [e])
    rw [hd]
    clear h2a h2b HA HB h256a h256b hd
    go_enter Tryd.func22, Tryd.ntmps22
    go_wp2_with fail
    go_ret
    exact ⟨rfl, Below.refl _ _⟩
set_option maxRecDepth 100000 in
theorem equal_any (za zb : List Nat) (a b : Value) (hl : za.length ≤ 140737488355328) (w : World) (hA : BytesAt za a w) (hB : BytesAt zb b w) :
    Calls Tryd.prog 14 #[a, b] w fun e w' => e = .returned (.bool (decide (za = zb))) ∧ Below w.heap.size w w' := by
  have H := Lib.hid (eq22_any za zb a b hl w hA hB)
  clear hA hB
  go_enter Tryd.func14, Tryd.ntmps14
  go_wp2_with fail
  refine H.out.mono ?_
  rintro e w2 ⟨rfl, hb⟩
  have HB := Lib.hid hb
  clear hb H
  go_wp2_with fail
  go_ret
  exact ⟨rfl, HB.out⟩
end Go.Proofs.YtmlacbdonkfbdaaDoor
