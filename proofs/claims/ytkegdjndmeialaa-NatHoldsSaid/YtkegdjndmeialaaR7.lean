/- Subtracting, by the reference. -/
import Derived.Test.YtkegdjndmeialaaR6
namespace Go.Proofs.Ytkegdjndmeialaa
open Go.RowKit

theorem sub_digits (v u k x y cy : Nat) (h : u ≤ v) (hx : dgt 65536 v k = x) (hy : dgt 65536 u k = y) (hc : addC 65536 (v - u) u k = cy) :
    dgt 65536 (v - u) k + y + cy = x + 65536 * addC 65536 (v - u) u (k + 1) ∧ dgt 65536 (v - u) k < 65536 ∧ cy ≤ 1 ∧ addC 65536 (v - u) u (k + 1) ≤ 1 := by
  have h1 := addC_step (show 0 < 65536 by omega) (v - u) u k
  rw [Nat.sub_add_cancel h, hx, hy, hc] at h1
  have h2 := addC_le (show 0 < 65536 by omega) (v - u) u k
  rw [hc] at h2
  exact ⟨h1, d16_lt _ _, h2, addC_le (by omega) _ _ _⟩

set_option maxRecDepth 100000 in
set_option maxHeartbeats 1000000 in
theorem rsub_any (v u n m : Nat) (s t : Value) (w : World) (hs : DigN v n s w) (ht : DigN u m t w) (hn : n ≤ 1000000) (hle : u ≤ v) :
    Calls Try.prog 35 #[s, t] w fun e w' => ∃ r, e = .returned r ∧ RefN (v - u) r w' ∧ Below w.heap.size w w' := by
  obtain ⟨i0, hi, hz0, hz1, hz2⟩ := info_parts Try.info3
  have HS := Lib.hid hs
  have HT := Lib.hid ht
  have HV := Lib.hid hs.1
  have HLE := Lib.hid hle
  obtain ⟨hx1, a, c, rfl, h2, h3, h4⟩ := hs
  obtain ⟨hx2, a', c', rfl, h2', h3', h4'⟩ := ht
  clear h4 h4' h2 h2' h3 h3' hx1 hx2 hle
  go_enter Try.func35, Try.ntmps35
  go_wp2_with fail
  go_loopw [5, 6, 7] (fun x q i wr => ∃ k cy : Nat, k ≤ n ∧ addC 65536 (v - u) u k = cy ∧ q = .int .i64 (cy : Nat) ∧ i = .int .i64 (k : Nat) ∧ wr.ownsRow w.heap.size 3 1 x k (dcells (v - u) k) ∧ Below w.heap.size w wr)
    (fun _ _ i _ => n - (intOf i).toNat)
  case atStart => exact ⟨0, 0, by omega, addC_zero _ _ _, rfl, rfl, World.ownsRow_nil _ _ _ _, Below.refl _ _⟩
  case round =>
    obtain ⟨k, cy, hk, hcy, rfl, rfl, hown, hbel⟩ := hrel
    have hsz := hbel.size
    have HCY := Lib.hid hcy
    clear hcy
    by_cases h1 : k < n
    · obtain ⟨x, hx⟩ : ∃ x, dgt 65536 v k = x := ⟨_, rfl⟩
      obtain ⟨y, hy⟩ : ∃ y, dgt 65536 u k = y := ⟨_, rfl⟩
      obtain ⟨hd1, hd2, hcy1, hcy2⟩ := sub_digits v u k x y cy HLE.out hx hy HCY.out
      have hxl := d16_lt v k
      have hyl := d16_lt u k
      have HDk := Lib.hid (digit_any v n k _ wr (HS.out.kept hbel) (by omega))
      have HEk := Lib.hid (digit_any u m k _ wr (HT.out.kept hbel) (by omega))
      rw [hx] at hxl HDk
      rw [hy] at hyl HEk
      by_cases hneg : x < y + cy
      · have HD2 := Lib.hid (show addC 65536 (v - u) u (k + 1) = 1 by omega)
        have HD1 := Lib.hid (show dgt 65536 (v - u) k + y + cy = x + 65536 by omega)
        clear hx hy hd1 hd2 hcy2
        go_wp2_with (first
          | (go_at_call_of 50 (Value.slice a n c); refine HDk.out.mono ?_; rintro e w2 ⟨rfl, hw⟩; subst hw)
          | (go_at_call_of 50 (Value.slice a' m c'); refine HEk.out.mono ?_; rintro e w2 ⟨rfl, hw⟩; subst hw)
          | (at_builtin; refine wpList_append_own _ rfl _ _ 32 rfl w.heap.size 3 i0 (.int .i64 0) 1 8 Try.underlying32 hi hz0 hz1 hz2 rfl (by decide) _ _ _ rfl (hown.alloc _) ⟨w2.heap.size, 0, none⟩ 1 1 [.int .i64 ((x : Int) - (y : Int) - (cy : Int) + 65536)] rfl rfl (cell_one_new _ _ _) (fun x hx => by simp at hx; subst hx; rfl) (by unfold maxLen; omega) (by omega) (by simp; omega) ?_; intro v' w3 hown' hgrow3 hnil3))
        refine ⟨⟨k + 1, 1, by omega, HD2.out, by first | rfl | omega, rfl, ?_, (hbel.alloc hsz _).grown hgrow3 (by simp; omega) (fun j hj => (hown.lt j hj).1)⟩, by simp [intOf] <;> omega⟩
        rw [dcells_succ, show ((dgt 65536 (v - u) k : Nat) : Int) = (x : Int) - (y : Int) - (cy : Int) + 65536 by have := HD1.out; omega]
        exact hown'
      · have HD2 := Lib.hid (show addC 65536 (v - u) u (k + 1) = 0 by omega)
        have HD1 := Lib.hid (show dgt 65536 (v - u) k + y + cy = x by omega)
        clear hx hy hd1 hd2 hcy2
        go_wp2_with (first
          | (go_at_call_of 50 (Value.slice a n c); refine HDk.out.mono ?_; rintro e w2 ⟨rfl, hw⟩; subst hw)
          | (go_at_call_of 50 (Value.slice a' m c'); refine HEk.out.mono ?_; rintro e w2 ⟨rfl, hw⟩; subst hw)
          | (at_builtin; refine wpList_append_own _ rfl _ _ 32 rfl w.heap.size 3 i0 (.int .i64 0) 1 8 Try.underlying32 hi hz0 hz1 hz2 rfl (by decide) _ _ _ rfl (hown.alloc _) ⟨w2.heap.size, 0, none⟩ 1 1 [.int .i64 ((x : Int) - (y : Int) - (cy : Int))] rfl rfl (cell_one_new _ _ _) (fun x hx => by simp at hx; subst hx; rfl) (by unfold maxLen; omega) (by omega) (by simp; omega) ?_; intro v' w3 hown' hgrow3 hnil3))
        refine ⟨⟨k + 1, 0, by omega, HD2.out, by first | rfl | omega, rfl, ?_, (hbel.alloc hsz _).grown hgrow3 (by simp; omega) (fun j hj => (hown.lt j hj).1)⟩, by simp [intOf] <;> omega⟩
        rw [dcells_succ, show ((dgt 65536 (v - u) k : Nat) : Int) = (x : Int) - (y : Int) - (cy : Int) by have := HD1.out; omega]
        exact hown'
    · obtain rfl : k = n := by omega
      have HDone := Lib.hid (show v - u < 65536 ^ k from Nat.lt_of_le_of_lt (Nat.sub_le _ _) HV.out)
      go_wp2_with fail
      refine (trim_any _ k _ wr (digN_owns hown HDone.out)).mono ?_
      rintro e w2 ⟨s', rfl, hR, rfl⟩
      go_wp2_with fail
      go_ret
      exact ⟨_, rfl, hR, hbel⟩
end Go.Proofs.Ytkegdjndmeialaa
