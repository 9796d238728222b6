/- The reference's bytes; are two numbers the same? -/
import Derived.Test.YtkegdjndmeialaaR2
namespace Go.Proofs.Ytkegdjndmeialaa
open Go.RowKit

theorem byte_dgt (v i : Nat) : dgt 65536 v (i / 2) / 2 ^ (8 * (i % 2)) % 256 = v / 2 ^ (i * 8) % 256 := by
  have h := mod_div_mod (v / 2 ^ (16 * (i / 2))) 16 (8 * (i % 2)) 8 (by omega)
  unfold dgt
  rw [show (65536 : Nat) = 2 ^ 16 by decide, ← Nat.pow_mul]
  rw [show (2 : Nat) ^ 8 = 256 by decide] at h
  rw [h, Nat.div_div_eq_div_mul, ← Nat.pow_add]
  congr 3
  omega

/-- The first m bytes of a number, as cells. -/
def bcells (v m : Nat) : List Value := ((bytesN v).take m).map fun x => .int .u8 (x : Nat)
theorem bcells_succ (v m : Nat) (h : m < nBytes v) : bcells v (m + 1) = bcells v m ++ [.int .u8 (v / 2 ^ ((nBytes v - 1 - m) * 8) % 256 : Nat)] := by
  have h2 : m < (bytesN v).length := by rw [bytesN_length]; exact h
  have e : (bytesN v)[m]? = some (v / 2 ^ ((nBytes v - 1 - m) * 8) % 256) := by
    rw [bytesN, List.getElem?_map, List.getElem?_range h]; rfl
  unfold bcells
  rw [List.take_add_one, e]
  simp
theorem bcells_all (v : Nat) : bcells v (nBytes v) = (bytesN v).map fun x => .int .u8 (x : Nat) := by
  unfold bcells
  rw [List.take_of_length_le (by rw [bytesN_length]; exact Nat.le_refl _)]

set_option maxRecDepth 100000 in
set_option maxHeartbeats 800000 in
theorem rbytes_any (v n : Nat) (s : Value) (w : World) (h : DigN v n s w) (hn : n ≤ 100000000) : Calls Try.prog 48 #[s] w (Owns 5 .u8 (bytesN v) w) := by
  obtain ⟨i0, hi, hz0, hz1, hz2⟩ := info_parts Try.info5
  have HD := Lib.hid h
  have HBL := Lib.hid (rbitLen_any v n s w h hn)
  have hL : dlen 2 v ≤ 16 * n := dlen_le (by omega) (by rw [Nat.pow_mul]; exact h.1)
  obtain ⟨nb, hnb⟩ : ∃ nb, nBytes v = nb := ⟨_, rfl⟩
  have hnb' := hnb
  unfold nBytes at hnb'
  generalize dlen 2 v = L at *
  have HNB := Lib.hid hnb
  have hnbi : ((L : Int) + 7) / 8 = ((nb : Nat) : Int) := by omega
  have HNI := Lib.hid hnbi
  have hnb2 : nb ≤ 200000001 := by omega
  clear hnb hnb' hnbi h
  go_enter Try.func48, Try.ntmps48
  go_wp2_with fail
  refine HBL.out.mono ?_
  rintro e w1 ⟨rfl, rfl⟩
  go_wp2_with fail
  rw [HNI.out]
  go_loopw [4, 5] (fun x i wr => ∃ m : Nat, m ≤ nb ∧ i = .int .i64 ((nb : Int) - 1 - m) ∧ wr.ownsRow w1.heap.size 5 1 x m (bcells v m) ∧ Below w1.heap.size w1 wr)
    (fun _ i _ => (intOf i + 1).toNat)
  case atStart => exact ⟨0, by omega, by simp, World.ownsRow_nil _ _ _ _, Below.refl _ _⟩
  case round =>
    obtain ⟨m, hm, rfl, hown, hbel⟩ := hrel
    have hsz := hbel.size
    by_cases hlt : m < nb
    · obtain ⟨i, hle, hge⟩ : ∃ i, nb ≤ i + 1 + m ∧ i + 1 + m ≤ nb := ⟨nb - 1 - m, by omega, by omega⟩
      rw [show (nb : Int) - 1 - m = ((i : Nat) : Int) by omega]
      have hd := d16_lt v (i / 2)
      have HB := Lib.hid (byte_dgt v i)
      have HDG := Lib.hid (digit_at v n (i / 2) ((i : Int) / 2) s wr (HD.out.kept hbel) (by omega) (by omega))
      generalize dgt 65536 v (i / 2) = d at *
      have hbyte : ((d : Int) / 2 ^ (8 * (i % 2))).tmod 256 % 256 = ((v / 2 ^ (i * 8) % 256 : Nat) : Int) := by
        rw [← HB.out]
        have h2 : ((d : Int) / 2 ^ (8 * (i % 2))) = ((d / 2 ^ (8 * (i % 2)) : Nat) : Int) := by
          rw [Int.natCast_ediv, Int.natCast_pow]; rfl
        rw [h2]
        generalize d / 2 ^ (8 * (i % 2)) = q
        rw [Int.tmod_eq_emod_of_nonneg (by omega)]
        omega
      have HBY := Lib.hid hbyte
      clear hbyte
      go_wp2_with (first
        | (go_at_call 50; refine HDG.out.mono ?_; rintro e w2 ⟨rfl, rfl⟩)
        | (at_builtin; refine wpList_append_own _ rfl _ _ 22 rfl w1.heap.size 5 i0 (.int .u8 0) 1 1 Try.underlying22 hi hz0 hz1 hz2 rfl (by decide) _ _ _ rfl (hown.alloc _) ⟨w2.heap.size, 0, none⟩ 1 1 [.int .u8 (((d : Int) / 2 ^ (8 * (i % 2))).tmod 256 % 256)] rfl rfl (cell_one_new _ _ _) (fun x hx => by simp at hx; subst hx; rfl) (by unfold maxLen; omega) (by omega) (by simp; omega) ?_; intro v' w3 hown' hgrow3 hnil3))
      refine ⟨⟨m + 1, by omega, congrArg (Value.int .i64) (by omega), ?_, (hbel.alloc hsz _).grown hgrow3 (by simp; omega) (fun j hj => (hown.lt j hj).1)⟩, by simp [intOf] <;> omega⟩
      rw [bcells_succ v m (by rw [HNB.out]; exact hlt), HNB.out, show nb - 1 - m = i by omega, ← HBY.out]
      exact hown'
    · obtain rfl : m = nb := by omega
      go_wp2_with fail
      go_ret
      refine ⟨_, rfl, ?_, hbel⟩
      have e := bcells_all v
      rw [HNB.out] at e
      rw [bytesN_length, HNB.out, ← e]
      exact hown
end Go.Proofs.Ytkegdjndmeialaa
