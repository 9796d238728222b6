/- The reference's text. -/
import Derived.Test.YtkegdjndmeialaaR3
import Derived.Test.YtkegdjndmeialaaC5
namespace Go.Proofs.Ytkegdjndmeialaa
open Go.RowKit

theorem nib_dgt (v i : Nat) : dgt 65536 v (i / 4) / 2 ^ (4 * (i % 4)) % 16 = v / 2 ^ (i * 4) % 16 := by
  have h := mod_div_mod (v / 2 ^ (16 * (i / 4))) 16 (4 * (i % 4)) 4 (by omega)
  unfold dgt
  rw [show (65536 : Nat) = 2 ^ 16 by decide, ← Nat.pow_mul]
  rw [show (2 : Nat) ^ 4 = 16 by decide] at h
  rw [h, Nat.div_div_eq_div_mul, ← Nat.pow_add]
  congr 3
  omega

/-- The first m numerals of a number of nb numerals. -/
def hexT (v nb m : Nat) : List Nat := (List.range m).map fun i => hexc (v / 2 ^ ((nb - 1 - i) * 4) % 16)
theorem hexT_succ (v nb m : Nat) : hexT v nb (m + 1) = hexT v nb m ++ [hexc (v / 2 ^ ((nb - 1 - m) * 4) % 16)] := by simp [hexT, List.range_succ]
theorem strOf_snoc (l : List Nat) (c : Nat) : strOf l ++ strOf [c] = strOf (l ++ [c]) := by
  simp only [strOf, List.map_append, List.map_cons, List.map_nil]
  apply ByteArray.ext
  simp

theorem num_ext (g : Nat) (hg : g < 16) : ({ data := #[48, 49, 50, 51, 52, 53, 54, 55, 56, 57, 97, 98, 99, 100, 101, 102] } : ByteArray).extract g (g + 1) = strOf [hexc g] := by
  rcases (by omega : g = 0 ∨ g = 1 ∨ g = 2 ∨ g = 3 ∨ g = 4 ∨ g = 5 ∨ g = 6 ∨ g = 7 ∨ g = 8 ∨ g = 9 ∨ g = 10 ∨ g = 11 ∨ g = 12 ∨ g = 13 ∨ g = 14 ∨ g = 15) with rfl | rfl | rfl | rfl | rfl | rfl | rfl | rfl | rfl | rfl | rfl | rfl | rfl | rfl | rfl | rfl
  all_goals kernel_rfl

set_option maxRecDepth 100000 in
set_option maxHeartbeats 400000 in
theorem rtext_any (v n : Nat) (s : Value) (w : World) (h : DigN v n s w) (hn : n ≤ 1000000) : Calls Try.prog 18 #[s] w fun e w' => e = .returned (.string (strOf (hexN v))) ∧ w' = w := by
  have HD := Lib.hid h
  have HBL := Lib.hid (rbitLen_any v n s w h (by omega))
  have hL : dlen 2 v ≤ 16 * n := dlen_le (by omega) (by rw [Nat.pow_mul]; exact h.1)
  obtain ⟨nb, hnb⟩ : ∃ nb, (dlen 2 v + 3) / 4 = nb := ⟨_, rfl⟩
  have hHX : hexN v = hexT v (max 1 nb) (max 1 nb) := by unfold hexN hexT nHex; rw [hnb]
  have HHX := Lib.hid hHX
  have HV0 := Lib.hid (fun (h0 : nb = 0) => (by
    have h1 : dlen 2 v = 0 := by omega
    have h2 := lt_dlen (show 2 ≤ 2 by omega) v
    rw [h1, Nat.pow_zero] at h2
    omega : v = 0))
  generalize dlen 2 v = L at *
  have hnbi : ((L : Int) + 3) / 4 = ((nb : Nat) : Int) := by omega
  have HNI := Lib.hid hnbi
  have hnb2 : nb ≤ 5000000 := by omega
  clear hnb hnbi h hHX
  go_enter Try.func18, Try.ntmps18
  go_wp2_with fail
  refine HBL.out.mono ?_
  rintro e w1 ⟨rfl, rfl⟩
  go_wp2_with fail
  rw [HNI.out]
  go_loopw [4, 5] (fun x i wr => ∃ m : Nat, m ≤ nb ∧ i = .int .i64 ((nb : Int) - 1 - m) ∧ x = .string (strOf (hexT v nb m)) ∧ wr = w1)
    (fun _ i _ => (intOf i + 1).toNat)
  case atStart => exact ⟨0, by omega, by simp, rfl, rfl⟩
  case round =>
    obtain ⟨m, hm, rfl, rfl, rfl⟩ := hrel
    by_cases hlt : m < nb
    · obtain ⟨i, hle, hge⟩ : ∃ i, nb ≤ i + 1 + m ∧ i + 1 + m ≤ nb := ⟨nb - 1 - m, by omega, by omega⟩
      rw [show (nb : Int) - 1 - m = ((i : Nat) : Int) by omega]
      have hd := d16_lt v (i / 4)
      have HB := Lib.hid (nib_dgt v i)
      have HDG := Lib.hid (digit_at v n (i / 4) ((i : Int) / 4) s wr HD.out (by omega) (by omega))
      generalize dgt 65536 v (i / 4) = d at *
      obtain ⟨g, hg⟩ : ∃ g, v / 2 ^ (i * 4) % 16 = g := ⟨_, rfl⟩
      have hg16 : g < 16 := by omega
      have htm : ((d : Int) / 2 ^ (4 * (i % 4))).tmod 16 = ((g : Nat) : Int) := by
        rw [← hg, ← HB.out]
        have h2 : ((d : Int) / 2 ^ (4 * (i % 4))) = ((d / 2 ^ (4 * (i % 4)) : Nat) : Int) := by
          rw [Int.natCast_ediv, Int.natCast_pow]; rfl
        rw [h2]
        generalize d / 2 ^ (4 * (i % 4)) = q
        rw [Int.tmod_eq_emod_of_nonneg (by omega)]
        omega
      have HG := Lib.hid hg
      have hsz : (strOf (hexT v nb m)).size = m := by rw [strOf_size]; simp [hexT]
      clear hg
      go_wp2_with (first | (go_at_call 50; refine HDG.out.mono ?_; rintro e w2 ⟨rfl, hw⟩; subst hw))
      refine ⟨⟨m + 1, by omega, congrArg (Value.int .i64) (by omega), congrArg Value.string ?_, trivial⟩, by simp [intOf] <;> omega⟩
      rw [hexT_succ, show nb - 1 - m = i by omega, HG.out, num_ext g hg16, strOf_snoc]
    · obtain rfl : m = nb := by omega
      by_cases h0 : m = 0
      · subst h0
        have hv0 := HV0.out rfl
        go_wp2_with fail
        go_ret
        refine ⟨ret_eq (congrArg Value.string ?_), rfl⟩
        kernel_rfl
      · go_wp2_with fail
        go_ret
        refine ⟨ret_eq (congrArg Value.string ?_), rfl⟩
        rw [HHX.out, show max 1 m = m by omega]
end Go.Proofs.Ytkegdjndmeialaa
