/- What the reference parses. -/
import Derived.Test.YtkegdjndmeialaaR6
import Derived.Test.YtkegdjndmeialaaR9
import Derived.Test.YtkegdjndmeialaaC5
import Derived.Test.YtkegdjndmeialaaC7
import Derived.BigQuiet
namespace Go.Proofs.Ytkegdjndmeialaa
open Go.RowKit

theorem run_numeral64 (d : Nat) (hd : d < 16) (W : World) :
    (Instr.index 9 (.string { data := #[48, 49, 50, 51, 52, 53, 54, 55, 56, 57, 97, 98, 99, 100, 101, 102] }) (.int .i64 (d : Nat))).run Try.prog W = .ok (.int .u8 (hexc d : Nat)) W := by
  rcases (by omega : d = 0 ∨ d = 1 ∨ d = 2 ∨ d = 3 ∨ d = 4 ∨ d = 5 ∨ d = 6 ∨ d = 7 ∨ d = 8 ∨ d = 9 ∨ d = 10 ∨ d = 11 ∨ d = 12 ∨ d = 13 ∨ d = 14 ∨ d = 15) with rfl | rfl | rfl | rfl | rfl | rfl | rfl | rfl | rfl | rfl | rfl | rfl | rfl | rfl | rfl | rfl
  all_goals kernel_rfl
theorem hexc_numV (b : Nat) (h : isNumB (b : Nat) = true) : hexc (numV (b : Nat)).toNat = b := by
  unfold isNumB at h
  simp only [Bool.or_eq_true, decide_eq_true_eq] at h
  unfold hexc numV
  split <;> split <;> omega
theorem hexc_inj {d e : Nat} (hd : d < 16) (he : e < 16) (h : hexc d = hexc e) : d = e := by
  unfold hexc at h
  split at h <;> split at h <;> omega
theorem take_step16 (L : List Nat) (j : Nat) (hj : j < L.length) : valBE 16 (L.take (j + 1)) = valBE 16 (L.take j) * 2 ^ 4 + L.getD j 0 := by
  have h : L.take (j + 1) = L.take j ++ [L.getD j 0] := by
    rw [List.take_add_one]; simp [List.getD, hj]
  rw [h, valBE_snoc]

theorem hex_dlen {L : List Nat} (h : ∀ x ∈ L, x < 16) (k : Nat) (hk : k ≤ 1000) : dlen 65536 (valBE 16 (L.take k)) ≤ 1000 := by
  have h1 := valBE_lt 16 (by omega) (L.take k) (fun x hx => h x (List.mem_of_mem_take hx))
  have h2 : (L.take k).length ≤ k := by simp; omega
  refine Nat.le_trans (dlen_le (by omega) (Nat.lt_of_lt_of_le h1 ?_)) (Nat.le_trans h2 hk)
  exact Nat.pow_le_pow_left (by omega) _
theorem hex_dlen4 {L : List Nat} (h : ∀ x ∈ L, x < 16) (k : Nat) (hk : k ≤ 1000) : dlen 65536 (valBE 16 (L.take k) * 2 ^ 4) ≤ 1001 := by
  have h1 := lt_dlen (show 2 ≤ 65536 by omega) (valBE 16 (L.take k))
  have h2 := hex_dlen h k hk
  generalize valBE 16 (L.take k) = X at *
  generalize dlen 65536 X = N at *
  have e : (65536 : Nat) ^ (N + 1) = 65536 ^ N * 65536 := Nat.pow_succ ..
  have h3 : X * 2 ^ 4 < 65536 ^ (N + 1) := by
    rw [e]
    refine Nat.lt_of_lt_of_le (Nat.mul_lt_mul_of_pos_right h1 (by omega)) (Nat.mul_le_mul_left _ (by omega))
  exact Nat.le_trans (dlen_le (by omega) h3) (by omega)
theorem rshift4 (v n : Nat) (s : Value) (w : World) (hs : DigN v n s w) (hn : n ≤ 1000000) :
    Calls Try.prog 44 #[s, .int .i64 4] w fun e w' => ∃ t, e = .returned t ∧ RefN (v * 2 ^ 4) t w' ∧ Below w.heap.size w w' :=
  rshift_any v n 4 s w hs hn (by omega)
theorem dlen_small {j : Nat} (h : j < 16) : dlen 65536 j ≤ 1 := dlen_le (by omega) (by omega)

set_option maxRecDepth 100000 in
set_option maxHeartbeats 400000 in
theorem rparse_ok (s : ByteArray) (h : isTextB s = true) (hs : s.size ≤ 1000) (w : World) :
    Calls Try.prog 20 #[.string s] w fun e w' => ∃ t, e = .returned (.tuple #[t, .bool true]) ∧ RefN (valBE 16 (digs s)) t w' ∧ Below w.heap.size w w' := by
  have HNUM := Lib.hid (isTextB_num s h)
  obtain ⟨L, hL⟩ : ∃ L, digs s = L := ⟨_, rfl⟩
  have HL := Lib.hid hL
  have hlen : L.length = s.size := by rw [← hL, digs_length]
  have HLEN := Lib.hid hlen
  have hd16 : ∀ x ∈ L, x < 16 := by
    intro y hy
    obtain ⟨i, hi, rfl⟩ := List.mem_iff_getElem.1 hy
    have hi2 : i < s.size := by omega
    have hg := digs_get s i hi2
    rw [hL, List.getD, List.getElem?_eq_getElem hi, Option.getD_some] at hg
    have := numV_bd _ (HNUM.out i hi2)
    omega
  have H16 := Lib.hid hd16
  have hp : 0 < s.size := by
    unfold isTextB at h; simp at h; exact h.1.1
  have hlead : s[0].toNat ≠ 48 ∨ s.size = 1 := by
    have h2 : ((natsOf s).getD 0 0 != 48 || s.size == 1) = true := by
      unfold isTextB at h
      simp only [Bool.and_eq_true] at h
      exact h.1.2
    rw [natsOf_get s 0 hp] at h2
    simpa using h2
  rw [hL]
  clear hL hlen hd16 h
  have hcase : (((s[0].toNat : Nat) : Int) = 48 ∧ ¬ (1 : Int) < (s.size : Int)) ∨ ¬ ((s[0].toNat : Nat) : Int) = 48 := by omega
  clear hlead
  have hne : ¬ s = ByteArray.empty := by
    rintro rfl
    exact absurd hp (by decide)
  have hne2 : ((s.size : Int) == 0) = false := by
    rw [beq_eq_false_iff_ne]; omega
  rcases hcase with ⟨h5, h6⟩ | h5
  all_goals
    go_enter Try.func20, Try.ntmps20
    go_wp2_with fail
    go_loopw [4, 5] (fun x i wr => ∃ k : Nat, k ≤ s.size ∧ i = .int .i64 (k : Nat) ∧ RefN (valBE 16 (L.take k)) x wr ∧ Below w.heap.size w wr)
      (fun _ i _ => s.size - (intOf i).toNat)
    case atStart => exact ⟨0, by omega, rfl, ⟨by simp [valBE, dlen_zero], none, 0, rfl, by simp [valBE, dlen_zero], by decide, .inl (by simp [valBE, dlen_zero])⟩, Below.refl _ _⟩
    case round =>
      obtain ⟨k, hk, rfl, hR, hbel⟩ := hrel
      have HR := Lib.hid hR
      have HB := Lib.hid hbel
      clear hR hbel
      by_cases hlt : k < s.size
      · have hb := HNUM.out k hlt
        have hb256 := s[k].toNat_lt
        have hdk := digs_get s k hlt
        obtain ⟨b, hbb⟩ : ∃ b, s[k].toNat = b := ⟨_, rfl⟩
        rw [hbb] at hb hb256 hdk
        obtain ⟨hn0, hn1⟩ := numV_bd _ hb
        have hx := hexc_numV b hb
        obtain ⟨x, hxx⟩ : ∃ x, (numV (b : Nat)).toNat = x := ⟨_, rfl⟩
        rw [hxx] at hx hdk
        have hx16 : x < 16 := by omega
        have HX := Lib.hid hx
        have HDK := Lib.hid hdk
        have HBB := Lib.hid hbb
        clear hb hdk hn0 hn1 hx hxx
        have hdl := hex_dlen H16.out k (by omega)
        have hdl2 := hex_dlen4 H16.out k (by omega)
        go_wp2_with fail
        go_loopw [6] (fun y wq => ∃ j : Nat, j ≤ x ∧ y = .int .i64 (j : Nat) ∧ RefN (valBE 16 (L.take k)) u4 wq ∧ Below w.heap.size w wq)
          (fun y _ => 16 - (intOf y).toNat)
        case atStart => exact ⟨0, by omega, rfl, HR.out, HB.out⟩
        case round =>
          obtain ⟨j, hj, rfl, hRq, hBq⟩ := hrel
          have HRq := Lib.hid hRq
          have HBq := Lib.hid hBq
          clear hRq hBq
          have hj16 : j < 16 := by omega
          have hnum := fun W => run_numeral64 j hj16 W
          have hbb := HBB.out
          have hdec : decide ((j : Int) < 16) = true := by simp; omega
          by_cases hjx : j < x
          · have hne3 : hexc j ≠ b := fun e => by
              have := hexc_inj hj16 hx16 (e.trans HX.out.symm)
              omega
            obtain ⟨y, hy⟩ : ∃ y, hexc j = y := ⟨_, rfl⟩
            rw [hy] at hnum hne3
            clear hy
            have hne4 : ((y : Int) != (b : Int)) = true := by simp; omega
            go_wp2_with fail
            go_quiet (fail)
            go_wp2_with fail
            refine ⟨⟨j + 1, by omega, rfl, HRq.out.kept (below_drewN (Below.refl _ _) _), below_drewN HBq.out _⟩, by simp [intOf]; omega⟩
          · obtain rfl : j = x := by omega
            have hx := HX.out
            have hdj := dlen_small hj16
            rw [hx] at hnum
            have heq4 : ((b : Int) != (b : Int)) = false := by simp
            go_wp2_with fail
            go_quiet (fail)
            have HRd := Lib.hid (HRq.out.kept (below_drewN (Below.refl _ _) nq))
            have HBd := Lib.hid (below_drewN HBq.out nq)
            go_wp2_with fail
            refine (rshift4 (valBE 16 (L.take k)) _ u4 _ HRd.out (by omega)).mono ?_
            rintro e w2 ⟨t2, rfl, ht, hb⟩
            have HT2 := Lib.hid ht
            have HB2 := Lib.hid (HBd.out.trans (hb.mono HBd.out.size))
            clear ht hb
            go_wp2_with fail
            refine (rof_any j (by omega) _).mono ?_
            rintro e w3 ⟨t3, rfl, ht, hb⟩
            have HT3 := Lib.hid ht
            have HS3 := Lib.hid (HT2.out.kept hb)
            have HB3 := Lib.hid (HB2.out.trans (hb.mono HB2.out.size))
            clear ht hb
            go_wp2_with fail
            refine (radd_any _ _ _ _ t2 t3 _ HS3.out HT3.out (by omega) (by omega)).mono ?_
            rintro e w4 ⟨t4, rfl, ht, hb⟩
            have HT4 := Lib.hid ht
            have HB4 := Lib.hid (HB3.out.trans (hb.mono HB3.out.size))
            clear ht hb
            go_wp2_with fail
            refine ⟨⟨k + 1, by omega, rfl, ?_, HB4.out⟩, by simp [intOf]; omega⟩
            rw [take_step16 L k (by rw [HLEN.out]; exact hlt), show L.getD k 0 = j by rw [← HL.out]; exact HDK.out]
            exact HT4.out
      · obtain rfl : k = s.size := by omega
        have hall : L.take s.size = L := List.take_of_length_le (by rw [HLEN.out]; exact Nat.le_refl _)
        have HRR := Lib.hid (show RefN (valBE 16 L) u4 wr by rw [← hall]; exact HR.out)
        clear hall
        go_wp2_with fail
        go_ret2
        exact ⟨_, rfl, HRR.out, HB.out⟩
end Go.Proofs.Ytkegdjndmeialaa
