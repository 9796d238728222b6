/- Multiplying, by the reference. -/
import Derived.Test.YtlmfiggmjpjpiaaZR
import Derived.Test.YtlmfiggmjpjpiaaZMath
import Derived.IntWalk
namespace Go.Proofs.Ytlmfiggmjpjpiaa
open Go.RowKit

theorem dcells_zero (N : Nat) : dcells 0 N = (madeCells #[Value.int .i64 0] N).toList := by
  rw [made_zero]
  have := dcells_low 0 N
  rwa [Nat.zero_mul] at this
theorem dcells_get (v N j : Nat) (h : j < N) : (dcells v N)[j]? = some (.int .i64 (dgt 65536 v j : Nat)) := by simp [dcells, h]
theorem dcells_set (X N j d : Nat) (hd : d < 65536) : (dcells X N).set j (.int .i64 (d : Nat)) = dcells (setD 65536 X j d) N := by
  refine List.ext_getElem? fun i => ?_
  by_cases hi : i < N
  · rw [dcells_get _ _ _ hi]
    by_cases e : i = j
    · subst e
      rw [List.getElem?_set_self (by rw [dcells_length]; exact hi), dgt_setD_same (by omega) hd]
    · rw [List.getElem?_set_ne (fun h => e h.symm), dcells_get _ _ _ hi, dgt_setD_other (by omega) hd e]
  · rw [List.getElem?_eq_none (by rw [List.length_set, dcells_length]; omega), List.getElem?_eq_none (by rw [dcells_length]; omega)]

theorem DigN.cellsAt {v n : Nat} {a : Option Addr} {c : Nat} {W : World} (h : DigN v n (.slice a n c) W) (i : Nat) (hi : i < n) :
    ∃ b off, a = some ⟨b, off, none⟩ ∧ b < W.heap.size ∧ W.cell? ⟨b, off + i, none⟩ = some (.int .i64 (dgt 65536 v i : Nat)) := by
  obtain ⟨_, a', c', he, _, _, h4⟩ := h
  cases he
  rcases h4 with h4 | ⟨b, off, rfl, h5, h6⟩
  · omega
  · exact ⟨b, off, rfl, h5, h6 i hi⟩
theorem drew_below {w : World} (n : Nat) : Below w.heap.size w (w.drewN n) := below_drewN (Below.refl _ _) n

set_option maxRecDepth 100000 in
set_option maxHeartbeats 1000000 in
theorem rmul_any (v u n m : Nat) (s t : Value) (w : World) (hs : DigN v n s w) (ht : DigN u m t w) (hn : n ≤ 1000000) (hm : m ≤ 1000000) :
    Calls Try.prog 47 #[s, t] w fun e w' => ∃ r, e = .returned r ∧ RefN (v * u) r w' ∧ Below w.heap.size w w' := by
  obtain ⟨i0, hi, hz0, hz1, hz2⟩ := info_parts Try.info3
  have HS := Lib.hid hs
  have HT := Lib.hid ht
  have HU := Lib.hid ht.1
  have HV := Lib.hid hs.1
  obtain ⟨hx1, a, c, rfl, h2, h3, h4⟩ := hs
  obtain ⟨hx2, a', c', rfl, h2', h3', h4'⟩ := ht
  clear h4 h4' h2 h2' h3 h3' hx1 hx2
  obtain ⟨N, hN1, hN2⟩ : ∃ N, N ≤ n + m + 1 ∧ n + m + 1 ≤ N := ⟨n + m + 1, by omega, by omega⟩
  have HNN := Lib.hid (show (n : Int) + (m : Int) + 1 = ((N : Nat) : Int) by omega)
  go_enter Try.func47, Try.ntmps47
  go_wp2_with (at_make; rw [HNN.out]; refine wpList_make_full _ rfl _ _ 34 rfl w.heap.size 3 i0 (.int .i64 0) 1 Try.underlying34 hi hz0 hz1 .i64 .i64 _ _ N rfl rfl rfl rfl (by rw [hz2]; omega) (by unfold maxLen; omega) (Nat.le_refl _) ?_)
  intro w2 hown2 hg2
  have hbel2 : Below w.heap.size w w2 := (Below.refl _ w).grown hg2 (Nat.le_refl _) (fun k e => by cases e)
  rw [← dcells_zero] at hown2
  have HO2 := Lib.hid hown2
  have HB2 := Lib.hid hbel2
  clear hown2 hg2 hbel2
  go_wp2_with fail
  go_loopw [6] (fun i wr => ∃ k : Nat, k ≤ n ∧ i = .int .i64 (k : Nat) ∧ wr.ownsRow w.heap.size 3 1 (.slice (some ⟨w.heap.size, 0, none⟩) N N) N (dcells (v % 65536 ^ k * u) N) ∧ Below w.heap.size w wr)
    (fun i _ => n - (intOf i).toNat)
  case atStart => exact ⟨0, by omega, rfl, by rw [Nat.pow_zero, Nat.mod_one, Nat.zero_mul]; exact HO2.out, HB2.out⟩
  case round =>
    obtain ⟨i, hin, rfl, hown, hbel⟩ := hrel
    have HO := Lib.hid hown
    have HB := Lib.hid hbel
    clear hown hbel
    by_cases hlt : i < n
    · obtain ⟨y, hy⟩ : ∃ y, dgt 65536 v i = y := ⟨_, rfl⟩
      have hyl : y < 65536 := by rw [← hy]; exact d16_lt v i
      have HY := Lib.hid hy
      clear hy
      go_wp2_with fail
      obtain ⟨wo, rfl⟩ : ∃ wo : World, wo = wr := ⟨_, rfl⟩
      go_loopw [7, 8] (fun q k wq => ∃ j cy X : Nat, j ≤ m + 1 ∧ cy < 65536 ∧ X + cy * 65536 ^ (i + j) = v % 65536 ^ i * u + y * (u % 65536 ^ j) * 65536 ^ i ∧ q = .int .i64 (cy : Nat) ∧ k = .int .i64 (j : Nat) ∧
          wq.ownsRow w.heap.size 3 1 (.slice (some ⟨w.heap.size, 0, none⟩) N N) N (dcells X N) ∧ Below w.heap.size w wq)
        (fun _ k _ => m + 1 - (intOf k).toNat)
      case atStart => exact ⟨0, 0, _, by omega, by omega, by rw [Nat.pow_zero, Nat.mod_one]; simp, rfl, rfl, HO.out, HB.out⟩
      case round =>
        obtain ⟨j, cy, X, hj, hcy, hacc, rfl, rfl, hown, hbel⟩ := hrel
        have HACC := Lib.hid hacc
        have HOq := Lib.hid hown
        have HBq := Lib.hid hbel
        clear hacc hown hbel
        by_cases hgo : j < m ∨ 0 < cy
        · have hjm : j ≤ m := by
            rcases Nat.lt_or_ge m j with h | h
            · have := mul_over (B := 65536) (v := v) (i := i) (k := j) (by omega) HU.out (by omega) (by rw [HY.out]; exact HACC.out)
              omega
            · exact h
          have hidx : i + j < N := by omega
          obtain ⟨x, hx⟩ : ∃ x, dgt 65536 X (i + j) = x := ⟨_, rfl⟩
          obtain ⟨d, hd⟩ : ∃ d, dgt 65536 u j = d := ⟨_, rfl⟩
          have hxl : x < 65536 := by rw [← hx]; exact d16_lt _ _
          have hdl : d < 65536 := by rw [← hd]; exact d16_lt _ _
          obtain ⟨p, hp⟩ : ∃ p, y * d = p := ⟨_, rfl⟩
          obtain ⟨q, hq⟩ : ∃ q, x + y * d + cy = q := ⟨_, rfl⟩
          obtain ⟨hq1, hq2, hq3⟩ := mul_carry hxl hyl hdl hcy hq.symm
          have hstep := mul_step 65536 (v % 65536 ^ i * u) y u X cy i j q (by rw [hx, hd]; exact hq.symm) HACC.out
          have HST := Lib.hid hstep
          have hp2 : p ≤ 65535 * 65535 := by rw [← hp]; exact Nat.mul_le_mul (by omega) (by omega)
          have hpi : (y : Int) * (d : Int) = ((p : Nat) : Int) := by rw [← hp]; simp
          have hqi : x + p + cy = q := by rw [← hp]; exact hq
          obtain ⟨b, off, rfl, hblk, hca⟩ := (HS.out.kept HBq.out).cellsAt i hlt
          rw [HY.out] at hca
          have hco := HOq.out.cellAt (i + j) (by omega)
          rw [dcells_get _ _ _ hidx, hx] at hco
          have hfo := HOq.out.frozenAt (i + j)
          have hca2 : ∀ n', (wr.drewN n').cell? ⟨b, off + i, none⟩ = some (.int .i64 (y : Nat)) := fun _ => hca
          have hco3 := hco
          have hco2 : ∀ n', (wr.drewN n').cell? ⟨w.heap.size, i + j, none⟩ = some (.int .i64 (x : Nat)) := fun _ => hco
          have HD : ∀ n', Calls Try.prog 64 #[.slice a' m c', .int .i64 (j : Nat)] (wr.drewN n') fun e w' => e = .returned (.int .i64 (d : Nat)) ∧ w' = wr.drewN n' := fun n' => by
            rw [← hd]
            exact digit_any u m j _ _ (HT.out.kept (HBq.out.trans ((drew_below n').mono HBq.out.size))) (by omega)
          have HDD := Lib.hid HD
          have e1 : IntKind.i64.wrap ((i : Int) + (j : Int)) = (i : Int) + (j : Int) := IntWalk.i64_in _ (by omega)
          have e2 : 0 ≤ (i : Int) + (j : Int) := by omega
          have e3 : ((i : Int) + (j : Int)).toNat = i + j := by omega
          have e4 : IntKind.i64.wrap ((y : Int) * (d : Int)) = ((p : Nat) : Int) := by rw [hpi]; exact IntWalk.i64_in _ (by omega)
          have e5 : IntKind.i64.wrap ((x : Int) + (p : Int)) = (x : Int) + (p : Int) := IntWalk.i64_in _ (by omega)
          have e6 : IntKind.i64.wrap ((x : Int) + (p : Int) + (cy : Int)) = ((q : Nat) : Int) := by rw [show (x : Int) + (p : Int) + (cy : Int) = ((q : Nat) : Int) by omega]; exact IntWalk.i64_in _ (by omega)
          clear hx hd hp hq hstep hpi hqi hca hco HD
          by_cases h1 : j < m
          · clear hgo
            go_wp2_with fail
            go_quiet ((go_at_call 64; exact Calls.quiet_of_same (HDD.out _)))
            clear hca2 hco2 e1 e4 e5 e6
            have hcs : ∀ n', (wr.drewN n').cell? ⟨w.heap.size, i + j, none⟩ = some (.int .i64 (x : Nat)) := fun _ => hco3
            have hfs : ∀ n', (wr.drewN n').frozen? ⟨w.heap.size, i + j, none⟩ = false := fun _ => hfo
            go_wp2_with fail
            refine ⟨⟨j + 1, q / 65536, setD 65536 X (i + j) (q % 65536), by omega, hq1, HST.out, congrArg (Value.int .i64) (by omega), rfl, ?_, (below_drewN HBq.out nq).setCell (Nat.le_refl _) _⟩, by simp [intOf]; omega⟩
            rw [← dcells_set _ _ _ _ hq2]
            exact ((show (wr.drewN nq).ownsRow w.heap.size 3 1 (.slice (some ⟨w.heap.size, 0, none⟩) N N) N (dcells X N) from HOq.out).stored (i + j) _).1
          · have h2 : 0 < cy := by omega
            clear hgo
            go_wp2_with fail
            go_quiet ((go_at_call 64; exact Calls.quiet_of_same (HDD.out _)))
            clear hca2 hco2 e1 e4 e5 e6
            have hcs : ∀ n', (wr.drewN n').cell? ⟨w.heap.size, i + j, none⟩ = some (.int .i64 (x : Nat)) := fun _ => hco3
            have hfs : ∀ n', (wr.drewN n').frozen? ⟨w.heap.size, i + j, none⟩ = false := fun _ => hfo
            go_wp2_with fail
            refine ⟨⟨j + 1, q / 65536, setD 65536 X (i + j) (q % 65536), by omega, hq1, HST.out, congrArg (Value.int .i64) (by omega), rfl, ?_, (below_drewN HBq.out nq).setCell (Nat.le_refl _) _⟩, by simp [intOf]; omega⟩
            rw [← dcells_set _ _ _ _ hq2]
            exact ((show (wr.drewN nq).ownsRow w.heap.size 3 1 (.slice (some ⟨w.heap.size, 0, none⟩) N N) N (dcells X N) from HOq.out).stored (i + j) _).1
        · obtain rfl : cy = 0 := by omega
          have h1 : ¬ j < m := by omega
          have hend := mul_end (B := 65536) (v := v) (i := i) (k := j) (by omega) HU.out (by omega) (by rw [HY.out]; exact HACC.out)
          rw [Nat.zero_mul, Nat.add_zero] at hend
          have HX := Lib.hid hend
          clear hgo hend
          go_wp2_with fail
          refine ⟨⟨i + 1, by omega, rfl, by rw [← HX.out]; exact HOq.out, HBq.out⟩, by simp [intOf]; omega⟩
    · obtain rfl : i = n := by omega
      have hlt2 : v * u < 65536 ^ N := by
        have h5 : 65536 ^ (i + m + 1) ≤ 65536 ^ N := Nat.pow_le_pow_right (by omega) hN2
        have h6 : v * u < 65536 ^ i * 65536 ^ m := Nat.mul_lt_mul'' HV.out HU.out
        rw [← Nat.pow_add] at h6
        have h7 : 65536 ^ (i + m) ≤ 65536 ^ (i + m + 1) := Nat.pow_le_pow_right (by omega) (by omega)
        omega
      have HLT := Lib.hid hlt2
      have HO3 := Lib.hid (show wr.ownsRow w.heap.size 3 1 (.slice (some ⟨w.heap.size, 0, none⟩) N N) N (dcells (v * u) N) by
        have := HO.out; rwa [Nat.mod_eq_of_lt HV.out] at this)
      clear hlt2
      go_wp2_with fail
      refine (trim_any _ N _ wr (digN_owns HO3.out HLT.out)).mono ?_
      rintro e w2 ⟨s', rfl, hR, rfl⟩
      go_wp2_with fail
      go_ret
      exact ⟨_, rfl, hR, HB.out⟩
end Go.Proofs.Ytlmfiggmjpjpiaa
