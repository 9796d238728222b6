/- The reference's numbers, made anew: where they lie. -/
import Derived.Test.YtlmfiggmjpjpiaaQ1
import Derived.Test.YtlmfiggmjpjpiaaZR
namespace Go.Proofs.Ytlmfiggmjpjpiaa
open Go.RowKit

/-- A slice that is nil, or begins the row of a block from B on. -/
def FreshS (B : Nat) (s : Value) : Prop := s = .slice none 0 0 ∨ ∃ k n c, s = .slice (some ⟨k, 0, none⟩) n c ∧ B ≤ k
theorem FreshS.mono {B B' : Nat} {s : Value} (h : FreshS B s) (hB : B' ≤ B) : FreshS B' s := by
  rcases h with h | ⟨k, n, c, h, hk⟩
  · exact .inl h
  · exact .inr ⟨k, n, c, h, Nat.le_trans hB hk⟩
theorem fresh_own {w : World} {base n : Nat} {a : Option Addr} {c i : Nat} {xs : List Value} (h : w.ownsRow base 3 1 (.slice a n c) n xs) (hi : i ≤ n) : FreshS base (.slice a i c) := by
  rcases h.2 with ⟨h1, h2⟩ | ⟨g, cap, cur, h1, h2, _⟩
  · cases h1; obtain rfl : i = 0 := by omega
    exact .inl rfl
  · cases h1; exact .inr ⟨g, i, c, rfl, h2⟩
theorem own_slice {w : World} {base n : Nat} {v : Value} {xs : List Value} (h : w.ownsRow base 3 1 v n xs) : ∃ a c, v = .slice a n c := by
  rcases h.2 with ⟨h1, h2⟩ | ⟨g, cap, cur, h1, _⟩
  · subst h2; exact ⟨none, 0, h1⟩
  · exact ⟨_, _, h1⟩
/-- A number of the reference survives a store into another block. -/
theorem DigN.setCell {v n B G j : Nat} {s x : Value} {W : World} (h : DigN v n s W) (hf : FreshS B s) (hG : G < B) : DigN v n s (W.setCell ⟨G, j, none⟩ x) := by
  obtain ⟨h1, a, c, rfl, h2, h3, h4⟩ := h
  refine ⟨h1, a, c, rfl, h2, h3, ?_⟩
  rcases h4 with h4 | ⟨b, off, rfl, h5, h6⟩
  · exact .inl h4
  · refine .inr ⟨b, off, rfl, by simpa [World.setCell] using h5, fun i hi => ?_⟩
    rcases hf with hf | ⟨k, n', c', hf, hk⟩
    · cases hf
    · cases hf
      rw [← h6 i hi]
      exact World.cell?_of_block (Below.heap_setCell W _ _ _ (by show b ≠ G; omega))

set_option maxRecDepth 100000 in
theorem trimF_any (v n c : Nat) (a : Option Addr) (w : World) (h : DigN v n (.slice a n c) w) : Calls Try.prog 40 #[.slice a n c] w fun e w' => ∃ i, i ≤ n ∧ e = .returned (.slice a i c) ∧ RefN v (.slice a i c) w ∧ w' = w := by
  have HD := Lib.hid h
  obtain ⟨h1, a9, c9, he9, h2, h3, h4⟩ := h
  cases he9
  have hm := maxLen_le
  clear h1
  go_enter Try.func40, Try.ntmps40
  go_wp2_with fail
  go_loop [3] (fun x => ∃ i : Nat, i ≤ n ∧ x = .int .i64 i ∧ v < 65536 ^ i) (fun x => (intOf x).toNat)
  case atStart => exact ⟨n, Nat.le_refl _, rfl, HD.out.1⟩
  case round =>
    obtain ⟨i, hi, rfl, hlt⟩ := hrel
    have HLT := Lib.hid hlt
    clear hlt
    by_cases h0 : 0 < i
    · rcases h4 with h4 | ⟨b, off, rfl, h5, h6⟩
      · omega
      have hcell := h6 (i - 1) (by omega)
      have hd := d16_lt v (i - 1)
      obtain ⟨d, Hd⟩ : ∃ d, dgt 65536 v (i - 1) = d := ⟨_, rfl⟩
      have hdd := Lib.hid Hd
      rw [hdd.out] at hcell hd
      clear Hd h6
      go_wp2_with fail
      · have hz : ((d : Int) == 0) = true := by assumption
        have hz2 : d = 0 := by simpa using hz
        refine ⟨⟨i - 1, by omega, by rw [Int.ofNat_sub (by omega)]; rfl, ?_⟩, by simp [intOf]; omega⟩
        refine lt_pow_of_dgt (by omega) (by omega) HLT.out fun j hj hj2 => ?_
        obtain rfl : j = i - 1 := by omega
        exact hdd.out.trans hz2
      · have hz : ((d : Int) == 0) = false := by assumption
        have hz2 : d ≠ 0 := by simpa using hz
        go_ret
        exact ⟨_, hi, rfl, refN_take HD.out hi (.inr ⟨by rw [hdd.out]; exact hz2, HLT.out⟩), rfl⟩
    · obtain rfl : i = 0 := by omega
      clear h4
      go_wp2_with fail
      go_ret
      exact ⟨_, hi, rfl, refN_take HD.out hi (.inl ⟨rfl, HLT.out⟩), rfl⟩
set_option maxRecDepth 100000 in
set_option maxHeartbeats 1000000 in
theorem rmulF_any (v u n m : Nat) (s t : Value) (w : World) (hs : DigN v n s w) (ht : DigN u m t w) (hn : n ≤ 1000000) (hm : m ≤ 1000000) :
    Calls Try.prog 47 #[s, t] w fun e w' => ∃ r, e = .returned r ∧ RefN (v * u) r w' ∧ Below w.heap.size w w' ∧ FreshS w.heap.size r := by
  obtain ⟨i0, hi, hz0, hz1, hz2⟩ := info_parts Try.info3
  have HS := Lib.hid hs
  have HT := Lib.hid ht
  have HU := Lib.hid ht.1
  have HV := Lib.hid hs.1
  obtain ⟨hx1, a, c, rfl, h2, h3, h4⟩ := hs
  obtain ⟨hx2, a', c', rfl, h2', h3', h4'⟩ := ht
  clear h4 h4' h2 h2' h3 h3' hx1 hx2
  obtain ⟨N, hN1, hN2⟩ : ∃ N, N ≤ n + m + 1 ∧ n + m + 1 ≤ N := ⟨n + m + 1, by omega, by omega⟩
  have HNN := Lib.hid (show (n : Int) + (m : Int) + 1 = ((N : Nat) : Int) by omega)
  go_enter Try.func47, Try.ntmps47
  go_wp2_with (at_make; rw [HNN.out]; refine wpList_make_full _ rfl _ _ 34 rfl w.heap.size 3 i0 (.int .i64 0) 1 Try.underlying34 hi hz0 hz1 .i64 .i64 _ _ N rfl rfl rfl rfl (by rw [hz2]; omega) (by unfold maxLen; omega) (Nat.le_refl _) ?_)
  intro w2 hown2 hg2
  have hbel2 : Below w.heap.size w w2 := (Below.refl _ w).grown hg2 (Nat.le_refl _) (fun k e => by cases e)
  rw [← dcells_zero] at hown2
  have HO2 := Lib.hid hown2
  have HB2 := Lib.hid hbel2
  clear hown2 hg2 hbel2
  go_wp2_with fail
  go_loopw [6] (fun i wr => ∃ k : Nat, k ≤ n ∧ i = .int .i64 (k : Nat) ∧ wr.ownsRow w.heap.size 3 1 (.slice (some ⟨w.heap.size, 0, none⟩) N N) N (dcells (v % 65536 ^ k * u) N) ∧ Below w.heap.size w wr)
    (fun i _ => n - (intOf i).toNat)
  case atStart => exact ⟨0, by omega, rfl, by rw [Nat.pow_zero, Nat.mod_one, Nat.zero_mul]; exact HO2.out, HB2.out⟩
  case round =>
    obtain ⟨i, hin, rfl, hown, hbel⟩ := hrel
    have HO := Lib.hid hown
    have HB := Lib.hid hbel
    clear hown hbel
    by_cases hlt : i < n
    · obtain ⟨y, hy⟩ : ∃ y, dgt 65536 v i = y := ⟨_, rfl⟩
      have hyl : y < 65536 := by rw [← hy]; exact d16_lt v i
      have HY := Lib.hid hy
      clear hy
      go_wp2_with fail
      obtain ⟨wo, rfl⟩ : ∃ wo : World, wo = wr := ⟨_, rfl⟩
      go_loopw [7, 8] (fun q k wq => ∃ j cy X : Nat, j ≤ m + 1 ∧ cy < 65536 ∧ X + cy * 65536 ^ (i + j) = v % 65536 ^ i * u + y * (u % 65536 ^ j) * 65536 ^ i ∧ q = .int .i64 (cy : Nat) ∧ k = .int .i64 (j : Nat) ∧
          wq.ownsRow w.heap.size 3 1 (.slice (some ⟨w.heap.size, 0, none⟩) N N) N (dcells X N) ∧ Below w.heap.size w wq)
        (fun _ k _ => m + 1 - (intOf k).toNat)
      case atStart => exact ⟨0, 0, _, by omega, by omega, by rw [Nat.pow_zero, Nat.mod_one]; simp, rfl, rfl, HO.out, HB.out⟩
      case round =>
        obtain ⟨j, cy, X, hj, hcy, hacc, rfl, rfl, hown, hbel⟩ := hrel
        have HACC := Lib.hid hacc
        have HOq := Lib.hid hown
        have HBq := Lib.hid hbel
        clear hacc hown hbel
        by_cases hgo : j < m ∨ 0 < cy
        · have hjm : j ≤ m := by
            rcases Nat.lt_or_ge m j with h | h
            · have := mul_over (B := 65536) (v := v) (i := i) (k := j) (by omega) HU.out (by omega) (by rw [HY.out]; exact HACC.out)
              omega
            · exact h
          have hidx : i + j < N := by omega
          obtain ⟨x, hx⟩ : ∃ x, dgt 65536 X (i + j) = x := ⟨_, rfl⟩
          obtain ⟨d, hd⟩ : ∃ d, dgt 65536 u j = d := ⟨_, rfl⟩
          have hxl : x < 65536 := by rw [← hx]; exact d16_lt _ _
          have hdl : d < 65536 := by rw [← hd]; exact d16_lt _ _
          obtain ⟨p, hp⟩ : ∃ p, y * d = p := ⟨_, rfl⟩
          obtain ⟨q, hq⟩ : ∃ q, x + y * d + cy = q := ⟨_, rfl⟩
          obtain ⟨hq1, hq2, hq3⟩ := mul_carry hxl hyl hdl hcy hq.symm
          have hstep := mul_step 65536 (v % 65536 ^ i * u) y u X cy i j q (by rw [hx, hd]; exact hq.symm) HACC.out
          have HST := Lib.hid hstep
          have hp2 : p ≤ 65535 * 65535 := by rw [← hp]; exact Nat.mul_le_mul (by omega) (by omega)
          have hpi : (y : Int) * (d : Int) = ((p : Nat) : Int) := by rw [← hp]; simp
          have hqi : x + p + cy = q := by rw [← hp]; exact hq
          obtain ⟨b, off, rfl, hblk, hca⟩ := (HS.out.kept HBq.out).cellsAt i hlt
          rw [HY.out] at hca
          have hco := HOq.out.cellAt (i + j) (by omega)
          rw [dcells_get _ _ _ hidx, hx] at hco
          have hfo := HOq.out.frozenAt (i + j)
          have hca2 : ∀ n', (wr.drewN n').cell? ⟨b, off + i, none⟩ = some (.int .i64 (y : Nat)) := fun _ => hca
          have hco3 := hco
          have hco2 : ∀ n', (wr.drewN n').cell? ⟨w.heap.size, i + j, none⟩ = some (.int .i64 (x : Nat)) := fun _ => hco
          have HD : ∀ n', Calls Try.prog 64 #[.slice a' m c', .int .i64 (j : Nat)] (wr.drewN n') fun e w' => e = .returned (.int .i64 (d : Nat)) ∧ w' = wr.drewN n' := fun n' => by
            rw [← hd]
            exact digit_any u m j _ _ (HT.out.kept (HBq.out.trans ((drew_below n').mono HBq.out.size))) (by omega)
          have HDD := Lib.hid HD
          have e1 : IntKind.i64.wrap ((i : Int) + (j : Int)) = (i : Int) + (j : Int) := IntWalk.i64_in _ (by omega)
          have e2 : 0 ≤ (i : Int) + (j : Int) := by omega
          have e3 : ((i : Int) + (j : Int)).toNat = i + j := by omega
          have e4 : IntKind.i64.wrap ((y : Int) * (d : Int)) = ((p : Nat) : Int) := by rw [hpi]; exact IntWalk.i64_in _ (by omega)
          have e5 : IntKind.i64.wrap ((x : Int) + (p : Int)) = (x : Int) + (p : Int) := IntWalk.i64_in _ (by omega)
          have e6 : IntKind.i64.wrap ((x : Int) + (p : Int) + (cy : Int)) = ((q : Nat) : Int) := by rw [show (x : Int) + (p : Int) + (cy : Int) = ((q : Nat) : Int) by omega]; exact IntWalk.i64_in _ (by omega)
          clear hx hd hp hq hstep hpi hqi hca hco HD
          by_cases h1 : j < m
          · clear hgo
            go_wp2_with fail
            go_quiet ((go_at_call 64; exact Calls.quiet_of_same (HDD.out _)))
            clear hca2 hco2 e1 e4 e5 e6
            have hcs : ∀ n', (wr.drewN n').cell? ⟨w.heap.size, i + j, none⟩ = some (.int .i64 (x : Nat)) := fun _ => hco3
            have hfs : ∀ n', (wr.drewN n').frozen? ⟨w.heap.size, i + j, none⟩ = false := fun _ => hfo
            go_wp2_with fail
            refine ⟨⟨j + 1, q / 65536, setD 65536 X (i + j) (q % 65536), by omega, hq1, HST.out, congrArg (Value.int .i64) (by omega), rfl, ?_, (below_drewN HBq.out nq).setCell (Nat.le_refl _) _⟩, by simp [intOf]; omega⟩
            rw [← dcells_set _ _ _ _ hq2]
            exact ((show (wr.drewN nq).ownsRow w.heap.size 3 1 (.slice (some ⟨w.heap.size, 0, none⟩) N N) N (dcells X N) from HOq.out).stored (i + j) _).1
          · have h2 : 0 < cy := by omega
            clear hgo
            go_wp2_with fail
            go_quiet ((go_at_call 64; exact Calls.quiet_of_same (HDD.out _)))
            clear hca2 hco2 e1 e4 e5 e6
            have hcs : ∀ n', (wr.drewN n').cell? ⟨w.heap.size, i + j, none⟩ = some (.int .i64 (x : Nat)) := fun _ => hco3
            have hfs : ∀ n', (wr.drewN n').frozen? ⟨w.heap.size, i + j, none⟩ = false := fun _ => hfo
            go_wp2_with fail
            refine ⟨⟨j + 1, q / 65536, setD 65536 X (i + j) (q % 65536), by omega, hq1, HST.out, congrArg (Value.int .i64) (by omega), rfl, ?_, (below_drewN HBq.out nq).setCell (Nat.le_refl _) _⟩, by simp [intOf]; omega⟩
            rw [← dcells_set _ _ _ _ hq2]
            exact ((show (wr.drewN nq).ownsRow w.heap.size 3 1 (.slice (some ⟨w.heap.size, 0, none⟩) N N) N (dcells X N) from HOq.out).stored (i + j) _).1
        · obtain rfl : cy = 0 := by omega
          have h1 : ¬ j < m := by omega
          have hend := mul_end (B := 65536) (v := v) (i := i) (k := j) (by omega) HU.out (by omega) (by rw [HY.out]; exact HACC.out)
          rw [Nat.zero_mul, Nat.add_zero] at hend
          have HX := Lib.hid hend
          clear hgo hend
          go_wp2_with fail
          refine ⟨⟨i + 1, by omega, rfl, by rw [← HX.out]; exact HOq.out, HBq.out⟩, by simp [intOf]; omega⟩
    · obtain rfl : i = n := by omega
      have hlt2 : v * u < 65536 ^ N := by
        have h5 : 65536 ^ (i + m + 1) ≤ 65536 ^ N := Nat.pow_le_pow_right (by omega) hN2
        have h6 : v * u < 65536 ^ i * 65536 ^ m := Nat.mul_lt_mul'' HV.out HU.out
        rw [← Nat.pow_add] at h6
        have h7 : 65536 ^ (i + m) ≤ 65536 ^ (i + m + 1) := Nat.pow_le_pow_right (by omega) (by omega)
        omega
      have HLT := Lib.hid hlt2
      have HO3 := Lib.hid (show wr.ownsRow w.heap.size 3 1 (.slice (some ⟨w.heap.size, 0, none⟩) N N) N (dcells (v * u) N) by
        have := HO.out; rwa [Nat.mod_eq_of_lt HV.out] at this)
      clear hlt2
      go_wp2_with fail
      refine (trimF_any _ N _ _ wr (digN_owns HO3.out HLT.out)).mono ?_
      rintro e w2 ⟨s', hs', rfl, hR, rfl⟩
      have HR9 := Lib.hid hR
      have HF9 := Lib.hid (fresh_own HO3.out hs')
      clear hR
      go_wp2_with fail
      go_ret
      exact ⟨_, rfl, HR9.out, HB.out, HF9.out⟩
set_option maxRecDepth 100000 in
set_option maxHeartbeats 1000000 in
theorem rsubF_any (v u n m : Nat) (s t : Value) (w : World) (hs : DigN v n s w) (ht : DigN u m t w) (hn : n ≤ 1000000) (hle : u ≤ v) :
    Calls Try.prog 45 #[s, t] w fun e w' => ∃ r, e = .returned r ∧ RefN (v - u) r w' ∧ Below w.heap.size w w' ∧ FreshS w.heap.size r := by
  obtain ⟨i0, hi, hz0, hz1, hz2⟩ := info_parts Try.info3
  have HS := Lib.hid hs
  have HT := Lib.hid ht
  have HV := Lib.hid hs.1
  have HLE := Lib.hid hle
  obtain ⟨hx1, a, c, rfl, h2, h3, h4⟩ := hs
  obtain ⟨hx2, a', c', rfl, h2', h3', h4'⟩ := ht
  clear h4 h4' h2 h2' h3 h3' hx1 hx2 hle
  go_enter Try.func45, Try.ntmps45
  go_wp2_with fail
  go_loopw [5, 6, 7] (fun x q i wr => ∃ k cy : Nat, k ≤ n ∧ addC 65536 (v - u) u k = cy ∧ q = .int .i64 (cy : Nat) ∧ i = .int .i64 (k : Nat) ∧ wr.ownsRow w.heap.size 3 1 x k (dcells (v - u) k) ∧ Below w.heap.size w wr)
    (fun _ _ i _ => n - (intOf i).toNat)
  case atStart => exact ⟨0, 0, by omega, addC_zero _ _ _, rfl, rfl, World.ownsRow_nil _ _ _ _, Below.refl _ _⟩
  case round =>
    obtain ⟨k, cy, hk, hcy, rfl, rfl, hown, hbel⟩ := hrel
    have hsz := hbel.size
    have HCY := Lib.hid hcy
    clear hcy
    by_cases h1 : k < n
    · obtain ⟨x, hx⟩ : ∃ x, dgt 65536 v k = x := ⟨_, rfl⟩
      obtain ⟨y, hy⟩ : ∃ y, dgt 65536 u k = y := ⟨_, rfl⟩
      obtain ⟨hd1, hd2, hcy1, hcy2⟩ := sub_digits v u k x y cy HLE.out hx hy HCY.out
      have hxl := d16_lt v k
      have hyl := d16_lt u k
      have HDk := Lib.hid (digit_any v n k _ wr (HS.out.kept hbel) (by omega))
      have HEk := Lib.hid (digit_any u m k _ wr (HT.out.kept hbel) (by omega))
      rw [hx] at hxl HDk
      rw [hy] at hyl HEk
      by_cases hneg : x < y + cy
      · have HD2 := Lib.hid (show addC 65536 (v - u) u (k + 1) = 1 by omega)
        have HD1 := Lib.hid (show dgt 65536 (v - u) k + y + cy = x + 65536 by omega)
        clear hx hy hd1 hd2 hcy2
        go_wp2_with (first
          | (go_at_call_of 64 (Value.slice a n c); refine HDk.out.mono ?_; rintro e w2 ⟨rfl, hw⟩; subst hw)
          | (go_at_call_of 64 (Value.slice a' m c'); refine HEk.out.mono ?_; rintro e w2 ⟨rfl, hw⟩; subst hw)
          | (at_builtin; refine wpList_append_own _ rfl _ _ 34 rfl w.heap.size 3 i0 (.int .i64 0) 1 8 Try.underlying34 hi hz0 hz1 hz2 rfl (by decide) _ _ _ rfl (hown.alloc _) ⟨w2.heap.size, 0, none⟩ 1 1 [.int .i64 ((x : Int) - (y : Int) - (cy : Int) + 65536)] rfl rfl (cell_one_new _ _ _) (fun x hx => by simp at hx; subst hx; rfl) (by unfold maxLen; omega) (by omega) (by simp; omega) ?_; intro v' w3 hown' hgrow3 hnil3))
        refine ⟨⟨k + 1, 1, by omega, HD2.out, by first | rfl | omega, rfl, ?_, (hbel.alloc hsz _).grown hgrow3 (by simp; omega) (fun j hj => (hown.lt j hj).1)⟩, by simp [intOf] <;> omega⟩
        rw [dcells_succ, show ((dgt 65536 (v - u) k : Nat) : Int) = (x : Int) - (y : Int) - (cy : Int) + 65536 by have := HD1.out; omega]
        exact hown'
      · have HD2 := Lib.hid (show addC 65536 (v - u) u (k + 1) = 0 by omega)
        have HD1 := Lib.hid (show dgt 65536 (v - u) k + y + cy = x by omega)
        clear hx hy hd1 hd2 hcy2
        go_wp2_with (first
          | (go_at_call_of 64 (Value.slice a n c); refine HDk.out.mono ?_; rintro e w2 ⟨rfl, hw⟩; subst hw)
          | (go_at_call_of 64 (Value.slice a' m c'); refine HEk.out.mono ?_; rintro e w2 ⟨rfl, hw⟩; subst hw)
          | (at_builtin; refine wpList_append_own _ rfl _ _ 34 rfl w.heap.size 3 i0 (.int .i64 0) 1 8 Try.underlying34 hi hz0 hz1 hz2 rfl (by decide) _ _ _ rfl (hown.alloc _) ⟨w2.heap.size, 0, none⟩ 1 1 [.int .i64 ((x : Int) - (y : Int) - (cy : Int))] rfl rfl (cell_one_new _ _ _) (fun x hx => by simp at hx; subst hx; rfl) (by unfold maxLen; omega) (by omega) (by simp; omega) ?_; intro v' w3 hown' hgrow3 hnil3))
        refine ⟨⟨k + 1, 0, by omega, HD2.out, by first | rfl | omega, rfl, ?_, (hbel.alloc hsz _).grown hgrow3 (by simp; omega) (fun j hj => (hown.lt j hj).1)⟩, by simp [intOf] <;> omega⟩
        rw [dcells_succ, show ((dgt 65536 (v - u) k : Nat) : Int) = (x : Int) - (y : Int) - (cy : Int) by have := HD1.out; omega]
        exact hown'
    · obtain rfl : k = n := by omega
      have HDone := Lib.hid (show v - u < 65536 ^ k from Nat.lt_of_le_of_lt (Nat.sub_le _ _) HV.out)
      obtain ⟨a5, c5, rfl⟩ := own_slice hown
      have HO5 := Lib.hid hown
      clear hown
      go_wp2_with fail
      refine (trimF_any _ k _ _ wr (digN_owns HO5.out HDone.out)).mono ?_
      rintro e w2 ⟨s', hs', rfl, hR, rfl⟩
      have HR9 := Lib.hid hR
      have HF9 := Lib.hid (fresh_own HO5.out hs')
      clear hR
      go_wp2_with fail
      go_ret
      exact ⟨_, rfl, HR9.out, hbel, HF9.out⟩
end Go.Proofs.Ytlmfiggmjpjpiaa
