/- The calls whose answers are known, one by one. -/
import Derived.Test.YtlmfiggmjpjpiaaZC
import Derived.Test.YtlmfiggmjpjpiaaC3
import Derived.Test.YtlmfiggmjpjpiaaC9
import Derived.Test.YtlmfiggmjpjpiaaD2
import Derived.Test.YtlmfiggmjpjpiaaZE
namespace Go.Proofs.Ytlmfiggmjpjpiaa
open Go.RowKit

/-- What a number newly stored keeps of what lay there. -/
theorem stored {u w' : World} {x : Nat} (hb : Below ((u.alloc (.cells (natA 0) 28)).setRow u.heap.size (natA x)).heap.size ((u.alloc (.cells (natA 0) 28)).setRow u.heap.size (natA x)) w') :
    rowN w' u.heap.size = some (natA x) ∧ (∀ g cs, rowN u g = some cs → rowN w' g = some cs) ∧ Below u.heap.size u w' := by
  have hr := brow hb
  have hsz : ((u.alloc (.cells (natA 0) 28)).setRow u.heap.size (natA x)).heap.size = u.heap.size + 1 := by simp [World.setRow]
  refine ⟨?_, fun g cs h => ?_, ?_⟩
  · rw [hr _ (by omega), rowN_setRow, if_pos rfl, rowN_alloc, if_pos rfl]; rfl
  · have hl := rowN_lt h
    rw [hr _ (by omega), rowN_setRow, if_neg (by omega), rowN_alloc, if_neg (by omega)]; exact h
  · exact (below_setRow' ((Below.refl _ u).alloc (Nat.le_refl _) _) (Nat.le_refl _) _).trans (hb.mono (by omega))
theorem kept {u w' : World} (hb : Below u.heap.size u w') : ∀ g cs, rowN u g = some cs → rowN w' g = some cs := fun g cs h => by rw [brow hb _ (rowN_lt h)]; exact h

theorem p64_lt {n : Nat} (h : n ≤ 18446744073709551615) : n < P64 := by rw [P64_eq]; omega
theorem fb_256 : fbV [0, 1, 0] = 256 ∧ fbE [0, 1, 0] = 0 := by
  have h : valBE 256 [0, 1, 0] = 256 := rfl
  have h2 : 256 < P64 ^ 16 := small_lt (p64_lt (by omega))
  unfold fbV fbE
  rw [h]
  exact ⟨if_pos h2, if_pos h2⟩
theorem dlen_256 : dlen 2 256 = 9 := dlen_eq (by omega) (by omega) (by omega)
theorem text_256 : strOf (hexN 256) = { data := #[49, 48, 48] } := by
  unfold hexN nHex
  rw [dlen_256]
  rfl
theorem bytes_256 : bytesN 256 = [1, 0] := by
  unfold bytesN nBytes
  rw [dlen_256]
  rfl
theorem gcd_small (v u : Nat) (hv : v < P64) (hu : u < P64) (w : World) : Calls Try.prog 32 #[.agg (natA v), .agg (natA u)] w fun e w' => e = .returned (.agg (natA (Nat.gcd v u))) ∧ Below w.heap.size w w' :=
  gcd_any P64 (by
    have h := Nat.pow_le_pow_right P64_pos (show 1 ≤ 16 by omega)
    rw [Nat.pow_one] at h
    exact h) (fun x y W hx h0 hy => divide_short x y h0 hy (fun W' => divideShort_small x y hx h0 hy W') W) v u hv hu w
theorem divide_small (v u : Nat) (hv : v < P64) (h0 : 0 < u) (hu : u < P64) (w : World) : Calls Try.prog 56 #[.agg (natA v), .agg (natA u)] w fun e w' =>
    e = .returned (.tuple #[.agg (natA (v / u)), .agg (natA (v % u)), .int .i64 0]) ∧ Below w.heap.size w w' :=
  divide_short v u h0 hu (fun W' => divideShort_small v u hv h0 hu W') w

theorem two_1023 (n : Nat) (h : n = 1023) : 1 * 2 ^ n < P64 ^ 16 ∧ ¬ 1 * 2 ^ n + 1 * 2 ^ n < P64 ^ 16 := by
  have e : P64 ^ 16 = 2 ^ (n + 1) := P64_two (n + 1) (by omega)
  rw [e, Nat.pow_succ]
  have := Nat.two_pow_pos n
  omega


/-- What a slice of one's own looks like. -/
theorem owns_parts {l : List Nat} {w w' : World} {s : Value} (h : w'.ownsRow w.heap.size 5 1 s l.length (l.map fun x => .int .u8 (x : Nat))) :
    (s = .slice none 0 0 ∧ l = []) ∨ ∃ g cap, s = .slice (some ⟨g, 0, none⟩) l.length cap ∧ w.heap.size ≤ g ∧ g < w'.heap.size ∧ l.length ≤ cap ∧ cap ≤ maxLen ∧
      (∃ o, w'.heap[g]? = some o ∧ o.isCells = true) ∧ ∀ j, j < l.length → w'.cell? ⟨g, 0 + j, none⟩ = some (.int .u8 (l.getD j 0 : Nat)) := by
  obtain ⟨h1, h2⟩ := h
  rcases h2 with ⟨rfl, h2⟩ | ⟨g, cap, cur, rfl, hb, hg, hn, hc, hs, ht⟩
  · exact .inl ⟨rfl, List.length_eq_zero_iff.1 h2⟩
  · refine .inr ⟨g, cap, rfl, hb, (Array.getElem?_eq_some_iff.1 hg).1, hn, hc, ⟨_, hg, rfl⟩, fun j hj => ?_⟩
    rw [Nat.zero_add, cell_of_row w' g j cur 5 (0, 0) hg]
    have e : (cur.toList.take (l.length * 1))[j]? = cur[j]? := by
      rw [List.getElem?_take, if_pos (by omega), Array.getElem?_toList]
    rw [← e, ht]
    simp [List.getD, hj]

theorem owns_str {l : List Nat} {w w' : World} {s : Value} (h : w'.ownsRow w.heap.size 5 1 s l.length (l.map fun x => .int .u8 (x : Nat))) (W : World) (hW : ∀ g, w.heap.size ≤ g → g < w'.heap.size → W.heap[g]? = w'.heap[g]?) :
    (convert 22 9 s).run Try.prog W = .ok (.string (strOf l)) W := by
  rcases owns_parts h with ⟨rfl, rfl⟩ | ⟨g, cap, rfl, h1, h2, h3, h4, _, h6⟩
  · kernel_rfl
  · refine run_str W g 0 l.length cap l rfl fun j hj => ?_
    rw [← h6 j hj]
    simp only [World.cell?, hW g h1 h2]

theorem known_bitLen (w : World) : Calls Try.prog 62 #[.agg (natA 256)] w fun e w' => e = .returned (.int .i64 9) ∧ Below w.heap.size w w' := by
  have h := bitLen_any 256 (small_lt (p64_lt (by omega))) w
  rw [dlen_256] at h
  exact h
theorem known_bytes (w : World) : Calls Try.prog 41 #[.agg (natA 256)] w fun e w' => ∃ s, e = .returned s ∧ (convert 22 9 s).run Try.prog w' = .ok (.string { data := #[1, 0] }) w' ∧ Below w.heap.size w w' := by
  refine (bytes_any 256 (small_lt (p64_lt (by omega))) w).mono ?_
  rintro e w' ⟨s, rfl, h, hb⟩
  rw [bytes_256] at h
  exact ⟨s, rfl, owns_str h w' (fun _ _ _ => rfl), hb⟩
theorem known_from (g : Nat) (w : World) (hr : rowN w g = some #[.int .u8 0, .int .u8 1, .int .u8 0]) : Calls Try.prog 34 #[.slice (some ⟨g, 0, none⟩) 3 3] w fun e w' => e = .returned (.tuple #[.agg (natA 256), .int .i64 0]) ∧ Below w.heap.size w w' := by
  have h := fromBytes_some g 0 3 3 [0, 1, 0] w rfl (by
    intro j
    match j with
    | 0 => decide
    | 1 => decide
    | 2 => decide
    | (k + 3) => exact (by decide : (0 : Nat) < 256)) (by omega) (by omega) (rowN_lt hr) (by
    intro j hj
    rw [(rowN_cell hr).1, Nat.zero_add]
    match j, hj with
    | 0, _ => rfl
    | 1, _ => rfl
    | 2, _ => rfl)
  rw [fb_256.1, fb_256.2] at h
  exact h
theorem known_int (n : Nat) (x : Int) (hx : x = n) (hn : n ≤ 9223372036854775807) (w : World) : Calls Try.prog 55 #[.int .i64 x] w fun e w' => e = .returned (.tuple #[.agg (natA n), .int .i64 0]) ∧ Below w.heap.size w w' := by
  subst hx
  have h := fromInt_pos (n : Nat) w (by omega) (by omega)
  rw [Int.toNat_natCast] at h
  exact h

theorem stored2 {u w' : World} {x y : Nat} (hb : Below ((((u.alloc (.cells (natA 0) 28)).alloc (.cells (natA 0) 28)).setRow u.heap.size (natA x)).setRow (u.heap.size + 1) (natA y)).heap.size ((((u.alloc (.cells (natA 0) 28)).alloc (.cells (natA 0) 28)).setRow u.heap.size (natA x)).setRow (u.heap.size + 1) (natA y)) w') :
    rowN w' u.heap.size = some (natA x) ∧ rowN w' (u.heap.size + 1) = some (natA y) ∧ (∀ g cs, rowN u g = some cs → rowN w' g = some cs) ∧ Below u.heap.size u w' := by
  have hr := brow hb
  have hsz : ((((u.alloc (.cells (natA 0) 28)).alloc (.cells (natA 0) 28)).setRow u.heap.size (natA x)).setRow (u.heap.size + 1) (natA y)).heap.size = u.heap.size + 1 + 1 := by simp [World.setRow]
  refine ⟨?_, ?_, fun g cs h => ?_, ?_⟩
  · rw [hr _ (by omega), rowN_setRow, if_neg (by omega), rowN_setRow, if_pos rfl, rowN_alloc, World.size_alloc, if_neg (by omega), rowN_alloc, if_pos rfl]; rfl
  · rw [hr _ (by omega), rowN_setRow, if_pos rfl, rowN_setRow, if_neg (by omega), rowN_alloc, World.size_alloc, if_pos rfl]; rfl
  · have hl := rowN_lt h
    rw [hr _ (by omega), rowN_setRow, if_neg (by omega), rowN_setRow, if_neg (by omega), rowN_alloc, World.size_alloc, if_neg (by omega), rowN_alloc, if_neg (by omega)]; exact h
  · exact (below_setRow' (below_setRow' (((Below.refl _ u).alloc (Nat.le_refl _) _).alloc (by simp) _) (Nat.le_refl _) _) (by omega) _).trans (hb.mono (by omega))

theorem known_sub (w : World) : Calls Try.prog 60 #[.agg (natA 256), .agg (natA 257)] w fun e w' => e = .returned (.tuple #[.agg (natA 0), .int .i64 3]) ∧ Below w.heap.size w w' :=
  sub_less 256 257 (small_lt (p64_lt (by omega))) (small_lt (p64_lt (by omega))) (by omega) w
theorem known_shift : ∃ T, ∀ w, Calls Try.prog 69 #[.agg (natA 1), .int .i64 1023] w (fun e w' => e = .returned (.tuple #[.agg (natA T), .int .i64 0]) ∧ Below w.heap.size w w') ∧
    Calls Try.prog 61 #[.agg (natA T), .agg (natA T)] w (fun e w' => e = .returned (.tuple #[.agg (natA 0), .int .i64 7]) ∧ Below w.heap.size w w') := by
  obtain ⟨n, hn⟩ : ∃ n, n = 1023 := ⟨_, rfl⟩
  obtain ⟨h1, h2⟩ := two_1023 n hn
  have hd : dlen 2 1 + n ≤ 1024 := by rw [show dlen 2 1 = 1 from dlen_eq (by omega) (by omega) (by omega)]; omega
  have h3 := shiftLeft_ok 1 n (small_lt (p64_lt (by omega))) (by omega) hd
  have hx : (1023 : Int) = ((n : Nat) : Int) := by omega
  rw [hx]
  generalize 1 * 2 ^ n = T at *
  exact ⟨T, fun w => ⟨h3 w, add_full T T h1 h1 h2 w⟩⟩
theorem known_div (w : World) : Calls Try.prog 56 #[.agg (natA 1000), .agg (natA 7)] w fun e w' => e = .returned (.tuple #[.agg (natA 142), .agg (natA 6), .int .i64 0]) ∧ Below w.heap.size w w' :=
  divide_small 1000 7 (p64_lt (by omega)) (by omega) (p64_lt (by omega)) w
theorem known_Int (n : Nat) (x : Int) (hx : x = n) (h : n ≤ 4611686018427387904) (w : World) : Calls Try.prog 57 #[.agg (natA n)] w fun e w' => e = .returned (.tuple #[.int .i64 x, .int .i64 0]) ∧ Below w.heap.size w w' := by
  subst hx
  exact int_small n h w
theorem known_gcd (w : World) : Calls Try.prog 32 #[.agg (natA 12), .agg (natA 18)] w fun e w' => e = .returned (.agg (natA 6)) ∧ Below w.heap.size w w' :=
  gcd_small 12 18 (p64_lt (by omega)) (p64_lt (by omega)) w
theorem known_gcd0 (w : World) : Calls Try.prog 32 #[.agg (natA 0), .agg (natA 7)] w fun e w' => e = .returned (.agg (natA 7)) ∧ Below w.heap.size w w' :=
  gcd_small 0 7 (p64_lt (by omega)) (p64_lt (by omega)) w
theorem natEq_7 : natEq 7 7 = true := by rw [natEq_iff (small_lt (p64_lt (by omega))) (small_lt (p64_lt (by omega)))]; rfl

end Go.Proofs.Ytlmfiggmjpjpiaa
