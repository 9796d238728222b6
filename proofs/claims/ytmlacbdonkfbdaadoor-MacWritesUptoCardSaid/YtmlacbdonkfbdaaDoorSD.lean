/- The schedule of a block. -/
import Derived.StillTailTactics
import Derived.Laws.EntriesVeiled
import Derived.Deep.DeepCutAuto
import Derived.Test.YtmlacbdonkfbdaaDoorSC
namespace Go.Proofs.YtmlacbdonkfbdaaDoor
open Go.RowKit

/-- A slice that reads these bytes. -/
def BytesAt (zs : List Nat) (s : Value) (w : World) : Prop :=
  (∀ x ∈ zs, x < 256) ∧ ∃ a c, s = .slice a zs.length c ∧ zs.length ≤ c ∧ (zs.length = 0 ∨ ∃ b off, a = some ⟨b, off, none⟩ ∧ b < w.heap.size ∧ ∀ j, j < zs.length → w.cell? ⟨b, off + j, none⟩ = some (.int .u8 (zs.getD j 0 : Nat)))
theorem BytesAt.kept {zs : List Nat} {s : Value} {w w' : World} (h : BytesAt zs s w) (hb : Below w.heap.size w w') : BytesAt zs s w' := by
  obtain ⟨h1, a, c, e, hc, h⟩ := h
  refine ⟨h1, a, c, e, hc, ?_⟩
  rcases h with h | ⟨b, off, ea, hlt, hj⟩
  · exact .inl h
  · exact .inr ⟨b, off, ea, Nat.lt_of_lt_of_le hlt hb.size, fun j hjl => (hb.cell (p := ⟨b, off + j, none⟩) hlt).trans (hj j hjl)⟩

/-! ### words of a block -/
/-- The first n bytes of the word j, as a number. -/
def pw (zs : List Nat) (j : Nat) : Nat → Nat
  | 0 => 0
  | n + 1 => pw zs j n * 256 + zs.getD (4 * j + n) 0
theorem pw_four (zs : List Nat) (j : Nat) : pw zs j 4 = by4 zs j := by simp [pw, by4]
theorem byte_lt {zs : List Nat} (h : ∀ x ∈ zs, x < 256) (i : Nat) : zs.getD i 0 < 256 := by
  by_cases hi : i < zs.length
  · rw [List.getD, List.getElem?_eq_getElem hi]; exact h _ (List.getElem_mem _)
  · rw [List.getD, List.getElem?_eq_none (by omega)]; exact (by decide : (0 : Nat) < 256)
theorem pw_lt {zs : List Nat} (h : ∀ x ∈ zs, x < 256) (j n : Nat) : pw zs j n < 256 ^ n := by
  induction n with
  | zero => exact (by decide : (0 : Nat) < 1)
  | succ n ih =>
    have hb := byte_lt h (4 * j + n)
    rw [Nat.pow_succ]
    show pw zs j n * 256 + zs.getD (4 * j + n) 0 < _
    omega
theorem by4_lt {zs : List Nat} (h : ∀ x ∈ zs, x < 256) (t : Nat) : by4 zs t < 4294967296 := by
  have := pw_lt h t 4
  rw [pw_four] at this
  exact this
/-- The array behind i bytes. -/
def wl (zs : List Nat) (i : Nat) : List Nat := (List.range 64).map fun j => pw zs j (min 4 (i - 4 * j))
theorem wl_len (zs : List Nat) (i : Nat) : (wl zs i).length = 64 := by simp [wl]
theorem wl_get (zs : List Nat) (i j : Nat) (h : j < 64) : (wl zs i).getD j 0 = pw zs j (min 4 (i - 4 * j)) := by simp [wl, List.getD, h]
@[irreducible] def z64 : List Nat := List.replicate 64 0
theorem z64_eq : z64 = List.replicate 64 0 := by unfold z64; rfl
theorem z64_len : z64.length = 64 := by rw [z64_eq, List.length_replicate]
theorem wl_zero (zs : List Nat) : wl zs 0 = z64 := by
  rw [z64_eq]
  refine List.ext_getElem (by rw [wl_len, List.length_replicate]) fun i h1 h2 => ?_
  rw [List.getElem_replicate]
  simp only [wl, List.getElem_map, List.getElem_range]
  rw [show min 4 (0 - 4 * i) = 0 by omega]
  rfl
theorem run_zero65 (W : World) : (zeroValue 89).run Tryd.prog W = .ok (.agg (List.replicate 64 (Value.int .u32 ((0 : Nat) : Int))).toArray) W := by kernel_rfl
@[go_sem ↓] theorem run_zeroValue65 (W : World) : (zeroValue 89).run Tryd.prog W = .ok (.agg (arr .u32 z64)) W := by
  rw [run_zero65, arr_lit, z64_eq, List.map_replicate]
theorem wl_set (zs : List Nat) (i : Nat) (hi : i < 64) : (wl zs i).set (i / 4) (pw zs (i / 4) (i % 4) * 256 + zs.getD i 0) = wl zs (i + 1) := by
  refine List.ext_getElem? fun j => ?_
  rw [List.getElem?_set, wl_len]
  by_cases e : i / 4 = j
  · subst e
    rw [if_pos rfl, if_pos (by omega)]
    have e2 : min 4 (i + 1 - 4 * (i / 4)) = i % 4 + 1 := by omega
    have e3 : 4 * (i / 4) + i % 4 = i := by omega
    simp only [wl, List.getElem?_map, List.getElem?_range (show i / 4 < 64 by omega), Option.map_some, e2, pw, e3]
  · rw [if_neg e]
    simp only [wl, List.getElem?_map]
    by_cases hj : j < 64
    · rw [List.getElem?_range hj, Option.map_some, Option.map_some]
      rw [show min 4 (i - 4 * j) = min 4 (i + 1 - 4 * j) by omega]
    · rw [List.getElem?_eq_none (by simp; omega)]; rfl

theorem sch_len (b : List Nat) : ∀ n, (sch b n).length = n
  | 0 => rfl
  | n + 1 => by show ((sch b n) ++ [_]).length = n + 1; rw [List.length_append, sch_len b n]; rfl
theorem sch_more (b : List Nat) (n : Nat) : ∃ x, sch b (n + 1) = sch b n ++ [x] := ⟨_, rfl⟩
theorem sch_pre (b : List Nat) (i n m : Nat) (h : i < n) (hm : n ≤ m) : (sch b m).getD i 0 = (sch b n).getD i 0 := by
  induction m with
  | zero => omega
  | succ m ih =>
    by_cases e : n = m + 1
    · rw [e]
    · obtain ⟨x, hx⟩ := sch_more b m
      rw [hx, List.getD, List.getElem?_append_left (by rw [sch_len]; omega)]
      exact ih (by omega)
theorem sch_low (b : List Nat) (n : Nat) (h : n < 16) : sch b (n + 1) = sch b n ++ [by4 b n] := by
  show sch b n ++ [_] = _
  rw [if_pos h]
theorem sch_high (b : List Nat) (n : Nat) (h : ¬ n < 16) : sch b (n + 1) = sch b n ++ [((xr ((sch b n).getD (n - 2) 0) [17, 19] ^^^ (sch b n).getD (n - 2) 0 / 1024) + (sch b n).getD (n - 7) 0 + (xr ((sch b n).getD (n - 15) 0) [7, 18] ^^^ (sch b n).getD (n - 15) 0 / 8) + (sch b n).getD (n - 16) 0) % 4294967296] := by
  show sch b n ++ [_] = _
  rw [if_neg h]
theorem sch_w32 {b : List Nat} (hb : ∀ x ∈ b, x < 256) : ∀ n, W32 (sch b n)
  | 0 => fun x hx => by simp [sch] at hx
  | n + 1 => by
    have ih := sch_w32 hb n
    intro x hx
    by_cases h : n < 16
    · rw [sch_low b n h] at hx
      rcases List.mem_append.1 hx with hx | hx
      · exact ih x hx
      · simp at hx; rw [hx]; exact by4_lt hb n
    · rw [sch_high b n h] at hx
      rcases List.mem_append.1 hx with hx | hx
      · exact ih x hx
      · simp at hx; rw [hx]; exact Nat.mod_lt _ (by omega)
/-- The array when t words are there. -/
def sl (zs : List Nat) (t : Nat) : List Nat := sch zs t ++ List.replicate (64 - t) 0
theorem sl_len (zs : List Nat) {t : Nat} (h : t ≤ 64) : (sl zs t).length = 64 := by unfold sl; rw [List.length_append, sch_len, List.length_replicate]; omega
theorem sl_get (zs : List Nat) {t i : Nat} (h : i < t) : (sl zs t).getD i 0 = (sch zs t).getD i 0 := by
  unfold sl; rw [List.getD, List.getElem?_append_left (by rw [sch_len]; exact h)]; rfl
theorem sl_set (zs : List Nat) {t x : Nat} (h : t < 64) (hx : sch zs (t + 1) = sch zs t ++ [x]) : (sl zs t).set t x = sl zs (t + 1) := by
  unfold sl
  rw [hx, List.append_assoc, List.set_append_right _ _ (by rw [sch_len]; exact Nat.le_refl _), sch_len, Nat.sub_self, show 64 - t = (64 - (t + 1)) + 1 by omega, List.replicate_succ, List.set_cons_zero]
  rfl
theorem sl_all (zs : List Nat) : sl zs 64 = sch zs 64 := by unfold sl; simp
theorem sch_by4 (zs : List Nat) (n i : Nat) (hn : n ≤ 16) (hi : i < n) : (sch zs n).getD i 0 = by4 zs i := by
  induction n with
  | zero => omega
  | succ n ih =>
    rw [sch_low zs n (by omega), List.getD]
    by_cases e : i = n
    · subst e
      rw [List.getElem?_append_right (by rw [sch_len]; exact Nat.le_refl _), sch_len, Nat.sub_self]; rfl
    · rw [List.getElem?_append_left (by rw [sch_len]; omega)]
      exact ih (by omega) (by omega)
theorem rep_get (n i : Nat) : (List.replicate n 0).getD i 0 = 0 := by
  rw [List.getD, List.getElem?_replicate]
  split <;> rfl
theorem getD_of {l : List Nat} {i : Nat} (h : i < l.length) : l.getD i 0 = l[i] := by rw [List.getD, List.getElem?_eq_getElem h]; rfl
theorem sl_zero (zs : List Nat) {t i : Nat} (h : t ≤ i) : (sl zs t).getD i 0 = 0 := by
  unfold sl
  rw [List.getD, List.getElem?_append_right (by rw [sch_len]; exact h)]
  exact rep_get _ _
theorem wl_all' (zs : List Nat) (n m : Nat) (hn : n = 64) (hm : m = 16) : wl zs n = sl zs m := by
  refine List.ext_getElem (by rw [wl_len, sl_len zs (by omega)]) fun i h1 h2 => ?_
  rw [← getD_of h1, ← getD_of h2]
  rw [wl_len] at h1
  rw [wl_get zs n i h1]
  clear h2
  by_cases h : i < m
  · rw [sl_get zs h, sch_by4 zs m i (by omega) h, show min 4 (n - 4 * i) = 4 by omega, pw_four]
  · rw [show min 4 (n - 4 * i) = 0 by omega, sl_zero zs (by omega)]
    rfl
theorem wl_all (zs : List Nat) : wl zs 64 = sl zs 16 := wl_all' zs 64 16 rfl rfl

theorem shl8_or {v b : Nat} (hv : v < 16777216) (hb : b < 256) : bits BinOp.or IntKind.u32 (((v : Nat) : Int) * 256) ((b : Nat) : Int) = ((v * 256 + b : Nat) : Int) := by
  have h1 : (((v : Nat) : Int) * 256) = ((v * 256 : Nat) : Int) := by omega
  rw [h1, bits_or32 _ _ (by omega) (by omega)]
  congr 1
  have h2 := Nat.shiftLeft_add_eq_or_of_lt (i := 8) (b := b) (by omega) v
  rw [Nat.shiftLeft_eq] at h2
  exact h2.symm

def S1Rel (zs : List Nat) (w : World) (i : Value) (wr : World) : Prop :=
  ∃ k : Nat, k ≤ 64 ∧ i = .int .i64 (k : Nat) ∧ rowN wr (w.heap.size + 1) = some (arr .u32 (wl zs k)) ∧ rowN wr w.heap.size = some (arr .u32 z64) ∧ Below w.heap.size w wr
/-- What schedule's closures hold. -/
def SRows (G : Nat) (W : World) : Prop :=
  rowN W G = some (arr .i64 [7, 18]) ∧ rowN W (G + 1) = some #[.slice (some ⟨G, 0, none⟩) 2 2] ∧ rowN W (G + 1 + 1) = some (arr .i64 [17, 19]) ∧ rowN W (G + 1 + 1 + 1) = some #[.slice (some ⟨G + 1 + 1, 0, none⟩) 2 2] ∧
    rowN W (G + 1 + 1 + 1 + 1) = some #[.func (.func 51) #[] #[.pointer (some ⟨G + 1, 0, none⟩)]] ∧ rowN W (G + 1 + 1 + 1 + 1 + 1) = some #[.func (.func 51) #[] #[.pointer (some ⟨G + 1 + 1 + 1, 0, none⟩)]]
theorem SRows.r0 {G : Nat} {W : World} (h : SRows G W) : Rots (G + 1) [7, 18] W := ⟨⟨G, 2, h.2.1, h.1⟩, fun n hn => by simp at hn; unfold Pl; omega, by decide⟩
theorem SRows.r1 {G : Nat} {W : World} (h : SRows G W) : Rots (G + 1 + 1 + 1) [17, 19] W := ⟨⟨G + 1 + 1, 2, h.2.2.2.1, h.2.2.1⟩, fun n hn => by simp at hn; unfold Pl; omega, by decide⟩
theorem SRows.set {G c o : Nat} {W : World} {x : Value} (h : SRows G W) (hc : c < G) : SRows G (W.setCell ⟨c, o, none⟩ x) :=
  ⟨row_cell0 h.1 (by omega), row_cell0 h.2.1 (by omega), row_cell0 h.2.2.1 (by omega), row_cell0 h.2.2.2.1 (by omega), row_cell0 h.2.2.2.2.1 (by omega), row_cell0 h.2.2.2.2.2 (by omega)⟩
theorem six (W : World) : ∃ X, (((((W.alloc (.cells #[.int .i64 7, .int .i64 18] 3)).alloc (.cells #[.slice (some ⟨W.heap.size, 0, none⟩) 2 2] 83)).alloc (.cells #[.int .i64 17, .int .i64 19] 3)).alloc (.cells #[.slice (some ⟨W.heap.size + 1 + 1, 0, none⟩) 2 2] 83)).alloc (.cells #[.func (.func 51) #[] #[.pointer (some ⟨W.heap.size + 1, 0, none⟩)]] 86)).alloc (.cells #[.func (.func 51) #[] #[.pointer (some ⟨W.heap.size + 1 + 1 + 1, 0, none⟩)]] 86) = X ∧
    SRows W.heap.size X ∧ Below W.heap.size W X := by
  refine ⟨_, rfl, ⟨?_, ?_, ?_, ?_, ?_, ?_⟩, ((((((Below.refl _ W).alloc (Nat.le_refl _) _).alloc (by simp) _).alloc (by simp <;> omega) _).alloc (by simp <;> omega) _).alloc (by simp <;> omega) _).alloc (by simp <;> omega) _⟩
  · rw [arr_lit]; simp only [rowN_alloc, World.size_alloc, if_true]; (repeat rw [if_neg (by omega)]); rfl
  · simp only [rowN_alloc, World.size_alloc, if_true]; (repeat rw [if_neg (by omega)])
  · rw [arr_lit]; simp only [rowN_alloc, World.size_alloc, if_true]; (repeat rw [if_neg (by omega)]); rfl
  · simp only [rowN_alloc, World.size_alloc, if_true]; (repeat rw [if_neg (by omega)])
  · simp only [rowN_alloc, World.size_alloc, if_true]; (repeat rw [if_neg (by omega)])
  · simp only [rowN_alloc, World.size_alloc, if_true]
def S2Rel (zs : List Nat) (G : Nat) (w : World) (i : Value) (wr : World) : Prop :=
  ∃ k : Nat, 16 ≤ k ∧ k ≤ 64 ∧ i = .int .i64 (k : Nat) ∧ rowN wr (w.heap.size + 1) = some (arr .u32 (sl zs k)) ∧ rowN wr w.heap.size = some (arr .u32 z64) ∧ SRows G wr ∧ Below w.heap.size w wr
set_option maxRecDepth 100000 in
set_option maxHeartbeats 1000000 in
theorem schedule_any (zs : List Nat) (b off c : Nat) (hl : zs.length = 64) (h256 : ∀ x ∈ zs, x < 256) (w : World) (hblk : b < w.heap.size) (hc : ∀ j, j < 64 → w.cell? ⟨b, off + j, none⟩ = some (.int .u8 (zs.getD j 0 : Nat))) :
    Calls Tryd.prog 47 #[.slice (some ⟨b, off, none⟩) 64 c] w fun e w' => e = .returned (.agg (arr .u32 (sch zs 64))) ∧ Below w.heap.size w w' := by
  have HL := Lib.hid hl
  have H256 := Lib.hid h256
  have HC := Lib.hid hc
  have hmf : ∀ (fn : Fn) (first cap : Array Value) (w : World), (Instr.makeFunc fn first cap).run Tryd.prog w = .ok (.func fn first cap) w := fun _ _ _ _ => rfl
  clear hl h256 hc
  go_enter Tryd.func47, Tryd.ntmps47
  go_wp2_with fail
  go_loopw [13] (fun i wr => S1Rel zs w i wr) (fun i _ => 64 - (intOf i).toNat)
  case atStart =>
    refine ⟨0, by omega, rfl, ?_, ?_, ((Below.refl _ w).alloc (Nat.le_refl _) _).alloc (by simp) _⟩
    · rw [wl_zero]; simp only [rowN_alloc, World.size_alloc, if_true]
    · simp only [rowN_alloc, World.size_alloc, if_true]; (repeat rw [if_neg (by omega)])
  case round =>
    obtain ⟨k, hk, rfl, hrow, hr2, hB⟩ := hrel
    have HB := Lib.hid hB
    have HR2 := Lib.hid hr2
    have HR := Lib.hid hrow
    by_cases hlt : k < 64
    · have hcz : wr.cell? ⟨b, off + k, none⟩ = some (.int .u8 (zs.getD k 0 : Nat)) := (hB.cell (p := ⟨b, off + k, none⟩) hblk).trans (HC.out k hlt)
      have hcw := cell_arr hrow (show k / 4 < (wl zs k).length by rw [wl_len]; omega)
      rw [wl_get zs k (k / 4) (by omega), show min 4 (k - 4 * (k / 4)) = k % 4 by omega] at hcw
      have hf := (rowN_cell hrow).2 (k / 4)
      have b1 := byte_lt H256.out k
      have b2 : pw zs (k / 4) (k % 4) < 16777216 := Nat.lt_of_lt_of_le (pw_lt H256.out (k / 4) (k % 4)) (Nat.pow_le_pow_right (by omega) (show k % 4 ≤ 3 by omega))
      have HSET := Lib.hid (wl_set zs k hlt)
      obtain ⟨x, hx⟩ : ∃ x, pw zs (k / 4) (k % 4) = x := ⟨_, rfl⟩
      obtain ⟨y, hy⟩ : ∃ y, zs.getD k 0 = y := ⟨_, rfl⟩
      rw [hx] at hcw b2 HSET
      rw [hy] at hcz b1 HSET
      have HX := Lib.hid (shl8_or b2 b1)
      have hlr := rowN_lt hrow
      clear hx hy hB hr2 hrow
      go_wp2_with fail
      rw [HX.out]
      refine ⟨⟨k + 1, by omega, by go_num, ?_, row_cell0 HR2.out (by omega), HB.out.setCell (p := ⟨w.heap.size + 1, k / 4, none⟩) (by show w.heap.size ≤ w.heap.size + 1; omega) _⟩, by simp [intOf]; omega⟩
      have h := row_arr (i := k / 4) (x := x * 256 + y) HR.out
      rw [HSET.out] at h
      exact h
    · obtain rfl : k = 64 := by omega
      rw [wl_all] at hrow
      have HRR := Lib.hid hrow
      have hlr := rowN_lt hrow
      clear hrow HR hB hr2
      go_wp2_with fail
      refine (rotations_any _ _ _ _).mono ?_
      rintro e w1 ⟨rfl, rfl⟩
      go_wp2_with fail
      refine (rotations_any _ _ _ _).mono ?_
      rintro e w2 ⟨rfl, rfl⟩
      go_wp2_with fail
      obtain ⟨X, hX, hS, hb6⟩ := six wr
      rw [hX]
      have h3 := keptW hb6 HRR.out
      have h2 := keptW hb6 HR2.out
      have HB6 := Lib.hid (HB.out.trans (hb6.mono HB.out.size))
      have HS := Lib.hid hS
      have H3 := Lib.hid h3
      have H2 := Lib.hid h2
      obtain ⟨G, hG⟩ : ∃ G, wr.heap.size = G := ⟨_, rfl⟩
      have HG := Lib.hid (show w.heap.size + 1 < G by rw [← hG]; exact rowN_lt HRR.out)
      rw [hG] at HS ⊢
      clear hX hS hb6 h3 h2 hG HRR HR2 HB hlr HC
      go_loopw [10] (fun i wr => S2Rel zs G w i wr) (fun i _ => 64 - (intOf i).toNat)
      case atStart => exact ⟨16, by omega, by omega, rfl, H3.out, H2.out, HS.out, HB6.out⟩
      case round =>
        clear H3 H2 HS HB6
        obtain ⟨k, hk1, hk2, rfl, hrow, hr2, hS, hB⟩ := hrel
        have hlG := HG.out
        have HB := Lib.hid hB
        have HR2 := Lib.hid hr2
        have HR := Lib.hid hrow
        have HS := Lib.hid hS
        by_cases hlt : k < 64
        · have hlen := sl_len zs (show k ≤ 64 by omega)
          have c2 := cell_arr hrow (show k - 2 < (sl zs k).length by omega)
          have c7 := cell_arr hrow (show k - 7 < (sl zs k).length by omega)
          have c15 := cell_arr hrow (show k - 15 < (sl zs k).length by omega)
          have c16 := cell_arr hrow (show k - 16 < (sl zs k).length by omega)
          have hf := (rowN_cell hrow).2 k
          rw [sl_get zs (show k - 2 < k by omega)] at c2
          rw [sl_get zs (show k - 7 < k by omega)] at c7
          rw [sl_get zs (show k - 15 < k by omega)] at c15
          rw [sl_get zs (show k - 16 < k by omega)] at c16
          have HW := sch_w32 H256.out k
          have w2 := HW.get (k - 2)
          have w7 := HW.get (k - 7)
          have w15 := HW.get (k - 15)
          have w16 := HW.get (k - 16)
          have hhi := sch_high zs k (by omega)
          obtain ⟨x2, e2⟩ : ∃ x, (sch zs k).getD (k - 2) 0 = x := ⟨_, rfl⟩
          obtain ⟨x7, e7⟩ : ∃ x, (sch zs k).getD (k - 7) 0 = x := ⟨_, rfl⟩
          obtain ⟨x15, e15⟩ : ∃ x, (sch zs k).getD (k - 15) 0 = x := ⟨_, rfl⟩
          obtain ⟨x16, e16⟩ : ∃ x, (sch zs k).getD (k - 16) 0 = x := ⟨_, rfl⟩
          rw [e2] at c2 w2 hhi
          rw [e7] at c7 w7 hhi
          rw [e15] at c15 w15 hhi
          rw [e16] at c16 w16 hhi
          have m1 := fun W hR hF => mix1_any x2 w2 (G + 1 + 1 + 1) (G + 1 + 1 + 1 + 1 + 1) W hR hF
          have m0 := fun W hR hF => mix0_any x15 w15 (G + 1) (G + 1 + 1 + 1 + 1) W hR hF
          have y1 : xr x2 [17, 19] ^^^ x2 / 1024 < 4294967296 := xor_lt _ _ (xr_lt _ w2 _) (Nat.lt_of_le_of_lt (Nat.div_le_self _ _) w2)
          have y0 : xr x15 [7, 18] ^^^ x15 / 8 < 4294967296 := xor_lt _ _ (xr_lt _ w15 _) (Nat.lt_of_le_of_lt (Nat.div_le_self _ _) w15)
          obtain ⟨z1, ez1⟩ : ∃ x, xr x2 [17, 19] ^^^ x2 / 1024 = x := ⟨_, rfl⟩
          obtain ⟨z0, ez0⟩ : ∃ x, xr x15 [7, 18] ^^^ x15 / 8 = x := ⟨_, rfl⟩
          rw [ez1] at m1 y1 hhi
          rw [ez0] at m0 y0 hhi
          have M1 := Lib.hid m1
          have M0 := Lib.hid m0
          have HSET := Lib.hid (sl_set zs hlt hhi)
          have p2 : ((k : Nat) : Int) - 2 = ((k - 2 : Nat) : Int) := by omega
          have p7 : ((k : Nat) : Int) - 7 = ((k - 7 : Nat) : Int) := by omega
          have p15 : ((k : Nat) : Int) - 15 = ((k - 15 : Nat) : Int) := by omega
          have p16 : ((k : Nat) : Int) - 16 = ((k - 16 : Nat) : Int) := by omega
          clear m1 m0 hhi ez1 ez0 e2 e7 e15 e16 HW hB hr2 hS hrow hlen
          have l2 : ((k - 2 : Nat) : Int) < 64 := by omega
          have q2 : IntKind.i64.wrap ((k - 2 : Nat) : Int) = ((k - 2 : Nat) : Int) := IntWalk.i64_in _ (by omega)
          have l7 : ((k - 7 : Nat) : Int) < 64 := by omega
          have q7 : IntKind.i64.wrap ((k - 7 : Nat) : Int) = ((k - 7 : Nat) : Int) := IntWalk.i64_in _ (by omega)
          have l15 : ((k - 15 : Nat) : Int) < 64 := by omega
          have q15 : IntKind.i64.wrap ((k - 15 : Nat) : Int) = ((k - 15 : Nat) : Int) := IntWalk.i64_in _ (by omega)
          have l16 : ((k - 16 : Nat) : Int) < 64 := by omega
          have q16 : IntKind.i64.wrap ((k - 16 : Nat) : Int) = ((k - 16 : Nat) : Int) := IntWalk.i64_in _ (by omega)
          have HSd := Lib.hid (show SRows G wr.drew from HS.out)
          go_upto_region 13 with fail
          refine wp_region_still_tail 25 (by kernel_rfl) (by kernel_rfl) ?_
          simp only [List.take_succ_cons, List.take_zero, List.drop_succ_cons, List.drop_zero]
          repeat still_step
          still_call ((M1.out _ HSd.out.r1 HSd.out.2.2.2.2.2).mono (fun _ _ h => ⟨h.1, h.2.symm⟩))
          repeat still_step
          still_call ((M0.out _ HSd.out.r0 HSd.out.2.2.2.2.1).mono (fun _ _ h => ⟨h.1, h.2.symm⟩))
          repeat still_step
          refine wpStill_nil ?_
          change wpList _ _ _ _ _ wr.drew
          have hRd : rowN wr.drew (w.heap.size + 1) = some (arr .u32 (sl zs k)) := HR.out
          have HR2d := Lib.hid (show rowN wr.drew w.heap.size = some (arr .u32 z64) from HR2.out)
          have HBd := Lib.hid (show Below w.heap.size w wr.drew from HB.out.drew)
          clear c2 c7 c15 c16 hf HR HR2 HB HS
          generalize wr.drew = V at *
          have hfV := (rowN_cell hRd).2 k
          have hcV := cell_arr hRd (show k < (sl zs k).length by rw [sl_len zs (by omega)]; exact hlt)
          have HRd := Lib.hid hRd
          clear hRd
          go_wp2_with fail
          have e : (((z1 : Nat) : Int) + ((x7 : Nat) : Int) + ((z0 : Nat) : Int) + ((x16 : Nat) : Int)) % 4294967296 = (((z1 + x7 + z0 + x16) % 4294967296 : Nat) : Int) := by omega
          rw [e]
          refine ⟨⟨k + 1, by omega, by omega, by go_num, ?_, row_cell0 HR2d.out (by omega), HSd.out.set (by omega), HBd.out.setCell (p := ⟨w.heap.size + 1, k, none⟩) (by show w.heap.size ≤ w.heap.size + 1; omega) _⟩, by simp [intOf]; omega⟩
          have h := row_arr (i := k) (x := (z1 + x7 + z0 + x16) % 4294967296) HRd.out
          rw [HSET.out] at h
          exact h
        · obtain rfl : k = 64 := by omega
          rw [sl_all] at hrow
          have sz1 : (arr .u32 (sch zs 64)).size = 64 := by rw [arr_size, sch_len]
          have sz2 : (arr .u32 z64).size = 64 := by rw [arr_size, z64_len]
          have hl64 := sch_len zs 64
          clear hB hS HR
          go_wp2_with fail
          exact ret_arr _ _ run_loadVar65 rfl rfl rfl (row_new HR2.out) sz1 ⟨rfl, below_setRow' HB.out (Nat.le_refl _) _⟩
end Go.Proofs.YtmlacbdonkfbdaaDoor
