/- The reference's block. -/
import Derived.Deep.QuietTactic
import Derived.BigQuiet
import Derived.StillTailTactics
import Derived.Test.YtmlacbdonkfbdaaDoorSW
import Derived.Test.YtmlacbdonkfbdaaDoorSH
namespace Go.Proofs.YtmlacbdonkfbdaaDoor
open Go.RowKit

/-- The reference's table of the constants. -/
def RG (w : World) : Prop := 0 < w.heap.size ∧ ∃ gb off c, 64 ≤ c ∧ w.cell? ⟨0, 0, none⟩ = some (.slice (some ⟨gb, off, none⟩) 64 c) ∧ gb < w.heap.size ∧ ∀ i, i < 64 → w.cell? ⟨gb, off + i, none⟩ = some (.int .i64 (kt i : Nat))
theorem RG.kept {w w' : World} (h : RG w) (hb : Below w.heap.size w w') : RG w' := by
  obtain ⟨h0, gb, off, c, hcc, hc, hg, hi⟩ := h
  exact ⟨Nat.lt_of_lt_of_le h0 hb.size, gb, off, c, hcc, (hb.cell (p := ⟨0, 0, none⟩) h0).trans hc, Nat.lt_of_lt_of_le hg hb.size, fun i h => (hb.cell (p := ⟨gb, off + i, none⟩) hg).trans (hi i h)⟩

theorem run_zero56' (W : World) : (zeroValue 79).run Tryd.prog W = .ok (.agg (List.replicate 64 (Value.int .i64 ((0 : Nat) : Int))).toArray) W := by kernel_rfl
theorem run_zero56 (W : World) : (zeroValue 79).run Tryd.prog W = .ok (.agg (arr .i64 z64)) W := by
  rw [run_zero56', arr_lit, z64_eq, List.map_replicate]
theorem run_zero50' (W : World) : (zeroValue 68).run Tryd.prog W = .ok (.agg (List.replicate 8 (Value.int .i64 ((0 : Nat) : Int))).toArray) W := by kernel_rfl
theorem run_zero50 (W : World) : (zeroValue 68).run Tryd.prog W = .ok (.agg (arr .i64 zero8)) W := by
  rw [run_zero50', arr_lit]; rfl
attribute [go_sem ↓] run_zero56 run_zero50
def arBuild50 (x0 x1 x2 x3 x4 x5 x6 x7 : Value) : Sem Next := do pure (.value (← Instr.build 68 #[(0, x0), (1, x1), (2, x2), (3, x3), (4, x4), (5, x5), (6, x6), (7, x7)]))
@[go_sem ↓] theorem execOp_build50 (ρ : Operand → Value) (dst : Option Tmp) (x0 x1 x2 x3 x4 x5 x6 x7 : Operand) (ty : TypeId) (pos : String) (after : Array Edge) (guard : Option (Nat × Bool)) :
    execOp ρ { dst, op := .build 68 #[(0, x0), (1, x1), (2, x2), (3, x3), (4, x4), (5, x5), (6, x6), (7, x7)], type := ty, pos, after, guard } = arBuild50 (ρ x0) (ρ x1) (ρ x2) (ρ x3) (ρ x4) (ρ x5) (ρ x6) (ρ x7) := by simp [execOp, arBuild50]
theorem run_build50 (W : World) (x0 x1 x2 x3 x4 x5 x6 x7 : Nat) : (Instr.build 68 #[(0, .int .i64 x0), (1, .int .i64 x1), (2, .int .i64 x2), (3, .int .i64 x3), (4, .int .i64 x4), (5, .int .i64 x5), (6, .int .i64 x6), (7, .int .i64 x7)]).run Tryd.prog W = .ok (.agg (arr .i64 [x0, x1, x2, x3, x4, x5, x6, x7])) W := by
  rw [arr_lit]; kernel_rfl
@[go_sem] theorem run_arBuild50 (W : World) (x0 x1 x2 x3 x4 x5 x6 x7 : Nat) : (arBuild50 (.int .i64 x0) (.int .i64 x1) (.int .i64 x2) (.int .i64 x3) (.int .i64 x4) (.int .i64 x5) (.int .i64 x6) (.int .i64 x7)).run Tryd.prog W = .ok (.value (.agg (arr .i64 [x0, x1, x2, x3, x4, x5, x6, x7]))) W := by
  simp only [arBuild50, Sem.run_bind, run_build50, Result.andThen_ok, Sem.run_pure]

/-- The rows of block: the words of the hash, the result, the schedule. -/
def KRel (hl ws : List Nat) (w wr : World) : Prop := rowN wr (w.heap.size + 1 + 1) = some (arr .i64 ws) ∧ rowN wr w.heap.size = some (arr .i64 hl) ∧ rowN wr (w.heap.size + 1) = some (arr .i64 zero8) ∧ Below w.heap.size w wr
theorem KRel.set {hl ws : List Nat} {w wr : World} (h : KRel hl ws w wr) (i x : Nat) : KRel hl (ws.set i x) w (wr.setCell ⟨w.heap.size + 1 + 1, i, none⟩ (.int .i64 (x : Nat))) :=
  ⟨row_arr h.1, row_cell0 h.2.1 (by omega), row_cell0 h.2.2.1 (by omega), h.2.2.2.setCell (p := ⟨w.heap.size + 1 + 1, i, none⟩) (by show w.heap.size ≤ w.heap.size + 1 + 1; omega) _⟩
theorem KRel.drewN {hl ws : List Nat} {w wr : World} (h : KRel hl ws w wr) (n : Nat) : KRel hl ws w (wr.drewN n) := ⟨h.1, h.2.1, h.2.2.1, below_drewN h.2.2.2 n⟩
theorem KRel.drew {hl ws : List Nat} {w wr : World} (h : KRel hl ws w wr) : KRel hl ws w wr.drew := ⟨h.1, h.2.1, h.2.2.1, h.2.2.2.drew⟩
theorem KRel.start (hl : List Nat) (w : World) : KRel hl z64 w (((w.alloc (.cells (arr .i64 hl) 68)).alloc (.cells (arr .i64 zero8) 68)).alloc (.cells (arr .i64 z64) 79)) := by
  refine ⟨?_, ?_, ?_, (((Below.refl _ w).alloc (Nat.le_refl _) _).alloc (by simp) _).alloc (by simp <;> omega) _⟩
  · simp only [rowN_alloc, World.size_alloc, if_true]
  · simp only [rowN_alloc, World.size_alloc, if_true]; (repeat rw [if_neg (by omega)])
  · simp only [rowN_alloc, World.size_alloc, if_true]; (repeat rw [if_neg (by omega)])
theorem set_same {l : List Nat} {k : Nat} (h : k < l.length) (hx : l.getD k 0 = 0) : l.set k 0 = l := by
  rw [← hx, getD_of h]; exact List.set_getElem_self h
theorem getD_set {l : List Nat} {k x : Nat} (h : k < l.length) : (l.set k x).getD k 0 = x := by
  rw [List.getD, List.getElem?_set_self h]; rfl
theorem pw_le {zs : List Nat} (h : ∀ x ∈ zs, x < 256) (j n : Nat) (hn : n ≤ 3) : pw zs j n < 16777216 :=
  Nat.lt_of_lt_of_le (pw_lt h j n) (Nat.pow_le_pow_right (by omega) hn)

theorem xmix (x a b d : Nat) (h : x < 4294967296) : bits BinOp.xor IntKind.i64 (bits BinOp.xor IntKind.i64 ((rr x a : Nat) : Int) ((rr x b : Nat) : Int)) (((x : Nat) : Int) / ((d : Nat) : Int)) = ((xr x [a, b] ^^^ x / d : Nat) : Int) := by
  have h1 := rr_lt x a h
  have h2 := rr_lt x b h
  rw [bits_xor64 _ _ h1 h2, ← Int.natCast_ediv, bits_xor64 _ _ (xor_lt _ _ h1 h2) (Nat.lt_of_le_of_lt (Nat.div_le_self _ _) h)]
  unfold xr
  rw [List.foldl_cons, List.foldl_cons, List.foldl_nil, Nat.zero_xor]
theorem xr3 (x a b c : Nat) (h : x < 4294967296) : bits BinOp.xor IntKind.i64 (bits BinOp.xor IntKind.i64 ((rr x a : Nat) : Int) ((rr x b : Nat) : Int)) ((rr x c : Nat) : Int) = ((xr x [a, b, c] : Nat) : Int) := by
  have h1 := rr_lt x a h
  have h2 := rr_lt x b h
  have h3 := rr_lt x c h
  rw [bits_xor64 _ _ h1 h2, bits_xor64 _ _ (xor_lt _ _ h1 h2) h3]
  unfold xr
  rw [List.foldl_cons, List.foldl_cons, List.foldl_cons, List.foldl_nil, Nat.zero_xor]
theorem of_list {l : List Nat} (h : l.length = 8) : (V8.of l).list = l := by
  match l, h with
  | [_, _, _, _, _, _, _, _], _ => rfl
theorem KRel.kept {hl ws : List Nat} {w wr V : World} (h : KRel hl ws w wr) (hb : Below wr.heap.size wr V) : KRel hl ws w V :=
  ⟨keptW hb h.1, keptW hb h.2.1, keptW hb h.2.2.1, h.2.2.2.trans (hb.mono h.2.2.2.size)⟩
theorem KRel.setRow {hl ws : List Nat} {w wr : World} (h : KRel hl ws w wr) {g : Nat} (hg : w.heap.size + 1 + 1 < g) (cs : Array Value) : KRel hl ws w (wr.setRow g cs) :=
  ⟨row_other h.1 (by omega), row_other h.2.1 (by omega), row_other h.2.2.1 (by omega), below_setRow' h.2.2.2 (by omega) _⟩
theorem KRel.set0 {hl ws : List Nat} {w wr : World} (h : KRel hl ws w wr) (i x : Nat) : KRel (hl.set i x) ws w (wr.setCell ⟨w.heap.size, i, none⟩ (.int .i64 (x : Nat))) :=
  ⟨row_cell0 h.1 (by omega), row_arr h.2.1, row_cell0 h.2.2.1 (by omega), h.2.2.2.setCell (p := ⟨w.heap.size, i, none⟩) (Nat.le_refl _) _⟩
theorem v8_cells {W : World} {g : Nat} {v : V8} (h : rowN W g = some (arr .i64 v.list)) :
    W.cell? ⟨g, 0, none⟩ = some (.int .i64 (v.a : Nat)) ∧ W.cell? ⟨g, 1, none⟩ = some (.int .i64 (v.b : Nat)) ∧ W.cell? ⟨g, 2, none⟩ = some (.int .i64 (v.c : Nat)) ∧ W.cell? ⟨g, 3, none⟩ = some (.int .i64 (v.d : Nat)) ∧
    W.cell? ⟨g, 4, none⟩ = some (.int .i64 (v.e : Nat)) ∧ W.cell? ⟨g, 5, none⟩ = some (.int .i64 (v.f : Nat)) ∧ W.cell? ⟨g, 6, none⟩ = some (.int .i64 (v.g : Nat)) ∧ W.cell? ⟨g, 7, none⟩ = some (.int .i64 (v.h : Nat)) := by
  have h8 : v.list.length = 8 := rfl
  exact ⟨cell_arr h (show 0 < _ by omega), cell_arr h (show 1 < _ by omega), cell_arr h (show 2 < _ by omega), cell_arr h (show 3 < _ by omega), cell_arr h (show 4 < _ by omega), cell_arr h (show 5 < _ by omega), cell_arr h (show 6 < _ by omega), cell_arr h (show 7 < _ by omega)⟩
theorem drew_q {f : FuncId} {args : Array Value} {w : World} {v : Value} (h : Calls Tryd.prog f args w fun e w' => e = .returned v ∧ w' = w.drew) : Calls Tryd.prog f args w fun e w' => e = .returned v ∧ ∃ m, w' = w.drewN m :=
  h.mono fun _ _ h => ⟨h.1, 1, h.2⟩
/-- The words behind i additions. -/
def mixL (h s : List Nat) (i : Nat) : List Nat := (plusL h s).take i ++ h.drop i
theorem mixL_zero (h s : List Nat) : mixL h s 0 = h := rfl
theorem mixL_all {h s : List Nat} (hh : h.length = 8) (hs : s.length = 8) : mixL h s 8 = plusL h s := by
  unfold mixL; rw [List.take_of_length_le (by rw [plusL_len hh hs]; omega), List.drop_of_length_le (by omega), List.append_nil]
theorem mixL_len {h s : List Nat} (hh : h.length = 8) (hs : s.length = 8) {i : Nat} (hi : i ≤ 8) : (mixL h s i).length = 8 := by
  unfold mixL; rw [List.length_append, List.length_take, List.length_drop, plusL_len hh hs]; omega
theorem mixL_get {h s : List Nat} (hh : h.length = 8) (hs : s.length = 8) {i : Nat} (hi : i < 8) : (mixL h s i).getD i 0 = h.getD i 0 := by
  unfold mixL
  rw [List.getD, List.getElem?_append_right (by rw [List.length_take]; omega), List.length_take, plusL_len hh hs, List.getElem?_drop, List.getD]
  congr 2; omega
theorem mixL_set {h s : List Nat} (hh : h.length = 8) (hs : s.length = 8) {i x : Nat} (hi : i < 8) (hx : (h.getD i 0 + s.getD i 0) % 4294967296 = x) : (mixL h s i).set i x = mixL h s (i + 1) := by
  have hp := plusL_len hh hs
  have hl : ((plusL h s).take i).length = i := by rw [List.length_take]; omega
  have hg : (plusL h s)[i]'(by omega) = x := by
    rw [← hx, getD_of (show i < h.length by omega), getD_of (show i < s.length by omega)]
    simp [plusL]
  unfold mixL
  rw [List.set_append_right _ _ (by omega), hl, Nat.sub_self, List.drop_eq_getElem_cons (by omega), List.set_cons_zero, List.take_succ_eq_append_getElem (by omega), List.append_assoc, hg]; rfl

set_option maxRecDepth 100000 in
set_option maxHeartbeats 4000000 in
theorem rblock_any (hl zs : List Nat) (b off c : Nat) (hh : hl.length = 8) (hw : W32 hl) (hz : zs.length = 64) (h256 : ∀ x ∈ zs, x < 256) (w : World) (hG : RG w)
    (hblk : b < w.heap.size) (hc : ∀ j, j < 64 → w.cell? ⟨b, off + j, none⟩ = some (.int .u8 (zs.getD j 0 : Nat))) :
    Calls Tryd.prog 31 #[.agg (arr .i64 hl), .slice (some ⟨b, off, none⟩) 64 c] w fun e w' => e = .returned (.agg (arr .i64 (refL hl zs))) ∧ Below w.heap.size w w' := by
  have HH := Lib.hid hh
  have HW := Lib.hid hw
  have HZ := Lib.hid hz
  have H256 := Lib.hid h256
  have HG := Lib.hid hG
  have HC := Lib.hid hc
  have HS0 := Lib.hid (KRel.start hl w)
  have sz0 : (arr .i64 hl).size = 8 := by rw [arr_size, hh]
  clear hh hw hz h256 hG hc
  go_enter Tryd.func31, Tryd.ntmps31
  go_wp2_with fail
  go_loopw [6] (fun i wr => ∃ k : Nat, k ≤ 16 ∧ i = .int .i64 (k : Nat) ∧ KRel hl (sl zs k) w wr) (fun i _ => 16 - (intOf i).toNat)
  case atStart => exact ⟨0, by omega, rfl, by have h := HS0.out; rw [show sl zs 0 = z64 by unfold sl; rw [z64_eq]; rfl]; exact h⟩
  case round =>
    clear HS0
    obtain ⟨k, hk, rfl, hrel⟩ := hrel
    have HREL := Lib.hid hrel
    clear hrel
    by_cases hlt : k < 16
    · have q1 : ((k : Nat) : Int) < 16 := by omega
      go_wp2_with fail
      obtain ⟨wo, rfl⟩ : ∃ wo : World, wo = wr := ⟨_, rfl⟩
      go_loopw [7] (fun j wq => ∃ m : Nat, m ≤ 4 ∧ j = .int .i64 (m : Nat) ∧ KRel hl ((sl zs k).set k (pw zs k m)) w wq) (fun j _ => 4 - (intOf j).toNat)
      case atStart => exact ⟨0, by omega, rfl, by rw [show pw zs k 0 = 0 from rfl, set_same (by rw [sl_len zs (by omega)]; omega) (sl_zero zs (Nat.le_refl _))]; exact HREL.out⟩
      case round => as_aux_lemma =>
        clear HREL
        obtain ⟨m, hm, rfl, hrel⟩ := hrel
        have HREL := Lib.hid hrel
        by_cases hlt2 : m < 4
        · have hcz : wr.cell? ⟨b, off + (4 * k + m), none⟩ = some (.int .u8 (zs.getD (4 * k + m) 0 : Nat)) := (hrel.2.2.2.cell (p := ⟨b, off + (4 * k + m), none⟩) hblk).trans (HC.out (4 * k + m) (by omega))
          have hsl := sl_len zs (show k ≤ 64 by omega)
          have hcw := cell_arr hrel.1 (show k < ((sl zs k).set k (pw zs k m)).length by rw [List.length_set, hsl]; omega)
          rw [getD_set (by rw [hsl]; omega)] at hcw
          have b1 := byte_lt H256.out (4 * k + m)
          have b2 := pw_le H256.out k m (by omega)
          have HP := Lib.hid (show pw zs k (m + 1) = pw zs k m * 256 + zs.getD (4 * k + m) 0 from rfl)
          obtain ⟨x, hx⟩ : ∃ x, pw zs k m = x := ⟨_, rfl⟩
          obtain ⟨y, hy⟩ : ∃ y, zs.getD (4 * k + m) 0 = y := ⟨_, rfl⟩
          rw [hx] at hcw b2 HP HREL
          rw [hy] at hcz b1 HP
          have q0 : ((m : Nat) : Int) < 4 := by omega
          have q1 : ((k : Nat) : Int) < 64 := by omega
          have q2 : IntKind.i64.wrap (4 * ((k : Nat) : Int)) = 4 * ((k : Nat) : Int) := IntWalk.i64_in _ (by omega)
          have q3 : IntKind.i64.wrap (4 * ((k : Nat) : Int) + ((m : Nat) : Int)) = 4 * ((k : Nat) : Int) + ((m : Nat) : Int) := IntWalk.i64_in _ (by omega)
          have q4 : (0 : Int) ≤ 4 * ((k : Nat) : Int) + ((m : Nat) : Int) := by omega
          have q5 : 4 * ((k : Nat) : Int) + ((m : Nat) : Int) < 64 := by omega
          have q6 : (4 * ((k : Nat) : Int) + ((m : Nat) : Int)).toNat = 4 * k + m := by omega
          have q7 : IntKind.i64.wrap (256 * ((x : Nat) : Int)) = 256 * ((x : Nat) : Int) := IntWalk.i64_in _ (by omega)
          have q8 : IntKind.i64.wrap (256 * ((x : Nat) : Int) + ((y : Nat) : Int)) = 256 * ((x : Nat) : Int) + ((y : Nat) : Int) := IntWalk.i64_in _ (by omega)
          have q9 : IntKind.i64.wrap ((y : Nat) : Int) = ((y : Nat) : Int) := IntWalk.i64_in _ (by omega)
          clear hx hy hrel hsl
          go_upto_region 8 with fail
          refine wp_region_still_tail 15 (by kernel_rfl) (by kernel_rfl) ?_
          simp only [List.take_succ_cons, List.take_zero, List.drop_succ_cons, List.drop_zero]
          repeat still_step
          refine wpStill_nil ?_
          change wpList _ _ _ _ _ wr.drew
          have HRd := Lib.hid (KRel.drew HREL.out)
          clear hcz hcw HREL
          generalize wr.drew = V at *
          have hfV := (rowN_cell HRd.out.1).2 k
          have hlk : k < ((sl zs k).set k x).length := by rw [List.length_set, sl_len zs (by omega)]; omega
          have hcV := cell_arr HRd.out.1 hlk
          clear hlk
          go_wp2_with fail
          refine ⟨⟨m + 1, by omega, by go_num, ?_⟩, by simp [intOf]; omega⟩
          have h := HRd.out.set k (x * 256 + y)
          rw [List.set_set] at h
          rw [HP.out, show (256 : Int) * ((x : Nat) : Int) + ((y : Nat) : Int) = ((x * 256 + y : Nat) : Int) by omega]
          exact h
        · obtain rfl : m = 4 := by omega
          rw [pw_four, sl_set zs (by omega) (sch_low zs k hlt)] at hrel
          have HREL := Lib.hid hrel
          clear hrel
          go_wp2_with fail
          exact ⟨⟨k + 1, by omega, by go_num, HREL.out⟩, by simp [intOf]; omega⟩
    · obtain rfl : k = 16 := by omega
      rw [show ((16 : Nat) : Int) = 16 from rfl]
      go_wp2_with fail
      go_loopw [8] (fun i wr => ∃ k : Nat, 16 ≤ k ∧ k ≤ 64 ∧ i = .int .i64 (k : Nat) ∧ KRel hl (sl zs k) w wr) (fun i _ => 64 - (intOf i).toNat)
      case atStart => exact ⟨16, by omega, by omega, rfl, HREL.out⟩
      case round => as_aux_lemma =>
        clear HREL
        obtain ⟨k, hk1, hk2, rfl, hrel⟩ := hrel
        have HREL := Lib.hid hrel
        by_cases hlt : k < 64
        · have hlen := sl_len zs (show k ≤ 64 by omega)
          have c2 := cell_arr hrel.1 (show k - 2 < (sl zs k).length by omega)
          have c7 := cell_arr hrel.1 (show k - 7 < (sl zs k).length by omega)
          have c15 := cell_arr hrel.1 (show k - 15 < (sl zs k).length by omega)
          have c16 := cell_arr hrel.1 (show k - 16 < (sl zs k).length by omega)
          rw [sl_get zs (show k - 2 < k by omega)] at c2
          rw [sl_get zs (show k - 7 < k by omega)] at c7
          rw [sl_get zs (show k - 15 < k by omega)] at c15
          rw [sl_get zs (show k - 16 < k by omega)] at c16
          have HWS := sch_w32 H256.out k
          have w2 := HWS.get (k - 2)
          have w7 := HWS.get (k - 7)
          have w15 := HWS.get (k - 15)
          have w16 := HWS.get (k - 16)
          have hhi := sch_high zs k (by omega)
          obtain ⟨x2, e2⟩ : ∃ x, (sch zs k).getD (k - 2) 0 = x := ⟨_, rfl⟩
          obtain ⟨x7, e7⟩ : ∃ x, (sch zs k).getD (k - 7) 0 = x := ⟨_, rfl⟩
          obtain ⟨x15, e15⟩ : ∃ x, (sch zs k).getD (k - 15) 0 = x := ⟨_, rfl⟩
          obtain ⟨x16, e16⟩ : ∃ x, (sch zs k).getD (k - 16) 0 = x := ⟨_, rfl⟩
          have E7 := Lib.hid e7
          have E16 := Lib.hid e16
          rw [e2] at c2 w2 hhi
          rw [e7] at c7 w7 hhi
          rw [e15] at c15 w15 hhi
          rw [e16] at c16 w16 hhi
          have y1 : xr x2 [17, 19] ^^^ x2 / 1024 < 4294967296 := xor_lt _ _ (xr_lt _ w2 _) (Nat.lt_of_le_of_lt (Nat.div_le_self _ _) w2)
          have y0 : xr x15 [7, 18] ^^^ x15 / 8 < 4294967296 := xor_lt _ _ (xr_lt _ w15 _) (Nat.lt_of_le_of_lt (Nat.div_le_self _ _) w15)
          have X1 := Lib.hid (show bits BinOp.xor IntKind.i64 (bits BinOp.xor IntKind.i64 ((rr x2 17 : Nat) : Int) ((rr x2 19 : Nat) : Int)) (((x2 : Nat) : Int) / 1024) = ((xr x2 [17, 19] ^^^ x2 / 1024 : Nat) : Int) from xmix x2 17 19 1024 w2)
          have X0 := Lib.hid (show bits BinOp.xor IntKind.i64 (bits BinOp.xor IntKind.i64 ((rr x15 7 : Nat) : Int) ((rr x15 18 : Nat) : Int)) (((x15 : Nat) : Int) / 8) = ((xr x15 [7, 18] ^^^ x15 / 8 : Nat) : Int) from xmix x15 7 18 8 w15)
          obtain ⟨z1, ez1⟩ : ∃ x, xr x2 [17, 19] ^^^ x2 / 1024 = x := ⟨_, rfl⟩
          obtain ⟨z0, ez0⟩ : ∃ x, xr x15 [7, 18] ^^^ x15 / 8 = x := ⟨_, rfl⟩
          rw [ez1] at y1 hhi X1
          rw [ez0] at y0 hhi X0
          have HSET := Lib.hid (sl_set zs hlt hhi)
          have p2 : ((k : Nat) : Int) - 2 = ((k - 2 : Nat) : Int) := by omega
          have p7 : ((k : Nat) : Int) - 7 = ((k - 7 : Nat) : Int) := by omega
          have p15 : ((k : Nat) : Int) - 15 = ((k - 15 : Nat) : Int) := by omega
          have p16 : ((k : Nat) : Int) - 16 = ((k - 16 : Nat) : Int) := by omega
          have l2 : ((k - 2 : Nat) : Int) < 64 := by omega
          have q2 : IntKind.i64.wrap ((k - 2 : Nat) : Int) = ((k - 2 : Nat) : Int) := IntWalk.i64_in _ (by omega)
          have l7 : ((k - 7 : Nat) : Int) < 64 := by omega
          have q7 : IntKind.i64.wrap ((k - 7 : Nat) : Int) = ((k - 7 : Nat) : Int) := IntWalk.i64_in _ (by omega)
          have l15 : ((k - 15 : Nat) : Int) < 64 := by omega
          have q15 : IntKind.i64.wrap ((k - 15 : Nat) : Int) = ((k - 15 : Nat) : Int) := IntWalk.i64_in _ (by omega)
          have l16 : ((k - 16 : Nat) : Int) < 64 := by omega
          have q16 : IntKind.i64.wrap ((k - 16 : Nat) : Int) = ((k - 16 : Nat) : Int) := IntWalk.i64_in _ (by omega)
          have q1 : ((k : Nat) : Int) < 64 := by omega
          have R7 := Lib.hid (fun W => right7 x15 w15 W)
          have R18 := Lib.hid (fun W => right18 x15 w15 W)
          have R17 := Lib.hid (fun W => right17 x2 w2 W)
          have R19 := Lib.hid (fun W => right19 x2 w2 W)
          clear hhi ez1 ez0 e2 e7 e15 e16 HWS hrel hlen
          go_upto_region 12 with fail
          go_quiet (fail)
          have HRq := Lib.hid (HREL.out.drewN nq)
          clear HREL c2 c7 c15 c16
          generalize wr.drewN nq = V at *
          go_wp2_with fail
          refine (R7.out _).mono ?_
          rintro e w1 ⟨rfl, rfl⟩
          go_wp2_with fail
          refine (R18.out _).mono ?_
          rintro e w1 ⟨rfl, rfl⟩
          go_wp2_with fail
          rw [X0.out]
          refine (R17.out _).mono ?_
          rintro e w1 ⟨rfl, rfl⟩
          go_wp2_with fail
          refine (R19.out _).mono ?_
          rintro e w1 ⟨rfl, rfl⟩
          go_upto_region 15 with fail
          rw [X1.out]
          have HRr := Lib.hid (HRq.out.drew.drew.drew.drew)
          generalize V.drew.drew.drew.drew = V4 at *
          have hlen := sl_len zs (show k ≤ 64 by omega)
          have c7 := cell_arr HRr.out.1 (show k - 7 < (sl zs k).length by omega)
          have c16 := cell_arr HRr.out.1 (show k - 16 < (sl zs k).length by omega)
          rw [sl_get zs (show k - 7 < k by omega), E7.out] at c7
          rw [sl_get zs (show k - 16 < k by omega), E16.out] at c16
          clear HRq hlen
          refine wp_region_still_tail 16 (by kernel_rfl) (by kernel_rfl) ?_
          simp only [List.take_succ_cons, List.take_zero, List.drop_succ_cons, List.drop_zero]
          repeat still_step
          refine wpStill_nil ?_
          change wpList _ _ _ _ _ V4.drew
          have HRd := Lib.hid (KRel.drew HRr.out)
          clear c7 c16 HRr
          generalize V4.drew = V5 at *
          have hfV := (rowN_cell HRd.out.1).2 k
          have hlk : k < (sl zs k).length := by rw [sl_len zs (by omega)]; omega
          have hcV := cell_arr HRd.out.1 hlk
          clear hlk
          go_wp2_with fail
          refine ⟨⟨k + 1, by omega, by omega, by go_num, ?_⟩, by simp [intOf]; omega⟩
          have h := HRd.out.set k ((z1 + x7 + z0 + x16) % 4294967296)
          rw [HSET.out] at h
          rw [show (((z1 : Nat) : Int) + ((x7 : Nat) : Int) + ((z0 : Nat) : Int) + ((x16 : Nat) : Int)) % 4294967296 = (((z1 + x7 + z0 + x16) % 4294967296 : Nat) : Int) by omega]
          exact h
        · obtain rfl : k = 64 := by omega
          rw [show ((64 : Nat) : Int) = 64 from rfl]
          rw [sl_all] at hrel
          have HREL := Lib.hid hrel
          have sz0 : (arr .i64 hl).size = 8 := by rw [arr_size, HH.out]
          have sz8 : (arr .i64 zero8).size = 8 := by rw [arr_size]; rfl
          have h8 := HH.out
          have hr0 := hrel.2.1
          clear hrel
          go_wp2_with fail
          obtain ⟨V, hV⟩ : ∃ V, (wr.alloc (Obj.cells (arr .i64 zero8) 68)).setRow wr.heap.size (arr .i64 hl) = V := ⟨_, rfl⟩
          have hbV : Below wr.heap.size wr V := by rw [← hV]; exact below_setRow' ((Below.refl _ _).alloc (Nat.le_refl _) _) (Nat.le_refl _) _
          have hrV : rowN V wr.heap.size = some (arr .i64 (V8.of hl).list) := by rw [of_list HH.out, ← hV]; exact row_new (cs := arr .i64 zero8) (by rw [rowN_alloc, if_pos rfl])
          rw [hV]
          have HRV := Lib.hid (HREL.out.kept hbV)
          have HGV := Lib.hid (show w.heap.size + 1 + 1 < wr.heap.size from rowN_lt HREL.out.1)
          obtain ⟨gv, hgv⟩ : ∃ g, wr.heap.size = g := ⟨_, rfl⟩
          rw [hgv] at hrV HGV ⊢
          have HVV := Lib.hid hrV
          clear hV hbV hrV hgv HREL sz0 sz8 h8 hr0
          go_loopw [14] (fun i wr => ∃ t : Nat, t ≤ 64 ∧ i = .int .i64 (t : Nat) ∧ rowN wr gv = some (arr .i64 (rnds (sch zs 64) (V8.of hl) t).list) ∧ KRel hl (sch zs 64) w wr) (fun i _ => 64 - (intOf i).toNat)
          case atStart => exact ⟨0, by omega, rfl, HVV.out, HRV.out⟩
          case round => as_aux_lemma =>
            clear HVV HRV
            obtain ⟨t, ht, rfl, hrv, hrel⟩ := hrel
            by_cases hlt : t < 64
            · have HVN := Lib.hid (show rnd (kt t) ((sch zs 64).getD t 0) (rnds (sch zs 64) (V8.of hl) t) = rnds (sch zs 64) (V8.of hl) (t + 1) from rfl)
              have hlt8 : (rnds (sch zs 64) (V8.of hl) t).lt := rnds_lt (of_lt HW.out) t
              obtain ⟨v, hv⟩ : ∃ v, rnds (sch zs 64) (V8.of hl) t = v := ⟨_, rfl⟩
              rw [hv] at hrv HVN hlt8
              obtain ⟨l1, l2, l3, l4, l5, l6, l7, l8⟩ := hlt8
              have lw := (sch_w32 H256.out 64).get t
              have lk := kt_lt t
              have hwt := cell_arr hrel.1 (show t < (sch zs 64).length by rw [sch_len]; exact hlt)
              obtain ⟨_, gb, of2, c2, hcc, hg0, hgl, hgi⟩ := HG.out.kept hrel.2.2.2
              have hkt := hgi t hlt
              obtain ⟨wt, ewt⟩ : ∃ x, (sch zs 64).getD t 0 = x := ⟨_, rfl⟩
              obtain ⟨kk, ekk⟩ : ∃ x, kt t = x := ⟨_, rfl⟩
              rw [ewt] at HVN lw hwt
              rw [ekk] at HVN lk hkt
              have x1 := xr_lt v.e l5 [6, 11, 25]
              have x2 := xr_lt v.a l1 [2, 13, 22]
              have x3 := chx_lt v.e v.f v.g l6 l7
              have x4 := majx_lt v.a v.b v.c l2 l3
              have XE := Lib.hid (xr3 v.e 6 11 25 l5)
              have XA := Lib.hid (xr3 v.a 2 13 22 l1)
              have R6 := Lib.hid (fun W => drew_q (right6 v.e l5 W))
              have R11 := Lib.hid (fun W => drew_q (right11 v.e l5 W))
              have R25 := Lib.hid (fun W => drew_q (right25 v.e l5 W))
              have R2 := Lib.hid (fun W => drew_q (right2 v.a l1 W))
              have R13 := Lib.hid (fun W => drew_q (right13 v.a l1 W))
              have R22 := Lib.hid (fun W => drew_q (right22 v.a l1 W))
              have C3 := Lib.hid (fun W => pick_any v.e v.f v.g l5 l6 l7 W)
              have C4 := Lib.hid (fun W => most_any v.a v.b v.c l1 l2 l3 W)
              obtain ⟨s1, es1⟩ : ∃ x, xr v.e [6, 11, 25] = x := ⟨_, rfl⟩
              obtain ⟨s0, es0⟩ : ∃ x, xr v.a [2, 13, 22] = x := ⟨_, rfl⟩
              obtain ⟨ch, ech⟩ : ∃ x, chx v.e v.f v.g = x := ⟨_, rfl⟩
              obtain ⟨mj, emj⟩ : ∃ x, majx v.a v.b v.c = x := ⟨_, rfl⟩
              have HTT := Lib.hid (show tt1 v kk wt = (v.h + s1 + ch + kk + wt) % 4294967296 ∧ tt2 v = (s0 + mj) % 4294967296 from ⟨by unfold tt1; rw [es1, ech], by unfold tt2; rw [es0, emj]⟩)
              rw [es1] at x1 XE
              rw [es0] at x2 XA
              rw [ech] at x3 C3
              rw [emj] at x4 C4
              have q0 : ((t : Nat) : Int) < 64 := by omega
              have HREL := Lib.hid hrel
              have HV := Lib.hid hrv
              obtain ⟨d0, d1, d2, d3, d4, d5, d6, d7⟩ := v8_cells hrv
              have e1 : IntKind.i64.wrap (((v.h : Nat) : Int) + ((s1 : Nat) : Int)) = ((v.h : Nat) : Int) + ((s1 : Nat) : Int) := IntWalk.i64_in _ (by omega)
              have e2 : IntKind.i64.wrap (((v.h : Nat) : Int) + ((s1 : Nat) : Int) + ((ch : Nat) : Int)) = ((v.h : Nat) : Int) + ((s1 : Nat) : Int) + ((ch : Nat) : Int) := IntWalk.i64_in _ (by omega)
              have e3 : IntKind.i64.wrap (((v.h : Nat) : Int) + ((s1 : Nat) : Int) + ((ch : Nat) : Int) + ((kk : Nat) : Int)) = ((v.h : Nat) : Int) + ((s1 : Nat) : Int) + ((ch : Nat) : Int) + ((kk : Nat) : Int) := IntWalk.i64_in _ (by omega)
              have e4 : IntKind.i64.wrap (((v.h : Nat) : Int) + ((s1 : Nat) : Int) + ((ch : Nat) : Int) + ((kk : Nat) : Int) + ((wt : Nat) : Int)) = ((v.h + s1 + ch + kk + wt : Nat) : Int) := (IntWalk.i64_in _ (by omega)).trans (by omega)
              have e5 : IntKind.i64.wrap (((s0 : Nat) : Int) + ((mj : Nat) : Int)) = ((s0 + mj : Nat) : Int) := (IntWalk.i64_in _ (by omega)).trans (by omega)
              obtain ⟨T1, hT1⟩ : ∃ x, v.h + s1 + ch + kk + wt = x := ⟨_, rfl⟩
              obtain ⟨T2, hT2⟩ : ∃ x, s0 + mj = x := ⟨_, rfl⟩
              rw [hT1] at e4 HTT
              rw [hT2] at e5 HTT
              have b1 : T1 < 21474836480 := by omega
              have b2 : T2 < 8589934592 := by omega
              have e6 : IntKind.i64.wrap (((T1 : Nat) : Int) + ((T2 : Nat) : Int)) = ((T1 : Nat) : Int) + ((T2 : Nat) : Int) := IntWalk.i64_in _ (by omega)
              have e7 : IntKind.i64.wrap (((v.d : Nat) : Int) + ((T1 : Nat) : Int)) = ((v.d : Nat) : Int) + ((T1 : Nat) : Int) := IntWalk.i64_in _ (by omega)
              obtain ⟨qa, hqa⟩ : ∃ x, (T1 + T2) % 4294967296 = x := ⟨_, rfl⟩
              obtain ⟨qe, hqe⟩ : ∃ x, (v.d + T1) % 4294967296 = x := ⟨_, rfl⟩
              have e8 : (((T1 : Nat) : Int) + ((T2 : Nat) : Int)) % 4294967296 = ((qa : Nat) : Int) := by omega
              have e9 : (((v.d : Nat) : Int) + ((T1 : Nat) : Int)) % 4294967296 = ((qe : Nat) : Int) := by omega
              have HNX := Lib.hid (show [qa, v.a, v.b, v.c, qe, v.e, v.f, v.g] = (rnds (sch zs 64) (V8.of hl) (t + 1)).list by
                rw [← HVN.out]
                show _ = [(tt1 v kk wt + tt2 v) % 4294967296, v.a, v.b, v.c, (v.d + tt1 v kk wt) % 4294967296, v.e, v.f, v.g]
                rw [HTT.out.1, HTT.out.2, show (T1 % 4294967296 + T2 % 4294967296) % 4294967296 = qa by omega, show (v.d + T1 % 4294967296) % 4294967296 = qe by omega])
              clear hv hrv hrel ewt ekk es1 es0 ech emj hgi hT1 hT2 hqa hqe HVN HTT
              go_upto_region 20 with fail
              go_quiet (first
                | (go_at_call 40; with_reducible exact Calls.quiet_of (R6.out _))
                | (go_at_call 40; with_reducible exact Calls.quiet_of (R11.out _))
                | (go_at_call 40; with_reducible exact Calls.quiet_of (R25.out _)))
              rw [XE.out]
              have HR1 := Lib.hid (HREL.out.drewN nq)
              have HV1 := Lib.hid (show rowN (wr.drewN nq) gv = some (arr .i64 v.list) from HV.out)
              have hkt1 : (wr.drewN nq).cell? ⟨gb, of2 + t, none⟩ = some (.int .i64 (kk : Nat)) := hkt
              have hg1 : (wr.drewN nq).cell? ⟨0, 0, none⟩ = some (.slice (some ⟨gb, of2, none⟩) 64 c2) := hg0
              have hw1 : (wr.drewN nq).cell? ⟨w.heap.size + 1 + 1, t, none⟩ = some (.int .i64 (wt : Nat)) := hwt
              clear HREL HV hkt hg0 hwt d0 d1 d2 d3 d4 d5 d6 d7 hgl
              generalize wr.drewN nq = V1 at *
              obtain ⟨d0, d1, d2, d3, d4, d5, d6, d7⟩ := v8_cells HV1.out
              go_upto_region 21 with fail
              go_quiet (first
                | (go_at_call 40; with_reducible exact Calls.quiet_of (R2.out _))
                | (go_at_call 40; with_reducible exact Calls.quiet_of (R13.out _))
                | (go_at_call 40; with_reducible exact Calls.quiet_of (R22.out _)))
              rw [XA.out]
              have HR2 := Lib.hid (HR1.out.drewN nq)
              have HV2 := Lib.hid (show rowN (V1.drewN nq) gv = some (arr .i64 v.list) from HV1.out)
              have hkt2 : (V1.drewN nq).cell? ⟨gb, of2 + t, none⟩ = some (.int .i64 (kk : Nat)) := hkt1
              have hg2 : (V1.drewN nq).cell? ⟨0, 0, none⟩ = some (.slice (some ⟨gb, of2, none⟩) 64 c2) := hg1
              have hw2 : (V1.drewN nq).cell? ⟨w.heap.size + 1 + 1, t, none⟩ = some (.int .i64 (wt : Nat)) := hw1
              clear HR1 HV1 hkt1 hg1 hw1 d0 d1 d2 d3 d4 d5 d6 d7
              generalize V1.drewN nq = V2 at *
              obtain ⟨d0, d1, d2, d3, d4, d5, d6, d7⟩ := v8_cells HV2.out
              go_upto_region 22 with fail
              go_quiet ((go_at_call 41; with_reducible exact Calls.quiet_of_same ((C3.out _).mono (fun _ _ h => ⟨h.1, h.2.symm⟩))))
              have HR3 := Lib.hid (HR2.out.drewN nq)
              have HV3 := Lib.hid (show rowN (V2.drewN nq) gv = some (arr .i64 v.list) from HV2.out)
              clear HR2 HV2 hkt2 hg2 hw2 d0 d1 d2 d3 d4 d5 d6 d7
              generalize V2.drewN nq = V3 at *
              obtain ⟨d0, d1, d2, d3, d4, d5, d6, d7⟩ := v8_cells HV3.out
              have sv : (arr .i64 v.list).size = 8 := by rw [arr_size]; rfl
              have hv3 := HV3.out
              have sl8 : ([qa, v.a, v.b, v.c, qe, v.e, v.f, v.g] : List Nat).length = 8 := rfl
              go_wp2_with fail
              refine (C4.out _).mono ?_
              rintro e w5 ⟨rfl, rfl⟩
              go_wp2_with fail
              refine ⟨⟨t + 1, by omega, by go_num, ?_, HR3.out.setRow HGV.out _⟩, by simp [intOf]; omega⟩
              rw [← HNX.out]
              exact row_new HV3.out
            · obtain rfl : t = 64 := by omega
              rw [show ((64 : Nat) : Int) = 64 from rfl]
              have HREF := Lib.hid (show plusL hl (rnds (sch zs 64) (V8.of hl) 64).list = refL hl zs from rfl)
              have HSL := Lib.hid (show (rnds (sch zs 64) (V8.of hl) 64).list.length = 8 from rfl)
              have HSW := Lib.hid (list_w32 (rnds_lt (ws := sch zs 64) (of_lt HW.out) 64))
              obtain ⟨S, hS⟩ : ∃ S, (rnds (sch zs 64) (V8.of hl) 64).list = S := ⟨_, rfl⟩
              rw [hS] at hrv HREF HSL HSW
              have HREL := Lib.hid hrel
              have HV := Lib.hid hrv
              clear hS hrv hrel hlt
              go_wp2_with fail
              go_loopw [19] (fun i wr => ∃ k : Nat, k ≤ 8 ∧ i = .int .i64 (k : Nat) ∧ rowN wr gv = some (arr .i64 S) ∧ KRel (mixL hl S k) (sch zs 64) w wr) (fun i _ => 8 - (intOf i).toNat)
              case atStart => exact ⟨0, by omega, rfl, HV.out, HREL.out⟩
              case round =>
                clear HV HREL
                obtain ⟨k, hk, rfl, hrv, hrel⟩ := hrel
                have HREL := Lib.hid hrel
                have HV := Lib.hid hrv
                by_cases hlt : k < 8
                · have d0 := cell_arr hrv (show k < S.length by rw [HSL.out]; exact hlt)
                  have d1 := cell_arr hrel.2.1 (show k < (mixL hl S k).length by rw [mixL_len HH.out HSL.out (by omega)]; exact hlt)
                  rw [mixL_get HH.out HSL.out hlt] at d1
                  have l0 := HSW.out.get k
                  have l1 := HW.out.get k
                  obtain ⟨z, hz⟩ : ∃ z, (hl.getD k 0 + S.getD k 0) % 4294967296 = z := ⟨_, rfl⟩
                  have HSET := Lib.hid (mixL_set HH.out HSL.out hlt hz)
                  obtain ⟨x, hx⟩ : ∃ x, hl.getD k 0 = x := ⟨_, rfl⟩
                  obtain ⟨y, hy⟩ : ∃ y, S.getD k 0 = y := ⟨_, rfl⟩
                  rw [hx] at d1 l1 hz
                  rw [hy] at d0 l0 hz
                  have q0 : ((k : Nat) : Int) < 8 := by omega
                  have e1 : IntKind.i64.wrap (((x : Nat) : Int) + ((y : Nat) : Int)) = ((x : Nat) : Int) + ((y : Nat) : Int) := IntWalk.i64_in _ (by omega)
                  have e2 : (((x : Nat) : Int) + ((y : Nat) : Int)) % 4294967296 = ((z : Nat) : Int) := by omega
                  clear hx hy hz hrv hrel
                  go_upto_region 28 with fail
                  refine wp_region_still_tail 10 (by kernel_rfl) (by kernel_rfl) ?_
                  simp only [List.take_succ_cons, List.take_zero, List.drop_succ_cons, List.drop_zero]
                  repeat still_step
                  refine wpStill_nil ?_
                  change wpList _ _ _ _ _ wr.drew
                  have HRd := Lib.hid (KRel.drew HREL.out)
                  have HVd := Lib.hid (show rowN wr.drew gv = some (arr .i64 S) from HV.out)
                  clear d0 d1 HREL HV
                  generalize wr.drew = V at *
                  have hfV := (rowN_cell HRd.out.2.1).2 k
                  have hcV := cell_arr HRd.out.2.1 (show k < (mixL hl S k).length by rw [mixL_len HH.out HSL.out (by omega)]; exact hlt)
                  go_wp2_with fail
                  refine ⟨⟨k + 1, by omega, by go_num, row_cell0 HVd.out (by have := HGV.out; omega), ?_⟩, by simp [intOf]; omega⟩
                  have h := HRd.out.set0 k z
                  rw [HSET.out] at h
                  exact h
                · obtain rfl : k = 8 := by omega
                  rw [show ((8 : Nat) : Int) = 8 from rfl]
                  rw [mixL_all HH.out HSL.out, HREF.out] at hrel
                  have hr0 := hrel.2.1
                  have hr1 := hrel.2.2.1
                  have HB := Lib.hid hrel.2.2.2
                  have szr : (arr .i64 (refL hl zs)).size = 8 := by rw [arr_size]; exact plusL_len HH.out (list_len _)
                  have szl : (refL hl zs).length = 8 := plusL_len HH.out (list_len _)
                  have sz8 : (arr .i64 zero8).size = 8 := by rw [arr_size]; rfl
                  have HR1 := Lib.hid hr1
                  clear hrel hrv HREL HV
                  go_wp2_with fail
                  exact ret_arr _ _ run_loadVar50 rfl rfl rfl (row_new HR1.out) szr ⟨rfl, below_setRow' HB.out (by omega) _⟩
end Go.Proofs.YtmlacbdonkfbdaaDoor
