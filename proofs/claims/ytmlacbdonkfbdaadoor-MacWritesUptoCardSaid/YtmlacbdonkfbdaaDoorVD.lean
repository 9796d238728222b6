/- Write into a Hash that lies behind 128 cells. -/
import Derived.Test.YtmlacbdonkfbdaaDoorVT
import Derived.Test.YtmlacbdonkfbdaaDoorTD
namespace Go.Proofs.YtmlacbdonkfbdaaDoor
open Go.RowKit Go.Shelf

attribute [local go_sem] Oper.semAt_some
theorem hashB_splice {P : Pre} {st tl l : List Nat} {o : Nat} (hs : st.length = 8) (ht : tl.length = 64) (ho : o + l.length ≤ 64) (n : Nat) :
    ((hashB P st tl n).toList.take (136 + o) ++ (l.map fun x => Value.int .u8 (x : Nat)) ++ (hashB P st tl n).toList.drop (136 + o + (l.map fun x => Value.int .u8 (x : Nat)).length)).toArray = hashB P st (splice tl o l) n := by
  have h := hashA_splice hs ht ho n
  have hp : P.a.toList.length = 128 := by rw [Array.length_toList, P.sz]
  rw [hashB_eq, hashB_eq, ← h]
  apply Array.ext'
  simp only [Array.toList_append]
  generalize P.a.toList = A at *
  generalize (hashA st tl n).toList = X at *
  generalize (l.map fun x => Value.int .u8 (x : Nat)) = Y at *
  rw [List.take_append, List.drop_append, hp, List.take_of_length_le (by omega), List.drop_eq_nil_of_le (by omega), List.nil_append, show 136 + o - 128 = 8 + o by omega, show 136 + o + Y.length - 128 = 8 + o + Y.length by omega, List.append_assoc, List.append_assoc, List.append_assoc]
theorem hashB_setlen {P : Pre} {st tl : List Nat} (hs : st.length = 8) (ht : tl.length = 64) (n m : Nat) : (hashB P st tl n).setIfInBounds 200 (.int .i64 (m : Nat)) = hashB P st tl m := by
  have hp : P.a.toList.length = 128 := by rw [Array.length_toList, P.sz]
  rw [hashB_eq, hashB_eq, ← hashA_setlen hs ht n m]
  apply Array.ext'
  rw [Array.toList_setIfInBounds, Array.toList_append, Array.toList_append, Array.toList_setIfInBounds, List.set_append_right _ _ (by omega), hp]
theorem row_setlenI {P : Pre} {W : World} {g n : Nat} {st tl : List Nat} (hs : st.length = 8) (ht : tl.length = 64) (h : rowN W g = some (hashB P st tl n)) (m : Nat) : rowN (W.setCell ⟨g, 200, none⟩ (.int .i64 (m : Nat))) g = some (hashB P st tl m) := by
  rw [rowN_setCell, if_pos rfl, h]
  simp [hashB_setlen hs ht]
theorem copy_tailI {P : Pre} {W : World} {g o c n m : Nat} {st tl bs : List Nat} {s : Value} (hs : st.length = 8) (ht : tl.length = 64) (ho : o ≤ 64) (hr : rowN W g = some (hashB P st tl n)) (hB : BytesAt bs s W) (hm : m = min bs.length (64 - o)) :
    (Builtin.copy_ #[22, 22] 3 #[.slice (some ⟨g, 136 + o, none⟩) (64 - o) c, s]).run Tryd.prog W = .ok (.int .i64 (m : Nat)) (W.setRow g (hashB P st (splice tl o (bs.take m)) n)) := by
  obtain ⟨h256, a, c2, rfl, hcc, h2⟩ := hB
  have hi : (Tryd.prog.info? 5).map (·.size) = some 1 := by kernel_rfl
  have hlm : (bs.take m).length = m := by rw [List.length_take]; omega
  by_cases h0 : m = 0
  · have hn : Nat.min bs.length (64 - o) = 0 := by rw [hm] at h0; exact h0
    rw [run_copy_none (P := Tryd.prog) W 22 22 3 5 _ a (64 - o) c bs.length c2 Tryd.underlying22 hi hn, h0, List.take_zero]
    have : splice tl o [] = tl := by unfold splice; simp
    rw [this, setRow_row hr]; rfl
  · rcases h2 with h2 | ⟨b, off, rfl, _, hj⟩
    · omega
    · obtain ⟨t, hg⟩ := rowN_some hr
      have := run_copy_row Tryd.prog W 22 22 3 5 g (136 + o) (64 - o) c ⟨b, off, none⟩ bs.length c2 (hashB P st tl n) t ((bs.take m).map fun x => Value.int .u8 (x : Nat)) Tryd.underlying22 hi hg
        (by rw [List.length_map, hlm, hm]) (fun j v hv => by
          have hjl := (List.getElem?_eq_some_iff.1 hv).1
          rw [List.length_map, hlm] at hjl
          rw [List.getElem?_map] at hv
          have e : (⟨b, off, none⟩ : Addr).add j = ⟨b, off + j, none⟩ := by simp [Addr.add]
          rw [e, hj j (by omega), ← hv, List.getElem?_take, if_pos hjl, List.getD]
          rw [List.getElem?_eq_getElem (show j < bs.length by omega)]; first | done | rfl)
        (by rw [List.length_map, hlm, hashB_size hs ht]; omega) (fun v hv => by obtain ⟨x, _, rfl⟩ := List.mem_map.1 hv; rfl)
      rw [this, hashB_splice hs ht (by rw [hlm]; omega), List.length_map, hlm]; rfl
theorem run_slice36_lI (g k : Nat) (hk : k < 64) (W : World) : (Instr.sliceAt 47 (.pointer (some ⟨g, 136, none⟩)) (some (.int .i64 (k : Nat))) none none).run Tryd.prog W = .ok (.slice (some ⟨g, 136 + k, none⟩) (64 - k) (64 - k)) W := by
  obtain ⟨h1, h2, h3⟩ := arr36
  rw [run_sliceAt_array_l W 47 _ h3 _ _ (by omega) (by rw [h1]; omega), h2, h1, Tryd.sizeOf5]
  have : ¬ 64 = k := by omega
  simp [slicedAt, Addr.add, this]
theorem run_slice36_allI (g : Nat) (W : World) : (Instr.sliceAt 47 (.pointer (some ⟨g, 136, none⟩)) none none none).run Tryd.prog W = .ok (.slice (some ⟨g, 136, none⟩) 64 64) W := by
  obtain ⟨h1, h2, h3⟩ := arr36
  rw [run_sliceAt_array_all W 47 _ h3, h2, h1, Tryd.sizeOf5]
  simp [slicedAt, Addr.add]

set_option maxRecDepth 100000 in
set_option maxHeartbeats 1000000 in
theorem write_shortI (P : Pre) (g : Nat) (zs st tl bs : List Nat) (s : Value) (hI : HI zs st tl) (hL : zs.length + bs.length ≤ 140737488355328) (hs : zs.length % 64 + bs.length < 64) (w : World) (hr : rowN w g = some (hashB P st tl zs.length)) (hB : BytesAt bs s w) :
    Calls Tryd.prog 27 #[.pointer (some ⟨g, 128, none⟩), s] w fun e w' => e = .returned (.int .i64 0) ∧ rowN w' g = some (hashB P st (splice tl (zs.length % 64) bs) (zs.length + bs.length)) ∧ w.grownBy w' (some g) := by
  have hst : st.length = 8 := by rw [hI.st]; exact absB_len rfl _ _
  have htl := hI.len
  have hbA : Below w.heap.size w (w.alloc (.cells #[.pointer (some ⟨g, 128, none⟩)] 64)) := (Below.refl _ w).alloc (Nat.le_refl _) _
  have hr1 := keptW hbA hr
  have hgw := rowN_lt hr
  obtain ⟨n, hn⟩ : ∃ n, zs.length = n := ⟨_, rfl⟩
  rw [hn] at hL hs hr1 ⊢
  obtain ⟨q, hq⟩ : ∃ q, n % 64 = q := ⟨_, rfl⟩
  have HWAIT := Lib.hid (fun W (h : rowN W g = some (hashB P st tl n)) => waiting_in P g n st tl hst htl W h)
  rw [hq] at hs HWAIT ⊢
  have hcp := copy_tailI (c := 64 - q) (m := bs.length) hst htl (show q ≤ 64 by omega) hr1 (hB.kept hbA) (by omega)
  rw [List.take_of_length_le (Nat.le_refl _)] at hcp
  have hsp : (splice tl q bs).length = 64 := by rw [splice_len (by omega)]; exact htl
  have hs36 := fun W => run_slice36_lI g q (by omega) W
  obtain ⟨tl1, htl1⟩ : ∃ t, splice tl q bs = t := ⟨_, rfl⟩
  rw [htl1] at hcp hsp ⊢
  obtain ⟨L, hlL⟩ : ∃ L, bs.length = L := ⟨_, rfl⟩
  rw [hlL] at hcp hL hs ⊢
  obtain ⟨a, c, rfl⟩ : ∃ a c, s = .slice a L c := by obtain ⟨_, a, c, e, _⟩ := hB; exact ⟨a, c, by rw [e, hlL]⟩
  obtain ⟨W1, hW1⟩ : ∃ W1, w.alloc (.cells #[.pointer (some ⟨g, 128, none⟩)] 64) = W1 := ⟨_, rfl⟩
  rw [hW1] at hcp hr1 hbA
  have hp0 : W1.cell? ⟨w.heap.size, 0, none⟩ = some (.pointer (some ⟨g, 128, none⟩)) := by rw [← hW1]; exact (rowN_cell (cs := #[.pointer (some ⟨g, 128, none⟩)]) (by rw [rowN_alloc, if_pos rfl])).1 0
  have hgn := row_new (ds := hashB P st tl1 n) hr1
  have hc72 := ((rowN_cell hgn).1 200).trans (hashB_len hst hsp n)
  have hf72 := (rowN_cell hgn).2 200
  have hp1 : (W1.setRow g (hashB P st tl1 n)).cell? ⟨w.heap.size, 0, none⟩ = some (.pointer (some ⟨g, 128, none⟩)) := (World.cell?_of_block (w := W1) (a := ⟨w.heap.size, 0, none⟩) (setRow_other _ _ _ _ (by show w.heap.size ≠ g; omega))).trans hp0
  have e1 : IntKind.i64.wrap (((n : Nat) : Int) + ((L : Nat) : Int)) = ((n + L : Nat) : Int) := (IntWalk.i64_in _ (by omega)).trans (by omega)
  have q1 : ((q : Nat) : Int) + ((L : Nat) : Int) < 64 := by omega
  have HR1 := Lib.hid hr1
  have HB1 := Lib.hid hbA
  have HGN := Lib.hid hgn
  have HT1 := Lib.hid hsp
  have HST := Lib.hid hst
  clear hI hB hr hn hq htl1 hlL hr1 hbA hgn hst htl hsp
  go_enter Tryd.func27, Tryd.ntmps27
  go_upto_region 1 with fail
  try rw [hW1]
  go_wp2_with fail
  refine (HWAIT.out _ HR1.out).mono ?_
  rintro e w2 ⟨rfl, rfl⟩
  go_wp2_with fail
  go_ret
  refine ⟨rfl, ?_, grownBy_trans (grownBy_trans (gb_of_below HB1.out _) (setRow_grown _ _ _)) (setCell_grown _ ⟨g, 200, none⟩ _)⟩
  exact row_setlenI HST.out HT1.out HGN.out (n + L)

def WrJ (P : Pre) (g gB n : Nat) (st1 tl1 b2 : List Nat) (w : World) (k : Nat) (V : World) : Prop :=
  (rowN V g = some (hashB P (absB st1 k b2) tl1 n) ∧ rowN V gB = some #[.pointer (some ⟨g, 128, none⟩)]) ∧ w.grownBy V (some g)
theorem wrJ_own (P : Pre) (g gB n : Nat) (st1 tl1 b2 : List Nat) (w : World) {B : Nat} (hB : w.heap.size ≤ B) : OwnFrom B (WrJ P g gB n st1 tl1 b2 w) := by
  rintro k X Y row ⟨⟨h, h'⟩, hb⟩ hg hr
  have hr' := fun r e => (hr r e).2
  exact ⟨⟨row_grown hg hr' h, row_grown hg hr' h'⟩, grown_ext hb hg (fun r e => .inl (Nat.le_trans hB (hr r e).1))⟩
set_option maxRecDepth 100000 in
set_option maxHeartbeats 2000000 in
theorem write_longI (P : Pre) (g : Nat) (zs st tl bs : List Nat) (s : Value) (hI : HI zs st tl) (hL : zs.length + bs.length ≤ 140737488355328) (hs : 64 ≤ zs.length % 64 + bs.length) (w : World) (hK : KG w) (hg1 : g ≠ 1) (hr : rowN w g = some (hashB P st tl zs.length)) (hB : BytesAt bs s w) (hap : ∀ j, 64 - zs.length % 64 < bs.length → InS s j → j ≠ g) :
    Calls Tryd.prog 27 #[.pointer (some ⟨g, 128, none⟩), s] w fun e w' => e = .returned (.int .i64 0) ∧ ∃ st' tl', HI (zs ++ bs) st' tl' ∧ rowN w' g = some (hashB P st' tl' (zs.length + bs.length)) ∧ w.grownBy w' (some g) := by
  have hst : st.length = 8 := by rw [hI.st]; exact absB_len rfl _ _
  have hw32 : W32 st := by rw [hI.st]; exact absB_w32 zero8_w32 _ _
  have htl := hI.len
  have hbA : Below w.heap.size w (w.alloc (.cells #[.pointer (some ⟨g, 128, none⟩)] 64)) := (Below.refl _ w).alloc (Nat.le_refl _) _
  have hr1 := keptW hbA hr
  have hgw := rowN_lt hr
  have HFIN := Lib.hid (fun tl1 b2 h1 h2 => hI.long (tl1 := tl1) (b2 := b2) hs hB.1 h1 h2)
  have HT256 := Lib.hid hI.b256
  have HB256 := Lib.hid hB.1
  obtain ⟨n, hn⟩ : ∃ n, zs.length = n := ⟨_, rfl⟩
  rw [hn] at hL hs hr1 HFIN ⊢
  obtain ⟨q, hq⟩ : ∃ q, n % 64 = q := ⟨_, rfl⟩
  have HWAIT := Lib.hid (fun W (h : rowN W g = some (hashB P st tl n)) => waiting_in P g n st tl hst htl W h)
  rw [hq] at hs HWAIT HFIN
  have hq64 : q < 64 := by omega
  obtain ⟨m, hm⟩ : ∃ m, 64 - q = m := ⟨_, rfl⟩
  have hcp := copy_tailI (c := 64 - q) (m := m) hst htl (show q ≤ 64 by omega) hr1 (hB.kept hbA) (by omega)
  rw [hm] at HFIN
  have hlm : (bs.take m).length = m := by rw [List.length_take]; omega
  have hsp : (splice tl q (bs.take m)).length = 64 := by rw [splice_len (by omega)]; exact htl
  have HS256 := Lib.hid (splice_256 (o := q) HT256.out (fun x hx => HB256.out x (List.mem_of_mem_take (i := m) hx)))
  have hs36 := fun W => run_slice36_lI g q (by omega) W
  have hs36b := fun W => run_slice36_allI g W
  obtain ⟨tl1, htl1⟩ : ∃ t, splice tl q (bs.take m) = t := ⟨_, rfl⟩
  have HFIN2 := Lib.hid (HFIN.out tl1 (bs.drop m) htl1.symm rfl)
  rw [htl1] at hcp hsp HS256
  obtain ⟨L, hlL⟩ : ∃ L, bs.length = L := ⟨_, rfl⟩
  have HLL := Lib.hid hlL
  rw [hlL] at hL hs
  obtain ⟨b, off, c, rfl, hLc⟩ : ∃ b off c, s = .slice (some ⟨b, off, none⟩) L c ∧ L ≤ c := by
    obtain ⟨_, a, c, e, hc, h2⟩ := hB
    rcases h2 with h2 | ⟨b, off, ea, _⟩
    · omega
    · exact ⟨b, off, c, by rw [e, hlL, ea], by omega⟩
  have hsl22 := fun W => run_slice22_l b off L c m (by omega) hLc W
  have HBD := Lib.hid (show BytesAt (bs.drop m) (.slice (some ⟨b, if c = m then off else off + m, none⟩) (L - m) (c - m)) w by rw [← hlL] at hB ⊢; exact bytes_drop hB m (by omega))
  obtain ⟨of2, hof2⟩ : ∃ x, (if c = m then off else off + m) = x := ⟨_, rfl⟩
  rw [hof2] at hsl22 HBD
  have HBG := Lib.hid (show m < L → b ≠ g from fun hml => hap b (by omega) ⟨off, none, _, _, rfl⟩)
  obtain ⟨W1, hW1⟩ : ∃ W1, w.alloc (.cells #[.pointer (some ⟨g, 128, none⟩)] 64) = W1 := ⟨_, rfl⟩
  rw [hW1] at hcp hr1 hbA
  have hp0 : W1.cell? ⟨w.heap.size, 0, none⟩ = some (.pointer (some ⟨g, 128, none⟩)) := by rw [← hW1]; exact (rowN_cell (cs := #[.pointer (some ⟨g, 128, none⟩)]) (by rw [rowN_alloc, if_pos rfl])).1 0
  have hpr : rowN W1 w.heap.size = some #[.pointer (some ⟨g, 128, none⟩)] := by rw [← hW1, rowN_alloc, if_pos rfl]
  have hgn := row_new (ds := hashB P st tl1 n) hr1
  have hc72 := ((rowN_cell hgn).1 200).trans (hashB_len hst hsp n)
  have hf72 := (rowN_cell hgn).2 200
  have hp1 : (W1.setRow g (hashB P st tl1 n)).cell? ⟨w.heap.size, 0, none⟩ = some (.pointer (some ⟨g, 128, none⟩)) := (World.cell?_of_block (w := W1) (a := ⟨w.heap.size, 0, none⟩) (setRow_other _ _ _ _ (by show w.heap.size ≠ g; omega))).trans hp0
  have e1 : IntKind.i64.wrap (((n : Nat) : Int) + ((L : Nat) : Int)) = ((n : Nat) : Int) + ((L : Nat) : Int) := IntWalk.i64_in _ (by omega)
  have e2 : ((q : Nat) : Int) + ((m : Nat) : Int) = 64 := by omega
  have HR1 := Lib.hid hr1
  have HPR := Lib.hid hpr
  have HB1 := Lib.hid hbA
  have HGN := Lib.hid hgn
  have HT1 := Lib.hid hsp
  have HST := Lib.hid hst
  have HW := Lib.hid hw32
  have HK := Lib.hid hK
  have HML := Lib.hid (show m ≤ L by omega)
  have HNL := Lib.hid hL
  clear hI hB hr hn htl1 hlL hr1 hbA hgn hst htl hsp hw32 hK hap hof2 hpr hm hq hlm
  refine (callsIn_wide (n := 6)).1 ?_
  refine callsIn_of_wp_marks Tryd.func27 rfl trivial ?_ rfl
  simp only [Tryd.ntmps27, List.size_toArray, List.length_cons, List.length_nil, Nat.reduceAdd, Nat.reduceSub, Array.replicate_succ, Array.replicate_zero, List.push_toArray, List.append_toArray, List.nil_append, List.cons_append]
  refine wpIn_wide.2 ?_
  go_upto_region 1 with fail
  try rw [hW1]
  go_wp2_with fail
  refine (HWAIT.out _ HR1.out).mono ?_
  rintro e w2 ⟨rfl, rfl⟩
  go_upto_region 8 with fail
  obtain ⟨V, hV⟩ : ∃ V, (W1.setRow g (hashB P st tl1 n)).setCell ⟨g, 200, none⟩ (.int .i64 (((n : Nat) : Int) + ((L : Nat) : Int))) = V := ⟨_, rfl⟩
  have hgV : rowN V.drew g = some (hashB P st tl1 (n + L)) := by rw [← hV]; exact row_setlenI HST.out HT1.out HGN.out (n + L)
  have hpV : rowN V w.heap.size = some #[.pointer (some ⟨g, 128, none⟩)] := by rw [← hV]; exact row_cell0 (row_other HPR.out (by omega)) (by omega)
  have hwV : w.grownBy V.drew (some g) := by rw [← hV]; exact grown_drew (grownBy_trans (grownBy_trans (gb_of_below HB1.out _) (setRow_grown _ _ _)) (setCell_grown _ ⟨g, 200, none⟩ _))
  rw [hV]
  have hp2 := (rowN_cell hpV).1 0
  have HGV := Lib.hid hgV
  have HPV := Lib.hid (show rowN V.drew w.heap.size = some #[.pointer (some ⟨g, 128, none⟩)] from hpV)
  have HWV := Lib.hid hwV
  have HAB := Lib.hid (absorb_in P st tl1 (arr .u8 tl1 ++ #[.int .i64 ((n + L : Nat) : Int)]) g g 136 64 HST.out HW.out HT1.out HS256.out V.drew (HK.out.grown hwV (fun e => hg1 (Option.some.inj e))) (by rw [hgV]; rfl) (rowN_lt hgV) (fun j hj => ((rowN_cell hgV).1 (136 + j)).trans (hashB_tail HST.out HT1.out _ hj)))
  clear hp0 hp1 hc72 hf72 hcp hV HR1 HGN HPR HB1 hgV hpV hwV hW1
  refine wp_region_still_tail 7 (by kernel_rfl) (by kernel_rfl) ?_
  simp only [List.take_succ_cons, List.take_zero, List.drop_succ_cons, List.drop_zero]
  repeat still_step
  refine wpStill_nil ?_
  change wpList _ _ _ _ _ V.drew
  clear hp2
  generalize V.drew = V1 at *
  go_wp2_with fail
  refine HAB.out.mono ?_
  rintro e w3 ⟨rfl, hr3, hg3⟩
  have hgw3 := rowN_lt hr3
  have HR3 := Lib.hid (show rowN w3 g = some (hashB P (absL st tl1) tl1 (n + L)) from hr3)
  have hgW3 := grownBy_trans HWV.out hg3
  have HG3 := Lib.hid hgW3
  have HP3 := Lib.hid (show rowN w3 w.heap.size = some #[.pointer (some ⟨g, 128, none⟩)] by
    rw [grownBy_rowN hg3 (rowN_lt HPV.out) (fun e => by have := Option.some.inj e; omega)]; exact HPV.out)
  have hws := hgW3.size
  clear hr3 hg3 HAB HGV HPV HWV hgW3
  go_wp2_with fail
  refine (whole_any _ _ _ _).mono ?_
  rintro e w4 ⟨rfl, rfl⟩
  have HS8 := Lib.hid (show (absL st tl1).length = 8 from absL_len HST.out)
  have HSW := Lib.hid (absL_w32 st tl1)
  obtain ⟨st1, hst1⟩ : ∃ x, absL st tl1 = x := ⟨_, rfl⟩
  obtain ⟨b2, hb2⟩ : ∃ x, bs.drop m = x := ⟨_, rfl⟩
  have HB2L := Lib.hid (show b2.length = L - m by rw [← hb2, List.length_drop, HLL.out])
  rw [hst1] at HR3 HS8 HSW HFIN2
  rw [hb2] at HBD HFIN2
  have HCL := Lib.hid (show L - m ≤ c - m by omega)
  obtain ⟨U, hU⟩ : ∃ U, w3.alloc (.cells #[.slice (some ⟨b, of2, none⟩) (L - m) (c - m)] 22) = U := ⟨_, rfl⟩
  have hbU : Below w3.heap.size w3 U := by rw [← hU]; exact (Below.refl _ _).alloc (Nat.le_refl _) _
  have hrU : rowN U w3.heap.size = some #[.slice (some ⟨b, of2, none⟩) (L - m) (c - m)] := by rw [← hU, rowN_alloc, if_pos rfl]
  have HI0 := Lib.hid (show WrJ P g w.heap.size (n + L) st1 tl1 b2 w 0 U from ⟨⟨keptW hbU HR3.out, keptW hbU HP3.out⟩, grownBy_trans HG3.out (gb_of_below hbU _)⟩)
  have HY0 := Lib.hid (whole1_yields (6 - 1) w3.heap.size b of2 (L - m) (c - m) ((L - m) / 64) rfl HCL.out U hrU)
  rw [hU]
  have hUs : w3.heap.size < U.heap.size := rowN_lt hrU
  clear hU hbU hrU hst1 hb2 HR3 HP3 HG3
  go_wp2_with fail
  refine (wpIn_wide (n := 6)).1 ?_
  refine range_yields (by omega) (gf := 49) (lb := #[.pointer (some ⟨w3.heap.size, 0, none⟩)]) rfl (enters_of Tryd.func49 (by kernel_rfl) rfl) HY0.out
    (fun j => j = g) (fun j e => by subst e; exact ⟨by omega, fun h => h⟩) (fun j h => h.elim) (fun k v V l o o' h hl ho => h) (Below.refl _ _)
    (WrJ P g w.heap.size (n + L) st1 tl1 b2 w) (fun _ _ _ => False) (wrJ_own _ _ _ _ _ _ _ w (by omega)) (fun _ _ _ _ _ hs _ _ => hs) HI0.out ?a1 ?assign ?body ?done ?stop
  case assign =>
    intro l2 v V k hk
    gi_wp2
    exact hk
  case body =>
    rintro l2 k v V hk ⟨⟨hr, hpr⟩, hgw⟩ rfl
    have hbv := HBD.out.grown hgw (fun j h0 hj e => by obtain ⟨_, _, _, _, e2⟩ := hj; cases e2; exact HBG.out (by rw [HB2L.out] at h0; omega) e)
    rw [← HB2L.out] at hbv
    have hbk := BytesAt.blk hbv (k := k) (by rw [HB2L.out]; omega)
    have hl64 := pad_blk b2 (k := k) (by rw [HB2L.out]; exact hk)
    obtain ⟨b', off', c', ee, hbl, hc⟩ := blk_slice hbk hl64
    cases ee
    have HAB := Lib.hid (absorb_in P (absB st1 k b2) ((b2.drop (64 * k)).take 64) (arr .u8 tl1 ++ #[.int .i64 ((n + L : Nat) : Int)]) g b (of2 + 64 * k) 64 (absB_len HS8.out b2 k) (absB_w32 HSW.out b2 k) hl64 hbk.1 V (HK.out.grown hgw (fun e => hg1 (Option.some.inj e))) (show rowN V g = some (stB P (absB st1 k b2) (arr .u8 tl1 ++ #[.int .i64 ((n + L : Nat) : Int)])) from hr) hbl hc)
    rw [← absB_snoc] at HAB
    have hp := (rowN_cell hpr).1 0
    have HPR := Lib.hid hpr
    have HGW := Lib.hid hgw
    unfold wblk
    clear hr hpr hgw hbv hbk hl64 hbl hc
    gi_wp2_with fail
    refine ⟨trivial, ?_⟩
    refine (CallsIn.inRound l2 (callsIn_wide.2 HAB.out)).mono ?_
    rintro e W3 ⟨rfl, hr3, hg3⟩
    have hKP : Keeps (fun j => j = g ∨ False) V W3 := Keeps.of_grownBy hg3 (fun r e => by cases e; exact .inl rfl)
    have HE := Lib.hid (show RoundEnds U.heap.size (Keeps fun j => j = g ∨ False) (WrJ P g w.heap.size (n + L) st1 tl1 b2 w (k + 1)) (fun _ _ => False) V .normal W3 from
      ⟨hKP.from (fun j hj h => by rcases h with h | h; omega; exact h), hKP, .inl ⟨rfl, ⟨⟨hr3, hKP.row HPR.out (fun h => by rcases h with h | h; omega; exact h)⟩, grownBy_trans HGW.out hg3⟩⟩⟩)
    clear hKP hr3 hg3 hp
    gi_wp2_with fail
    exact HE.out
  case done =>
    rintro D V hD ⟨⟨hr, hpr⟩, hgw⟩ hKd
    have hbv := HBD.out.grown hgw (fun j h0 hj e => by obtain ⟨_, _, _, _, e2⟩ := hj; cases e2; exact HBG.out (by rw [HB2L.out] at h0; omega) e)
    rw [← HB2L.out] at hbv
    have HRS := Lib.hid (fun W => rest_some b of2 (L - m) (c - m) HCL.out (by have := HNL.out; omega) W)
    have hbs : BytesAt (b2.drop (b2.length / 64 * 64)) (.slice (some ⟨b, if c - m = (L - m) / 64 * 64 then of2 else of2 + (L - m) / 64 * 64, none⟩) (L - m - (L - m) / 64 * 64) (c - m - (L - m) / 64 * 64)) V.drew := by
      have h := bytes_drop (W := V.drew) hbv (b2.length / 64 * 64) (by omega)
      rw [HB2L.out] at h ⊢
      exact h
    obtain ⟨s3, hs3⟩ : ∃ s3, Value.slice (some ⟨b, if c - m = (L - m) / 64 * 64 then of2 else of2 + (L - m) / 64 * 64, none⟩) (L - m - (L - m) / 64 * 64) (c - m - (L - m) / 64 * 64) = s3 := ⟨_, rfl⟩
    rw [hs3] at HRS hbs
    clear hs3
    rw [← HB2L.out] at hr
    have hp := (rowN_cell hpr).1 0
    have HR := Lib.hid (show rowN V.drew g = some (hashB P (absB st1 (b2.length / 64) b2) tl1 (n + L)) from hr)
    have HGW := Lib.hid (show w.grownBy V.drew (some g) from grown_drew hgw)
    have HKD := Lib.hid (show V.drew.heap[D]? = some (.deferred (some [])) from hKd)
    have HBS := Lib.hid hbs
    clear hr hpr hgw hKd hbv hbs
    go_upto_region 13 with fail
    refine wp_region_still_tail 6 (by kernel_rfl) (by kernel_rfl) ?_
    simp only [List.take_succ_cons, List.take_zero, List.drop_succ_cons, List.drop_zero]
    repeat still_step
    still_call (HRS.out _)
    repeat still_step
    refine wpStill_nil ?_
    change wpList _ _ _ _ _ V.drew
    clear hp
    generalize V.drew = V1 at *
    have hbs := HBS.out
    have hrl : (b2.drop (b2.length / 64 * 64)).length < 64 := by rw [List.length_drop]; omega
    have hcp := copy_tailI (o := 0) (c := 64) (m := (b2.drop (b2.length / 64 * 64)).length) (absB_len HS8.out b2 _) HT1.out (by omega) HR.out hbs (Nat.min_eq_left (Nat.le_of_lt hrl)).symm
    rw [List.take_of_length_le (Nat.le_refl _), Nat.add_zero, Nat.sub_zero] at hcp
    have HROW := Lib.hid (row_new (ds := hashB P (absB st1 (b2.length / 64) b2) (splice tl1 0 (b2.drop (b2.length / 64 * 64))) (n + L)) HR.out)
    have HGR := Lib.hid (grownBy_trans HGW.out (setRow_grown V1 g (hashB P (absB st1 (b2.length / 64) b2) (splice tl1 0 (b2.drop (b2.length / 64 * 64))) (n + L))))
    have hgD : g ≠ D := by omega
    have HKD1 := Lib.hid ((setRow_other V1 g D (hashB P (absB st1 (b2.length / 64) b2) (splice tl1 0 (b2.drop (b2.length / 64 * 64))) (n + L)) (fun e => hgD e.symm)).trans HKD.out)
    obtain ⟨TL, hTL⟩ : ∃ x, splice tl1 0 (b2.drop (b2.length / 64 * 64)) = x := ⟨_, rfl⟩
    obtain ⟨ST, hST⟩ : ∃ x, absB st1 (b2.length / 64) b2 = x := ⟨_, rfl⟩
    obtain ⟨m3, hm3⟩ : ∃ x, (b2.drop (b2.length / 64 * 64)).length = x := ⟨_, rfl⟩
    rw [hTL, hST] at HROW HGR HKD1 HFIN2
    rw [hTL, hST, hm3] at hcp
    clear hbs HBS hrl HRS HR HGW HKD hTL hST hm3
    go_wp2_with fail
    refine ⟨by simp, .inl ⟨_, _, rfl, run_takeDeferred HKD1.out, ?_⟩⟩
    refine ⟨_, results_slot rfl rfl, rfl, ST, TL, HFIN2.out, by rw [rowN_putObj hgD, HLL.out]; exact HROW.out, grown_ext HGR.out (grownBy_putObj' _ _ _) (fun r e => .inl (by cases e; omega))⟩
  case stop =>
    rintro D k c V hD hk hx hK
    exact hx.elim
end Go.Proofs.YtmlacbdonkfbdaaDoor
