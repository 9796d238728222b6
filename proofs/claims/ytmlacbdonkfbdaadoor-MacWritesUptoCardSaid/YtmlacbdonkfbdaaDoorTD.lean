/- Write. -/
import Derived.StillTailTactics
import Derived.Test.YtmlacbdonkfbdaaDoorTC
namespace Go.Proofs.YtmlacbdonkfbdaaDoor
open Go.RowKit Go.Shelf

attribute [local go_sem] Oper.semAt_some

theorem hashA_setlen {st tl : List Nat} (hs : st.length = 8) (ht : tl.length = 64) (n m : Nat) : (hashA st tl n).setIfInBounds 72 (.int .i64 (m : Nat)) = hashA st tl m := by
  apply Array.ext'
  rw [Array.toList_setIfInBounds, hashA_list, hashA_list, List.set_append_right _ _ (by simp [hs, ht])]
  simp [hs, ht]
theorem row_setlen {W : World} {g n : Nat} {st tl : List Nat} (hs : st.length = 8) (ht : tl.length = 64) (h : rowN W g = some (hashA st tl n)) (m : Nat) : rowN (W.setCell ⟨g, 72, none⟩ (.int .i64 (m : Nat))) g = some (hashA st tl m) := by
  rw [rowN_setCell, if_pos rfl, h]
  simp [hashA_setlen hs ht]
theorem setCell_grown (W : World) (p : Addr) (v : Value) : W.grownBy (W.setCell p v) (some p.block) :=
  ⟨rfl, rfl, rfl, by simp, fun i _ hi => Below.heap_setCell _ _ _ i (fun e => hi (by rw [e]))⟩
theorem grown_ext {w V Y : World} {g : Nat} {row : Option Nat} (h : w.grownBy V (some g)) (k : V.grownBy Y row) (hr : ∀ r, row = some r → w.heap.size ≤ r ∨ r = g) : w.grownBy Y (some g) :=
  ⟨k.os.trans h.os, k.tape.trans h.tape, k.output.trans h.output, Nat.le_trans h.size k.size, fun i hi hne => (k.block i (Nat.lt_of_lt_of_le hi h.size) (fun e => by
    rcases hr i e.symm with h' | h'
    · omega
    · exact hne (by rw [h']))).trans (h.block i hi hne)⟩
theorem grown_drew {w V : World} {row : Option Nat} (h : w.grownBy V row) : w.grownBy V.drew row := ⟨h.os, h.tape, h.output, h.size, h.block⟩
theorem BytesAt.grown {zs : List Nat} {s : Value} {w V : World} {g : Nat} (h : BytesAt zs s w) (k : w.grownBy V (some g)) (hap : ∀ j, 0 < zs.length → InS s j → j ≠ g) : BytesAt zs s V :=
  h.keeps (M := fun j => j = g) (Keeps.of_grownBy k (fun r e => by cases e; rfl)) hap
theorem run_slice36_l (g k : Nat) (hk : k < 64) (W : World) : (Instr.sliceAt 47 (.pointer (some ⟨g, 8, none⟩)) (some (.int .i64 (k : Nat))) none none).run Tryd.prog W = .ok (.slice (some ⟨g, 8 + k, none⟩) (64 - k) (64 - k)) W := by
  obtain ⟨h1, h2, h3⟩ := arr36
  rw [run_sliceAt_array_l W 47 _ h3 _ _ (by omega) (by rw [h1]; omega), h2, h1, Tryd.sizeOf5]
  have : ¬ 64 = k := by omega
  simp [slicedAt, Addr.add, this]
theorem run_slice36_all (g : Nat) (W : World) : (Instr.sliceAt 47 (.pointer (some ⟨g, 8, none⟩)) none none none).run Tryd.prog W = .ok (.slice (some ⟨g, 8, none⟩) 64 64) W := by
  obtain ⟨h1, h2, h3⟩ := arr36
  rw [run_sliceAt_array_all W 47 _ h3, h2, h1, Tryd.sizeOf5]
  simp [slicedAt, Addr.add]

set_option maxRecDepth 100000 in
set_option maxHeartbeats 1000000 in
theorem write_short (g : Nat) (zs st tl bs : List Nat) (s : Value) (hI : HI zs st tl) (hL : zs.length + bs.length ≤ 140737488355328) (hs : zs.length % 64 + bs.length < 64) (w : World) (hr : rowN w g = some (hashA st tl zs.length)) (hB : BytesAt bs s w) :
    Calls Tryd.prog 27 #[.pointer (some ⟨g, 0, none⟩), s] w fun e w' => e = .returned (.int .i64 0) ∧ rowN w' g = some (hashA st (splice tl (zs.length % 64) bs) (zs.length + bs.length)) ∧ w.grownBy w' (some g) := by
  have hst : st.length = 8 := by rw [hI.st]; exact absB_len rfl _ _
  have htl := hI.len
  have hbA : Below w.heap.size w (w.alloc (.cells #[.pointer (some ⟨g, 0, none⟩)] 64)) := (Below.refl _ w).alloc (Nat.le_refl _) _
  have hr1 := keptW hbA hr
  have hgw := rowN_lt hr
  obtain ⟨n, hn⟩ : ∃ n, zs.length = n := ⟨_, rfl⟩
  rw [hn] at hL hs hr1 ⊢
  obtain ⟨q, hq⟩ : ∃ q, n % 64 = q := ⟨_, rfl⟩
  have HWAIT := Lib.hid (fun W (h : rowN W g = some (hashA st tl n)) => waiting_any g n st tl hst htl W h)
  rw [hq] at hs HWAIT ⊢
  have hcp := copy_tail (c := 64 - q) (m := bs.length) hst htl (show q ≤ 64 by omega) hr1 (hB.kept hbA) (by omega)
  rw [List.take_of_length_le (Nat.le_refl _)] at hcp
  have hsp : (splice tl q bs).length = 64 := by rw [splice_len (by omega)]; exact htl
  have hs36 := fun W => run_slice36_l g q (by omega) W
  obtain ⟨tl1, htl1⟩ : ∃ t, splice tl q bs = t := ⟨_, rfl⟩
  rw [htl1] at hcp hsp ⊢
  obtain ⟨L, hlL⟩ : ∃ L, bs.length = L := ⟨_, rfl⟩
  rw [hlL] at hcp hL hs ⊢
  obtain ⟨a, c, rfl⟩ : ∃ a c, s = .slice a L c := by obtain ⟨_, a, c, e, _⟩ := hB; exact ⟨a, c, by rw [e, hlL]⟩
  obtain ⟨W1, hW1⟩ : ∃ W1, w.alloc (.cells #[.pointer (some ⟨g, 0, none⟩)] 64) = W1 := ⟨_, rfl⟩
  rw [hW1] at hcp hr1 hbA
  have hp0 : W1.cell? ⟨w.heap.size, 0, none⟩ = some (.pointer (some ⟨g, 0, none⟩)) := by rw [← hW1]; exact (rowN_cell (cs := #[.pointer (some ⟨g, 0, none⟩)]) (by rw [rowN_alloc, if_pos rfl])).1 0
  have hgn := row_new (ds := hashA st tl1 n) hr1
  have hc72 := ((rowN_cell hgn).1 72).trans (hashA_len hst hsp n)
  have hf72 := (rowN_cell hgn).2 72
  have hp1 : (W1.setRow g (hashA st tl1 n)).cell? ⟨w.heap.size, 0, none⟩ = some (.pointer (some ⟨g, 0, none⟩)) := (World.cell?_of_block (w := W1) (a := ⟨w.heap.size, 0, none⟩) (setRow_other _ _ _ _ (by show w.heap.size ≠ g; omega))).trans hp0
  have e1 : IntKind.i64.wrap (((n : Nat) : Int) + ((L : Nat) : Int)) = ((n + L : Nat) : Int) := (IntWalk.i64_in _ (by omega)).trans (by omega)
  have q1 : ((q : Nat) : Int) + ((L : Nat) : Int) < 64 := by omega
  have HR1 := Lib.hid hr1
  have HB1 := Lib.hid hbA
  have HGN := Lib.hid hgn
  have HT1 := Lib.hid hsp
  have HST := Lib.hid hst
  clear hI hB hr hn hq htl1 hlL hr1 hbA hgn hst htl hsp
  go_enter Tryd.func27, Tryd.ntmps27
  go_upto_region 1 with fail
  try rw [hW1]
  go_wp2_with fail
  refine (HWAIT.out _ HR1.out).mono ?_
  rintro e w2 ⟨rfl, rfl⟩
  go_wp2_with fail
  go_ret
  refine ⟨rfl, ?_, grownBy_trans (grownBy_trans (gb_of_below HB1.out _) (setRow_grown _ _ _)) (setCell_grown _ ⟨g, 72, none⟩ _)⟩
  exact row_setlen HST.out HT1.out HGN.out (n + L)

/-- The rest of a string, from place m on. -/
theorem run_slice22_l (b off L c m : Nat) (hm : m ≤ L) (hc : L ≤ c) (W : World) :
    (Instr.sliceAt 22 (.slice (some ⟨b, off, none⟩) L c) (some (.int .i64 (m : Nat))) none none).run Tryd.prog W = .ok (.slice (some ⟨b, if c = m then off else off + m, none⟩) (L - m) (c - m)) W := by
  have e2 : ((m : Nat) : Int).toNat = m := Int.toNat_natCast m
  have e8 : (0 : Int) ≤ (m : Int) := by omega
  have e9 : ((m : Nat) : Int) ≤ (L : Int) := by omega
  have e10 : ((L : Nat) : Int) ≤ (c : Int) := by omega
  by_cases h : c = m
  · subst h
    have : L = c := by omega
    subst this
    simp only [if_true]
    go_simp
  · rw [if_neg h]
    go_simp
theorem bytes_drop {bs : List Nat} {b off c : Nat} {W : World} (h : BytesAt bs (.slice (some ⟨b, off, none⟩) bs.length c) W) (m : Nat) (hm : m ≤ bs.length) : BytesAt (bs.drop m) (.slice (some ⟨b, if c = m then off else off + m, none⟩) (bs.length - m) (c - m)) W := by
  obtain ⟨h1, a, c2, e, hc, h2⟩ := h
  cases e
  refine ⟨fun x hx => h1 x (List.mem_of_mem_drop hx), _, c - m, by rw [List.length_drop], by rw [List.length_drop]; omega, ?_⟩
  rw [List.length_drop]
  rcases h2 with h2 | ⟨b', off', ea, hb, hj⟩
  · exact .inl (by omega)
  · cases ea
    by_cases h : bs.length = m
    · exact .inl (by omega)
    · refine .inr ⟨b, _, rfl, hb, fun j hjl => ?_⟩
      rw [if_neg (by omega), Nat.add_assoc, hj (m + j) (by omega)]
      simp [List.getD, List.getElem?_drop]
set_option maxRecDepth 100000 in
theorem rest_some (b off L c : Nat) (hc : L ≤ c) (hL : L ≤ 9223372036854775807) (w : World) :
    Calls Tryd.prog 38 #[.slice (some ⟨b, off, none⟩) L c] w fun e w' => e = .returned (.slice (some ⟨b, if c = L / 64 * 64 then off else off + L / 64 * 64, none⟩) (L - L / 64 * 64) (c - L / 64 * 64)) ∧ w' = w := by
  have hk : ((L : Nat) : Int) - ((L : Nat) : Int) % 64 = ((L / 64 * 64 : Nat) : Int) := by omega
  have hk2 : L / 64 * 64 ≤ L := by omega
  obtain ⟨k, hkk⟩ : ∃ k, L / 64 * 64 = k := ⟨_, rfl⟩
  rw [hkk] at hk hk2 ⊢
  have hs := fun W => run_slice22_l b off L c k hk2 hc W
  obtain ⟨of2, ho⟩ : ∃ x, (if c = k then off else off + k) = x := ⟨_, rfl⟩
  rw [ho] at hs ⊢
  clear ho hkk
  go_enter Tryd.func38, Tryd.ntmps38
  go_wp2_with fail
  go_ret
  exact ⟨rfl, rfl⟩
def WrI (g gB n : Nat) (st1 tl1 b2 : List Nat) (w : World) (k : Nat) (V : World) : Prop :=
  (rowN V g = some (hashA (absB st1 k b2) tl1 n) ∧ rowN V gB = some #[.pointer (some ⟨g, 0, none⟩)]) ∧ w.grownBy V (some g)
theorem wrI_own (g gB n : Nat) (st1 tl1 b2 : List Nat) (w : World) {B : Nat} (hB : w.heap.size ≤ B) : OwnFrom B (WrI g gB n st1 tl1 b2 w) := by
  rintro k X Y row ⟨⟨h, h'⟩, hb⟩ hg hr
  have hr' := fun r e => (hr r e).2
  exact ⟨⟨row_grown hg hr' h, row_grown hg hr' h'⟩, grown_ext hb hg (fun r e => .inl (Nat.le_trans hB (hr r e).1))⟩
theorem results_slot {fn : Func} {p : Tmp} {v : Value} {tmps : Array Value} {w : World} (h : fn.results = #[.tmp p]) (hp : tmps.getD p undef = v) : (results fn tmps).run Tryd.prog w = .ok v w := by
  have hp' : tmps[p]?.getD undef = v := by simpa using hp
  simp [results, h, hp']

set_option maxRecDepth 100000 in
set_option maxHeartbeats 2000000 in
theorem write_long (g : Nat) (zs st tl bs : List Nat) (s : Value) (hI : HI zs st tl) (hL : zs.length + bs.length ≤ 140737488355328) (hs : 64 ≤ zs.length % 64 + bs.length) (w : World) (hK : KG w) (hg1 : g ≠ 1) (hr : rowN w g = some (hashA st tl zs.length)) (hB : BytesAt bs s w) (hap : ∀ j, 0 < bs.length → InS s j → j ≠ g) :
    Calls Tryd.prog 27 #[.pointer (some ⟨g, 0, none⟩), s] w fun e w' => e = .returned (.int .i64 0) ∧ ∃ st' tl', HI (zs ++ bs) st' tl' ∧ rowN w' g = some (hashA st' tl' (zs.length + bs.length)) ∧ w.grownBy w' (some g) := by
  have hst : st.length = 8 := by rw [hI.st]; exact absB_len rfl _ _
  have hw32 : W32 st := by rw [hI.st]; exact absB_w32 zero8_w32 _ _
  have htl := hI.len
  have hbA : Below w.heap.size w (w.alloc (.cells #[.pointer (some ⟨g, 0, none⟩)] 64)) := (Below.refl _ w).alloc (Nat.le_refl _) _
  have hr1 := keptW hbA hr
  have hgw := rowN_lt hr
  have HFIN := Lib.hid (fun tl1 b2 h1 h2 => hI.long (tl1 := tl1) (b2 := b2) hs hB.1 h1 h2)
  have HT256 := Lib.hid hI.b256
  have HB256 := Lib.hid hB.1
  obtain ⟨n, hn⟩ : ∃ n, zs.length = n := ⟨_, rfl⟩
  rw [hn] at hL hs hr1 HFIN ⊢
  obtain ⟨q, hq⟩ : ∃ q, n % 64 = q := ⟨_, rfl⟩
  have HWAIT := Lib.hid (fun W (h : rowN W g = some (hashA st tl n)) => waiting_any g n st tl hst htl W h)
  rw [hq] at hs HWAIT HFIN
  have hq64 : q < 64 := by omega
  obtain ⟨m, hm⟩ : ∃ m, 64 - q = m := ⟨_, rfl⟩
  have hcp := copy_tail (c := 64 - q) (m := m) hst htl (show q ≤ 64 by omega) hr1 (hB.kept hbA) (by omega)
  rw [hm] at HFIN
  have hlm : (bs.take m).length = m := by rw [List.length_take]; omega
  have hsp : (splice tl q (bs.take m)).length = 64 := by rw [splice_len (by omega)]; exact htl
  have HS256 := Lib.hid (splice_256 (o := q) HT256.out (fun x hx => HB256.out x (List.mem_of_mem_take (i := m) hx)))
  have hs36 := fun W => run_slice36_l g q (by omega) W
  have hs36b := fun W => run_slice36_all g W
  obtain ⟨tl1, htl1⟩ : ∃ t, splice tl q (bs.take m) = t := ⟨_, rfl⟩
  have HFIN2 := Lib.hid (HFIN.out tl1 (bs.drop m) htl1.symm rfl)
  rw [htl1] at hcp hsp HS256
  obtain ⟨L, hlL⟩ : ∃ L, bs.length = L := ⟨_, rfl⟩
  have HLL := Lib.hid hlL
  rw [hlL] at hL hs
  obtain ⟨b, off, c, rfl, hLc⟩ : ∃ b off c, s = .slice (some ⟨b, off, none⟩) L c ∧ L ≤ c := by
    obtain ⟨_, a, c, e, hc, h2⟩ := hB
    rcases h2 with h2 | ⟨b, off, ea, _⟩
    · omega
    · exact ⟨b, off, c, by rw [e, hlL, ea], by omega⟩
  have hsl22 := fun W => run_slice22_l b off L c m (by omega) hLc W
  have HBD := Lib.hid (show BytesAt (bs.drop m) (.slice (some ⟨b, if c = m then off else off + m, none⟩) (L - m) (c - m)) w by rw [← hlL] at hB ⊢; exact bytes_drop hB m (by omega))
  obtain ⟨of2, hof2⟩ : ∃ x, (if c = m then off else off + m) = x := ⟨_, rfl⟩
  rw [hof2] at hsl22 HBD
  have HBG := Lib.hid (show b ≠ g from hap b (by omega) ⟨off, none, _, _, rfl⟩)
  obtain ⟨W1, hW1⟩ : ∃ W1, w.alloc (.cells #[.pointer (some ⟨g, 0, none⟩)] 64) = W1 := ⟨_, rfl⟩
  rw [hW1] at hcp hr1 hbA
  have hp0 : W1.cell? ⟨w.heap.size, 0, none⟩ = some (.pointer (some ⟨g, 0, none⟩)) := by rw [← hW1]; exact (rowN_cell (cs := #[.pointer (some ⟨g, 0, none⟩)]) (by rw [rowN_alloc, if_pos rfl])).1 0
  have hpr : rowN W1 w.heap.size = some #[.pointer (some ⟨g, 0, none⟩)] := by rw [← hW1, rowN_alloc, if_pos rfl]
  have hgn := row_new (ds := hashA st tl1 n) hr1
  have hc72 := ((rowN_cell hgn).1 72).trans (hashA_len hst hsp n)
  have hf72 := (rowN_cell hgn).2 72
  have hp1 : (W1.setRow g (hashA st tl1 n)).cell? ⟨w.heap.size, 0, none⟩ = some (.pointer (some ⟨g, 0, none⟩)) := (World.cell?_of_block (w := W1) (a := ⟨w.heap.size, 0, none⟩) (setRow_other _ _ _ _ (by show w.heap.size ≠ g; omega))).trans hp0
  have e1 : IntKind.i64.wrap (((n : Nat) : Int) + ((L : Nat) : Int)) = ((n : Nat) : Int) + ((L : Nat) : Int) := IntWalk.i64_in _ (by omega)
  have e2 : ((q : Nat) : Int) + ((m : Nat) : Int) = 64 := by omega
  have HR1 := Lib.hid hr1
  have HPR := Lib.hid hpr
  have HB1 := Lib.hid hbA
  have HGN := Lib.hid hgn
  have HT1 := Lib.hid hsp
  have HST := Lib.hid hst
  have HW := Lib.hid hw32
  have HK := Lib.hid hK
  have HML := Lib.hid (show m ≤ L by omega)
  have HNL := Lib.hid hL
  clear hI hB hr hn htl1 hlL hr1 hbA hgn hst htl hsp hw32 hK hap hof2 hpr hm hq hlm
  refine (callsIn_wide (n := 6)).1 ?_
  refine callsIn_of_wp_marks Tryd.func27 rfl trivial ?_ rfl
  simp only [Tryd.ntmps27, List.size_toArray, List.length_cons, List.length_nil, Nat.reduceAdd, Nat.reduceSub, Array.replicate_succ, Array.replicate_zero, List.push_toArray, List.append_toArray, List.nil_append, List.cons_append]
  refine wpIn_wide.2 ?_
  go_upto_region 1 with fail
  try rw [hW1]
  go_wp2_with fail
  refine (HWAIT.out _ HR1.out).mono ?_
  rintro e w2 ⟨rfl, rfl⟩
  go_upto_region 8 with fail
  obtain ⟨V, hV⟩ : ∃ V, (W1.setRow g (hashA st tl1 n)).setCell ⟨g, 72, none⟩ (.int .i64 (((n : Nat) : Int) + ((L : Nat) : Int))) = V := ⟨_, rfl⟩
  have hgV : rowN V.drew g = some (hashA st tl1 (n + L)) := by rw [← hV]; exact row_setlen HST.out HT1.out HGN.out (n + L)
  have hpV : rowN V w.heap.size = some #[.pointer (some ⟨g, 0, none⟩)] := by rw [← hV]; exact row_cell0 (row_other HPR.out (by omega)) (by omega)
  have hwV : w.grownBy V.drew (some g) := by rw [← hV]; exact grown_drew (grownBy_trans (grownBy_trans (gb_of_below HB1.out _) (setRow_grown _ _ _)) (setCell_grown _ ⟨g, 72, none⟩ _))
  rw [hV]
  have hp2 := (rowN_cell hpV).1 0
  have HGV := Lib.hid hgV
  have HPV := Lib.hid (show rowN V.drew w.heap.size = some #[.pointer (some ⟨g, 0, none⟩)] from hpV)
  have HWV := Lib.hid hwV
  have HAB := Lib.hid (absorb_any st tl1 (arr .u8 tl1 ++ #[.int .i64 ((n + L : Nat) : Int)]) g g 8 64 HST.out HW.out HT1.out HS256.out V.drew (HK.out.grown hwV (fun e => hg1 (Option.some.inj e))) (by rw [hgV]; rfl) (rowN_lt hgV) (fun j hj => ((rowN_cell hgV).1 (8 + j)).trans (hashA_tail HST.out HT1.out _ hj)))
  clear hp0 hp1 hc72 hf72 hcp hV HR1 HGN HPR HB1 hgV hpV hwV hW1
  refine wp_region_still_tail 7 (by kernel_rfl) (by kernel_rfl) ?_
  simp only [List.take_succ_cons, List.take_zero, List.drop_succ_cons, List.drop_zero]
  repeat still_step
  refine wpStill_nil ?_
  change wpList _ _ _ _ _ V.drew
  clear hp2
  generalize V.drew = V1 at *
  go_wp2_with fail
  refine HAB.out.mono ?_
  rintro e w3 ⟨rfl, hr3, hg3⟩
  have hgw3 := rowN_lt hr3
  have HR3 := Lib.hid (show rowN w3 g = some (hashA (absL st tl1) tl1 (n + L)) from hr3)
  have hgW3 := grownBy_trans HWV.out hg3
  have HG3 := Lib.hid hgW3
  have HP3 := Lib.hid (show rowN w3 w.heap.size = some #[.pointer (some ⟨g, 0, none⟩)] by
    rw [grownBy_rowN hg3 (rowN_lt HPV.out) (fun e => by have := Option.some.inj e; omega)]; exact HPV.out)
  have hws := hgW3.size
  clear hr3 hg3 HAB HGV HPV HWV hgW3
  go_wp2_with fail
  refine (whole_any _ _ _ _).mono ?_
  rintro e w4 ⟨rfl, rfl⟩
  have HS8 := Lib.hid (show (absL st tl1).length = 8 from absL_len HST.out)
  have HSW := Lib.hid (absL_w32 st tl1)
  obtain ⟨st1, hst1⟩ : ∃ x, absL st tl1 = x := ⟨_, rfl⟩
  obtain ⟨b2, hb2⟩ : ∃ x, bs.drop m = x := ⟨_, rfl⟩
  have HB2L := Lib.hid (show b2.length = L - m by rw [← hb2, List.length_drop, HLL.out])
  rw [hst1] at HR3 HS8 HSW HFIN2
  rw [hb2] at HBD HFIN2
  have HCL := Lib.hid (show L - m ≤ c - m by omega)
  obtain ⟨U, hU⟩ : ∃ U, w3.alloc (.cells #[.slice (some ⟨b, of2, none⟩) (L - m) (c - m)] 22) = U := ⟨_, rfl⟩
  have hbU : Below w3.heap.size w3 U := by rw [← hU]; exact (Below.refl _ _).alloc (Nat.le_refl _) _
  have hrU : rowN U w3.heap.size = some #[.slice (some ⟨b, of2, none⟩) (L - m) (c - m)] := by rw [← hU, rowN_alloc, if_pos rfl]
  have HI0 := Lib.hid (show WrI g w.heap.size (n + L) st1 tl1 b2 w 0 U from ⟨⟨keptW hbU HR3.out, keptW hbU HP3.out⟩, grownBy_trans HG3.out (gb_of_below hbU _)⟩)
  have HY0 := Lib.hid (whole1_yields (6 - 1) w3.heap.size b of2 (L - m) (c - m) ((L - m) / 64) rfl HCL.out U hrU)
  rw [hU]
  have hUs : w3.heap.size < U.heap.size := rowN_lt hrU
  clear hU hbU hrU hst1 hb2 HR3 HP3 HG3
  go_wp2_with fail
  refine (wpIn_wide (n := 6)).1 ?_
  refine range_yields (by omega) (gf := 49) (lb := #[.pointer (some ⟨w3.heap.size, 0, none⟩)]) rfl (enters_of Tryd.func49 (by kernel_rfl) rfl) HY0.out
    (fun j => j = g) (fun j e => by subst e; exact ⟨by omega, fun h => h⟩) (fun j h => h.elim) (fun k v V l o o' h hl ho => h) (Below.refl _ _)
    (WrI g w.heap.size (n + L) st1 tl1 b2 w) (fun _ _ _ => False) (wrI_own _ _ _ _ _ _ w (by omega)) (fun _ _ _ _ _ hs _ _ => hs) HI0.out ?a1 ?assign ?body ?done ?stop
  case assign =>
    intro l2 v V k hk
    gi_wp2
    exact hk
  case body =>
    rintro l2 k v V hk ⟨⟨hr, hpr⟩, hgw⟩ rfl
    have hbv := HBD.out.grown hgw (fun j _ hj e => by obtain ⟨_, _, _, _, e2⟩ := hj; cases e2; exact HBG.out e)
    rw [← HB2L.out] at hbv
    have hbk := BytesAt.blk hbv (k := k) (by rw [HB2L.out]; omega)
    have hl64 := pad_blk b2 (k := k) (by rw [HB2L.out]; exact hk)
    obtain ⟨b', off', c', ee, hbl, hc⟩ := blk_slice hbk hl64
    cases ee
    have HAB := Lib.hid (absorb_any (absB st1 k b2) ((b2.drop (64 * k)).take 64) (arr .u8 tl1 ++ #[.int .i64 ((n + L : Nat) : Int)]) g b (of2 + 64 * k) 64 (absB_len HS8.out b2 k) (absB_w32 HSW.out b2 k) hl64 hbk.1 V (HK.out.grown hgw (fun e => hg1 (Option.some.inj e))) (show rowN V g = some (stA (absB st1 k b2) (arr .u8 tl1 ++ #[.int .i64 ((n + L : Nat) : Int)])) from hr) hbl hc)
    rw [← absB_snoc] at HAB
    have hp := (rowN_cell hpr).1 0
    have HPR := Lib.hid hpr
    have HGW := Lib.hid hgw
    unfold wblk
    clear hr hpr hgw hbv hbk hl64 hbl hc
    gi_wp2_with fail
    refine ⟨trivial, ?_⟩
    refine (CallsIn.inRound l2 (callsIn_wide.2 HAB.out)).mono ?_
    rintro e W3 ⟨rfl, hr3, hg3⟩
    have hKP : Keeps (fun j => j = g ∨ False) V W3 := Keeps.of_grownBy hg3 (fun r e => by cases e; exact .inl rfl)
    have HE := Lib.hid (show RoundEnds U.heap.size (Keeps fun j => j = g ∨ False) (WrI g w.heap.size (n + L) st1 tl1 b2 w (k + 1)) (fun _ _ => False) V .normal W3 from
      ⟨hKP.from (fun j hj h => by rcases h with h | h; omega; exact h), hKP, .inl ⟨rfl, ⟨⟨hr3, hKP.row HPR.out (fun h => by rcases h with h | h; omega; exact h)⟩, grownBy_trans HGW.out hg3⟩⟩⟩)
    clear hKP hr3 hg3 hp
    gi_wp2_with fail
    exact HE.out
  case done =>
    rintro D V hD ⟨⟨hr, hpr⟩, hgw⟩ hKd
    have hbv := HBD.out.grown hgw (fun j _ hj e => by obtain ⟨_, _, _, _, e2⟩ := hj; cases e2; exact HBG.out e)
    rw [← HB2L.out] at hbv
    have HRS := Lib.hid (fun W => rest_some b of2 (L - m) (c - m) HCL.out (by have := HNL.out; omega) W)
    have hbs : BytesAt (b2.drop (b2.length / 64 * 64)) (.slice (some ⟨b, if c - m = (L - m) / 64 * 64 then of2 else of2 + (L - m) / 64 * 64, none⟩) (L - m - (L - m) / 64 * 64) (c - m - (L - m) / 64 * 64)) V.drew := by
      have h := bytes_drop (W := V.drew) hbv (b2.length / 64 * 64) (by omega)
      rw [HB2L.out] at h ⊢
      exact h
    obtain ⟨s3, hs3⟩ : ∃ s3, Value.slice (some ⟨b, if c - m = (L - m) / 64 * 64 then of2 else of2 + (L - m) / 64 * 64, none⟩) (L - m - (L - m) / 64 * 64) (c - m - (L - m) / 64 * 64) = s3 := ⟨_, rfl⟩
    rw [hs3] at HRS hbs
    clear hs3
    rw [← HB2L.out] at hr
    have hp := (rowN_cell hpr).1 0
    have HR := Lib.hid (show rowN V.drew g = some (hashA (absB st1 (b2.length / 64) b2) tl1 (n + L)) from hr)
    have HGW := Lib.hid (show w.grownBy V.drew (some g) from grown_drew hgw)
    have HKD := Lib.hid (show V.drew.heap[D]? = some (.deferred (some [])) from hKd)
    have HBS := Lib.hid hbs
    clear hr hpr hgw hKd hbv hbs
    go_upto_region 13 with fail
    refine wp_region_still_tail 6 (by kernel_rfl) (by kernel_rfl) ?_
    simp only [List.take_succ_cons, List.take_zero, List.drop_succ_cons, List.drop_zero]
    repeat still_step
    still_call (HRS.out _)
    repeat still_step
    refine wpStill_nil ?_
    change wpList _ _ _ _ _ V.drew
    clear hp
    generalize V.drew = V1 at *
    have hbs := HBS.out
    have hrl : (b2.drop (b2.length / 64 * 64)).length < 64 := by rw [List.length_drop]; omega
    have hcp := copy_tail (o := 0) (c := 64) (m := (b2.drop (b2.length / 64 * 64)).length) (absB_len HS8.out b2 _) HT1.out (by omega) HR.out hbs (Nat.min_eq_left (Nat.le_of_lt hrl)).symm
    rw [List.take_of_length_le (Nat.le_refl _), Nat.add_zero, Nat.sub_zero] at hcp
    have HROW := Lib.hid (row_new (ds := hashA (absB st1 (b2.length / 64) b2) (splice tl1 0 (b2.drop (b2.length / 64 * 64))) (n + L)) HR.out)
    have HGR := Lib.hid (grownBy_trans HGW.out (setRow_grown V1 g (hashA (absB st1 (b2.length / 64) b2) (splice tl1 0 (b2.drop (b2.length / 64 * 64))) (n + L))))
    have hgD : g ≠ D := by omega
    have HKD1 := Lib.hid ((setRow_other V1 g D (hashA (absB st1 (b2.length / 64) b2) (splice tl1 0 (b2.drop (b2.length / 64 * 64))) (n + L)) (fun e => hgD e.symm)).trans HKD.out)
    obtain ⟨TL, hTL⟩ : ∃ x, splice tl1 0 (b2.drop (b2.length / 64 * 64)) = x := ⟨_, rfl⟩
    obtain ⟨ST, hST⟩ : ∃ x, absB st1 (b2.length / 64) b2 = x := ⟨_, rfl⟩
    obtain ⟨m3, hm3⟩ : ∃ x, (b2.drop (b2.length / 64 * 64)).length = x := ⟨_, rfl⟩
    rw [hTL, hST] at HROW HGR HKD1 HFIN2
    rw [hTL, hST, hm3] at hcp
    clear hbs HBS hrl HRS HR HGW HKD hTL hST hm3
    go_wp2_with fail
    refine ⟨by simp, .inl ⟨_, _, rfl, run_takeDeferred HKD1.out, ?_⟩⟩
    refine ⟨_, results_slot rfl rfl, rfl, ST, TL, HFIN2.out, by rw [rowN_putObj hgD, HLL.out]; exact HROW.out, grown_ext HGR.out (grownBy_putObj' _ _ _) (fun r e => .inl (by cases e; omega))⟩
  case stop =>
    rintro D k c V hD hk hx hK
    exact hx.elim
end Go.Proofs.YtmlacbdonkfbdaaDoor
