/- Copy of a Mac in progress. -/
import Derived.Deep.RegionHeld3
import Derived.Test.YtmlacbdonkfbdaaDoorWK
namespace Go.Proofs.YtmlacbdonkfbdaaDoor
open Go.RowKit Go.Shelf

def macNew2 (x y : Value) : Sem Next := do pure (.value (← Instr.build 56 #[(0, x), (1, y)]))
@[go_sem ↓] theorem execOp_build56two (ρ : Operand → Value) (dst : Option Tmp) (x y : Operand) (ty : TypeId) (pos : String) (after : Array Edge) (guard : Option (Nat × Bool)) :
    execOp ρ { dst, op := .build 56 #[(0, x), (1, y)], type := ty, pos, after, guard } = macNew2 (ρ x) (ρ y) := by simp [execOp, macNew2]
theorem run_macNew2 (P : Pre) (st tl : List Nat) (n : Nat) (hs : st.length = 8) (ht : tl.length = 64) (W : World) : (macNew2 (.agg P.a) (.agg (hashA st tl n))).run Tryd.prog W = .ok (.value (.agg (hashB P st tl n))) W := by
  have hp : P.a.toList.length = 128 := by rw [Array.length_toList, P.sz]
  have hh : (hashA st tl n).toList.length = 73 := by rw [Array.length_toList, hashA_size hs ht]
  have hzz : (hashA zero8 z64 0).toList.length = 73 := by rw [Array.length_toList]; exact hashA_size rfl z64_len 0
  have h : Tryd.prog.built 56 [(0, .agg P.a), (1, .agg (hashA st tl n))] = some (hashB P st tl n) := by
    rw [built56, fill_step (off := 0) (size := 128) rfl (by show P.a.size = 128; exact P.sz) (by simp), fill_step (off := 128) (size := 73) rfl (by show (hashA st tl n).size = 73; exact hashA_size hs ht n) (by
      show 128 + 73 ≤ (List.take 0 _ ++ P.a.toList ++ List.drop (0 + 128) (List.replicate 128 (Value.int .u8 ((0 : Nat) : Int)) ++ (hashA zero8 z64 0).toList)).toArray.size
      rw [List.size_toArray, List.length_append, List.length_append, hp, List.length_drop, List.length_append, List.length_replicate, hzz]
      omega)]
    show some _ = some _
    refine congrArg some ?_
    rw [hashB_eq]
    apply Array.ext'
    show (List.take 128 (List.take 0 _ ++ P.a.toList ++ List.drop (0 + 128) (List.replicate 128 (Value.int .u8 ((0 : Nat) : Int)) ++ (hashA zero8 z64 0).toList)) ++ (hashA st tl n).toList ++ List.drop (128 + 73) (List.take 0 _ ++ P.a.toList ++ List.drop (0 + 128) (List.replicate 128 (Value.int .u8 ((0 : Nat) : Int)) ++ (hashA zero8 z64 0).toList))) = _
    rw [Array.toList_append, List.take_zero, List.nil_append, List.take_append_of_le_length (by omega), List.take_of_length_le (by omega), List.drop_eq_nil_of_le (by
      rw [List.length_append, hp, List.length_drop, List.length_append, List.length_replicate, hzz]; omega), List.append_nil]
  have hr := run_build (P := Tryd.prog) W 56 #[(0, .agg P.a), (1, .agg (hashA st tl n))] _ h
  simp only [macNew2, Sem.run_bind, hr, Result.andThen_ok, Sem.run_pure]
set_option maxRecDepth 100000 in
set_option maxHeartbeats 2000000 in
theorem mcopy_at (key zs : List Nat) (g : Nat) (h256 : ∀ x ∈ key, x < 256) (w : World) (hH : MacAt key zs g w) :
    Calls Tryd.prog 16 #[.pointer (some ⟨g, 0, none⟩)] w fun e w' => ∃ g', e = .returned (.pointer (some ⟨g', 0, none⟩)) ∧ w.heap.size ≤ g' ∧ MacAt key zs g' w' ∧ Below w.heap.size w w' := by
  have HP := Lib.hid (inProgress_of g true w (haveKey_yes key zs g h256 w hH))
  have HC := Lib.hid (fun (W : World) (hb : Below w.heap.size w W) => copy_at_in (kpre key) g (blkL 54 key ++ zs) W (HashIn.kept hH hb))
  unfold MacAt at hH ⊢
  obtain ⟨P, hP⟩ : ∃ P, kpre key = P := ⟨_, rfl⟩
  obtain ⟨zz, hzz⟩ : ∃ z, blkL 54 key ++ zs = z := ⟨_, rfl⟩
  rw [hP, hzz] at hH ⊢
  rw [hzz] at HC
  obtain ⟨st, tl, _, hr⟩ := hH
  obtain ⟨A, hA⟩ : ∃ A, hashB P st tl zz.length = A := ⟨_, rfl⟩
  have hpre : ∀ i, i < 128 → A[0 + i]? = P.a[i]? := fun i hi => by rw [← hA, Nat.zero_add]; exact hashB_pre P _ _ _ i hi
  rw [hA] at hr
  have hi49 : (Tryd.prog.info? 49).map (·.size) = some 128 := by kernel_rfl
  have HLD := Lib.hid (fun (W : World) (h : rowN W g = some A) => load_mid (o := 0) Tryd.underlying49 rfl hi49 h (sub := P.a) P.sz hpre)
  clear hP hzz hA hpre hi49
  go_enter Tryd.func16, Tryd.ntmps16
  go_wp2_with fail
  refine HP.out.mono ?_
  rintro e w2 ⟨rfl, hb⟩
  have HL_0 := Lib.hid (show Below w.heap.size w w2.drew from hb.drew)
  have Hm_0 := Lib.hid (show rowN w2.drew g = some A from keptW hb hr)
  clear hb HP hr
  go_upto_region 3 with fail
  refine wp_region_noPanic ?_
  refine wp_region_held_drew (S := fun W => rowN W g = some (A)) (by kernel_rfl) Hm_0.out (fun hHeld0 => ?_)
  obtain ⟨x0, hx0⟩ : ∃ X, w2.drew = X := ⟨_, rfl⟩
  rw [hx0] at Hm_0 HL_0 hHeld0 ⊢
  clear hx0
  refine wpAnyH_take (i := 0) (oi := { dst := some 6, op := Op.move (Operand.tmp 0), type := 38, pos := "mac.go:110", after := #[], guard := none }) (v := ?tk0) rfl (by kernel_rfl) (by kernel_rfl) (by kernel_rfl) (fun _ _ _ h => h) (Or.inl ⟨by rfl, ?tw0⟩) hHeld0 ?_
  case tw0 => (intro W hW; clear hW; first | (go_simp; done) | (go_simp; with_reducible rfl))
  try simp only [Act.put, List.setIfInBounds_toArray, List.set_cons_zero, List.set_cons_succ]
  refine wpAnyH_take (i := 1) (oi := { dst := some 7, op := Op.nilCheck (Operand.tmp 6), type := 0, pos := "mac.go:110", after := #[{ on := 0, ground := Ground.data }], guard := none }) (v := ?tk1) rfl (by kernel_rfl) (by kernel_rfl) (by kernel_rfl) (fun _ _ _ h => h) (Or.inl ⟨by rfl, ?tw1⟩) hHeld0 ?_
  case tw1 => (intro W hW; clear hW; first | (go_simp; done) | (go_simp; with_reducible rfl))
  try simp only [Act.put, List.setIfInBounds_toArray, List.set_cons_zero, List.set_cons_succ]
  refine wpAnyH_take (i := 2) (oi := { dst := some 8, op := Op.fieldAddr 56 (Operand.tmp 7) 0, type := 0, pos := "mac.go:110", after := #[{ on := 1, ground := Ground.data }], guard := none }) (v := ?tk2) rfl (by kernel_rfl) (by kernel_rfl) (by kernel_rfl) (fun _ _ _ h => h) (Or.inl ⟨by rfl, ?tw2⟩) hHeld0 ?_
  case tw2 => (intro W hW; clear hW; first | (go_simp; done) | (go_simp; with_reducible rfl))
  try simp only [Act.put, List.setIfInBounds_toArray, List.set_cons_zero, List.set_cons_succ]
  refine wpAnyH_take (i := 3) (oi := { dst := some 9, op := Op.load 49 (Operand.tmp 8), type := 49, pos := "mac.go:110", after := #[{ on := 2, ground := Ground.data }], guard := none }) (v := .agg P.a) rfl (by kernel_rfl) (by kernel_rfl) (by kernel_rfl) (fun _ _ _ h => h) (Or.inl ⟨by rfl, fun W hW => ?_⟩) hHeld0 ?_
  · (have hl := HLD.out W hW; clear hW; go_simp)
  try simp only [Act.put, List.setIfInBounds_toArray, List.set_cons_zero, List.set_cons_succ]
  refine wpAnyH_take (i := 4) (oi := { dst := some 10, op := Op.move (Operand.tmp 0), type := 38, pos := "mac.go:110", after := #[], guard := none }) (v := ?tk3) rfl (by kernel_rfl) (by kernel_rfl) (by kernel_rfl) (fun _ _ _ h => h) (Or.inl ⟨by rfl, ?tw3⟩) hHeld0 ?_
  case tw3 => (intro W hW; clear hW; first | (go_simp; done) | (go_simp; with_reducible rfl))
  try simp only [Act.put, List.setIfInBounds_toArray, List.set_cons_zero, List.set_cons_succ]
  refine wpAnyH_take (i := 5) (oi := { dst := some 11, op := Op.nilCheck (Operand.tmp 10), type := 0, pos := "mac.go:110", after := #[{ on := 4, ground := Ground.data }], guard := none }) (v := ?tk4) rfl (by kernel_rfl) (by kernel_rfl) (by kernel_rfl) (fun _ _ _ h => h) (Or.inl ⟨by rfl, ?tw4⟩) hHeld0 ?_
  case tw4 => (intro W hW; clear hW; first | (go_simp; done) | (go_simp; with_reducible rfl))
  try simp only [Act.put, List.setIfInBounds_toArray, List.set_cons_zero, List.set_cons_succ]
  refine wpAnyH_take (i := 6) (oi := { dst := some 12, op := Op.fieldAddr 56 (Operand.tmp 11) 1, type := 0, pos := "mac.go:110", after := #[{ on := 5, ground := Ground.data }], guard := none }) (v := ?tk5) rfl (by kernel_rfl) (by kernel_rfl) (by kernel_rfl) (fun _ _ _ h => h) (Or.inl ⟨by rfl, ?tw5⟩) hHeld0 ?_
  case tw5 => (intro W hW; clear hW; first | (go_simp; done) | (go_simp; with_reducible rfl))
  try simp only [Act.put, List.setIfInBounds_toArray, List.set_cons_zero, List.set_cons_succ]
  refine wpAnyH_ready (rs := [7]) (by kernel_rfl) (by simp) ?_
  refine AllReadyH.cons (o := { dst := some 13, op := Op.call { callee := Callee.value (Operand.func 26), args := #[Operand.tmp 12], argTypes := #[54] }, type := 64, pos := "mac.go:110", after := #[{ on := 6, ground := Ground.data }], guard := none }) rfl (fun K' hK => ?_) AllReadyH.nil
  go_simp
  refine ((HC.out _ HL_0.out)).mono ?_
  rintro e x1 ⟨rfl, ⟨st2, tl2, hi2, hr2⟩, hb⟩
  have HI2 := Lib.hid hi2
  have l8 := hi2.st8
  have l64 := hi2.len
  have sz73 := hashA_size l8 l64 zz.length
  have hbl2 := fun W => run_macNew2 P st2 tl2 zz.length l8 l64 W
  obtain ⟨gc, hgc⟩ : ∃ g, x0.heap.size = g := ⟨_, rfl⟩
  rw [hgc] at hr2 ⊢
  have Hc_1 := Lib.hid hr2
  have Hm_1 := Lib.hid (keptW hb Hm_0.out)
  have HL_1 := Lib.hid (HL_0.out.trans (hb.mono HL_0.out.size))
  clear hi2 hr2 hb hgc
  refine hK.out _ _ Hm_1.out (fun hHeld1 => ?_)
  clear hK K'
  try simp only [Act.put, List.setIfInBounds_toArray, List.set_cons_zero, List.set_cons_succ]
  refine wpAnyH_take (i := 8) (oi := { dst := some 14, op := Op.nilCheck (Operand.tmp 13), type := 0, pos := "mac.go:110", after := #[{ on := 7, ground := Ground.data }], guard := none }) (v := ?tk6) rfl (by kernel_rfl) (by kernel_rfl) (by kernel_rfl) (fun _ _ _ h => h) (Or.inl ⟨by rfl, ?tw6⟩) hHeld1 ?_
  case tw6 => (intro W hW; clear hW; first | (go_simp; done) | (go_simp; with_reducible rfl))
  try simp only [Act.put, List.setIfInBounds_toArray, List.set_cons_zero, List.set_cons_succ]
  refine wpAnyH_ready (rs := [9]) (by kernel_rfl) (by simp) ?_
  refine AllReadyH.cons (o := { dst := some 15, op := Op.load 54 (Operand.tmp 14), type := 54, pos := "mac.go:110", after := #[{ on := 8, ground := Ground.data }], guard := none }) rfl (fun K' hK => ?_) AllReadyH.nil
  have hrow := Hc_1.out
  go_simp
  clear hrow
  obtain ⟨x2, hxx⟩ : ∃ X, X = x1 := ⟨_, rfl⟩
  subst hxx
  have Hm_2 := Hm_1
  have HL_2 := HL_1
  refine hK.out _ _ Hm_2.out (fun hHeld2 => ?_)
  clear hK K'
  try simp only [Act.put, List.setIfInBounds_toArray, List.set_cons_zero, List.set_cons_succ]
  refine wpAnyH_take (i := 10) (oi := { dst := some 16, op := Op.build 56 #[(0, Operand.tmp 9), (1, Operand.tmp 15)], type := 56, pos := "mac.go:110", after := #[{ on := 3, ground := Ground.data }, { on := 9, ground := Ground.data }], guard := none }) (v := ?tk7) rfl (by kernel_rfl) (by kernel_rfl) (by kernel_rfl) (fun _ _ _ h => h) (Or.inl ⟨by rfl, ?tw7⟩) hHeld2 ?_
  case tw7 => (intro W hW; clear hW; first | (go_simp; done) | (go_simp; with_reducible rfl))
  try simp only [Act.put, List.setIfInBounds_toArray, List.set_cons_zero, List.set_cons_succ]
  refine wpAnyH_ready (rs := [11]) (by kernel_rfl) (by simp) ?_
  refine AllReadyH.cons (o := { dst := some 17, op := Op.box 56 (Operand.tmp 16), type := 38, pos := "mac.go:110", after := #[{ on := 10, ground := Ground.data }], guard := none }) rfl (fun K' hK => ?_) AllReadyH.nil
  go_simp
  obtain ⟨x3, hx3⟩ : ∃ X, x2.alloc (.cells (hashB P st2 tl2 zz.length) 56) = X := ⟨_, rfl⟩
  have hb : Below x2.heap.size x2 x3 := by rw [← hx3]; exact (Below.refl _ _).alloc (Nat.le_refl _) _
  have Hm_3 := Lib.hid (keptW hb Hm_2.out)
  have HL_3 := Lib.hid (HL_2.out.trans (hb.mono HL_2.out.size))
  have hnew : rowN x3 x2.heap.size = some (hashB P st2 tl2 zz.length) := by rw [← hx3, rowN_alloc, if_pos rfl]
  have hgen : w.heap.size ≤ x2.heap.size := HL_2.out.size
  have hlm_n := rowN_lt Hm_2.out
  rw [hx3]
  obtain ⟨gn, hgn⟩ : ∃ g, x2.heap.size = g := ⟨_, rfl⟩
  rw [hgn] at hnew hgen hlm_n ⊢
  have Hn_3 := Lib.hid hnew
  clear hb hnew hgn hx3
  refine hK.out _ _ Hm_3.out (fun hHeld3 => ?_)
  clear hK K'
  try simp only [Act.put, List.setIfInBounds_toArray, List.set_cons_zero, List.set_cons_succ]
  refine wpAnyH_take (i := 12) (oi := { dst := some 2, op := Op.assign (Operand.tmp 17), type := 38, pos := "mac.go:110", after := #[{ on := 11, ground := Ground.data }, { on := 7, ground := Ground.chain }, { on := 0, ground := Ground.phase }, { on := 1, ground := Ground.phase }, { on := 2, ground := Ground.phase }, { on := 3, ground := Ground.phase }, { on := 4, ground := Ground.phase }, { on := 5, ground := Ground.phase }, { on := 6, ground := Ground.phase }, { on := 7, ground := Ground.phase }, { on := 8, ground := Ground.phase }, { on := 9, ground := Ground.phase }, { on := 10, ground := Ground.phase }, { on := 11, ground := Ground.phase }], guard := none }) (v := ?tk8) rfl (by kernel_rfl) (by kernel_rfl) (by kernel_rfl) (fun _ _ _ h => h) (Or.inl ⟨by rfl, ?tw8⟩) hHeld3 ?_
  case tw8 => (intro W hW; clear hW; first | (go_simp; done) | (go_simp; with_reducible rfl))
  try simp only [Act.put, List.setIfInBounds_toArray, List.set_cons_zero, List.set_cons_succ]
  refine wpAnyH_done (by kernel_rfl) ?_ _
  refine NoPanic.normal ?_
  go_wp2_with fail
  go_ret
  exact ⟨_, rfl, hgen, ⟨st2, tl2, HI2.out, Hn_3.out⟩, HL_3.out⟩
end Go.Proofs.YtmlacbdonkfbdaaDoor
