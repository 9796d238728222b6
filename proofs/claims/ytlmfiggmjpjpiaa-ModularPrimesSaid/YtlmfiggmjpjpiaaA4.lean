/- The ladder: what has been joined for each bit of a number. -/
import Derived.Test.YtlmfiggmjpjpiaaA3
import Derived.Test.YtlmfiggmjpjpiaaZR
import Derived.Deep.RegionHeld3
import Derived.Deep.DeepCutAuto
import Derived.Laws.EntriesVeiled
namespace Go.Proofs.Ytlmfiggmjpjpiaa
open Go.RowKit Go.Shelf

attribute [local go_sem] Oper.semAt_some

/-- The place and what has been joined, behind some bits. -/
def ladS (op : Nat → Nat → Nat) (u x : Nat) {v : Nat} (pre : List (Bit v)) : Nat × Nat := pre.foldl (fun s b => (min s.1 b.1, op (dbl op (s.1 - b.1) s.2) x)) (dlen 2 v, u)
theorem ladS_nil (op : Nat → Nat → Nat) (u x v : Nat) : ladS op u x ([] : List (Bit v)) = (dlen 2 v, u) := rfl
theorem ladS_snoc (op : Nat → Nat → Nat) (u x : Nat) {v : Nat} (pre : List (Bit v)) (b : Bit v) :
    ladS op u x (pre ++ [b]) = (min (ladS op u x pre).1 b.1, op (dbl op ((ladS op u x pre).1 - b.1) (ladS op u x pre).2) x) := by
  simp [ladS]
theorem ladS_bd {op : Nat → Nat → Nat} {m u x v : Nat} (hlt : ∀ a b, a < m → b < m → op a b < m) (hu : u < m) (hx : x < m) (hv : dlen 2 v ≤ 1024) (pre : List (Bit v)) : (ladS op u x pre).1 ≤ 1024 ∧ (ladS op u x pre).2 < m := by
  obtain ⟨n, hn⟩ : ∃ n, pre.length = n := ⟨_, rfl⟩
  induction n generalizing pre with
  | zero =>
    have : pre = [] := List.length_eq_zero_iff.1 hn
    subst this
    exact ⟨hv, hu⟩
  | succ n ih =>
    obtain ⟨pre', b, rfl⟩ : ∃ p b, pre = p ++ [b] := by
      rcases List.eq_nil_or_concat pre with h | ⟨p, b, h⟩
      · subst h; simp at hn
      · exact ⟨p, b, by simpa using h⟩
    have h := ih pre' (by simpa using hn)
    rw [ladS_snoc]
    exact ⟨Nat.le_trans (Nat.min_le_left _ _) h.1, hlt _ _ (dbl_lt hlt _ _ h.2) hx⟩

theorem keeps_ch {S : Nat → Prop} {W W' : World} (h : Ch S W W') (hs : ∀ b, S b → ∃ cs, rowN W b = some cs) : KeepsOthers W W' :=
  ⟨h.size, fun k o hk ho => by
    by_cases hS : S k
    · obtain ⟨cs, hc⟩ := hs k hS
      obtain ⟨t, ht⟩ := rowN_some hc
      rw [hk] at ht
      cases ht
      cases ho
    · exact (h.block k (Array.getElem?_eq_some_iff.1 hk).1 hS).trans hk⟩
theorem keeps_below {W w2 : World} (h : Below W.heap.size W w2) : KeepsOthers W w2 :=
  ⟨h.size, fun k _ hk _ => (h.block k (Array.getElem?_eq_some_iff.1 hk).1).trans hk⟩
theorem keeps_setRow {W : World} {b : Nat} {cs ds : Array Value} (h : rowN W b = some cs) : KeepsOthers W (W.setRow b ds) :=
  keeps_ch (S := fun k => k = b) (Ch.setRow W b ds rfl) (fun k e => ⟨cs, by rw [e]; exact h⟩)

/-- What holds between two bits. -/
def LadI (K m : Nat) (op : Nat → Nat → Nat) (u x : Nat) {v : Nat} (g9 g10 g11 bS : Nat) (w : World) (pre : List (Bit v)) (W : World) : Prop :=
  (rowN W g10 = some #[.int .i64 ((ladS op u x pre).1 : Nat)] ∧ rowN W g9 = some (natA (ladS op u x pre).2) ∧ rowN W (w.heap.size + 1 + 1) = some (natA x) ∧ rowN W (w.heap.size + 1 + 1 + 1) = some #[.func (.func K) #[.agg (natA m)] #[]] ∧
    rowN W (w.heap.size + 1 + 1 + 1 + 1) = some (natA 0) ∧ rowN W g11 = some #[.func (.func 82) #[] #[.pointer (some ⟨g10, 0, none⟩), .pointer (some ⟨w.heap.size + 1 + 1 + 1, 0, none⟩), .pointer (some ⟨g9, 0, none⟩)]] ∧ rowN W bS = some (natA v)) ∧ Below w.heap.size w W
theorem ladI_own {K m : Nat} {op : Nat → Nat → Nat} {u x v g9 g10 g11 bS B : Nat} {w : World} (h : w.heap.size ≤ B) : OwnFrom B (LadI K m op u x (v := v) g9 g10 g11 bS w) :=
  OwnFrom.and (Own.from (fun _ _ _ _ hs hg hr => ⟨row_kept hs.1 hg hr, row_kept hs.2.1 hg hr, row_kept hs.2.2.1 hg hr, row_kept hs.2.2.2.1 hg hr, row_kept hs.2.2.2.2.1 hg hr, row_kept hs.2.2.2.2.2.1 hg hr, row_kept hs.2.2.2.2.2.2 hg hr⟩) _) (ownFrom_below (Nat.le_refl _) h)

theorem lad_end {w W : World} {r D : Nat} (hD : w.heap.size ≤ D) (hrr : rowN W (w.heap.size + 1 + 1 + 1 + 1) = some (natA 0)) (hB : Below w.heap.size w W) (hK : W.heap[D]? = some (.deferred (some []))) :
    (W.setRow (w.heap.size + 1 + 1 + 1 + 1) (natA r)).heap[D]? = some (.deferred (some [])) ∧ rowN ((W.setRow (w.heap.size + 1 + 1 + 1 + 1) (natA r)).putObj D (.deferred none)) (w.heap.size + 1 + 1 + 1 + 1) = some (natA r) ∧
    Below w.heap.size w ((W.setRow (w.heap.size + 1 + 1 + 1 + 1) (natA r)).putObj D (.deferred none)) := by
  have hne : D ≠ w.heap.size + 1 + 1 + 1 + 1 := by
    intro e
    obtain ⟨t, ht⟩ := rowN_some hrr
    rw [← e, hK] at ht
    cases ht
  have hK' : (W.setRow (w.heap.size + 1 + 1 + 1 + 1) (natA r)).heap[D]? = some (.deferred (some [])) := by rw [setRow_other _ _ _ _ hne]; exact hK
  have hrow : rowN (W.setRow (w.heap.size + 1 + 1 + 1 + 1) (natA r)) (w.heap.size + 1 + 1 + 1 + 1) = some (natA r) := row_new hrr
  refine ⟨hK', row_kept hrow (grownBy_putObj' _ D (.deferred none)) (fun k e => by cases e; exact ⟨_, hK', rfl⟩), ?_⟩
  have hb := below_setRow' hB (show w.heap.size ≤ w.heap.size + 1 + 1 + 1 + 1 by omega) (natA r)
  exact hb.grown (grownBy_putObj' _ D (.deferred none)) hb.size (fun k e => by cases e; omega)

set_option maxRecDepth 100000 in
set_option maxHeartbeats 4000000 in
theorem ladder_in (K m : Nat) (op : Nat → Nat → Nat) (hJn : Joins K m op) (v u x : Nat) (hv : v < P64 ^ 16) (hu : u < m) (hx : x < m) (w : World) :
    Calls Try.prog 67 #[.agg (natA v), .agg (natA u), .agg (natA x), .func (.func K) #[.agg (natA m)] #[]] w fun e w' => (∃ xs : List (Bit v), AllBits v xs ∧ e = .returned (.agg (natA (dbl op ((ladS op u x xs).1 - 0) (ladS op u x xs).2)))) ∧ Below w.heap.size w w' := by
  have hE := hJn.enter
  have HJN := Lib.hid hJn
  have HV := Lib.hid hv
  have hd2 := dlen2_le hv
  have HBL := Lib.hid (fun W => bitLen_any v hv W)
  have HBD := Lib.hid (fun pre : List (Bit v) => ladS_bd (v := v) hJn.lt hu hx hd2 pre)
  obtain ⟨NB, hNB⟩ : ∃ NB, dlen 2 v = NB := ⟨_, rfl⟩
  rw [hNB] at HBL
  have HNB := Lib.hid hNB
  clear hJn hv hNB hd2
  refine (callsIn_wide (n := 5)).1 ?_
  refine callsIn_of_wp_marks Try.func67 rfl trivial ?_ rfl
  simp only [Try.ntmps67, List.size_toArray, List.length_cons, List.length_nil, Nat.reduceAdd, Nat.reduceSub, Array.replicate_succ, Array.replicate_zero, List.push_toArray, List.append_toArray, List.nil_append, List.cons_append]
  refine wpIn_wide.2 ?_
  go_upto_region 1 with fail
  have hN0 : rowN (((((w.alloc (.cells (natA v) 28)).alloc (.cells (natA u) 28)).alloc (.cells (natA x) 28)).alloc (.cells #[.func (.func K) #[.agg (natA m)] #[]] 53)).alloc (.cells (natA 0) 28)) w.heap.size = some (natA v) := by
    simp only [rowN_alloc, World.size_alloc, if_true]; (repeat rw [if_neg (by omega)])
  have hU0 : rowN (((((w.alloc (.cells (natA v) 28)).alloc (.cells (natA u) 28)).alloc (.cells (natA x) 28)).alloc (.cells #[.func (.func K) #[.agg (natA m)] #[]] 53)).alloc (.cells (natA 0) 28)) (w.heap.size + 1) = some (natA u) := by
    simp only [rowN_alloc, World.size_alloc, if_true]; (repeat rw [if_neg (by omega)])
  have hX0 : rowN (((((w.alloc (.cells (natA v) 28)).alloc (.cells (natA u) 28)).alloc (.cells (natA x) 28)).alloc (.cells #[.func (.func K) #[.agg (natA m)] #[]] 53)).alloc (.cells (natA 0) 28)) (w.heap.size + 1 + 1) = some (natA x) := by
    simp only [rowN_alloc, World.size_alloc, if_true]; (repeat rw [if_neg (by omega)])
  have hF0 : rowN (((((w.alloc (.cells (natA v) 28)).alloc (.cells (natA u) 28)).alloc (.cells (natA x) 28)).alloc (.cells #[.func (.func K) #[.agg (natA m)] #[]] 53)).alloc (.cells (natA 0) 28)) (w.heap.size + 1 + 1 + 1) = some #[.func (.func K) #[.agg (natA m)] #[]] := by
    simp only [rowN_alloc, World.size_alloc, if_true]; (repeat rw [if_neg (by omega)])
  have hR0 : rowN (((((w.alloc (.cells (natA v) 28)).alloc (.cells (natA u) 28)).alloc (.cells (natA x) 28)).alloc (.cells #[.func (.func K) #[.agg (natA m)] #[]] 53)).alloc (.cells (natA 0) 28)) (w.heap.size + 1 + 1 + 1 + 1) = some (natA 0) := by
    simp only [rowN_alloc, World.size_alloc, if_true]
  have hL0 : Below w.heap.size w (((((w.alloc (.cells (natA v) 28)).alloc (.cells (natA u) 28)).alloc (.cells (natA x) 28)).alloc (.cells #[.func (.func K) #[.agg (natA m)] #[]] 53)).alloc (.cells (natA 0) 28)) :=
    (((((Below.refl _ w).alloc (Nat.le_refl _) _).alloc (by simp) _).alloc (by simp <;> omega) _).alloc (by simp <;> omega) _).alloc (by simp <;> omega) _
  generalize ((((w.alloc (.cells (natA v) 28)).alloc (.cells (natA u) 28)).alloc (.cells (natA x) 28)).alloc (.cells #[.func (.func K) #[.agg (natA m)] #[]] 53)).alloc (.cells (natA 0) 28) = W5 at *
  have HN0 := Lib.hid (show rowN W5.drew w.heap.size = some (natA v) from hN0)
  have HU0 := Lib.hid (show rowN W5.drew (w.heap.size + 1) = some (natA u) from hU0)
  have HX0 := Lib.hid (show rowN W5.drew (w.heap.size + 1 + 1) = some (natA x) from hX0)
  have HF0 := Lib.hid (show rowN W5.drew (w.heap.size + 1 + 1 + 1) = some #[.func (.func K) #[.agg (natA m)] #[]] from hF0)
  have HR0 := Lib.hid (show rowN W5.drew (w.heap.size + 1 + 1 + 1 + 1) = some (natA 0) from hR0)
  have HL0 := Lib.hid (show Below w.heap.size w W5.drew from hL0.drew)
  clear hN0 hU0 hX0 hF0 hR0 hL0
  go_cut [9, 10] from 9 to 15 (fun s9 s10 wx => ∃ g9 g10 : Nat, s9 = .pointer (some ⟨g9, 0, none⟩) ∧ s10 = .pointer (some ⟨g10, 0, none⟩) ∧ g9 ≠ g10 ∧ w.heap.size + 1 + 1 + 1 + 1 < g9 ∧ w.heap.size + 1 + 1 + 1 + 1 < g10 ∧ rowN wx g9 = some (natA u) ∧ rowN wx g10 = some #[.int .i64 (NB : Nat)] ∧
    rowN wx w.heap.size = some (natA v) ∧ rowN wx (w.heap.size + 1 + 1) = some (natA x) ∧ rowN wx (w.heap.size + 1 + 1 + 1) = some #[.func (.func K) #[.agg (natA m)] #[]] ∧ rowN wx (w.heap.size + 1 + 1 + 1 + 1) = some (natA 0) ∧ Below w.heap.size w wx)
  case first =>
    refine wp_region_noPanic ?_
    refine wp_region_held_drew (S := fun W => rowN W w.heap.size = some (natA v) ∧ rowN W (w.heap.size + 1) = some (natA u) ∧ rowN W (w.heap.size + 1 + 1) = some (natA x) ∧ rowN W (w.heap.size + 1 + 1 + 1) = some #[.func (.func K) #[.agg (natA m)] #[]] ∧ rowN W (w.heap.size + 1 + 1 + 1 + 1) = some (natA 0)) (by kernel_rfl) ⟨HN0.out, HU0.out, HX0.out, HF0.out, HR0.out⟩ (fun hHeld0 => ?_)
    obtain ⟨x0, hx0⟩ : ∃ X, W5.drew = X := ⟨_, rfl⟩
    rw [hx0] at HN0 HU0 HX0 HF0 HR0 HL0 hHeld0 ⊢
    clear hx0
    refine wpAnyH_take (i := 0) (oi := { dst := some 13, op := Op.load 28 (Operand.tmp 5), type := 28, pos := "modulus.go:88", after := #[], guard := none }) (v := .agg (natA u)) rfl (by kernel_rfl) (by kernel_rfl) (by kernel_rfl) (fun _ _ _ h => h) (Or.inl ⟨by rfl, fun W hW => ?_⟩) hHeld0 ?_
    · (have hW1 := hW.2.1; clear hW; go_simp)
    try simp only [Act.put, List.setIfInBounds_toArray, List.set_cons_zero, List.set_cons_succ]
    refine wpAnyH_take (i := 1) (oi := { dst := some 14, op := Op.load 28 (Operand.tmp 4), type := 28, pos := "modulus.go:88", after := #[], guard := none }) (v := .agg (natA v)) rfl (by kernel_rfl) (by kernel_rfl) (by kernel_rfl) (fun _ _ _ h => h) (Or.inl ⟨by rfl, fun W hW => ?_⟩) hHeld0 ?_
    · (have hW1 := hW.1; clear hW; go_simp)
    try simp only [Act.put, List.setIfInBounds_toArray, List.set_cons_zero, List.set_cons_succ]
    refine wpAnyH_ready (rs := [2, 3, 4]) (by kernel_rfl) (by simp) ?_
    refine AllReadyH.cons (o := { dst := some 15, op := Op.call { callee := Callee.value (Operand.func 62), args := #[Operand.tmp 14], argTypes := #[28] }, type := 3, pos := "modulus.go:88", after := #[{ on := 1, ground := Ground.data }], guard := none }) rfl (fun K' hK => ?_) ?_
    · go_simp
      refine (HBL.out _).mono ?_
      rintro e x1 ⟨rfl, hb⟩
      have HN1 := Lib.hid (kept hb _ _ HN0.out)
      have HU1 := Lib.hid (kept hb _ _ HU0.out)
      have HX1 := Lib.hid (kept hb _ _ HX0.out)
      have HF1 := Lib.hid (kept hb _ _ HF0.out)
      have HR1 := Lib.hid (kept hb _ _ HR0.out)
      have HL1 := Lib.hid (HL0.out.trans (hb.mono HL0.out.size))
      clear hb
      refine hK.out _ _ ⟨HN1.out, HU1.out, HX1.out, HF1.out, HR1.out⟩ (fun hHeld1 => ?_)
      clear hK K'
      try simp only [Act.put, List.setIfInBounds_toArray, List.set_cons_zero, List.set_cons_succ]
      refine wpAnyH_ready (rs := [3, 4]) (by kernel_rfl) (by simp) ?_
      refine AllReadyH.cons (o := { dst := some 9, op := Op.alloc 28, type := 0, pos := "modulus.go:88", after := #[], guard := none }) rfl (fun K' hK => ?_) ?_
      · go_simp
        obtain ⟨x2, hx2⟩ : ∃ X, x1.alloc (.cells (natA 0) 28) = X := ⟨_, rfl⟩
        have hb : Below x1.heap.size x1 x2 := by rw [← hx2]; exact (Below.refl _ _).alloc (Nat.le_refl _) _
        have HN2 := Lib.hid (kept hb _ _ HN1.out)
        have HU2 := Lib.hid (kept hb _ _ HU1.out)
        have HX2 := Lib.hid (kept hb _ _ HX1.out)
        have HF2 := Lib.hid (kept hb _ _ HF1.out)
        have HR2 := Lib.hid (kept hb _ _ HR1.out)
        have HL2 := Lib.hid (HL1.out.trans (hb.mono HL1.out.size))
        have hnew : rowN x2 x1.heap.size = some (natA 0) := by rw [← hx2, rowN_alloc, if_pos rfl]
        have hlr := rowN_lt HR1.out
        rw [hx2]
        obtain ⟨g9, hg9⟩ : ∃ g, x1.heap.size = g := ⟨_, rfl⟩
        rw [hg9] at hnew hlr ⊢
        have HE92 := Lib.hid hnew
        have hlr9 : w.heap.size + 1 + 1 + 1 + 1 < g9 := hlr
        clear hb hnew hlr hg9 hx2
        refine hK.out _ _ ⟨HN2.out, HU2.out, HX2.out, HF2.out, HR2.out⟩ (fun hHeld2 => ?_)
        clear hK K'
        try simp only [Act.put, List.setIfInBounds_toArray, List.set_cons_zero, List.set_cons_succ]
        refine wpAnyH_ready (rs := [4]) (by kernel_rfl) (by simp) ?_
        refine AllReadyH.cons (o := { dst := some 10, op := Op.alloc 3, type := 0, pos := "modulus.go:88", after := #[], guard := none }) rfl (fun K' hK => ?_) AllReadyH.nil
        go_simp
        obtain ⟨x3, hx3⟩ : ∃ X, x2.alloc (.cells #[.int .i64 0] 3) = X := ⟨_, rfl⟩
        have hb : Below x2.heap.size x2 x3 := by rw [← hx3]; exact (Below.refl _ _).alloc (Nat.le_refl _) _
        have HN3 := Lib.hid (kept hb _ _ HN2.out)
        have HU3 := Lib.hid (kept hb _ _ HU2.out)
        have HX3 := Lib.hid (kept hb _ _ HX2.out)
        have HF3 := Lib.hid (kept hb _ _ HF2.out)
        have HR3 := Lib.hid (kept hb _ _ HR2.out)
        have HE93 := Lib.hid (kept hb _ _ HE92.out)
        have HL3 := Lib.hid (HL2.out.trans (hb.mono HL2.out.size))
        have hnew : rowN x3 x2.heap.size = some #[.int .i64 0] := by rw [← hx3, rowN_alloc, if_pos rfl]
        have hlr := rowN_lt HR2.out
        have hlE9 := rowN_lt HE92.out
        rw [hx3]
        obtain ⟨g10, hg10⟩ : ∃ g, x2.heap.size = g := ⟨_, rfl⟩
        rw [hg10] at hnew hlr ⊢
        rw [hg10] at hlE9
        have HE103 := Lib.hid hnew
        have hlr10 : w.heap.size + 1 + 1 + 1 + 1 < g10 := hlr
        have hne : g9 ≠ g10 := by omega
        clear hb hnew hlr hg10 hx3 hlE9
        refine hK.out _ _ ⟨HN3.out, HU3.out, HX3.out, HF3.out, HR3.out⟩ (fun hHeld3 => ?_)
        clear hK K'
        try simp only [Act.put, List.setIfInBounds_toArray, List.set_cons_zero, List.set_cons_succ]
        refine wpAnyH_ready (rs := [5]) (by kernel_rfl) (by simp) ?_
        refine AllReadyH.cons (o := { dst := none, op := Op.store 28 (Operand.tmp 9) (Operand.tmp 13), type := 0, pos := "modulus.go:88", after := #[{ on := 3, ground := Ground.data }, { on := 0, ground := Ground.data }, { on := 2, ground := Ground.chain }, { on := 0, ground := Ground.phase }, { on := 1, ground := Ground.textOnly Departure.lateStores }, { on := 2, ground := Ground.textOnly Departure.lateStoresUnsure }, { on := 3, ground := Ground.phase }, { on := 4, ground := Ground.phase }], guard := none }) rfl (fun K' hK => ?_) AllReadyH.nil
        have hrow := HE93.out
        go_simp
        obtain ⟨x4, hx4⟩ : ∃ X, x3.setRow g9 (natA u) = X := ⟨_, rfl⟩
        rw [hx4]
        have HN4 := Lib.hid (show rowN x4 w.heap.size = some (natA v) by rw [← hx4]; exact row_other HN3.out (by omega))
        have HU4 := Lib.hid (show rowN x4 (w.heap.size + 1) = some (natA u) by rw [← hx4]; exact row_other HU3.out (by omega))
        have HX4 := Lib.hid (show rowN x4 (w.heap.size + 1 + 1) = some (natA x) by rw [← hx4]; exact row_other HX3.out (by omega))
        have HF4 := Lib.hid (show rowN x4 (w.heap.size + 1 + 1 + 1) = some #[.func (.func K) #[.agg (natA m)] #[]] by rw [← hx4]; exact row_other HF3.out (by omega))
        have HR4 := Lib.hid (show rowN x4 (w.heap.size + 1 + 1 + 1 + 1) = some (natA 0) by rw [← hx4]; exact row_other HR3.out (by omega))
        have HE104 := Lib.hid (show rowN x4 g10 = some #[.int .i64 0] by rw [← hx4]; exact row_other HE103.out (by omega))
        have HE94 := Lib.hid (show rowN x4 g9 = some (natA u) by rw [← hx4]; exact row_new hrow)
        have HL4 := Lib.hid (show Below w.heap.size w x4 by rw [← hx4]; exact below_setRow' HL3.out (by omega) _)
        clear hrow hx4
        refine hK.out _ _ ⟨HN4.out, HU4.out, HX4.out, HF4.out, HR4.out⟩ (fun hHeld4 => ?_)
        clear hK K'
        try simp only [Act.put, List.setIfInBounds_toArray, List.set_cons_zero, List.set_cons_succ]
        refine wpAnyH_ready (rs := [6]) (by kernel_rfl) (by simp) ?_
        refine AllReadyH.cons (o := { dst := none, op := Op.store 3 (Operand.tmp 10) (Operand.tmp 15), type := 0, pos := "modulus.go:88", after := #[{ on := 4, ground := Ground.data }, { on := 2, ground := Ground.data }, { on := 5, ground := Ground.chain }, { on := 0, ground := Ground.phase }, { on := 1, ground := Ground.phase }, { on := 2, ground := Ground.phase }, { on := 3, ground := Ground.phase }, { on := 4, ground := Ground.phase }, { on := 5, ground := Ground.phase }], guard := none }) rfl (fun K' hK => ?_) AllReadyH.nil
        have hc10 := (rowN_cell HE104.out).1 0
        have hf10 := (rowN_cell HE104.out).2 0
        go_simp
        obtain ⟨x5, hx5⟩ : ∃ X, x4.setCell ⟨g10, 0, none⟩ (.int .i64 (NB : Nat)) = X := ⟨_, rfl⟩
        rw [hx5]
        have HN5 := Lib.hid (show rowN x5 w.heap.size = some (natA v) by rw [← hx5]; exact row_cell0 HN4.out (by omega))
        have HU5 := Lib.hid (show rowN x5 (w.heap.size + 1) = some (natA u) by rw [← hx5]; exact row_cell0 HU4.out (by omega))
        have HX5 := Lib.hid (show rowN x5 (w.heap.size + 1 + 1) = some (natA x) by rw [← hx5]; exact row_cell0 HX4.out (by omega))
        have HF5 := Lib.hid (show rowN x5 (w.heap.size + 1 + 1 + 1) = some #[.func (.func K) #[.agg (natA m)] #[]] by rw [← hx5]; exact row_cell0 HF4.out (by omega))
        have HR5 := Lib.hid (show rowN x5 (w.heap.size + 1 + 1 + 1 + 1) = some (natA 0) by rw [← hx5]; exact row_cell0 HR4.out (by omega))
        have HE95 := Lib.hid (show rowN x5 g9 = some (natA u) by rw [← hx5]; exact row_cell0 HE94.out (by omega))
        have HE105 := Lib.hid (show rowN x5 g10 = some #[.int .i64 (NB : Nat)] by rw [← hx5]; exact row_set0 HE104.out)
        have HL5 := Lib.hid (show Below w.heap.size w x5 by rw [← hx5]; exact HL4.out.setCell (p := ⟨g10, 0, none⟩) (by show w.heap.size ≤ g10; omega) _)
        clear hc10 hf10 hx5
        refine hK.out _ _ ⟨HN5.out, HU5.out, HX5.out, HF5.out, HR5.out⟩ (fun hHeld5 => ?_)
        clear hK K'
        try simp only [Act.put, List.setIfInBounds_toArray, List.set_cons_zero, List.set_cons_succ]
        refine wpAnyH_done (by kernel_rfl) ?_ _
        refine NoPanic.normal ?_
        go_wp2_with fail
        go_meet
        exact ⟨g9, g10, rfl, rfl, by omega, by omega, by omega, HE95.out, HE105.out, HN5.out, HX5.out, HF5.out, HR5.out, HL5.out⟩
      refine AllReadyH.cons (o := { dst := some 10, op := Op.alloc 3, type := 0, pos := "modulus.go:88", after := #[], guard := none }) rfl (fun K' hK => ?_) AllReadyH.nil
      go_simp
      obtain ⟨x2, hx2⟩ : ∃ X, x1.alloc (.cells #[.int .i64 0] 3) = X := ⟨_, rfl⟩
      have hb : Below x1.heap.size x1 x2 := by rw [← hx2]; exact (Below.refl _ _).alloc (Nat.le_refl _) _
      have HN2 := Lib.hid (kept hb _ _ HN1.out)
      have HU2 := Lib.hid (kept hb _ _ HU1.out)
      have HX2 := Lib.hid (kept hb _ _ HX1.out)
      have HF2 := Lib.hid (kept hb _ _ HF1.out)
      have HR2 := Lib.hid (kept hb _ _ HR1.out)
      have HL2 := Lib.hid (HL1.out.trans (hb.mono HL1.out.size))
      have hnew : rowN x2 x1.heap.size = some #[.int .i64 0] := by rw [← hx2, rowN_alloc, if_pos rfl]
      have hlr := rowN_lt HR1.out
      rw [hx2]
      obtain ⟨g10, hg10⟩ : ∃ g, x1.heap.size = g := ⟨_, rfl⟩
      rw [hg10] at hnew hlr ⊢
      have HE102 := Lib.hid hnew
      have hlr10 : w.heap.size + 1 + 1 + 1 + 1 < g10 := hlr
      clear hb hnew hlr hg10 hx2
      refine hK.out _ _ ⟨HN2.out, HU2.out, HX2.out, HF2.out, HR2.out⟩ (fun hHeld2 => ?_)
      clear hK K'
      try simp only [Act.put, List.setIfInBounds_toArray, List.set_cons_zero, List.set_cons_succ]
      refine wpAnyH_ready (rs := [3]) (by kernel_rfl) (by simp) ?_
      refine AllReadyH.cons (o := { dst := some 9, op := Op.alloc 28, type := 0, pos := "modulus.go:88", after := #[], guard := none }) rfl (fun K' hK => ?_) AllReadyH.nil
      go_simp
      obtain ⟨x3, hx3⟩ : ∃ X, x2.alloc (.cells (natA 0) 28) = X := ⟨_, rfl⟩
      have hb : Below x2.heap.size x2 x3 := by rw [← hx3]; exact (Below.refl _ _).alloc (Nat.le_refl _) _
      have HN3 := Lib.hid (kept hb _ _ HN2.out)
      have HU3 := Lib.hid (kept hb _ _ HU2.out)
      have HX3 := Lib.hid (kept hb _ _ HX2.out)
      have HF3 := Lib.hid (kept hb _ _ HF2.out)
      have HR3 := Lib.hid (kept hb _ _ HR2.out)
      have HE103 := Lib.hid (kept hb _ _ HE102.out)
      have HL3 := Lib.hid (HL2.out.trans (hb.mono HL2.out.size))
      have hnew : rowN x3 x2.heap.size = some (natA 0) := by rw [← hx3, rowN_alloc, if_pos rfl]
      have hlr := rowN_lt HR2.out
      have hlE10 := rowN_lt HE102.out
      rw [hx3]
      obtain ⟨g9, hg9⟩ : ∃ g, x2.heap.size = g := ⟨_, rfl⟩
      rw [hg9] at hnew hlr ⊢
      rw [hg9] at hlE10
      have HE93 := Lib.hid hnew
      have hlr9 : w.heap.size + 1 + 1 + 1 + 1 < g9 := hlr
      have hne : g9 ≠ g10 := by omega
      clear hb hnew hlr hg9 hx3 hlE10
      refine hK.out _ _ ⟨HN3.out, HU3.out, HX3.out, HF3.out, HR3.out⟩ (fun hHeld3 => ?_)
      clear hK K'
      try simp only [Act.put, List.setIfInBounds_toArray, List.set_cons_zero, List.set_cons_succ]
      refine wpAnyH_ready (rs := [5]) (by kernel_rfl) (by simp) ?_
      refine AllReadyH.cons (o := { dst := none, op := Op.store 28 (Operand.tmp 9) (Operand.tmp 13), type := 0, pos := "modulus.go:88", after := #[{ on := 3, ground := Ground.data }, { on := 0, ground := Ground.data }, { on := 2, ground := Ground.chain }, { on := 0, ground := Ground.phase }, { on := 1, ground := Ground.textOnly Departure.lateStores }, { on := 2, ground := Ground.textOnly Departure.lateStoresUnsure }, { on := 3, ground := Ground.phase }, { on := 4, ground := Ground.phase }], guard := none }) rfl (fun K' hK => ?_) AllReadyH.nil
      have hrow := HE93.out
      go_simp
      obtain ⟨x4, hx4⟩ : ∃ X, x3.setRow g9 (natA u) = X := ⟨_, rfl⟩
      rw [hx4]
      have HN4 := Lib.hid (show rowN x4 w.heap.size = some (natA v) by rw [← hx4]; exact row_other HN3.out (by omega))
      have HU4 := Lib.hid (show rowN x4 (w.heap.size + 1) = some (natA u) by rw [← hx4]; exact row_other HU3.out (by omega))
      have HX4 := Lib.hid (show rowN x4 (w.heap.size + 1 + 1) = some (natA x) by rw [← hx4]; exact row_other HX3.out (by omega))
      have HF4 := Lib.hid (show rowN x4 (w.heap.size + 1 + 1 + 1) = some #[.func (.func K) #[.agg (natA m)] #[]] by rw [← hx4]; exact row_other HF3.out (by omega))
      have HR4 := Lib.hid (show rowN x4 (w.heap.size + 1 + 1 + 1 + 1) = some (natA 0) by rw [← hx4]; exact row_other HR3.out (by omega))
      have HE104 := Lib.hid (show rowN x4 g10 = some #[.int .i64 0] by rw [← hx4]; exact row_other HE103.out (by omega))
      have HE94 := Lib.hid (show rowN x4 g9 = some (natA u) by rw [← hx4]; exact row_new hrow)
      have HL4 := Lib.hid (show Below w.heap.size w x4 by rw [← hx4]; exact below_setRow' HL3.out (by omega) _)
      clear hrow hx4
      refine hK.out _ _ ⟨HN4.out, HU4.out, HX4.out, HF4.out, HR4.out⟩ (fun hHeld4 => ?_)
      clear hK K'
      try simp only [Act.put, List.setIfInBounds_toArray, List.set_cons_zero, List.set_cons_succ]
      refine wpAnyH_ready (rs := [6]) (by kernel_rfl) (by simp) ?_
      refine AllReadyH.cons (o := { dst := none, op := Op.store 3 (Operand.tmp 10) (Operand.tmp 15), type := 0, pos := "modulus.go:88", after := #[{ on := 4, ground := Ground.data }, { on := 2, ground := Ground.data }, { on := 5, ground := Ground.chain }, { on := 0, ground := Ground.phase }, { on := 1, ground := Ground.phase }, { on := 2, ground := Ground.phase }, { on := 3, ground := Ground.phase }, { on := 4, ground := Ground.phase }, { on := 5, ground := Ground.phase }], guard := none }) rfl (fun K' hK => ?_) AllReadyH.nil
      have hc10 := (rowN_cell HE104.out).1 0
      have hf10 := (rowN_cell HE104.out).2 0
      go_simp
      obtain ⟨x5, hx5⟩ : ∃ X, x4.setCell ⟨g10, 0, none⟩ (.int .i64 (NB : Nat)) = X := ⟨_, rfl⟩
      rw [hx5]
      have HN5 := Lib.hid (show rowN x5 w.heap.size = some (natA v) by rw [← hx5]; exact row_cell0 HN4.out (by omega))
      have HU5 := Lib.hid (show rowN x5 (w.heap.size + 1) = some (natA u) by rw [← hx5]; exact row_cell0 HU4.out (by omega))
      have HX5 := Lib.hid (show rowN x5 (w.heap.size + 1 + 1) = some (natA x) by rw [← hx5]; exact row_cell0 HX4.out (by omega))
      have HF5 := Lib.hid (show rowN x5 (w.heap.size + 1 + 1 + 1) = some #[.func (.func K) #[.agg (natA m)] #[]] by rw [← hx5]; exact row_cell0 HF4.out (by omega))
      have HR5 := Lib.hid (show rowN x5 (w.heap.size + 1 + 1 + 1 + 1) = some (natA 0) by rw [← hx5]; exact row_cell0 HR4.out (by omega))
      have HE95 := Lib.hid (show rowN x5 g9 = some (natA u) by rw [← hx5]; exact row_cell0 HE94.out (by omega))
      have HE105 := Lib.hid (show rowN x5 g10 = some #[.int .i64 (NB : Nat)] by rw [← hx5]; exact row_set0 HE104.out)
      have HL5 := Lib.hid (show Below w.heap.size w x5 by rw [← hx5]; exact HL4.out.setCell (p := ⟨g10, 0, none⟩) (by show w.heap.size ≤ g10; omega) _)
      clear hc10 hf10 hx5
      refine hK.out _ _ ⟨HN5.out, HU5.out, HX5.out, HF5.out, HR5.out⟩ (fun hHeld5 => ?_)
      clear hK K'
      try simp only [Act.put, List.setIfInBounds_toArray, List.set_cons_zero, List.set_cons_succ]
      refine wpAnyH_done (by kernel_rfl) ?_ _
      refine NoPanic.normal ?_
      go_wp2_with fail
      go_meet
      exact ⟨g9, g10, rfl, rfl, by omega, by omega, by omega, HE95.out, HE105.out, HN5.out, HX5.out, HF5.out, HR5.out, HL5.out⟩
    refine AllReadyH.cons (o := { dst := some 9, op := Op.alloc 28, type := 0, pos := "modulus.go:88", after := #[], guard := none }) rfl (fun K' hK => ?_) ?_
    · go_simp
      obtain ⟨x1, hx1⟩ : ∃ X, x0.alloc (.cells (natA 0) 28) = X := ⟨_, rfl⟩
      have hb : Below x0.heap.size x0 x1 := by rw [← hx1]; exact (Below.refl _ _).alloc (Nat.le_refl _) _
      have HN1 := Lib.hid (kept hb _ _ HN0.out)
      have HU1 := Lib.hid (kept hb _ _ HU0.out)
      have HX1 := Lib.hid (kept hb _ _ HX0.out)
      have HF1 := Lib.hid (kept hb _ _ HF0.out)
      have HR1 := Lib.hid (kept hb _ _ HR0.out)
      have HL1 := Lib.hid (HL0.out.trans (hb.mono HL0.out.size))
      have hnew : rowN x1 x0.heap.size = some (natA 0) := by rw [← hx1, rowN_alloc, if_pos rfl]
      have hlr := rowN_lt HR0.out
      rw [hx1]
      obtain ⟨g9, hg9⟩ : ∃ g, x0.heap.size = g := ⟨_, rfl⟩
      rw [hg9] at hnew hlr ⊢
      have HE91 := Lib.hid hnew
      have hlr9 : w.heap.size + 1 + 1 + 1 + 1 < g9 := hlr
      clear hb hnew hlr hg9 hx1
      refine hK.out _ _ ⟨HN1.out, HU1.out, HX1.out, HF1.out, HR1.out⟩ (fun hHeld1 => ?_)
      clear hK K'
      try simp only [Act.put, List.setIfInBounds_toArray, List.set_cons_zero, List.set_cons_succ]
      refine wpAnyH_ready (rs := [2, 4]) (by kernel_rfl) (by simp) ?_
      refine AllReadyH.cons (o := { dst := some 15, op := Op.call { callee := Callee.value (Operand.func 62), args := #[Operand.tmp 14], argTypes := #[28] }, type := 3, pos := "modulus.go:88", after := #[{ on := 1, ground := Ground.data }], guard := none }) rfl (fun K' hK => ?_) ?_
      · go_simp
        refine (HBL.out _).mono ?_
        rintro e x2 ⟨rfl, hb⟩
        have HN2 := Lib.hid (kept hb _ _ HN1.out)
        have HU2 := Lib.hid (kept hb _ _ HU1.out)
        have HX2 := Lib.hid (kept hb _ _ HX1.out)
        have HF2 := Lib.hid (kept hb _ _ HF1.out)
        have HR2 := Lib.hid (kept hb _ _ HR1.out)
        have HE92 := Lib.hid (kept hb _ _ HE91.out)
        have HL2 := Lib.hid (HL1.out.trans (hb.mono HL1.out.size))
        clear hb
        refine hK.out _ _ ⟨HN2.out, HU2.out, HX2.out, HF2.out, HR2.out⟩ (fun hHeld2 => ?_)
        clear hK K'
        try simp only [Act.put, List.setIfInBounds_toArray, List.set_cons_zero, List.set_cons_succ]
        refine wpAnyH_ready (rs := [4]) (by kernel_rfl) (by simp) ?_
        refine AllReadyH.cons (o := { dst := some 10, op := Op.alloc 3, type := 0, pos := "modulus.go:88", after := #[], guard := none }) rfl (fun K' hK => ?_) AllReadyH.nil
        go_simp
        obtain ⟨x3, hx3⟩ : ∃ X, x2.alloc (.cells #[.int .i64 0] 3) = X := ⟨_, rfl⟩
        have hb : Below x2.heap.size x2 x3 := by rw [← hx3]; exact (Below.refl _ _).alloc (Nat.le_refl _) _
        have HN3 := Lib.hid (kept hb _ _ HN2.out)
        have HU3 := Lib.hid (kept hb _ _ HU2.out)
        have HX3 := Lib.hid (kept hb _ _ HX2.out)
        have HF3 := Lib.hid (kept hb _ _ HF2.out)
        have HR3 := Lib.hid (kept hb _ _ HR2.out)
        have HE93 := Lib.hid (kept hb _ _ HE92.out)
        have HL3 := Lib.hid (HL2.out.trans (hb.mono HL2.out.size))
        have hnew : rowN x3 x2.heap.size = some #[.int .i64 0] := by rw [← hx3, rowN_alloc, if_pos rfl]
        have hlr := rowN_lt HR2.out
        have hlE9 := rowN_lt HE92.out
        rw [hx3]
        obtain ⟨g10, hg10⟩ : ∃ g, x2.heap.size = g := ⟨_, rfl⟩
        rw [hg10] at hnew hlr ⊢
        rw [hg10] at hlE9
        have HE103 := Lib.hid hnew
        have hlr10 : w.heap.size + 1 + 1 + 1 + 1 < g10 := hlr
        have hne : g9 ≠ g10 := by omega
        clear hb hnew hlr hg10 hx3 hlE9
        refine hK.out _ _ ⟨HN3.out, HU3.out, HX3.out, HF3.out, HR3.out⟩ (fun hHeld3 => ?_)
        clear hK K'
        try simp only [Act.put, List.setIfInBounds_toArray, List.set_cons_zero, List.set_cons_succ]
        refine wpAnyH_ready (rs := [5]) (by kernel_rfl) (by simp) ?_
        refine AllReadyH.cons (o := { dst := none, op := Op.store 28 (Operand.tmp 9) (Operand.tmp 13), type := 0, pos := "modulus.go:88", after := #[{ on := 3, ground := Ground.data }, { on := 0, ground := Ground.data }, { on := 2, ground := Ground.chain }, { on := 0, ground := Ground.phase }, { on := 1, ground := Ground.textOnly Departure.lateStores }, { on := 2, ground := Ground.textOnly Departure.lateStoresUnsure }, { on := 3, ground := Ground.phase }, { on := 4, ground := Ground.phase }], guard := none }) rfl (fun K' hK => ?_) AllReadyH.nil
        have hrow := HE93.out
        go_simp
        obtain ⟨x4, hx4⟩ : ∃ X, x3.setRow g9 (natA u) = X := ⟨_, rfl⟩
        rw [hx4]
        have HN4 := Lib.hid (show rowN x4 w.heap.size = some (natA v) by rw [← hx4]; exact row_other HN3.out (by omega))
        have HU4 := Lib.hid (show rowN x4 (w.heap.size + 1) = some (natA u) by rw [← hx4]; exact row_other HU3.out (by omega))
        have HX4 := Lib.hid (show rowN x4 (w.heap.size + 1 + 1) = some (natA x) by rw [← hx4]; exact row_other HX3.out (by omega))
        have HF4 := Lib.hid (show rowN x4 (w.heap.size + 1 + 1 + 1) = some #[.func (.func K) #[.agg (natA m)] #[]] by rw [← hx4]; exact row_other HF3.out (by omega))
        have HR4 := Lib.hid (show rowN x4 (w.heap.size + 1 + 1 + 1 + 1) = some (natA 0) by rw [← hx4]; exact row_other HR3.out (by omega))
        have HE104 := Lib.hid (show rowN x4 g10 = some #[.int .i64 0] by rw [← hx4]; exact row_other HE103.out (by omega))
        have HE94 := Lib.hid (show rowN x4 g9 = some (natA u) by rw [← hx4]; exact row_new hrow)
        have HL4 := Lib.hid (show Below w.heap.size w x4 by rw [← hx4]; exact below_setRow' HL3.out (by omega) _)
        clear hrow hx4
        refine hK.out _ _ ⟨HN4.out, HU4.out, HX4.out, HF4.out, HR4.out⟩ (fun hHeld4 => ?_)
        clear hK K'
        try simp only [Act.put, List.setIfInBounds_toArray, List.set_cons_zero, List.set_cons_succ]
        refine wpAnyH_ready (rs := [6]) (by kernel_rfl) (by simp) ?_
        refine AllReadyH.cons (o := { dst := none, op := Op.store 3 (Operand.tmp 10) (Operand.tmp 15), type := 0, pos := "modulus.go:88", after := #[{ on := 4, ground := Ground.data }, { on := 2, ground := Ground.data }, { on := 5, ground := Ground.chain }, { on := 0, ground := Ground.phase }, { on := 1, ground := Ground.phase }, { on := 2, ground := Ground.phase }, { on := 3, ground := Ground.phase }, { on := 4, ground := Ground.phase }, { on := 5, ground := Ground.phase }], guard := none }) rfl (fun K' hK => ?_) AllReadyH.nil
        have hc10 := (rowN_cell HE104.out).1 0
        have hf10 := (rowN_cell HE104.out).2 0
        go_simp
        obtain ⟨x5, hx5⟩ : ∃ X, x4.setCell ⟨g10, 0, none⟩ (.int .i64 (NB : Nat)) = X := ⟨_, rfl⟩
        rw [hx5]
        have HN5 := Lib.hid (show rowN x5 w.heap.size = some (natA v) by rw [← hx5]; exact row_cell0 HN4.out (by omega))
        have HU5 := Lib.hid (show rowN x5 (w.heap.size + 1) = some (natA u) by rw [← hx5]; exact row_cell0 HU4.out (by omega))
        have HX5 := Lib.hid (show rowN x5 (w.heap.size + 1 + 1) = some (natA x) by rw [← hx5]; exact row_cell0 HX4.out (by omega))
        have HF5 := Lib.hid (show rowN x5 (w.heap.size + 1 + 1 + 1) = some #[.func (.func K) #[.agg (natA m)] #[]] by rw [← hx5]; exact row_cell0 HF4.out (by omega))
        have HR5 := Lib.hid (show rowN x5 (w.heap.size + 1 + 1 + 1 + 1) = some (natA 0) by rw [← hx5]; exact row_cell0 HR4.out (by omega))
        have HE95 := Lib.hid (show rowN x5 g9 = some (natA u) by rw [← hx5]; exact row_cell0 HE94.out (by omega))
        have HE105 := Lib.hid (show rowN x5 g10 = some #[.int .i64 (NB : Nat)] by rw [← hx5]; exact row_set0 HE104.out)
        have HL5 := Lib.hid (show Below w.heap.size w x5 by rw [← hx5]; exact HL4.out.setCell (p := ⟨g10, 0, none⟩) (by show w.heap.size ≤ g10; omega) _)
        clear hc10 hf10 hx5
        refine hK.out _ _ ⟨HN5.out, HU5.out, HX5.out, HF5.out, HR5.out⟩ (fun hHeld5 => ?_)
        clear hK K'
        try simp only [Act.put, List.setIfInBounds_toArray, List.set_cons_zero, List.set_cons_succ]
        refine wpAnyH_done (by kernel_rfl) ?_ _
        refine NoPanic.normal ?_
        go_wp2_with fail
        go_meet
        exact ⟨g9, g10, rfl, rfl, by omega, by omega, by omega, HE95.out, HE105.out, HN5.out, HX5.out, HF5.out, HR5.out, HL5.out⟩
      refine AllReadyH.cons (o := { dst := some 10, op := Op.alloc 3, type := 0, pos := "modulus.go:88", after := #[], guard := none }) rfl (fun K' hK => ?_) AllReadyH.nil
      go_simp
      obtain ⟨x2, hx2⟩ : ∃ X, x1.alloc (.cells #[.int .i64 0] 3) = X := ⟨_, rfl⟩
      have hb : Below x1.heap.size x1 x2 := by rw [← hx2]; exact (Below.refl _ _).alloc (Nat.le_refl _) _
      have HN2 := Lib.hid (kept hb _ _ HN1.out)
      have HU2 := Lib.hid (kept hb _ _ HU1.out)
      have HX2 := Lib.hid (kept hb _ _ HX1.out)
      have HF2 := Lib.hid (kept hb _ _ HF1.out)
      have HR2 := Lib.hid (kept hb _ _ HR1.out)
      have HE92 := Lib.hid (kept hb _ _ HE91.out)
      have HL2 := Lib.hid (HL1.out.trans (hb.mono HL1.out.size))
      have hnew : rowN x2 x1.heap.size = some #[.int .i64 0] := by rw [← hx2, rowN_alloc, if_pos rfl]
      have hlr := rowN_lt HR1.out
      have hlE9 := rowN_lt HE91.out
      rw [hx2]
      obtain ⟨g10, hg10⟩ : ∃ g, x1.heap.size = g := ⟨_, rfl⟩
      rw [hg10] at hnew hlr ⊢
      rw [hg10] at hlE9
      have HE102 := Lib.hid hnew
      have hlr10 : w.heap.size + 1 + 1 + 1 + 1 < g10 := hlr
      have hne : g9 ≠ g10 := by omega
      clear hb hnew hlr hg10 hx2 hlE9
      refine hK.out _ _ ⟨HN2.out, HU2.out, HX2.out, HF2.out, HR2.out⟩ (fun hHeld2 => ?_)
      clear hK K'
      try simp only [Act.put, List.setIfInBounds_toArray, List.set_cons_zero, List.set_cons_succ]
      refine wpAnyH_ready (rs := [2]) (by kernel_rfl) (by simp) ?_
      refine AllReadyH.cons (o := { dst := some 15, op := Op.call { callee := Callee.value (Operand.func 62), args := #[Operand.tmp 14], argTypes := #[28] }, type := 3, pos := "modulus.go:88", after := #[{ on := 1, ground := Ground.data }], guard := none }) rfl (fun K' hK => ?_) AllReadyH.nil
      go_simp
      refine (HBL.out _).mono ?_
      rintro e x3 ⟨rfl, hb⟩
      have HN3 := Lib.hid (kept hb _ _ HN2.out)
      have HU3 := Lib.hid (kept hb _ _ HU2.out)
      have HX3 := Lib.hid (kept hb _ _ HX2.out)
      have HF3 := Lib.hid (kept hb _ _ HF2.out)
      have HR3 := Lib.hid (kept hb _ _ HR2.out)
      have HE93 := Lib.hid (kept hb _ _ HE92.out)
      have HE103 := Lib.hid (kept hb _ _ HE102.out)
      have HL3 := Lib.hid (HL2.out.trans (hb.mono HL2.out.size))
      clear hb
      refine hK.out _ _ ⟨HN3.out, HU3.out, HX3.out, HF3.out, HR3.out⟩ (fun hHeld3 => ?_)
      clear hK K'
      try simp only [Act.put, List.setIfInBounds_toArray, List.set_cons_zero, List.set_cons_succ]
      refine wpAnyH_ready (rs := [5]) (by kernel_rfl) (by simp) ?_
      refine AllReadyH.cons (o := { dst := none, op := Op.store 28 (Operand.tmp 9) (Operand.tmp 13), type := 0, pos := "modulus.go:88", after := #[{ on := 3, ground := Ground.data }, { on := 0, ground := Ground.data }, { on := 2, ground := Ground.chain }, { on := 0, ground := Ground.phase }, { on := 1, ground := Ground.textOnly Departure.lateStores }, { on := 2, ground := Ground.textOnly Departure.lateStoresUnsure }, { on := 3, ground := Ground.phase }, { on := 4, ground := Ground.phase }], guard := none }) rfl (fun K' hK => ?_) AllReadyH.nil
      have hrow := HE93.out
      go_simp
      obtain ⟨x4, hx4⟩ : ∃ X, x3.setRow g9 (natA u) = X := ⟨_, rfl⟩
      rw [hx4]
      have HN4 := Lib.hid (show rowN x4 w.heap.size = some (natA v) by rw [← hx4]; exact row_other HN3.out (by omega))
      have HU4 := Lib.hid (show rowN x4 (w.heap.size + 1) = some (natA u) by rw [← hx4]; exact row_other HU3.out (by omega))
      have HX4 := Lib.hid (show rowN x4 (w.heap.size + 1 + 1) = some (natA x) by rw [← hx4]; exact row_other HX3.out (by omega))
      have HF4 := Lib.hid (show rowN x4 (w.heap.size + 1 + 1 + 1) = some #[.func (.func K) #[.agg (natA m)] #[]] by rw [← hx4]; exact row_other HF3.out (by omega))
      have HR4 := Lib.hid (show rowN x4 (w.heap.size + 1 + 1 + 1 + 1) = some (natA 0) by rw [← hx4]; exact row_other HR3.out (by omega))
      have HE104 := Lib.hid (show rowN x4 g10 = some #[.int .i64 0] by rw [← hx4]; exact row_other HE103.out (by omega))
      have HE94 := Lib.hid (show rowN x4 g9 = some (natA u) by rw [← hx4]; exact row_new hrow)
      have HL4 := Lib.hid (show Below w.heap.size w x4 by rw [← hx4]; exact below_setRow' HL3.out (by omega) _)
      clear hrow hx4
      refine hK.out _ _ ⟨HN4.out, HU4.out, HX4.out, HF4.out, HR4.out⟩ (fun hHeld4 => ?_)
      clear hK K'
      try simp only [Act.put, List.setIfInBounds_toArray, List.set_cons_zero, List.set_cons_succ]
      refine wpAnyH_ready (rs := [6]) (by kernel_rfl) (by simp) ?_
      refine AllReadyH.cons (o := { dst := none, op := Op.store 3 (Operand.tmp 10) (Operand.tmp 15), type := 0, pos := "modulus.go:88", after := #[{ on := 4, ground := Ground.data }, { on := 2, ground := Ground.data }, { on := 5, ground := Ground.chain }, { on := 0, ground := Ground.phase }, { on := 1, ground := Ground.phase }, { on := 2, ground := Ground.phase }, { on := 3, ground := Ground.phase }, { on := 4, ground := Ground.phase }, { on := 5, ground := Ground.phase }], guard := none }) rfl (fun K' hK => ?_) AllReadyH.nil
      have hc10 := (rowN_cell HE104.out).1 0
      have hf10 := (rowN_cell HE104.out).2 0
      go_simp
      obtain ⟨x5, hx5⟩ : ∃ X, x4.setCell ⟨g10, 0, none⟩ (.int .i64 (NB : Nat)) = X := ⟨_, rfl⟩
      rw [hx5]
      have HN5 := Lib.hid (show rowN x5 w.heap.size = some (natA v) by rw [← hx5]; exact row_cell0 HN4.out (by omega))
      have HU5 := Lib.hid (show rowN x5 (w.heap.size + 1) = some (natA u) by rw [← hx5]; exact row_cell0 HU4.out (by omega))
      have HX5 := Lib.hid (show rowN x5 (w.heap.size + 1 + 1) = some (natA x) by rw [← hx5]; exact row_cell0 HX4.out (by omega))
      have HF5 := Lib.hid (show rowN x5 (w.heap.size + 1 + 1 + 1) = some #[.func (.func K) #[.agg (natA m)] #[]] by rw [← hx5]; exact row_cell0 HF4.out (by omega))
      have HR5 := Lib.hid (show rowN x5 (w.heap.size + 1 + 1 + 1 + 1) = some (natA 0) by rw [← hx5]; exact row_cell0 HR4.out (by omega))
      have HE95 := Lib.hid (show rowN x5 g9 = some (natA u) by rw [← hx5]; exact row_cell0 HE94.out (by omega))
      have HE105 := Lib.hid (show rowN x5 g10 = some #[.int .i64 (NB : Nat)] by rw [← hx5]; exact row_set0 HE104.out)
      have HL5 := Lib.hid (show Below w.heap.size w x5 by rw [← hx5]; exact HL4.out.setCell (p := ⟨g10, 0, none⟩) (by show w.heap.size ≤ g10; omega) _)
      clear hc10 hf10 hx5
      refine hK.out _ _ ⟨HN5.out, HU5.out, HX5.out, HF5.out, HR5.out⟩ (fun hHeld5 => ?_)
      clear hK K'
      try simp only [Act.put, List.setIfInBounds_toArray, List.set_cons_zero, List.set_cons_succ]
      refine wpAnyH_done (by kernel_rfl) ?_ _
      refine NoPanic.normal ?_
      go_wp2_with fail
      go_meet
      exact ⟨g9, g10, rfl, rfl, by omega, by omega, by omega, HE95.out, HE105.out, HN5.out, HX5.out, HF5.out, HR5.out, HL5.out⟩
    refine AllReadyH.cons (o := { dst := some 10, op := Op.alloc 3, type := 0, pos := "modulus.go:88", after := #[], guard := none }) rfl (fun K' hK => ?_) AllReadyH.nil
    go_simp
    obtain ⟨x1, hx1⟩ : ∃ X, x0.alloc (.cells #[.int .i64 0] 3) = X := ⟨_, rfl⟩
    have hb : Below x0.heap.size x0 x1 := by rw [← hx1]; exact (Below.refl _ _).alloc (Nat.le_refl _) _
    have HN1 := Lib.hid (kept hb _ _ HN0.out)
    have HU1 := Lib.hid (kept hb _ _ HU0.out)
    have HX1 := Lib.hid (kept hb _ _ HX0.out)
    have HF1 := Lib.hid (kept hb _ _ HF0.out)
    have HR1 := Lib.hid (kept hb _ _ HR0.out)
    have HL1 := Lib.hid (HL0.out.trans (hb.mono HL0.out.size))
    have hnew : rowN x1 x0.heap.size = some #[.int .i64 0] := by rw [← hx1, rowN_alloc, if_pos rfl]
    have hlr := rowN_lt HR0.out
    rw [hx1]
    obtain ⟨g10, hg10⟩ : ∃ g, x0.heap.size = g := ⟨_, rfl⟩
    rw [hg10] at hnew hlr ⊢
    have HE101 := Lib.hid hnew
    have hlr10 : w.heap.size + 1 + 1 + 1 + 1 < g10 := hlr
    clear hb hnew hlr hg10 hx1
    refine hK.out _ _ ⟨HN1.out, HU1.out, HX1.out, HF1.out, HR1.out⟩ (fun hHeld1 => ?_)
    clear hK K'
    try simp only [Act.put, List.setIfInBounds_toArray, List.set_cons_zero, List.set_cons_succ]
    refine wpAnyH_ready (rs := [2, 3]) (by kernel_rfl) (by simp) ?_
    refine AllReadyH.cons (o := { dst := some 15, op := Op.call { callee := Callee.value (Operand.func 62), args := #[Operand.tmp 14], argTypes := #[28] }, type := 3, pos := "modulus.go:88", after := #[{ on := 1, ground := Ground.data }], guard := none }) rfl (fun K' hK => ?_) ?_
    · go_simp
      refine (HBL.out _).mono ?_
      rintro e x2 ⟨rfl, hb⟩
      have HN2 := Lib.hid (kept hb _ _ HN1.out)
      have HU2 := Lib.hid (kept hb _ _ HU1.out)
      have HX2 := Lib.hid (kept hb _ _ HX1.out)
      have HF2 := Lib.hid (kept hb _ _ HF1.out)
      have HR2 := Lib.hid (kept hb _ _ HR1.out)
      have HE102 := Lib.hid (kept hb _ _ HE101.out)
      have HL2 := Lib.hid (HL1.out.trans (hb.mono HL1.out.size))
      clear hb
      refine hK.out _ _ ⟨HN2.out, HU2.out, HX2.out, HF2.out, HR2.out⟩ (fun hHeld2 => ?_)
      clear hK K'
      try simp only [Act.put, List.setIfInBounds_toArray, List.set_cons_zero, List.set_cons_succ]
      refine wpAnyH_ready (rs := [3]) (by kernel_rfl) (by simp) ?_
      refine AllReadyH.cons (o := { dst := some 9, op := Op.alloc 28, type := 0, pos := "modulus.go:88", after := #[], guard := none }) rfl (fun K' hK => ?_) AllReadyH.nil
      go_simp
      obtain ⟨x3, hx3⟩ : ∃ X, x2.alloc (.cells (natA 0) 28) = X := ⟨_, rfl⟩
      have hb : Below x2.heap.size x2 x3 := by rw [← hx3]; exact (Below.refl _ _).alloc (Nat.le_refl _) _
      have HN3 := Lib.hid (kept hb _ _ HN2.out)
      have HU3 := Lib.hid (kept hb _ _ HU2.out)
      have HX3 := Lib.hid (kept hb _ _ HX2.out)
      have HF3 := Lib.hid (kept hb _ _ HF2.out)
      have HR3 := Lib.hid (kept hb _ _ HR2.out)
      have HE103 := Lib.hid (kept hb _ _ HE102.out)
      have HL3 := Lib.hid (HL2.out.trans (hb.mono HL2.out.size))
      have hnew : rowN x3 x2.heap.size = some (natA 0) := by rw [← hx3, rowN_alloc, if_pos rfl]
      have hlr := rowN_lt HR2.out
      have hlE10 := rowN_lt HE102.out
      rw [hx3]
      obtain ⟨g9, hg9⟩ : ∃ g, x2.heap.size = g := ⟨_, rfl⟩
      rw [hg9] at hnew hlr ⊢
      rw [hg9] at hlE10
      have HE93 := Lib.hid hnew
      have hlr9 : w.heap.size + 1 + 1 + 1 + 1 < g9 := hlr
      have hne : g9 ≠ g10 := by omega
      clear hb hnew hlr hg9 hx3 hlE10
      refine hK.out _ _ ⟨HN3.out, HU3.out, HX3.out, HF3.out, HR3.out⟩ (fun hHeld3 => ?_)
      clear hK K'
      try simp only [Act.put, List.setIfInBounds_toArray, List.set_cons_zero, List.set_cons_succ]
      refine wpAnyH_ready (rs := [5]) (by kernel_rfl) (by simp) ?_
      refine AllReadyH.cons (o := { dst := none, op := Op.store 28 (Operand.tmp 9) (Operand.tmp 13), type := 0, pos := "modulus.go:88", after := #[{ on := 3, ground := Ground.data }, { on := 0, ground := Ground.data }, { on := 2, ground := Ground.chain }, { on := 0, ground := Ground.phase }, { on := 1, ground := Ground.textOnly Departure.lateStores }, { on := 2, ground := Ground.textOnly Departure.lateStoresUnsure }, { on := 3, ground := Ground.phase }, { on := 4, ground := Ground.phase }], guard := none }) rfl (fun K' hK => ?_) AllReadyH.nil
      have hrow := HE93.out
      go_simp
      obtain ⟨x4, hx4⟩ : ∃ X, x3.setRow g9 (natA u) = X := ⟨_, rfl⟩
      rw [hx4]
      have HN4 := Lib.hid (show rowN x4 w.heap.size = some (natA v) by rw [← hx4]; exact row_other HN3.out (by omega))
      have HU4 := Lib.hid (show rowN x4 (w.heap.size + 1) = some (natA u) by rw [← hx4]; exact row_other HU3.out (by omega))
      have HX4 := Lib.hid (show rowN x4 (w.heap.size + 1 + 1) = some (natA x) by rw [← hx4]; exact row_other HX3.out (by omega))
      have HF4 := Lib.hid (show rowN x4 (w.heap.size + 1 + 1 + 1) = some #[.func (.func K) #[.agg (natA m)] #[]] by rw [← hx4]; exact row_other HF3.out (by omega))
      have HR4 := Lib.hid (show rowN x4 (w.heap.size + 1 + 1 + 1 + 1) = some (natA 0) by rw [← hx4]; exact row_other HR3.out (by omega))
      have HE104 := Lib.hid (show rowN x4 g10 = some #[.int .i64 0] by rw [← hx4]; exact row_other HE103.out (by omega))
      have HE94 := Lib.hid (show rowN x4 g9 = some (natA u) by rw [← hx4]; exact row_new hrow)
      have HL4 := Lib.hid (show Below w.heap.size w x4 by rw [← hx4]; exact below_setRow' HL3.out (by omega) _)
      clear hrow hx4
      refine hK.out _ _ ⟨HN4.out, HU4.out, HX4.out, HF4.out, HR4.out⟩ (fun hHeld4 => ?_)
      clear hK K'
      try simp only [Act.put, List.setIfInBounds_toArray, List.set_cons_zero, List.set_cons_succ]
      refine wpAnyH_ready (rs := [6]) (by kernel_rfl) (by simp) ?_
      refine AllReadyH.cons (o := { dst := none, op := Op.store 3 (Operand.tmp 10) (Operand.tmp 15), type := 0, pos := "modulus.go:88", after := #[{ on := 4, ground := Ground.data }, { on := 2, ground := Ground.data }, { on := 5, ground := Ground.chain }, { on := 0, ground := Ground.phase }, { on := 1, ground := Ground.phase }, { on := 2, ground := Ground.phase }, { on := 3, ground := Ground.phase }, { on := 4, ground := Ground.phase }, { on := 5, ground := Ground.phase }], guard := none }) rfl (fun K' hK => ?_) AllReadyH.nil
      have hc10 := (rowN_cell HE104.out).1 0
      have hf10 := (rowN_cell HE104.out).2 0
      go_simp
      obtain ⟨x5, hx5⟩ : ∃ X, x4.setCell ⟨g10, 0, none⟩ (.int .i64 (NB : Nat)) = X := ⟨_, rfl⟩
      rw [hx5]
      have HN5 := Lib.hid (show rowN x5 w.heap.size = some (natA v) by rw [← hx5]; exact row_cell0 HN4.out (by omega))
      have HU5 := Lib.hid (show rowN x5 (w.heap.size + 1) = some (natA u) by rw [← hx5]; exact row_cell0 HU4.out (by omega))
      have HX5 := Lib.hid (show rowN x5 (w.heap.size + 1 + 1) = some (natA x) by rw [← hx5]; exact row_cell0 HX4.out (by omega))
      have HF5 := Lib.hid (show rowN x5 (w.heap.size + 1 + 1 + 1) = some #[.func (.func K) #[.agg (natA m)] #[]] by rw [← hx5]; exact row_cell0 HF4.out (by omega))
      have HR5 := Lib.hid (show rowN x5 (w.heap.size + 1 + 1 + 1 + 1) = some (natA 0) by rw [← hx5]; exact row_cell0 HR4.out (by omega))
      have HE95 := Lib.hid (show rowN x5 g9 = some (natA u) by rw [← hx5]; exact row_cell0 HE94.out (by omega))
      have HE105 := Lib.hid (show rowN x5 g10 = some #[.int .i64 (NB : Nat)] by rw [← hx5]; exact row_set0 HE104.out)
      have HL5 := Lib.hid (show Below w.heap.size w x5 by rw [← hx5]; exact HL4.out.setCell (p := ⟨g10, 0, none⟩) (by show w.heap.size ≤ g10; omega) _)
      clear hc10 hf10 hx5
      refine hK.out _ _ ⟨HN5.out, HU5.out, HX5.out, HF5.out, HR5.out⟩ (fun hHeld5 => ?_)
      clear hK K'
      try simp only [Act.put, List.setIfInBounds_toArray, List.set_cons_zero, List.set_cons_succ]
      refine wpAnyH_done (by kernel_rfl) ?_ _
      refine NoPanic.normal ?_
      go_wp2_with fail
      go_meet
      exact ⟨g9, g10, rfl, rfl, by omega, by omega, by omega, HE95.out, HE105.out, HN5.out, HX5.out, HF5.out, HR5.out, HL5.out⟩
    refine AllReadyH.cons (o := { dst := some 9, op := Op.alloc 28, type := 0, pos := "modulus.go:88", after := #[], guard := none }) rfl (fun K' hK => ?_) AllReadyH.nil
    go_simp
    obtain ⟨x2, hx2⟩ : ∃ X, x1.alloc (.cells (natA 0) 28) = X := ⟨_, rfl⟩
    have hb : Below x1.heap.size x1 x2 := by rw [← hx2]; exact (Below.refl _ _).alloc (Nat.le_refl _) _
    have HN2 := Lib.hid (kept hb _ _ HN1.out)
    have HU2 := Lib.hid (kept hb _ _ HU1.out)
    have HX2 := Lib.hid (kept hb _ _ HX1.out)
    have HF2 := Lib.hid (kept hb _ _ HF1.out)
    have HR2 := Lib.hid (kept hb _ _ HR1.out)
    have HE102 := Lib.hid (kept hb _ _ HE101.out)
    have HL2 := Lib.hid (HL1.out.trans (hb.mono HL1.out.size))
    have hnew : rowN x2 x1.heap.size = some (natA 0) := by rw [← hx2, rowN_alloc, if_pos rfl]
    have hlr := rowN_lt HR1.out
    have hlE10 := rowN_lt HE101.out
    rw [hx2]
    obtain ⟨g9, hg9⟩ : ∃ g, x1.heap.size = g := ⟨_, rfl⟩
    rw [hg9] at hnew hlr ⊢
    rw [hg9] at hlE10
    have HE92 := Lib.hid hnew
    have hlr9 : w.heap.size + 1 + 1 + 1 + 1 < g9 := hlr
    have hne : g9 ≠ g10 := by omega
    clear hb hnew hlr hg9 hx2 hlE10
    refine hK.out _ _ ⟨HN2.out, HU2.out, HX2.out, HF2.out, HR2.out⟩ (fun hHeld2 => ?_)
    clear hK K'
    try simp only [Act.put, List.setIfInBounds_toArray, List.set_cons_zero, List.set_cons_succ]
    refine wpAnyH_ready (rs := [2]) (by kernel_rfl) (by simp) ?_
    refine AllReadyH.cons (o := { dst := some 15, op := Op.call { callee := Callee.value (Operand.func 62), args := #[Operand.tmp 14], argTypes := #[28] }, type := 3, pos := "modulus.go:88", after := #[{ on := 1, ground := Ground.data }], guard := none }) rfl (fun K' hK => ?_) AllReadyH.nil
    go_simp
    refine (HBL.out _).mono ?_
    rintro e x3 ⟨rfl, hb⟩
    have HN3 := Lib.hid (kept hb _ _ HN2.out)
    have HU3 := Lib.hid (kept hb _ _ HU2.out)
    have HX3 := Lib.hid (kept hb _ _ HX2.out)
    have HF3 := Lib.hid (kept hb _ _ HF2.out)
    have HR3 := Lib.hid (kept hb _ _ HR2.out)
    have HE103 := Lib.hid (kept hb _ _ HE102.out)
    have HE93 := Lib.hid (kept hb _ _ HE92.out)
    have HL3 := Lib.hid (HL2.out.trans (hb.mono HL2.out.size))
    clear hb
    refine hK.out _ _ ⟨HN3.out, HU3.out, HX3.out, HF3.out, HR3.out⟩ (fun hHeld3 => ?_)
    clear hK K'
    try simp only [Act.put, List.setIfInBounds_toArray, List.set_cons_zero, List.set_cons_succ]
    refine wpAnyH_ready (rs := [5]) (by kernel_rfl) (by simp) ?_
    refine AllReadyH.cons (o := { dst := none, op := Op.store 28 (Operand.tmp 9) (Operand.tmp 13), type := 0, pos := "modulus.go:88", after := #[{ on := 3, ground := Ground.data }, { on := 0, ground := Ground.data }, { on := 2, ground := Ground.chain }, { on := 0, ground := Ground.phase }, { on := 1, ground := Ground.textOnly Departure.lateStores }, { on := 2, ground := Ground.textOnly Departure.lateStoresUnsure }, { on := 3, ground := Ground.phase }, { on := 4, ground := Ground.phase }], guard := none }) rfl (fun K' hK => ?_) AllReadyH.nil
    have hrow := HE93.out
    go_simp
    obtain ⟨x4, hx4⟩ : ∃ X, x3.setRow g9 (natA u) = X := ⟨_, rfl⟩
    rw [hx4]
    have HN4 := Lib.hid (show rowN x4 w.heap.size = some (natA v) by rw [← hx4]; exact row_other HN3.out (by omega))
    have HU4 := Lib.hid (show rowN x4 (w.heap.size + 1) = some (natA u) by rw [← hx4]; exact row_other HU3.out (by omega))
    have HX4 := Lib.hid (show rowN x4 (w.heap.size + 1 + 1) = some (natA x) by rw [← hx4]; exact row_other HX3.out (by omega))
    have HF4 := Lib.hid (show rowN x4 (w.heap.size + 1 + 1 + 1) = some #[.func (.func K) #[.agg (natA m)] #[]] by rw [← hx4]; exact row_other HF3.out (by omega))
    have HR4 := Lib.hid (show rowN x4 (w.heap.size + 1 + 1 + 1 + 1) = some (natA 0) by rw [← hx4]; exact row_other HR3.out (by omega))
    have HE104 := Lib.hid (show rowN x4 g10 = some #[.int .i64 0] by rw [← hx4]; exact row_other HE103.out (by omega))
    have HE94 := Lib.hid (show rowN x4 g9 = some (natA u) by rw [← hx4]; exact row_new hrow)
    have HL4 := Lib.hid (show Below w.heap.size w x4 by rw [← hx4]; exact below_setRow' HL3.out (by omega) _)
    clear hrow hx4
    refine hK.out _ _ ⟨HN4.out, HU4.out, HX4.out, HF4.out, HR4.out⟩ (fun hHeld4 => ?_)
    clear hK K'
    try simp only [Act.put, List.setIfInBounds_toArray, List.set_cons_zero, List.set_cons_succ]
    refine wpAnyH_ready (rs := [6]) (by kernel_rfl) (by simp) ?_
    refine AllReadyH.cons (o := { dst := none, op := Op.store 3 (Operand.tmp 10) (Operand.tmp 15), type := 0, pos := "modulus.go:88", after := #[{ on := 4, ground := Ground.data }, { on := 2, ground := Ground.data }, { on := 5, ground := Ground.chain }, { on := 0, ground := Ground.phase }, { on := 1, ground := Ground.phase }, { on := 2, ground := Ground.phase }, { on := 3, ground := Ground.phase }, { on := 4, ground := Ground.phase }, { on := 5, ground := Ground.phase }], guard := none }) rfl (fun K' hK => ?_) AllReadyH.nil
    have hc10 := (rowN_cell HE104.out).1 0
    have hf10 := (rowN_cell HE104.out).2 0
    go_simp
    obtain ⟨x5, hx5⟩ : ∃ X, x4.setCell ⟨g10, 0, none⟩ (.int .i64 (NB : Nat)) = X := ⟨_, rfl⟩
    rw [hx5]
    have HN5 := Lib.hid (show rowN x5 w.heap.size = some (natA v) by rw [← hx5]; exact row_cell0 HN4.out (by omega))
    have HU5 := Lib.hid (show rowN x5 (w.heap.size + 1) = some (natA u) by rw [← hx5]; exact row_cell0 HU4.out (by omega))
    have HX5 := Lib.hid (show rowN x5 (w.heap.size + 1 + 1) = some (natA x) by rw [← hx5]; exact row_cell0 HX4.out (by omega))
    have HF5 := Lib.hid (show rowN x5 (w.heap.size + 1 + 1 + 1) = some #[.func (.func K) #[.agg (natA m)] #[]] by rw [← hx5]; exact row_cell0 HF4.out (by omega))
    have HR5 := Lib.hid (show rowN x5 (w.heap.size + 1 + 1 + 1 + 1) = some (natA 0) by rw [← hx5]; exact row_cell0 HR4.out (by omega))
    have HE95 := Lib.hid (show rowN x5 g9 = some (natA u) by rw [← hx5]; exact row_cell0 HE94.out (by omega))
    have HE105 := Lib.hid (show rowN x5 g10 = some #[.int .i64 (NB : Nat)] by rw [← hx5]; exact row_set0 HE104.out)
    have HL5 := Lib.hid (show Below w.heap.size w x5 by rw [← hx5]; exact HL4.out.setCell (p := ⟨g10, 0, none⟩) (by show w.heap.size ≤ g10; omega) _)
    clear hc10 hf10 hx5
    refine hK.out _ _ ⟨HN5.out, HU5.out, HX5.out, HF5.out, HR5.out⟩ (fun hHeld5 => ?_)
    clear hK K'
    try simp only [Act.put, List.setIfInBounds_toArray, List.set_cons_zero, List.set_cons_succ]
    refine wpAnyH_done (by kernel_rfl) ?_ _
    refine NoPanic.normal ?_
    go_wp2_with fail
    go_meet
    exact ⟨g9, g10, rfl, rfl, by omega, by omega, by omega, HE95.out, HE105.out, HN5.out, HX5.out, HF5.out, HR5.out, HL5.out⟩
  case rest =>
    obtain ⟨g9, g10, rfl, rfl, hne, l9, l10, h9, h10, hN, hX, hF, hR, hB⟩ := hcut
    clear HN0 HU0 HX0 HF0 HR0 HL0
    have HB := Lib.hid hB
    have lr9 := rowN_lt h9
    have lr10 := rowN_lt h10
    clear hB
    have h11 : rowN (wc.alloc (.cells #[.func (.func 82) #[] #[.pointer (some ⟨g10, 0, none⟩), .pointer (some ⟨w.heap.size + 1 + 1 + 1, 0, none⟩), .pointer (some ⟨g9, 0, none⟩)]] 100)) wc.heap.size = some #[.func (.func 82) #[] #[.pointer (some ⟨g10, 0, none⟩), .pointer (some ⟨w.heap.size + 1 + 1 + 1, 0, none⟩), .pointer (some ⟨g9, 0, none⟩)]] := by rw [rowN_alloc, if_pos rfl]
    have hb11 : Below wc.heap.size wc (wc.alloc (.cells #[.func (.func 82) #[] #[.pointer (some ⟨g10, 0, none⟩), .pointer (some ⟨w.heap.size + 1 + 1 + 1, 0, none⟩), .pointer (some ⟨g9, 0, none⟩)]] 100)) := (Below.refl _ _).alloc (Nat.le_refl _) _
    have H11 := Lib.hid h11
    have HB11 := Lib.hid hb11
    clear h11 hb11
    have hN' := kept HB11.out _ _ hN
    have HN' := Lib.hid hN'
    clear hN'
    go_wp2_with fail
    refine (ones_any v _).mono ?_
    rintro e w6 ⟨rfl, rfl⟩
    have h11 := H11.out
    replace h9 := kept HB11.out _ _ h9
    replace h10 := kept HB11.out _ _ h10
    replace hX := kept HB11.out _ _ hX
    replace hF := kept HB11.out _ _ hF
    replace hR := kept HB11.out _ _ hR
    have HB2 := Lib.hid (HB.out.trans (HB11.out.mono HB.out.size))
    clear H11 HB11 HB hN
    obtain ⟨g11, hg11⟩ : ∃ g, wc.heap.size = g := ⟨_, rfl⟩
    rw [hg11] at h11 lr9 lr10 ⊢
    generalize wc.alloc (.cells #[.func (.func 82) #[] #[.pointer (some ⟨g10, 0, none⟩), .pointer (some ⟨w.heap.size + 1 + 1 + 1, 0, none⟩), .pointer (some ⟨g9, 0, none⟩)]] 100) = W6 at *
    clear hg11 HN'
    have l11 := rowN_lt h11
    have hS : rowN (W6.alloc (.cells (natA v) 28)) W6.heap.size = some (natA v) := by rw [rowN_alloc, if_pos rfl]
    have hb7 : Below W6.heap.size W6 (W6.alloc (.cells (natA v) 28)) := (Below.refl _ _).alloc (Nat.le_refl _) _
    have HB7 := Lib.hid (HB2.out.trans (hb7.mono HB2.out.size))
    have HI0 := Lib.hid (show LadI K m op u x (v := v) g9 g10 g11 W6.heap.size w [] _ from ⟨⟨by rw [ladS_nil, HNB.out]; exact kept hb7 _ _ h10, kept hb7 _ _ h9, kept hb7 _ _ hX, kept hb7 _ _ hF, kept hb7 _ _ hR, kept hb7 _ _ h11, hS⟩, HB7.out⟩)
    have HS7 := Lib.hid hS
    have lw := HB7.out.size
    clear hb7 hS h9 h10 hX hF hR h11 HB2
    go_wp2_with fail
    refine (wpIn_wide (n := 5)).1 ?_
    refine wpIn_rangeFunc_ownF rfl (by omega) (gf := 93) (lb := #[.pointer (some ⟨W6.heap.size, 0, none⟩)]) rfl trivial (enters_of Try.func93 (by kernel_rfl) rfl)
      (ones1_stops (5 - 1) W6.heap.size v HV.out _ HS7.out) (fun {A B C} h k => Eq.trans k h) (fun W l o o' hl ho _ _ => World.putObj_heap_other (fun e => by simp at hl; omega)) (Below.refl _ _) (fun _ => rfl)
      (LadI K m op u x (v := v) g9 g10 g11 W6.heap.size w) (fun _ _ _ => False) (ladI_own lw) (fun _ _ _ _ _ hs _ _ => hs) HI0.out ?a1 ?assign ?body ?done ?stop
    case assign =>
      intro l b W K hK
      gi_wp2
      exact hK
    case body =>
      rintro l pre b W ⟨⟨h10, h9, hX, hF, hR, h11, hS⟩, hB⟩ hlen
      clear hlen
      obtain ⟨hp1, hp2⟩ := HBD.out pre
      have HSN := Lib.hid (ladS_snoc op u x pre b)
      have hd : b.1 < NB := Nat.lt_of_lt_of_eq b.2 HNB.out
      have hnb : NB ≤ 1024 := by rw [← HNB.out]; exact dlen2_le HV.out
      obtain ⟨p, hp⟩ : ∃ p, (ladS op u x pre).1 = p := ⟨_, rfl⟩
      obtain ⟨r, hr⟩ : ∃ r, (ladS op u x pre).2 = r := ⟨_, rfl⟩
      obtain ⟨d, hdd⟩ : ∃ d, b.1 = d := ⟨_, rfl⟩
      rw [hp] at hp1 h10
      rw [hr] at hp2 h9
      rw [hdd] at hd
      rw [hp, hr, hdd] at HSN
      have hz := dbl_lt HJN.out.lt (p - d) r hp2
      have HDC := Lib.hid (descend_any K m op HJN.out g10 (w.heap.size + 1 + 1 + 1) g9 d p r hp1 hp2 W h10 hF h9 hne.symm (by omega) (by omega))
      have HJC := Lib.hid (fun W' => HJN.out.call (dbl op (p - d) r) x W' hz hx)
      have HSC := Lib.hid (show ∀ k, (k = g10 ∨ k = g9) → ∃ cs, rowN W k = some cs by rintro k (rfl | rfl); exact ⟨_, h10⟩; exact ⟨_, h9⟩)
      generalize dbl op (p - d) r = z at *
      have c11 := (rowN_cell h11).1 0
      have H11 := Lib.hid h11
      have HXX := Lib.hid hX
      have HFF := Lib.hid hF
      have HRR := Lib.hid hR
      have HSS := Lib.hid hS
      have HBB := Lib.hid hB
      rw [hdd]
      clear hp hr hdd hX hF hR hS hB h9 h10 h11 hz
      gi_wp2_with fail
      refine ⟨trivial, ?_⟩
      refine (CallsIn.inRound l (callsIn_wide.2 HDC.out)).mono ?_
      rintro e w2 ⟨rfl, hP2, hF2, hR2, hch⟩
      have hX2 := (hch.row (rowN_lt HXX.out) (by omega)).trans HXX.out
      have h112 := (hch.row (rowN_lt H11.out) (by omega)).trans H11.out
      have hRR2 := (hch.row (rowN_lt HRR.out) (by omega)).trans HRR.out
      have hS2 := (hch.row (rowN_lt HSS.out) (by omega)).trans HSS.out
      have HB2 := Lib.hid (HBB.out.trans (hch.below w.heap.size HBB.out.size (by rintro k (rfl | rfl) <;> omega)))
      have HKO := Lib.hid (keeps_ch hch HSC.out)
      have HKB := Lib.hid (show KeepB W6.heap.size W w2 from hch.block _ (rowN_lt HSS.out) (by omega))
      have cF := (rowN_cell hF2).1 0
      have HP2 := Lib.hid hP2
      have HF2 := Lib.hid hF2
      have H112 := Lib.hid h112
      have HRR2 := Lib.hid hRR2
      have HS2 := Lib.hid hS2
      clear c11 hch hP2 hF2 h112 hRR2 hS2 H11 HXX HFF HRR HBB HSC HDC
      gi_wp2_with fail
      refine ⟨trivial, ?_⟩
      refine (CallsIn.inRound l (callsIn_wide.2 (HJC.out _))).mono ?_
      rintro e w3 ⟨rfl, hb⟩
      have hR3 := kept hb _ _ hR2
      have HX3 := Lib.hid (kept hb _ _ hX2)
      have HP3 := Lib.hid (kept hb _ _ HP2.out)
      have HF3 := Lib.hid (kept hb _ _ HF2.out)
      have H113 := Lib.hid (kept hb _ _ H112.out)
      have HRR3 := Lib.hid (kept hb _ _ HRR2.out)
      have HS3 := Lib.hid (kept hb _ _ HS2.out)
      have HB3 := Lib.hid (HB2.out.trans (hb.mono HB2.out.size))
      have HKO3 := Lib.hid ((HKO.out.trans (keeps_below hb)).trans (keeps_setRow (ds := natA (op z x)) hR3))
      have HKB3 := Lib.hid (show KeepB W6.heap.size W (w3.setRow g9 (natA (op z x))) from ((setRow_other _ _ _ _ (by omega)).trans (hb.block _ (rowN_lt HS2.out))).trans HKB.out)
      clear cF hX2 hR2 hb
      gi_wp2_with fail
      refine ⟨HKO3.out, HKB3.out, ⟨?_, ?_, row_other HX3.out (by omega), row_other HF3.out (by omega), row_other HRR3.out (by omega), row_other H113.out (by omega), row_other HS3.out (by omega)⟩, below_setRow' HB3.out (by omega) _⟩
      · rw [HSN.out]; exact row_other HP3.out hne.symm
      · rw [HSN.out]; exact row_new hR3
    case done =>
      rintro D ys W hD hSx ⟨⟨h10, h9, hX, hF, hR, h11, hS⟩, hB⟩ hK
      obtain ⟨hp1, hp2⟩ := HBD.out ys
      have HSX := Lib.hid hSx
      obtain ⟨p, hp⟩ : ∃ p, (ladS op u x ys).1 = p := ⟨_, rfl⟩
      obtain ⟨r, hr⟩ : ∃ r, (ladS op u x ys).2 = r := ⟨_, rfl⟩
      rw [hp] at hp1 h10
      rw [hr] at hp2 h9
      have HP := Lib.hid hp
      have HR := Lib.hid hr
      have HDC := Lib.hid (descend_any K m op HJN.out g10 (w.heap.size + 1 + 1 + 1) g9 0 p r hp1 hp2 W h10 hF h9 hne.symm (by omega) (by omega))
      have c11 := (rowN_cell h11).1 0
      have HRR := Lib.hid hR
      have HBB := Lib.hid hB
      have HKK := Lib.hid hK
      have hDw : w.heap.size ≤ D := by simp at hD; omega
      have HD0 := Lib.hid (show ¬ (D = g10 ∨ D = g9) by
        rintro (rfl | rfl)
        · obtain ⟨t, ht⟩ := rowN_some h10
          rw [hK] at ht; cases ht
        · obtain ⟨t, ht⟩ := rowN_some h9
          rw [hK] at ht; cases ht)
      clear hSx hp hr hX hF hR hS hB hK h9 h10 h11 HI0 HS7 hD
      go_wp2_with fail
      refine HDC.out.mono ?_
      rintro e w2 ⟨rfl, _, _, hR2, hch⟩
      have hRR2 := (hch.row (rowN_lt HRR.out) (by omega)).trans HRR.out
      have HB2 := Lib.hid (HBB.out.trans (hch.below w.heap.size HBB.out.size (by rintro k (rfl | rfl) <;> omega)))
      have HK2 := Lib.hid ((hch.block D (Array.getElem?_eq_some_iff.1 HKK.out).1 HD0.out).trans HKK.out)
      clear c11 hch
      go_wp2_with fail
      obtain ⟨k1, k2, k3⟩ := lad_end (r := dbl op (p - 0) r) hDw hRR2 HB2.out HK2.out
      refine ⟨by simp, .inl ⟨_, _, rfl, run_takeDeferred k1, ?_⟩⟩
      exact ⟨_, results_nat _ _ _ rfl rfl k2 (natA_size _), ⟨ys, HSX.out, by rw [HP.out, HR.out]⟩, k3⟩
    case stop =>
      rintro D c pre W hD hSp hX hK
      exact hX.elim
end Go.Proofs.Ytlmfiggmjpjpiaa
