/- CtsChains walked. -/
import Derived.Test.YtjcdbjapadgdfaaDoorDFX
namespace Go.Proofs.YtjcdbjapadgdfaaDoor
open Go.RowKit Go.Shelf

attribute [local go_sem] Oper.semAt_some
/-- How many strings of 16 bytes a list begins with. -/
def tpre : List (List Nat) → Nat
  | [] => 0
  | a :: r => if a.length = 16 then tpre r + 1 else 0
theorem tpre_le : ∀ ls, tpre ls ≤ ls.length
  | [] => Nat.le_refl _
  | a :: r => by
    have := tpre_le r
    unfold tpre
    split <;> simp <;> omega
theorem tpre_16 : ∀ (ls : List (List Nat)) k, k < tpre ls → (ls.getD k []).length = 16
  | [], k, h => absurd h (Nat.not_lt_zero _)
  | a :: r, k, h => by
    unfold tpre at h
    split at h
    · cases k with
      | zero => assumption
      | succ k => exact tpre_16 r k (by omega)
    · omega
theorem tpre_no : ∀ (ls : List (List Nat)), tpre ls < ls.length → (ls.getD (tpre ls) []).length ≠ 16
  | [], h => absurd h (Nat.not_lt_zero _)
  | a :: r, h => by
    unfold tpre at h ⊢
    split
    · rename_i h16
      rw [if_pos h16] at h
      exact tpre_no r (by simpa using h)
    · assumption
theorem run_load4 {W : World} {g : Nat} {b : Bool} (h : rowN W g = some #[.bool b]) : (loadVar 4 ⟨g, 0, none⟩).run Tryd.prog W = .ok (.bool b) W := by
  have hc := (rowN_cell h).1 0
  go_simp
theorem ret_bool {fn : Func} {p : Tmp} {R : Ending → World → Prop} {a : Act} {w : World} (g : Nat) (b : Bool) (h : fn.results = #[.cell p 4])
    (hp : a.tmps.getD p undef = .pointer (some ⟨g, 0, none⟩)) (hd : a.defers = []) (hr : rowN w g = some #[.bool b]) (hR : R (.returned (.bool b)) w) : bodyPost Tryd.prog fn R .ret a w := by
  refine bodyPost_ret (v := .bool b) ?_ hd hR
  have hp' : a.tmps[p]?.getD undef = .pointer (some ⟨g, 0, none⟩) := by simpa using hp
  simp [results, h, hp', asAddr, run_load4 hr]
theorem results_bool {fn : Func} {p : Tmp} {tmps : Array Value} {w : World} (g : Nat) (b : Bool) (h : fn.results = #[.cell p 4])
    (hp : tmps.getD p undef = .pointer (some ⟨g, 0, none⟩)) (hr : rowN w g = some #[.bool b]) : (results fn tmps).run Tryd.prog w = .ok (.bool b) w := by
  have hp' : tmps[p]?.getD undef = .pointer (some ⟨g, 0, none⟩) := by simpa using hp
  simp [results, h, hp', asAddr, run_load4 hr]
theorem keepsFrom_cells {n : Nat} {V V' : World} {M : Nat → Prop} (hk : Keeps M V V') (hM : ∀ j o, V.heap[j]? = some o → o.isCells = false → ¬ M j) : KeepsFrom n V V' :=
  ⟨hk.size, fun j o _ ho hc => (hk.same j (Array.getElem?_eq_some_iff.1 ho).1 (hM j o ho hc)).trans ho⟩
theorem row_cells {V : World} {g : Nat} {cs : Array Value} (h : rowN V g = some cs) {o : Obj} (ho : V.heap[g]? = some o) : o.isCells = true := by
  obtain ⟨t, hg⟩ := rowN_some h
  rw [hg] at ho; cases ho; rfl
theorem cell_cells {V : World} {g off : Nat} {v : Value} (h : V.cell? ⟨g, off, none⟩ = some v) {o : Obj} (ho : V.heap[g]? = some o) : o.isCells = true := by
  unfold World.cell? at h
  simp only [ho] at h
  cases o <;> simp_all [Obj.isCells]
/-- The consumer's place, and what lies below it. -/
def CI (gA : Nat) (U : World) (r : Nat) (X : World) : Prop := rowN X gA = some #[.int .i64 ((16 * r : Nat) : Int)] ∧ Below gA U X ∧ U.heap.size ≤ X.heap.size
theorem cI_own (gA : Nat) (U : World) {B : Nat} (h : gA < B) : OwnAny B (CI gA U) := by
  rintro r X Y row ⟨a, b, c⟩ hg hr
  exact ⟨(grownBy_rowN hg (rowN_lt a) (fun e => by have := hr gA e.symm; omega)).trans a, b.grown hg (Nat.le_of_lt (rowN_lt a)) (fun q e => by have := hr q e; omega), Nat.le_trans c hg.size⟩
theorem rowB {B g : Nat} {U X : World} {cs : Array Value} (h : Below B U X) (hg : g < B) (hr : rowN U g = some cs) : rowN X g = some cs := by
  unfold rowN at hr ⊢
  rw [h.block g hg]; exact hr
theorem keepsB {B : Nat} {U X : World} (h : Below B U X) (hs : U.heap.size ≤ X.heap.size) : Keeps (fun j => B ≤ j) U X := ⟨hs, fun j _ hn => h.block j (by omega)⟩
theorem MdAt.below {key iv : List Nat} {gm gc B : Nat} {U X : World} (h : MdAt key iv gm gc U) (hb : Below B U X) (h1 : gm < B) (h2 : gc < B) : MdAt key iv gm gc X := ⟨rowB hb h1 h.1, rowB hb h2 h.2⟩
/-- The law's first loop: the strings up to number k; p holds those of 16 bytes that the list begins with. -/
def LpR (ls : List (List Nat)) (W0 : World) (p wh i : Value) (wr : World) : Prop :=
  ∃ k q : Nat, k ≤ ls.length ∧ i = .int .i64 (k : Nat) ∧ wh = .bool (decide (k ≤ tpre ls)) ∧ q = 16 * min k (tpre ls) ∧ wr.ownsRow W0.heap.size 5 1 p q (cl (catN (fun k => ls.getD k []) (min k (tpre ls)))) ∧ Below W0.heap.size W0 wr
set_option maxRecDepth 100000 in
set_option maxHeartbeats 1000000 in
theorem chains_none (x y n : Nat) (ak av al : Option Addr) (ck cv cn : Nat) (many : Int) (h : 20 < x ∨ 20 < y ∨ 10 < n) (w : World) :
    Calls Tryd.prog 4 #[.slice ak x ck, .slice av y cv, .slice al n cn, .int .i64 many] w fun e w' => e = .returned (.bool true) ∧ Below w.heap.size w w' := by
  obtain ⟨W0, hW0⟩ : ∃ W, (w.alloc (.cells #[.int .i64 many] 3)).alloc (.cells #[.bool false] 4) = W := ⟨_, rfl⟩
  have hbA : Below w.heap.size w W0 := by rw [← hW0]; exact ((Below.refl _ w).alloc (Nat.le_refl _) _).alloc (by simp) _
  have hr4 : rowN W0 (w.heap.size + 1) = some #[.bool false] := by rw [← hW0, rowN_alloc, if_pos (by simp)]
  have HBA := Lib.hid hbA
  have HR4 := Lib.hid hr4
  have HKN := Lib.hid (known_any W0)
  clear hbA hr4
  by_cases h1 : 20 < x
  · have i1 : (20 : Int) < ((x : Nat) : Int) := by omega
    clear h
    go_enter Tryd.func4, Tryd.ntmps4
    go_upto_region 1 with fail
    try rw [hW0]
    clear hW0
    go_wp2_with fail
    refine HKN.out.mono ?_
    rintro e w1 ⟨rfl, hb1⟩
    have HB1 := Lib.hid (bthen HBA.out hb1)
    have hr1 := keptW hb1 HR4.out
    have hc4 := (rowN_cell hr1).1 0
    have hf4 := (rowN_cell hr1).2 0
    have HR := Lib.hid hr1
    clear hb1 hr1 HKN
    go_wp2_with fail
    exact ret_bool _ _ rfl rfl rfl (row_set0 HR.out) ⟨rfl, HB1.out.setCell (p := ⟨w.heap.size + 1, 0, none⟩) (by show w.heap.size ≤ w.heap.size + 1; omega) _⟩
  · have i1 : ¬ (20 : Int) < ((x : Nat) : Int) := by omega
    by_cases h2 : 20 < y
    · have i2 : (20 : Int) < ((y : Nat) : Int) := by omega
      clear h h1
      go_enter Tryd.func4, Tryd.ntmps4
      go_upto_region 1 with fail
      try rw [hW0]
      clear hW0
      go_wp2_with fail
      refine HKN.out.mono ?_
      rintro e w1 ⟨rfl, hb1⟩
      have HB1 := Lib.hid (bthen HBA.out hb1)
      have hr1 := keptW hb1 HR4.out
      have hc4 := (rowN_cell hr1).1 0
      have hf4 := (rowN_cell hr1).2 0
      have HR := Lib.hid hr1
      clear hb1 hr1 HKN
      go_wp2_with fail
      exact ret_bool _ _ rfl rfl rfl (row_set0 HR.out) ⟨rfl, HB1.out.setCell (p := ⟨w.heap.size + 1, 0, none⟩) (by show w.heap.size ≤ w.heap.size + 1; omega) _⟩
    · have i2 : ¬ (20 : Int) < ((y : Nat) : Int) := by omega
      have i3 : (10 : Int) < ((n : Nat) : Int) := by omega
      clear h h1 h2
      go_enter Tryd.func4, Tryd.ntmps4
      go_upto_region 1 with fail
      try rw [hW0]
      clear hW0
      go_wp2_with fail
      refine HKN.out.mono ?_
      rintro e w1 ⟨rfl, hb1⟩
      have HB1 := Lib.hid (bthen HBA.out hb1)
      have hr1 := keptW hb1 HR4.out
      have hc4 := (rowN_cell hr1).1 0
      have hf4 := (rowN_cell hr1).2 0
      have HR := Lib.hid hr1
      clear hb1 hr1 HKN
      go_wp2_with fail
      exact ret_bool _ _ rfl rfl rfl (row_set0 HR.out) ⟨rfl, HB1.out.setCell (p := ⟨w.heap.size + 1, 0, none⟩) (by show w.heap.size ≤ w.heap.size + 1; omega) _⟩
set_option maxRecDepth 100000 in
set_option maxHeartbeats 8000000 in
theorem chains_all (ks iv : List Nat) (ls : List (List Nat)) (vs : Nat → Value) (ak av al : Option Addr) (ck cv cn : Nat) (many : Int) (w : World) (hG : SG w) (hk : BytesAt ks (.slice ak ks.length ck) w) (hv : BytesAt iv (.slice av iv.length cv) w)
    (hl : LsAt ls.length vs (.slice al ls.length cn) w) (hb : ∀ k, k < ls.length → BytesAt (ls.getD k []) (vs k) w ∧ Nil0 (vs k)) (h1 : ks.length ≤ 20) (h2 : iv.length ≤ 20) (h3 : ls.length ≤ 10) :
    Calls Tryd.prog 4 #[.slice ak ks.length ck, .slice av iv.length cv, .slice al ls.length cn, .int .i64 many] w fun e w' => e = .returned (.bool true) ∧ Below w.heap.size w w' := by
  have HK := Lib.hid hk
  have HV := Lib.hid hv
  have HLS := Lib.hid hl
  have HBS := Lib.hid hb
  have HG := Lib.hid hG
  have HT1 := Lib.hid (tpre_le ls)
  have HT2 := Lib.hid (tpre_16 ls)
  have HT3 := Lib.hid (tpre_no ls)
  have HLP := Lib.hid (show ∀ W0 p wh i wr, LpR ls W0 p wh i wr ↔ ∃ k q : Nat, k ≤ ls.length ∧ i = .int .i64 (k : Nat) ∧ wh = .bool (decide (k ≤ tpre ls)) ∧ q = 16 * min k (tpre ls) ∧ wr.ownsRow W0.heap.size 5 1 p q (cl (catN (fun k => ls.getD k []) (min k (tpre ls)))) ∧ Below W0.heap.size W0 wr from fun _ _ _ _ _ => Iff.rfl)
  obtain ⟨pb, hpb⟩ : ∃ pb, (fun k => ls.getD k []) = pb := ⟨_, rfl⟩
  have HPB := Lib.hid (show ∀ k, ls.getD k [] = pb k from fun k => by rw [← hpb])
  rw [hpb] at HLP
  have HBS := Lib.hid (show ∀ k, k < ls.length → BytesAt (pb k) (vs k) w ∧ Nil0 (vs k) from fun k h => by rw [← HPB.out]; exact HBS.out k h)
  have HT2 := Lib.hid (show ∀ k, k < tpre ls → (pb k).length = 16 from fun k h => by rw [← HPB.out]; exact HT2.out k h)
  have HT3 := Lib.hid (show tpre ls < ls.length → (pb (tpre ls)).length ≠ 16 from fun h => by rw [← HPB.out]; exact HT3.out h)
  obtain ⟨t, ht⟩ : ∃ t, tpre ls = t := ⟨_, rfl⟩
  rw [ht] at HT1 HT2 HT3 HLP
  obtain ⟨x, hx⟩ : ∃ x, ks.length = x := ⟨_, rfl⟩
  obtain ⟨y, hy⟩ : ∃ y, iv.length = y := ⟨_, rfl⟩
  obtain ⟨n, hn⟩ : ∃ n, ls.length = n := ⟨_, rfl⟩
  have HX := Lib.hid hx
  have HY := Lib.hid hy
  rw [hx] at h1 HK ⊢
  rw [hy] at h2 HV ⊢
  rw [hn] at h3 HLS HBS HT1 HT3 HLP ⊢
  have i1 : ¬ (20 : Int) < ((x : Nat) : Int) := by omega
  have i2 : ¬ (20 : Int) < ((y : Nat) : Int) := by omega
  have i3 : ¬ (10 : Int) < ((n : Nat) : Int) := by omega
  obtain ⟨W0, hW0⟩ : ∃ W, (w.alloc (.cells #[.int .i64 many] 3)).alloc (.cells #[.bool false] 4) = W := ⟨_, rfl⟩
  have hbA : Below w.heap.size w W0 := by rw [← hW0]; exact ((Below.refl _ w).alloc (Nat.le_refl _) _).alloc (by simp) _
  have HBA := Lib.hid hbA
  have HR3 := Lib.hid (show rowN W0 w.heap.size = some #[.int .i64 many] by rw [← hW0, rowN_alloc, if_neg (by simp), rowN_alloc, if_pos rfl])
  have HR4 := Lib.hid (show rowN W0 (w.heap.size + 1) = some #[.bool false] by rw [← hW0, rowN_alloc, if_pos (by simp)])
  have HZ0 := Lib.hid (show W0.heap.size = w.heap.size + 2 by rw [← hW0]; simp)
  have HI0 := Lib.hid (show LpR ls W0 (.slice none 0 0) (.bool true) (.int .i64 0) W0 from (HLP.out _ _ _ _ _).2 ⟨0, 0, by omega, rfl, by simp, by simp, by rw [Nat.zero_min]; exact World.ownsRow_nil _ _ _ _, Below.refl _ _⟩)
  have HN10 := Lib.hid h3
  clear hk hv hl hb hG hpb ht hx hy hn hbA h3
  refine (callsIn_wide (n := 6)).1 ?_
  refine callsIn_of_wp_marks Tryd.func4 rfl trivial ?_ rfl
  simp only [Tryd.ntmps4, List.size_toArray, List.length_cons, List.length_nil, Nat.reduceAdd, Nat.reduceSub, Array.replicate_succ, Array.replicate_zero, List.push_toArray, List.append_toArray, List.nil_append, List.cons_append]
  refine wpIn_wide.2 ?_
  go_upto_region 1 with fail
  try rw [hW0]
  clear hW0
  obtain ⟨gM, hgM⟩ : ∃ g, w.heap.size = g := ⟨_, rfl⟩
  obtain ⟨gR, hgR⟩ : ∃ g, gM + 1 = g := ⟨_, rfl⟩
  rw [hgM] at HR3
  rw [hgM, hgR] at HR4
  rw [hgM, hgR]
  have HGM := Lib.hid (And.intro hgM hgR)
  clear hgM hgR
  go_wp2_with fail
  go_loopw [9, 10, 11] (fun p wh i wr => LpR ls W0 p wh i wr) (fun _ _ i _ => n - (intOf i).toNat)
  case atStart => exact HI0.out
  case round =>
    clear HI0
    obtain ⟨k, q, hkn, rfl, rfl, hq, ho, hb⟩ := (HLP.out _ _ _ _ _).1 hrel
    clear hrel
    have HB := Lib.hid hb
    have HO := Lib.hid ho
    have hbw := bthen HBA.out hb
    by_cases hlt : k < n
    · have j1 : ((k : Nat) : Int) < ((n : Nat) : Int) := by omega
      have hls : LsAt n vs (.slice al n cn) wr := HLS.out.same hbw.size (fun j _ hj => hbw.block j hj)
      obtain ⟨a', c', e, _, hh⟩ := hls
      cases e
      rcases hh with hh | ⟨b, off, rfl, hbl, hcell⟩
      · omega
      have hc2 := hcell k hlt
      have hbk := (HBS.out k hlt).1.kept hbw
      have hnk := (HBS.out k hlt).2
      have HBK := Lib.hid hbk
      have HNK := Lib.hid hnk
      obtain ⟨m, hm⟩ : ∃ m, (pb k).length = m := ⟨_, rfl⟩
      have HM := Lib.hid hm
      obtain ⟨av', cv', hvk⟩ : ∃ a c, vs k = .slice a m c := by obtain ⟨_, a, c, e, _⟩ := hbk; exact ⟨a, c, by rw [e, hm]⟩
      rw [hvk] at hc2 HBK HNK
      have hc3 := HR4.out
      have h2' : IntKind.i64.wrap (((k : Nat) : Int) + 1) = ((k : Nat) : Int) + 1 := IntWalk.i64_in _ (by omega)
      have hwz := hb.size
      clear hcell hbk hnk hm hvk hc3
      by_cases h20 : 20 < m
      · have k1 : (20 : Int) < ((m : Nat) : Int) := by omega
        have HKN := Lib.hid (known_any wr)
        have HR4w := Lib.hid (keptW hb HR4.out)
        have HBW := Lib.hid hbw
        clear ho hb hbw
        go_wp2_with fail
        refine HKN.out.mono ?_
        rintro e w1 ⟨rfl, hb1⟩
        have hr1 := keptW hb1 HR4w.out
        have hc4 := (rowN_cell hr1).1 0
        have hf4 := (rowN_cell hr1).2 0
        have HR := Lib.hid hr1
        have HB1 := Lib.hid (bthen HBW.out hb1)
        clear hb1 hr1 HKN
        go_wp2_with fail
        refine ⟨_, results_bool gR true rfl rfl (row_set0 HR.out), rfl, HB1.out.setCell (p := ⟨gR, 0, none⟩) (by show w.heap.size ≤ gR; have := HGM.out; omega) _⟩
      · have k1 : ¬ (20 : Int) < ((m : Nat) : Int) := by omega
        clear ho hb hbw
        by_cases c1 : k < t
        · have hm16 : m = 16 := by rw [← HM.out]; exact HT2.out k c1
          subst hm16
          rw [show decide (k ≤ t) = true from decide_eq_true (by omega)]
          rw [show min k t = k by omega] at hq HO
          have hcl : (catN pb k).length = q := by rw [catN_len k (fun q hq => HT2.out q (by omega)), hq]
          have ho2 := HO.out
          rw [← hcl] at ho2
          have HO2 := Lib.hid ho2
          have hwq : W0.heap.size ≤ wr.heap.size := hwz
          clear ho2
          go_wp2_with (at_builtin; refine wpList_app rfl _ _ rfl W0.heap.size rfl rfl HO2.out HBK.out HNK.out (by rw [hcl, HM.out]; omega) hwq ?_; intro v' w' hown' hgrow'; have hbl' := below_owned HB.out HO2.out hgrow' hwq; have HOE := Lib.hid hown'; have HBE := Lib.hid hbl'; clear hown' hgrow' hbl')
          have hown' := HOE.out
          rw [show (catN pb k ++ pb k).length = q + 16 by rw [List.length_append, hcl, HM.out]] at hown'
          exact ⟨(HLP.out _ _ _ _ _).2 ⟨k + 1, q + 16, by omega, by go_num, by rw [decide_eq_true (show k + 1 ≤ t by omega)], by omega, by rw [show min (k + 1) t = k + 1 by omega]; exact hown', HBE.out⟩, by simp [intOf]; omega⟩
        · rw [show min k t = t by omega] at hq HO
          by_cases c2 : k = t
          · have hm16 : m ≠ 16 := by rw [← HM.out, c2]; exact HT3.out (by omega)
            have hm17 : ¬ ((m : Nat) : Int) = 16 := by omega
            have hm18 : (((m : Nat) : Int) == 16) = false := by simp; omega
            have HC2 := Lib.hid c2
            rw [show decide (k ≤ t) = true from decide_eq_true (by omega)]
            clear c2 c1
            go_wp2_with fail
            have c2 := HC2.out
            exact ⟨(HLP.out _ _ _ _ _).2 ⟨k + 1, q, by omega, by go_num, by rw [decide_eq_false (show ¬ k + 1 ≤ t by omega)], by omega, by rw [show min (k + 1) t = t by omega]; exact HO.out, HB.out⟩, by simp [intOf]; omega⟩
          · rw [show decide (k ≤ t) = false from decide_eq_false (by omega)]
            go_wp2_with fail
            exact ⟨(HLP.out _ _ _ _ _).2 ⟨k + 1, q, by omega, by go_num, by rw [decide_eq_false (show ¬ k + 1 ≤ t by omega)], by omega, by rw [show min (k + 1) t = t by omega]; exact HO.out, HB.out⟩, by simp [intOf]; omega⟩
    · have hkn' : k = n := by omega
      subst hkn'
      have j1 : ¬ ((k : Nat) : Int) < ((k : Nat) : Int) := by omega
      rw [show min k t = t by have := HT1.out; omega] at hq HO
      clear ho
      obtain ⟨ap, cp, rfl⟩ := owns_slice HO.out
      have hcl : (catN pb t).length = q := by rw [catN_len t (fun q hq => HT2.out q hq), hq]
      have h256 : ∀ x ∈ catN pb t, x < 256 := catN_256 t (fun q hq => (HBS.out q (by have := HT1.out; omega)).1.1)
      have ho2 := HO.out
      rw [← hcl] at ho2
      have hbp := (owns_both h256 ho2).1
      rw [hcl] at hbp
      have HBP := Lib.hid hbp
      have HCL := Lib.hid (show (catN pb t).length = 16 * t by rw [hcl, hq])
      subst hq
      have HBW := Lib.hid hbw
      have hr3 := keptW hb HR3.out
      have hr4 := keptW hb HR4.out
      obtain ⟨V, hV⟩ : ∃ V, wr.alloc (.cells #[.slice none 0 0] 22) = V := ⟨_, rfl⟩
      have hbV : Below wr.heap.size wr V := by rw [← hV]; exact (Below.refl _ _).alloc (Nat.le_refl _) _
      have HRW := Lib.hid (show rowN V wr.heap.size = some #[.slice none 0 0] by rw [← hV, rowN_alloc, if_pos rfl])
      have HR3 := Lib.hid (keptW hbV hr3)
      have HR4 := Lib.hid (keptW hbV hr4)
      have HBPV := Lib.hid (HBP.out.kept hbV)
      have HBV := Lib.hid (bthen hbw hbV)
      have HZV := Lib.hid (show V.heap.size = wr.heap.size + 1 by rw [← hV]; simp)
      have hRM : gM < wr.heap.size ∧ gR < wr.heap.size := ⟨rowN_lt hr3, rowN_lt hr4⟩
      have HRM := Lib.hid hRM
      clear hlt hb hbw ho2 hbp hcl hr3 hr4 hbV hRM HBP HO HB HBW h256
      go_upto_region 14 with fail
      try rw [hV]
      clear hV
      obtain ⟨gW, hgW⟩ : ∃ g, wr.heap.size = g := ⟨_, rfl⟩
      rw [hgW] at HRW HZV HRM ⊢
      clear hgW
      by_cases hc : x = 16 ∧ y = 16
      · obtain ⟨hx16, hy16⟩ := hc
        subst hx16 hy16
        rw [show ((16 : Nat) : Int) = 16 from rfl]
        have HCN := Lib.hid (show ∀ q, q < t → blkB (catN pb t) q = pb q from fun q h => blkB_catN t (fun q hq => HT2.out q hq) q h)
        obtain ⟨f, hf⟩ : ∃ f, (fun q => chS ks iv pb (q + 1)) = f := ⟨_, rfl⟩
        have HFE := Lib.hid (show ∀ q, f q = chS ks iv pb (q + 1) from fun q => by rw [← hf])
        have HP2 := Lib.hid (show ∀ q, q < t → ∀ x ∈ pb q, x < 256 from fun q hq => (HBS.out q (by have := HT1.out; omega)).1.1)
        have HFL := Lib.hid (show ∀ q, q < t → (f q).length = 16 ∧ ∀ x ∈ f q, x < 256 from fun q hq => by rw [HFE.out]; exact chS_lw HK.out.1 HY.out HV.out.1 (q + 1) (fun z hz => HP2.out z (by omega)))
        have HRC := rchain_any ks iv (catN pb t) (.slice ak 16 ck) (.slice av 16 cv) (.slice ap (16 * t) cp) t HX.out HY.out HCL.out (by have := HT1.out; have := HN10.out; omega) V (HG.out.kept HBV.out) (HK.out.kept HBV.out) (HV.out.kept HBV.out) HBPV.out
        rw [catN_congr (g := f) t (fun r hr => by rw [HFE.out]; exact chS_congr ks iv (r + 1) (fun z hz => HCN.out z (by omega)))] at HRC
        have HWL := Lib.hid (show (catN f t).length = 16 * t from catN_len t (fun q hq => (HFL.out q hq).1))
        have HRC := Lib.hid HRC
        have HLC := Lib.hid (fun (gl : Nat) (W : World) (hW : Below w.heap.size w W) => lchain_any ks iv (.slice ak 16 ck) (.slice av 16 cv) 23 #[.pointer (some ⟨gl, 0, none⟩)] HX.out HY.out W (HK.out.kept hW) (HV.out.kept hW))
        have HL2 := Lib.hid (fun (W : World) (hW : Below w.heap.size w W) => lchain_nil ks iv (.slice ak 16 ck) (.slice av 16 cv) W (HK.out.kept hW) (HV.out.kept hW))
        have hnf : ∀ (W : World) (x y : Value), (binOp BinOp.eql 31 (.func (.func 35) #[] #[x, y]) .nilFunc).run Tryd.prog W = .ok (.bool false) W := fun W x y => by kernel_rfl
        have hnf2 : ∀ (W : World), (binOp BinOp.eql 31 (.func (.func 21) #[] #[]) .nilFunc).run Tryd.prog W = .ok (.bool false) W := fun W => by kernel_rfl
        obtain ⟨want, hwant⟩ : ∃ q, catN f t = q := ⟨_, rfl⟩
        have HWE := Lib.hid hwant
        rw [hwant] at HRC HWL
        clear hf hwant HCN HBPV HCL
        go_wp2_with fail
        refine HRC.out.mono ?_
        rintro e w1 ⟨sw, rfl, hsw, hswn, hswi, hb1⟩
        obtain ⟨a2, c2, rfl, hc2⟩ : ∃ a c, sw = .slice a (16 * t) c ∧ 16 * t ≤ c := by obtain ⟨_, a, c, e, h, _⟩ := hsw; exact ⟨a, c, by rw [e, HWL.out], by rw [← HWL.out]; exact h⟩
        have hrw1 := keptW hb1 HRW.out
        have hcW := (rowN_cell hrw1).1 0
        have hfW := (rowN_cell hrw1).2 0
        obtain ⟨W1, hW1⟩ : ∃ q, w1.setCell ⟨gW, 0, none⟩ (.slice a2 (16 * t) c2) = q := ⟨_, rfl⟩
        have hg1 : w1.grownBy W1 (some gW) := by rw [← hW1]; exact grown_setCell _ _ _ _
        have HRWn := Lib.hid (show rowN W1 gW = some #[.slice a2 (16 * t) c2] by rw [← hW1]; exact row_set0 hrw1)
        have hRM := HRM.out
        have hz := HZV.out
        have HR3n := Lib.hid ((grownBy_rowN hg1 (rowN_lt (keptW hb1 HR3.out)) (fun e => by injection e with e; omega)).trans (keptW hb1 HR3.out))
        have HR4n := Lib.hid ((grownBy_rowN hg1 (rowN_lt (keptW hb1 HR4.out)) (fun e => by injection e with e; omega)).trans (keptW hb1 HR4.out))
        have hgw0 : w.heap.size ≤ gW := by have := HGM.out; omega
        have HBW1 := Lib.hid (show Below w.heap.size w W1 from (bthen HBV.out hb1).grown hg1 (bthen HBV.out hb1).size (fun r e => by cases e; exact hgw0))
        have HSW := Lib.hid (show BytesAt want (.slice a2 (16 * t) c2) W1 from hsw.keeps (Keeps.of_grownBy (M := fun j => j = gW) hg1 (fun r e => by cases e; rfl)) (fun j _ hj h => by have := hswi j hj; omega))
        have HBL := Lib.hid (lblocks_any al k cn W1)
        clear hsw hswn hswi hb1 hrw1 hg1 HRC HR3 HR4 HRW HBV
        go_upto_region 16 with fail
        try rw [hW1]
        clear hW1 hcW hfW hRM hz
        go_wp2_with fail
        refine HBL.out.mono ?_
        rintro e w2 ⟨rfl, hw2⟩
        have hb2 : Below W1.heap.size W1 w2 := by rw [hw2]; exact (Below.refl _ _).alloc (Nat.le_refl _) _
        have HGL := Lib.hid (show rowN w2 W1.heap.size = some #[.slice al k cn] by rw [hw2, rowN_alloc, if_pos rfl])
        have HB2 := Lib.hid (bthen HBW1.out hb2)
        have HC2 := Lib.hid (HLC.out W1.heap.size w2 HB2.out)
        have HR3 := Lib.hid (keptW hb2 HR3n.out)
        have HR4 := Lib.hid (keptW hb2 HR4n.out)
        have HRW := Lib.hid (keptW hb2 HRWn.out)
        have HSW := Lib.hid (HSW.out.kept hb2)
        obtain ⟨gl, hgl⟩ : ∃ g, W1.heap.size = g := ⟨_, rfl⟩
        rw [hgl] at HGL HC2 ⊢
        clear hw2 hb2 HBL HLC hgl HR3n HR4n HRWn
        go_wp2_with fail
        refine HC2.out.mono ?_
        rintro e w3 ⟨gm, gc, gb, rfl, hM, q1, q2, q3, q4, q5, hr1, hr2, hb3⟩
        have HM := Lib.hid hM
        have HRA := Lib.hid hr1
        have HRB := Lib.hid hr2
        have HO3 := Lib.hid (show gm < gb ∧ gc < gb ∧ gb + 2 = w3.heap.size from ⟨q3, q4, q5⟩)
        have HB3 := Lib.hid (bthen HB2.out hb3)
        have HC3 := Lib.hid (HL2.out w3 HB3.out)
        have HGL := Lib.hid (keptW hb3 HGL.out)
        have HR3 := Lib.hid (keptW hb3 HR3.out)
        have HR4 := Lib.hid (keptW hb3 HR4.out)
        have HRW := Lib.hid (keptW hb3 HRW.out)
        have HSW := Lib.hid (HSW.out.kept hb3)
        clear hM q1 q2 q3 q4 q5 hr1 hr2 hb3 HC2 HL2
        go_wp2_with fail
        refine HC3.out.mono ?_
        rintro e U ⟨rfl, hb4⟩
        have HBU := Lib.hid (bthen HB3.out hb4)
        have HR3 := Lib.hid (keptW hb4 HR3.out)
        have HR4 := Lib.hid (keptW hb4 HR4.out)
        have HRW := Lib.hid (keptW hb4 HRW.out)
        have HGL := Lib.hid (keptW hb4 HGL.out)
        have HRA := Lib.hid (keptW hb4 HRA.out)
        have HRB := Lib.hid (keptW hb4 HRB.out)
        have HM := Lib.hid (show MdAt ks iv gm gc U from ⟨keptW hb4 HM.out.1, keptW hb4 HM.out.2⟩)
        have HSW := Lib.hid (HSW.out.kept hb4)
        have HRU4 := HR4
        clear hb4 HC3
        go_wp2_with fail
        refine (wpIn_wide (n := 6)).1 ?_
        refine range_yieldsS (by omega) (gf := 21) (lb := #[]) rfl (enters_of Tryd.func21 (by kernel_rfl) rfl) (nothing_yields (6 - 1) (fun _ _ _ => True) (fun _ => False) (fun _ _ => False) U)
          (fun _ => False) (fun j h => h.elim) (fun j h => h.elim) (fun _ _ _ _ _ _ _ _ _ => trivial) (Below.refl _ _) (fun _ X => Below U.heap.size U X) (fun _ _ _ => False) (fun _ X Y row h hg hr => h.grown hg h.size (fun r e => (hr r e).1)) (fun _ _ _ _ _ hs _ _ => hs) (Below.refl _ _) ?a1_nc ?assign_nc ?body_nc ?done_nc ?stop_nc
        case assign_nc =>
          intro l2 v X k hk
          gi_wp2
          exact hk
        case body_nc => exact fun l k v X hk => absurd hk (Nat.not_lt_zero _)
        case stop_nc => exact fun _ _ _ _ _ _ h _ => h.elim
        case done_nc =>
          intro D0 V0 hD0 hb0 hKd0
          have HR3 := Lib.hid (keptW hb0 HR3.out)
          have HR4 := Lib.hid (keptW hb0 HR4.out)
          have HRW := Lib.hid (keptW hb0 HRW.out)
          have HGL := Lib.hid (keptW hb0 HGL.out)
          have HRA := Lib.hid (keptW hb0 HRA.out)
          have HRB := Lib.hid (keptW hb0 HRB.out)
          have HM := Lib.hid (show MdAt ks iv gm gc V0 from ⟨keptW hb0 HM.out.1, keptW hb0 HM.out.2⟩)
          have HSW := Lib.hid (HSW.out.kept hb0)
          have HORG := Lib.hid (show gb + 1 < V0.heap.size ∧ gm < V0.heap.size ∧ gc < V0.heap.size ∧ gl < V0.heap.size ∧ gW < V0.heap.size ∧ gM < V0.heap.size ∧ gR < V0.heap.size from ⟨rowN_lt HRB.out, rowN_lt HM.out.1, rowN_lt HM.out.2, rowN_lt HGL.out, rowN_lt HRW.out, rowN_lt HR3.out, rowN_lt HR4.out⟩)
          have HSWL := Lib.hid (show ∀ j, 0 < want.length → InS (.slice a2 (16 * t) c2) j → j < V0.heap.size from fun j h0 hj => HSW.out.lt h0 hj)
          have HBV0 := Lib.hid (bthen HBU.out hb0)
          have hDl0 := (Array.getElem?_eq_some_iff.1 hKd0).1
          have HD0 := Lib.hid hKd0
          have HDW0 := Lib.hid (show gM + 2 ≤ D0 by have := rowN_lt HR4.out; have := HGM.out; have := rowN_lt HRU4.out; omega)
          clear hb0 hKd0
          go_wp2_with fail
          refine wp_loop_rounds 3 ?_
          rw [rounds_succ]
          go_wp2_with fail
          obtain ⟨U1, hU⟩ : ∃ U, (V0.alloc (.cells #[.int .i64 0] 3)).alloc (.cells #[.int .i64 0] 3) = U := ⟨_, rfl⟩
          have hbU : Below V0.heap.size V0 U1 := by rw [← hU]; exact ((Below.refl _ _).alloc (Nat.le_refl _) _).alloc (by simp) _
          have HQT := Lib.hid (show rowN U1 V0.heap.size = some #[.int .i64 0] by rw [← hU, rowN_alloc, if_neg (by simp), rowN_alloc, if_pos rfl])
          have HQA := Lib.hid (show rowN U1 (V0.heap.size + 1) = some #[.int .i64 0] by rw [← hU, rowN_alloc, if_pos (by simp)])
          rw [hU]
          have HR3 := Lib.hid (keptW hbU HR3.out)
          have HR4 := Lib.hid (keptW hbU HR4.out)
          have HRW := Lib.hid (keptW hbU HRW.out)
          have HGL := Lib.hid (keptW hbU HGL.out)
          have HRA := Lib.hid (keptW hbU HRA.out)
          have HRB := Lib.hid (keptW hbU HRB.out)
          have HM := Lib.hid (show MdAt ks iv gm gc U1 from ⟨keptW hbU HM.out.1, keptW hbU HM.out.2⟩)
          have HSW := Lib.hid (HSW.out.kept hbU)
          have HBU1 := Lib.hid (bthen HBV0.out hbU)
          have HD0 := Lib.hid ((hbU.block D0 hDl0).trans HD0.out)
          have hDl0 : D0 < U1.heap.size := Nat.lt_of_lt_of_le hDl0 hbU.size
          obtain ⟨gT, hgT⟩ : ∃ g, V0.heap.size = g := ⟨_, rfl⟩
          obtain ⟨gA, hgA⟩ : ∃ g, V0.heap.size + 1 = g := ⟨_, rfl⟩
          have hsU : gA < U1.heap.size := by rw [← hgA]; exact rowN_lt HQA.out
          rw [hgT] at HQT
          rw [hgA] at HQA
          rw [hgA, hgT]
          have HGA := Lib.hid (show D0 < gA by omega)
          clear hU hbU
          have HORD_0 := Lib.hid (show gb + 1 < gA ∧ gm < gA ∧ gc < gA ∧ gl < gA ∧ gW < gA ∧ gM < gA ∧ gR < gA ∧ gT < gA ∧ gA < U1.heap.size from by have := HORG.out; omega)
          have HSWL_0 := Lib.hid (show ∀ j, 0 < want.length → InS (.slice a2 (16 * t) c2) j → j < gA from fun j h0 hj => by have := HSWL.out j h0 hj; omega)
          clear hgT hgA
          have hord_0 : gb + 1 < gA ∧ gm < gA ∧ gc < gA ∧ gl < gA ∧ gW < gA ∧ gM < gA ∧ gR < gA ∧ gT < gA ∧ gA < U1.heap.size := HORD_0.out
          have hwA_0 : w.heap.size ≤ gM ∧ gM < gA := ⟨by have := HGM.out; omega, hord_0.2.2.2.2.2.1⟩
          have hlv_0 : ∀ j, 0 < k ∧ InS (.slice al k cn) j → j < w.heap.size := fun j hj => by
            obtain ⟨h0, o, sp, L', c', e⟩ := hj
            obtain ⟨a', c3, e2, _, h2⟩ := HLS.out
            cases e2
            rcases h2 with h2 | ⟨b', off', ea, hlt', _⟩
            · omega
            · rw [ea] at e; cases e; exact hlt'
          have HRDL_0 := Lib.hid (show ∀ j, (j = gl ∨ (0 < k ∧ InS (.slice al k cn) j) ∨ ∃ z, z < k ∧ 0 < (pb z).length ∧ InS (vs z) j) → j < gA from fun j h => by
            rcases h with h | h | ⟨z, hz, h0, h⟩
            · omega
            · have := hlv_0 j h; omega
            · have := (HBS.out z hz).1.lt h0 h; omega)
          have HCY_0 := Lib.hid (chain1_yieldsX (6 - 1) gb (gb + 1) gm gc k t ks iv pb 23 #[.pointer (some ⟨gl, 0, none⟩)] (fun z v V => BytesAt (pb z) v V ∧ v = vs z) (fun j => j = gl ∨ (0 < k ∧ InS (.slice al k cn) j) ∨ ∃ z, z < k ∧ 0 < (pb z).length ∧ InS (vs z) j) U1
            HK.out.1 HY.out HV.out.1 HRA.out HRB.out HM.out (enters_of Tryd.func23 (by kernel_rfl) rfl)
            (lblocks1_yields 4 gl k vs pb (.slice al k cn) (by have := HN10.out; omega) U1 HGL.out (HLS.out.same HBU1.out.size (fun j _ hj => HBU1.out.block j hj)) (fun z hz => (HBS.out z hz).1.kept HBU1.out))
            (fun z v V _ h => h.1) (fun z v V l o o' h hl ho => ⟨h.1.putObj o' hl ho, h.2⟩)
            (fun z v V hz h j hj => .inr (.inr ⟨z, by have := HT1.out; omega, by rw [HT2.out z hz]; omega, by rw [← h.2]; exact hj⟩))
            (fun j h => by have := HRDL_0.out j h; omega) HT1.out HT2.out HT3.out HP2.out)
          refine (wpIn_wide (n := 6)).1 ?_
          refine range_yieldsT (by omega) (gf := 35) (lb := #[.pointer (some ⟨gb, 0, none⟩), .pointer (some ⟨gb + 1, 0, none⟩)]) rfl (enters_of Tryd.func35 (by kernel_rfl) rfl) HCY_0.out
            (fun j => j = gA) (fun j e => by
              subst e
              refine ⟨by omega, fun h => ?_⟩
              rcases h with h | h | h | h | h
              · omega
              · omega
              · omega
              · omega
              · have := HRDL_0.out _ h; omega)
            (fun j h => by
              rcases h with h | h | h | h | h
              · omega
              · omega
              · omega
              · omega
              · have := HRDL_0.out _ h; omega)
            (fun r v X l o o' h hl ho => ⟨⟨h.1.1.putObj o' hl ho, NF.putObj h.1.1 h.1.2 o' hl ho⟩, fun j hj => by have := h.2 j hj; simp; exact this⟩) (Below.refl _ _)
            (CI gA U1) (fun c r X => c = .exit 6 ∧ CI gA U1 r X) (cI_own gA U1 (by omega)) (fun c r X Y row hs hg hr => ⟨hs.1, cI_own gA U1 hord_0.2.2.2.2.2.2.2.2 r X Y row hs.2 hg hr⟩) ⟨HQA.out, Below.refl _ _, Nat.le_refl _⟩ ?a1_0 ?assign_0 ?body_0 ?done_0 ?stop_0
          case assign_0 =>
            intro l2 v X k hk
            gi_wp2
            exact hk
          case body_0 =>
            rintro l2 r v X hr ⟨hra, hbl, hsz⟩ ⟨⟨hbv, hnfv⟩, hins⟩
            rw [← HFE.out] at hbv
            have hfl := HFL.out r hr
            obtain ⟨bv, ov, cv', rfl, hbvl, hcv⟩ := hbv.cells (by rw [hfl.1]; omega)
            rw [hfl.1] at hbv hins hcv hnfv ⊢
            have hinb := (hins bv ⟨ov, none, _, _, rfl⟩).1
            have hy0 := byte_lt hfl.2 0
            have hx0 : X.cell? ⟨bv, ov, none⟩ = some (.int .u8 ((f r).getD 0 0 : Nat)) := hcv 0 (by omega)
            have hxf : X.frozen? ⟨bv, ov, none⟩ = false := hnfv bv ov 16 cv' rfl 0 (by omega)
            obtain ⟨y, hy⟩ : ∃ y, (f r).getD 0 0 = y := ⟨_, rfl⟩
            rw [hy] at hx0 hy0
            have hst1 : ∀ z, (convert 22 9 (.slice (some ⟨bv, ov, none⟩) 16 cv')).run Tryd.prog (X.drewN z) = .ok (.string (strOf (f r))) (X.drewN z) := fun z => str_bytes (show BytesAt (f r) _ (X.drewN z) from hbv) (fun _ _ e => by cases e)
            have hswX : BytesAt want (.slice a2 (16 * t) c2) X := HSW.out.keeps (keepsB hbl hsz) (fun j h0 hj => by have := HSWL_0.out j h0 hj; omega)
            obtain ⟨b2, o2, ha2⟩ : ∃ b2 o2, a2 = some ⟨b2, o2, none⟩ := by
              obtain ⟨b, o, c, e, _, _⟩ := hswX.cells (by rw [HWL.out]; omega)
              injection e with e1 e2 e3
              exact ⟨b, o, e1⟩
            have hcW0 := (rowN_cell (rowB hbl hord_0.2.2.2.2.1 HRW.out)).1 0
            rw [ha2] at hswX hcW0
            have hblk := bytes_cutm hswX (16 * r) 16 (c2 - 16 * r) (by rw [HWL.out]; omega) (by omega)
            rw [show (want.drop (16 * r)).take 16 = f r from by rw [← HWE.out]; exact blkB_catN t (fun q hq => (HFL.out q hq).1) r hr] at hblk
            have hst2 : ∀ z, (convert 22 9 (.slice (some ⟨b2, o2 + 16 * r, none⟩) 16 (c2 - 16 * r))).run Tryd.prog (X.drewN z) = .ok (.string (strOf (f r))) (X.drewN z) := fun z => str_bytes (show BytesAt (f r) _ (X.drewN z) from hblk) (fun _ _ e => by cases e)
            have hsl : ∀ W, (Instr.sliceAt 22 (.slice (some ⟨b2, o2, none⟩) (16 * t) c2) (some (.int .i64 (16 * ((r : Nat) : Int)))) (some (.int .i64 (16 * ((r : Nat) : Int) + 16))) none).run Tryd.prog W = .ok (.slice (some ⟨b2, o2 + 16 * r, none⟩) 16 (c2 - 16 * r)) W := fun W => by
              have h := run_slice22_lh b2 o2 (16 * t) c2 (16 * r) (16 * r + 16) (by omega) (by omega) W
              rw [show ((16 * r : Nat) : Int) = 16 * ((r : Nat) : Int) by omega, show ((16 * r + 16 : Nat) : Int) = 16 * ((r : Nat) : Int) + 16 by omega, show 16 * r + 16 - 16 * r = 16 by omega] at h
              exact h
            have htk := HT1.out
            have hnk := HN10.out
            have hcA0 : X.cell? ⟨gA, 0, none⟩ = some (.int .i64 (16 * ((r : Nat) : Int))) := (rowN_cell hra).1 0
            have hfA0 := (rowN_cell hra).2 0
            have hcT0 := (rowN_cell (rowB hbl hord_0.2.2.2.2.2.2.2.1 HQT.out)).1 0
            have hcM0 := (rowN_cell (rowB hbl hord_0.2.2.2.2.2.1 HR3.out)).1 0
            have e1 : IntKind.i64.wrap (16 * ((r : Nat) : Int) + 16) = 16 * ((r : Nat) : Int) + 16 := IntWalk.i64_in _ (by omega)
            have e2 : decide (((16 * t : Nat) : Int) < 16 * ((r : Nat) : Int) + 16) = false := decide_eq_false (by omega)
            have e3 : decide (16 * ((t : Nat) : Int) < 16 * ((r : Nat) : Int) + 16) = false := decide_eq_false (by omega)
            have HRA_ := Lib.hid hra
            have HBL_ := Lib.hid hbl
            have HSZ_ := Lib.hid hsz
            have HCX := Lib.hid hx0
            have hne1 : bv ≠ gA := by omega
            have hne2 : gA ≠ bv := by omega
            have hne3 : gT ≠ bv := by omega
            have hne4 : gT ≠ gA := by omega
            have hne5 : gM ≠ bv := by omega
            have hne6 : gM ≠ gA := by omega
            clear hy hbv hnfv hins hcv hra hbl hsz hswX hblk hfl ha2 hbvl
            gi_wp2_with fail
            refine quiet_round_lit (by kernel_rfl) (by kernel_rfl) (by kernel_rfl) ?_
            repeat (gi_big_quiet_step (fail))
            refine wpQuietIn_nil ?_
            intro _ hw'
            obtain ⟨nq, rfl⟩ := hw'
            have HR1 := Lib.hid (show rowN (X.drewN nq) gA = some #[.int .i64 ((16 * r : Nat) : Int)] from HRA_.out)
            have hdA : (X.drewN nq).cell? ⟨gA, 0, none⟩ = some (.int .i64 (16 * ((r : Nat) : Int))) := hcA0
            have hgA : (X.drewN nq).frozen? ⟨gA, 0, none⟩ = false := hfA0
            have hdT : (X.drewN nq).cell? ⟨gT, 0, none⟩ = some (.int .i64 0) := hcT0
            have hdM : (X.drewN nq).cell? ⟨gM, 0, none⟩ = some (.int .i64 many) := hcM0
            have hdx : (X.drewN nq).cell? ⟨bv, ov, none⟩ = some (.int .u8 (y : Nat)) := hx0
            have hdf : (X.drewN nq).frozen? ⟨bv, ov, none⟩ = false := hxf
            have HKV := Lib.hid (show Keeps (fun j => j = gA ∨ j = bv) X (X.drewN nq) from ⟨Nat.le_refl _, fun _ _ _ => rfl⟩)
            have HBV_ := Lib.hid (show Below gA U1 (X.drewN nq) from below_drewN HBL_.out nq)
            have HSV_ := Lib.hid (show U1.heap.size ≤ (X.drewN nq).heap.size from HSZ_.out)
            have ey : IntKind.u8.wrap (((y : Nat) : Int) + 1) = (((y + 1) % 256 : Nat) : Int) := by rw [IntKind.wrap_u8]; omega
            obtain ⟨y1, hy1⟩ : ∃ x, (y + 1) % 256 = x := ⟨_, rfl⟩
            rw [hy1] at ey
            obtain ⟨mm, hmm⟩ : ∃ x, IntKind.i64.wrap (16 * many) = x := ⟨_, rfl⟩
            clear hcA0 hfA0 hcT0 hcM0 hcW0 hx0 hxf hst1 hst2 hsl hy1
            generalize X.drewN nq = V1 at *
            have HEND := Lib.hid (show KeepsFrom U1.heap.size X ((V1.setCell ⟨bv, ov, none⟩ (.int .u8 (y1 : Nat))).setCell ⟨gA, 0, none⟩ (.int .i64 (16 * ((r : Nat) : Int) + 16))) ∧ Keeps (fun j => j = gA ∨ InS (.slice (some ⟨bv, ov, none⟩) 16 cv') j) X ((V1.setCell ⟨bv, ov, none⟩ (.int .u8 (y1 : Nat))).setCell ⟨gA, 0, none⟩ (.int .i64 (16 * ((r : Nat) : Int) + 16))) ∧
                CI gA U1 (r + 1) ((V1.setCell ⟨bv, ov, none⟩ (.int .u8 (y1 : Nat))).setCell ⟨gA, 0, none⟩ (.int .i64 (16 * ((r : Nat) : Int) + 16))) by
              have hks : Keeps (fun j => j = gA ∨ j = bv) X ((V1.setCell ⟨bv, ov, none⟩ (.int .u8 (y1 : Nat))).setCell ⟨gA, 0, none⟩ (.int .i64 (16 * ((r : Nat) : Int) + 16))) :=
                (HKV.out.trans (Keeps.of_grownBy (grown_setCell V1 bv ov _) (fun r e => by cases e; exact .inr rfl))).trans (Keeps.of_grownBy (grown_setCell _ gA 0 _) (fun r e => by cases e; exact .inl rfl))
              refine ⟨keepsFrom_cells hks (fun j o ho hc h => ?_), hks.weaken (fun j _ h => h.imp id (fun h => by subst h; exact ⟨ov, none, _, _, rfl⟩)), ?_, (HBV_.out.setCell (p := ⟨bv, ov, none⟩) (by show gA ≤ bv; omega) _).setCell (p := ⟨gA, 0, none⟩) (Nat.le_refl _) _, by simp; exact HSV_.out⟩
              · rcases h with rfl | rfl
                · rw [row_cells HRA_.out ho] at hc; cases hc
                · rw [cell_cells HCX.out ho] at hc; cases hc
              · have h := row_set0 (x := .int .i64 (16 * ((r : Nat) : Int) + 16)) (row_cell0 (o := ov) (x := .int .u8 (y1 : Nat)) HR1.out hne2)
                rw [show ((16 * (r + 1) : Nat) : Int) = 16 * ((r : Nat) : Int) + 16 by omega]; exact h)
            clear HKV HBV_ HSV_ HRA_ HBL_ HSZ_ HR1 HCX
            by_cases hbr : mm ≤ 16 * ((r : Nat) : Int) + 16
            · gi_wp2_with fail
              exact ⟨HEND.out.1, HEND.out.2.1, .inr (.inr ⟨6, rfl, rfl, HEND.out.2.2⟩)⟩
            · gi_wp2_with fail
              exact ⟨HEND.out.1, HEND.out.2.1, .inl ⟨rfl, HEND.out.2.2⟩⟩
          case done_0 =>
            rintro D1 V1 hD1 ⟨hra1, hb1, hs1⟩ hKd1
            have hord := HORD_0.out
            have HR3 := Lib.hid (rowB hb1 hord.2.2.2.2.2.1 HR3.out)
            have HR4 := Lib.hid (rowB hb1 hord.2.2.2.2.2.2.1 HR4.out)
            have HRW := Lib.hid (rowB hb1 hord.2.2.2.2.1 HRW.out)
            have HGL := Lib.hid (rowB hb1 hord.2.2.2.1 HGL.out)
            have HRA := Lib.hid (rowB hb1 (by omega) HRA.out)
            have HRB := Lib.hid (rowB hb1 hord.1 HRB.out)
            have HM := Lib.hid (HM.out.below hb1 hord.2.1 hord.2.2.1)
            have HSW := Lib.hid (HSW.out.keeps (keepsB hb1 hs1) (fun j h0 hj => by have := HSWL_0.out j h0 hj; omega))
            have hcT := (rowN_cell (rowB hb1 hord.2.2.2.2.2.2.2.1 HQT.out)).1 0
            have hcA := (rowN_cell hra1).1 0
            have hcW := (rowN_cell HRW.out).1 0
            have HBV1 := Lib.hid (show Below w.heap.size w V1 from HBU1.out.trans (hb1.mono (by have := HGM.out; omega)))
            have HD0 := Lib.hid ((hb1.block D0 HGA.out).trans HD0.out)
            have hDl1 := (Array.getElem?_eq_some_iff.1 hKd1).1
            have HD1 := Lib.hid hKd1
            have HDW1 := Lib.hid (show gM + 2 ≤ D1 by have := HGM.out; omega)
            have HD01 := Lib.hid (show D0 < D1 by have := HGA.out; omega)
            have HORG := Lib.hid (show gb + 1 < V1.heap.size ∧ gm < V1.heap.size ∧ gc < V1.heap.size ∧ gl < V1.heap.size ∧ gW < V1.heap.size ∧ gM < V1.heap.size ∧ gR < V1.heap.size from ⟨rowN_lt HRB.out, rowN_lt HM.out.1, rowN_lt HM.out.2, rowN_lt HGL.out, rowN_lt HRW.out, rowN_lt HR3.out, rowN_lt HR4.out⟩)
            have HSWL := Lib.hid (show ∀ j, 0 < want.length → InS (.slice a2 (16 * t) c2) j → j < V1.heap.size from fun j h0 hj => HSW.out.lt h0 hj)
            clear hra1 hb1 hs1 hKd1 hord HQT HQA
            go_wp2_with fail
            rw [rounds_succ]
            go_wp2_with fail
            obtain ⟨U2, hU⟩ : ∃ U, (V1.alloc (.cells #[.int .i64 1] 3)).alloc (.cells #[.int .i64 0] 3) = U := ⟨_, rfl⟩
            have hbU : Below V1.heap.size V1 U2 := by rw [← hU]; exact ((Below.refl _ _).alloc (Nat.le_refl _) _).alloc (by simp) _
            have HQT := Lib.hid (show rowN U2 V1.heap.size = some #[.int .i64 1] by rw [← hU, rowN_alloc, if_neg (by simp), rowN_alloc, if_pos rfl])
            have HQA := Lib.hid (show rowN U2 (V1.heap.size + 1) = some #[.int .i64 0] by rw [← hU, rowN_alloc, if_pos (by simp)])
            rw [hU]
            have HR3 := Lib.hid (keptW hbU HR3.out)
            have HR4 := Lib.hid (keptW hbU HR4.out)
            have HRW := Lib.hid (keptW hbU HRW.out)
            have HGL := Lib.hid (keptW hbU HGL.out)
            have HRA := Lib.hid (keptW hbU HRA.out)
            have HRB := Lib.hid (keptW hbU HRB.out)
            have HM := Lib.hid (show MdAt ks iv gm gc U2 from ⟨keptW hbU HM.out.1, keptW hbU HM.out.2⟩)
            have HSW := Lib.hid (HSW.out.kept hbU)
            have HBU2 := Lib.hid (bthen HBV1.out hbU)
            have HGB := Lib.hid (show D0 < V1.heap.size + 1 ∧ D1 < V1.heap.size + 1 by have := (Array.getElem?_eq_some_iff.1 HD0.out).1; omega)
            have hsU2 : V1.heap.size + 1 < U2.heap.size := rowN_lt HQA.out
            have HD0 := Lib.hid ((hbU.block D0 (Array.getElem?_eq_some_iff.1 HD0.out).1).trans HD0.out)
            have HD1 := Lib.hid ((hbU.block D1 hDl1).trans HD1.out)
            have hDl1 : D1 < U2.heap.size := Nat.lt_of_lt_of_le hDl1 hbU.size
            have hDl0 : D0 < U2.heap.size := (Array.getElem?_eq_some_iff.1 HD0.out).1
            obtain ⟨gT2, hgT⟩ : ∃ g, V1.heap.size = g := ⟨_, rfl⟩
            obtain ⟨gA2, hgA⟩ : ∃ g, V1.heap.size + 1 = g := ⟨_, rfl⟩
            rw [hgT] at HQT
            rw [hgA] at HQA HGB hsU2
            rw [hgA, hgT]
            clear hU hbU
            have HORD_2 := Lib.hid (show gb + 1 < gA2 ∧ gm < gA2 ∧ gc < gA2 ∧ gl < gA2 ∧ gW < gA2 ∧ gM < gA2 ∧ gR < gA2 ∧ gT2 < gA2 ∧ gA2 < U2.heap.size from by have := HORG.out; omega)
            have HSWL_2 := Lib.hid (show ∀ j, 0 < want.length → InS (.slice a2 (16 * t) c2) j → j < gA2 from fun j h0 hj => by have := HSWL.out j h0 hj; omega)
            clear hgT hgA
            have hord_2 : gb + 1 < gA2 ∧ gm < gA2 ∧ gc < gA2 ∧ gl < gA2 ∧ gW < gA2 ∧ gM < gA2 ∧ gR < gA2 ∧ gT2 < gA2 ∧ gA2 < U2.heap.size := HORD_2.out
            have hwA_2 : w.heap.size ≤ gM ∧ gM < gA2 := ⟨by have := HGM.out; omega, hord_2.2.2.2.2.2.1⟩
            have hlv_2 : ∀ j, 0 < k ∧ InS (.slice al k cn) j → j < w.heap.size := fun j hj => by
              obtain ⟨h0, o, sp, L', c', e⟩ := hj
              obtain ⟨a', c3, e2, _, h2⟩ := HLS.out
              cases e2
              rcases h2 with h2 | ⟨b', off', ea, hlt', _⟩
              · omega
              · rw [ea] at e; cases e; exact hlt'
            have HRDL_2 := Lib.hid (show ∀ j, (j = gl ∨ (0 < k ∧ InS (.slice al k cn) j) ∨ ∃ z, z < k ∧ 0 < (pb z).length ∧ InS (vs z) j) → j < gA2 from fun j h => by
              rcases h with h | h | ⟨z, hz, h0, h⟩
              · omega
              · have := hlv_2 j h; omega
              · have := (HBS.out z hz).1.lt h0 h; omega)
            have HCY_2 := Lib.hid (chain1_yieldsX (6 - 1) gb (gb + 1) gm gc k t ks iv pb 23 #[.pointer (some ⟨gl, 0, none⟩)] (fun z v V => BytesAt (pb z) v V ∧ v = vs z) (fun j => j = gl ∨ (0 < k ∧ InS (.slice al k cn) j) ∨ ∃ z, z < k ∧ 0 < (pb z).length ∧ InS (vs z) j) U2
              HK.out.1 HY.out HV.out.1 HRA.out HRB.out HM.out (enters_of Tryd.func23 (by kernel_rfl) rfl)
              (lblocks1_yields 4 gl k vs pb (.slice al k cn) (by have := HN10.out; omega) U2 HGL.out (HLS.out.same HBU2.out.size (fun j _ hj => HBU2.out.block j hj)) (fun z hz => (HBS.out z hz).1.kept HBU2.out))
              (fun z v V _ h => h.1) (fun z v V l o o' h hl ho => ⟨h.1.putObj o' hl ho, h.2⟩)
              (fun z v V hz h j hj => .inr (.inr ⟨z, by have := HT1.out; omega, by rw [HT2.out z hz]; omega, by rw [← h.2]; exact hj⟩))
              (fun j h => by have := HRDL_2.out j h; omega) HT1.out HT2.out HT3.out HP2.out)
            refine (wpIn_wide (n := 6)).1 ?_
            refine range_yieldsT (by omega) (gf := 35) (lb := #[.pointer (some ⟨gb, 0, none⟩), .pointer (some ⟨gb + 1, 0, none⟩)]) rfl (enters_of Tryd.func35 (by kernel_rfl) rfl) HCY_2.out
              (fun j => j = gA2) (fun j e => by
                subst e
                refine ⟨by omega, fun h => ?_⟩
                rcases h with h | h | h | h | h
                · omega
                · omega
                · omega
                · omega
                · have := HRDL_2.out _ h; omega)
              (fun j h => by
                rcases h with h | h | h | h | h
                · omega
                · omega
                · omega
                · omega
                · have := HRDL_2.out _ h; omega)
              (fun r v X l o o' h hl ho => ⟨⟨h.1.1.putObj o' hl ho, NF.putObj h.1.1 h.1.2 o' hl ho⟩, fun j hj => by have := h.2 j hj; simp; exact this⟩) (Below.refl _ _)
              (CI gA2 U2) (fun _ _ _ => False) (cI_own gA2 U2 (by omega)) (fun _ _ _ _ _ hs _ _ => hs) ⟨HQA.out, Below.refl _ _, Nat.le_refl _⟩ ?a1_2 ?assign_2 ?body_2 ?done_2 ?stop_2
            case assign_2 =>
              intro l2 v X k hk
              gi_wp2
              exact hk
            case body_2 =>
              rintro l2 r v X hr ⟨hra, hbl, hsz⟩ ⟨⟨hbv, hnfv⟩, hins⟩
              rw [← HFE.out] at hbv
              have hfl := HFL.out r hr
              obtain ⟨bv, ov, cv', rfl, hbvl, hcv⟩ := hbv.cells (by rw [hfl.1]; omega)
              rw [hfl.1] at hbv hins hcv hnfv ⊢
              have hinb := (hins bv ⟨ov, none, _, _, rfl⟩).1
              have hy0 := byte_lt hfl.2 0
              have hx0 : X.cell? ⟨bv, ov, none⟩ = some (.int .u8 ((f r).getD 0 0 : Nat)) := hcv 0 (by omega)
              have hxf : X.frozen? ⟨bv, ov, none⟩ = false := hnfv bv ov 16 cv' rfl 0 (by omega)
              obtain ⟨y, hy⟩ : ∃ y, (f r).getD 0 0 = y := ⟨_, rfl⟩
              rw [hy] at hx0 hy0
              have hst1 : ∀ z, (convert 22 9 (.slice (some ⟨bv, ov, none⟩) 16 cv')).run Tryd.prog (X.drewN z) = .ok (.string (strOf (f r))) (X.drewN z) := fun z => str_bytes (show BytesAt (f r) _ (X.drewN z) from hbv) (fun _ _ e => by cases e)
              have hswX : BytesAt want (.slice a2 (16 * t) c2) X := HSW.out.keeps (keepsB hbl hsz) (fun j h0 hj => by have := HSWL_2.out j h0 hj; omega)
              obtain ⟨b2, o2, ha2⟩ : ∃ b2 o2, a2 = some ⟨b2, o2, none⟩ := by
                obtain ⟨b, o, c, e, _, _⟩ := hswX.cells (by rw [HWL.out]; omega)
                injection e with e1 e2 e3
                exact ⟨b, o, e1⟩
              have hcW0 := (rowN_cell (rowB hbl hord_2.2.2.2.2.1 HRW.out)).1 0
              rw [ha2] at hswX hcW0
              have hblk := bytes_cutm hswX (16 * r) 16 (c2 - 16 * r) (by rw [HWL.out]; omega) (by omega)
              rw [show (want.drop (16 * r)).take 16 = f r from by rw [← HWE.out]; exact blkB_catN t (fun q hq => (HFL.out q hq).1) r hr] at hblk
              have hst2 : ∀ z, (convert 22 9 (.slice (some ⟨b2, o2 + 16 * r, none⟩) 16 (c2 - 16 * r))).run Tryd.prog (X.drewN z) = .ok (.string (strOf (f r))) (X.drewN z) := fun z => str_bytes (show BytesAt (f r) _ (X.drewN z) from hblk) (fun _ _ e => by cases e)
              have hsl : ∀ W, (Instr.sliceAt 22 (.slice (some ⟨b2, o2, none⟩) (16 * t) c2) (some (.int .i64 (16 * ((r : Nat) : Int)))) (some (.int .i64 (16 * ((r : Nat) : Int) + 16))) none).run Tryd.prog W = .ok (.slice (some ⟨b2, o2 + 16 * r, none⟩) 16 (c2 - 16 * r)) W := fun W => by
                have h := run_slice22_lh b2 o2 (16 * t) c2 (16 * r) (16 * r + 16) (by omega) (by omega) W
                rw [show ((16 * r : Nat) : Int) = 16 * ((r : Nat) : Int) by omega, show ((16 * r + 16 : Nat) : Int) = 16 * ((r : Nat) : Int) + 16 by omega, show 16 * r + 16 - 16 * r = 16 by omega] at h
                exact h
              have htk := HT1.out
              have hnk := HN10.out
              have hcA0 : X.cell? ⟨gA2, 0, none⟩ = some (.int .i64 (16 * ((r : Nat) : Int))) := (rowN_cell hra).1 0
              have hfA0 := (rowN_cell hra).2 0
              have hcT0 := (rowN_cell (rowB hbl hord_2.2.2.2.2.2.2.2.1 HQT.out)).1 0
              have hcM0 := (rowN_cell (rowB hbl hord_2.2.2.2.2.2.1 HR3.out)).1 0
              have e1 : IntKind.i64.wrap (16 * ((r : Nat) : Int) + 16) = 16 * ((r : Nat) : Int) + 16 := IntWalk.i64_in _ (by omega)
              have e2 : decide (((16 * t : Nat) : Int) < 16 * ((r : Nat) : Int) + 16) = false := decide_eq_false (by omega)
              have e3 : decide (16 * ((t : Nat) : Int) < 16 * ((r : Nat) : Int) + 16) = false := decide_eq_false (by omega)
              have HRA_ := Lib.hid hra
              have HBL_ := Lib.hid hbl
              have HSZ_ := Lib.hid hsz
              have HCX := Lib.hid hx0
              have hne1 : bv ≠ gA2 := by omega
              have hne2 : gA2 ≠ bv := by omega
              have hne3 : gT2 ≠ bv := by omega
              have hne4 : gT2 ≠ gA2 := by omega
              have hne5 : gM ≠ bv := by omega
              have hne6 : gM ≠ gA2 := by omega
              clear hy hbv hnfv hins hcv hra hbl hsz hswX hblk hfl ha2 hbvl
              gi_wp2_with fail
              refine quiet_round_lit (by kernel_rfl) (by kernel_rfl) (by kernel_rfl) ?_
              repeat (gi_big_quiet_step (fail))
              refine wpQuietIn_nil ?_
              intro _ hw'
              obtain ⟨nq, rfl⟩ := hw'
              have HR1 := Lib.hid (show rowN (X.drewN nq) gA2 = some #[.int .i64 ((16 * r : Nat) : Int)] from HRA_.out)
              have hdA : (X.drewN nq).cell? ⟨gA2, 0, none⟩ = some (.int .i64 (16 * ((r : Nat) : Int))) := hcA0
              have hgA : (X.drewN nq).frozen? ⟨gA2, 0, none⟩ = false := hfA0
              have hdT : (X.drewN nq).cell? ⟨gT2, 0, none⟩ = some (.int .i64 1) := hcT0
              have hdM : (X.drewN nq).cell? ⟨gM, 0, none⟩ = some (.int .i64 many) := hcM0
              have hdx : (X.drewN nq).cell? ⟨bv, ov, none⟩ = some (.int .u8 (y : Nat)) := hx0
              have hdf : (X.drewN nq).frozen? ⟨bv, ov, none⟩ = false := hxf
              have HKV := Lib.hid (show Keeps (fun j => j = gA2 ∨ j = bv) X (X.drewN nq) from ⟨Nat.le_refl _, fun _ _ _ => rfl⟩)
              have HBV_ := Lib.hid (show Below gA2 U2 (X.drewN nq) from below_drewN HBL_.out nq)
              have HSV_ := Lib.hid (show U2.heap.size ≤ (X.drewN nq).heap.size from HSZ_.out)
              have ey : IntKind.u8.wrap (((y : Nat) : Int) + 1) = (((y + 1) % 256 : Nat) : Int) := by rw [IntKind.wrap_u8]; omega
              obtain ⟨y1, hy1⟩ : ∃ x, (y + 1) % 256 = x := ⟨_, rfl⟩
              rw [hy1] at ey
              obtain ⟨mm, hmm⟩ : ∃ x, IntKind.i64.wrap (16 * many) = x := ⟨_, rfl⟩
              clear hcA0 hfA0 hcT0 hcM0 hcW0 hx0 hxf hst1 hst2 hsl hy1
              generalize X.drewN nq = V1 at *
              have HEND := Lib.hid (show KeepsFrom U2.heap.size X ((V1.setCell ⟨bv, ov, none⟩ (.int .u8 (y1 : Nat))).setCell ⟨gA2, 0, none⟩ (.int .i64 (16 * ((r : Nat) : Int) + 16))) ∧ Keeps (fun j => j = gA2 ∨ InS (.slice (some ⟨bv, ov, none⟩) 16 cv') j) X ((V1.setCell ⟨bv, ov, none⟩ (.int .u8 (y1 : Nat))).setCell ⟨gA2, 0, none⟩ (.int .i64 (16 * ((r : Nat) : Int) + 16))) ∧
                  CI gA2 U2 (r + 1) ((V1.setCell ⟨bv, ov, none⟩ (.int .u8 (y1 : Nat))).setCell ⟨gA2, 0, none⟩ (.int .i64 (16 * ((r : Nat) : Int) + 16))) by
                have hks : Keeps (fun j => j = gA2 ∨ j = bv) X ((V1.setCell ⟨bv, ov, none⟩ (.int .u8 (y1 : Nat))).setCell ⟨gA2, 0, none⟩ (.int .i64 (16 * ((r : Nat) : Int) + 16))) :=
                  (HKV.out.trans (Keeps.of_grownBy (grown_setCell V1 bv ov _) (fun r e => by cases e; exact .inr rfl))).trans (Keeps.of_grownBy (grown_setCell _ gA2 0 _) (fun r e => by cases e; exact .inl rfl))
                refine ⟨keepsFrom_cells hks (fun j o ho hc h => ?_), hks.weaken (fun j _ h => h.imp id (fun h => by subst h; exact ⟨ov, none, _, _, rfl⟩)), ?_, (HBV_.out.setCell (p := ⟨bv, ov, none⟩) (by show gA2 ≤ bv; omega) _).setCell (p := ⟨gA2, 0, none⟩) (Nat.le_refl _) _, by simp; exact HSV_.out⟩
                · rcases h with rfl | rfl
                  · rw [row_cells HRA_.out ho] at hc; cases hc
                  · rw [cell_cells HCX.out ho] at hc; cases hc
                · have h := row_set0 (x := .int .i64 (16 * ((r : Nat) : Int) + 16)) (row_cell0 (o := ov) (x := .int .u8 (y1 : Nat)) HR1.out hne2)
                  rw [show ((16 * (r + 1) : Nat) : Int) = 16 * ((r : Nat) : Int) + 16 by omega]; exact h)
              clear HKV HBV_ HSV_ HRA_ HBL_ HSZ_ HR1 HCX
              gi_wp2_with fail
              exact ⟨HEND.out.1, HEND.out.2.1, .inl ⟨rfl, HEND.out.2.2⟩⟩
            case done_2 =>
              rintro D2 V2 hD2 ⟨hra2, hb2, hs2⟩ hKd2
              have hord2 := HORD_2.out
              have HR4 := Lib.hid (rowB hb2 hord2.2.2.2.2.2.2.1 HR4.out)
              have HRW := Lib.hid (rowB hb2 hord2.2.2.2.2.1 HRW.out)
              have hcT := (rowN_cell (rowB hb2 hord2.2.2.2.2.2.2.2.1 HQT.out)).1 0
              have hcA := (rowN_cell hra2).1 0
              have hcW := (rowN_cell HRW.out).1 0
              have HBV2 := Lib.hid (show Below w.heap.size w V2 from HBU2.out.trans (hb2.mono (by have := HGM.out; omega)))
              have HD0 := Lib.hid ((hb2.block D0 HGB.out.1).trans HD0.out)
              have HD1 := Lib.hid ((hb2.block D1 HGB.out.2).trans HD1.out)
              have HD2 := Lib.hid hKd2
              have hDl2 := (Array.getElem?_eq_some_iff.1 hKd2).1
              have hd01 := HD01.out
              have hgb := HGB.out
              clear hra2 hb2 hs2 hKd2 hord2
              clear HQT HQA
              go_wp2_with fail
              rw [rounds_succ]
              go_wp2_with fail
              obtain ⟨X, hX⟩ : ∃ X, V2.alloc (.cells #[.int .i64 2] 3) = X := ⟨_, rfl⟩
              have hbX : Below V2.heap.size V2 X := by rw [← hX]; exact (Below.refl _ _).alloc (Nat.le_refl _) _
              rw [hX]
              refine (known_any X).mono ?_
              rintro e Y ⟨rfl, hbY⟩
              have hbZ := bthen hbX hbY
              have hr4 := keptW hbZ HR4.out
              have hc4 := (rowN_cell hr4).1 0
              have hf4 := (rowN_cell hr4).2 0
              have HR4 := Lib.hid hr4
              have HBY := Lib.hid (bthen HBV2.out hbZ)
              have HD0 := Lib.hid ((hbZ.block D0 (Array.getElem?_eq_some_iff.1 HD0.out).1).trans HD0.out)
              have HD1 := Lib.hid ((hbZ.block D1 (Array.getElem?_eq_some_iff.1 HD1.out).1).trans HD1.out)
              have HD2 := Lib.hid ((hbZ.block D2 hDl2).trans HD2.out)
              clear hX hbX hbY hbZ hr4
              go_wp2_with fail
              have n0 : D0 ≠ gR := by have := HDW0.out; have := HGM.out; omega
              have n1 : D1 ≠ gR := by have := HDW0.out; have := HGM.out; omega
              have n2 : D2 ≠ gR := by have := HDW0.out; have := HGM.out; omega
              have n01 : D0 ≠ D1 := by omega
              have n02 : D0 ≠ D2 := by omega
              have n12 : D1 ≠ D2 := by omega
              have hwd : w.heap.size ≤ D0 ∧ w.heap.size ≤ D1 ∧ w.heap.size ≤ D2 ∧ w.heap.size ≤ gR := by have := HDW0.out; have := HGM.out; omega
              have s2 := (Below.heap_setCell Y ⟨gR, 0, none⟩ (.bool true) D2 (by show D2 ≠ gR; exact n2)).trans HD2.out
              have s1 := (Below.heap_setCell Y ⟨gR, 0, none⟩ (.bool true) D1 (by show D1 ≠ gR; exact n1)).trans HD1.out
              have s0 := (Below.heap_setCell Y ⟨gR, 0, none⟩ (.bool true) D0 (by show D0 ≠ gR; exact n0)).trans HD0.out
              refine ⟨by simp, .inl ⟨_, _, rfl, run_takeDeferred s2, ?_⟩⟩
              refine ⟨by simp, .inl ⟨_, _, rfl, run_takeDeferred ((World.putObj_heap_other n12).trans s1), ?_⟩⟩
              refine ⟨by simp, .inl ⟨_, _, rfl, run_takeDeferred ((World.putObj_heap_other n01).trans ((World.putObj_heap_other n02).trans s0)), ?_⟩⟩
              refine ⟨_, results_bool gR true rfl rfl (by rw [rowN_putObj (fun e => n0 e.symm), rowN_putObj (fun e => n1 e.symm), rowN_putObj (fun e => n2 e.symm)]; exact row_set0 HR4.out), rfl, ?_⟩
              have hb := HBY.out.setCell (p := ⟨gR, 0, none⟩) (by show w.heap.size ≤ gR; exact hwd.2.2.2) (.bool true)
              have hb2 := hb.grown (grownBy_putObj' _ D2 (.deferred none)) hb.size (fun r e => by cases e; exact hwd.2.2.1)
              have hb1 := hb2.grown (grownBy_putObj' _ D1 (.deferred none)) hb2.size (fun r e => by cases e; exact hwd.2.1)
              exact hb1.grown (grownBy_putObj' _ D0 (.deferred none)) hb1.size (fun r e => by cases e; exact hwd.1)
            case stop_2 =>
              rintro D k c V hD hk hx hK
              exact hx.elim
          case stop_0 =>
            rintro D1 r0 c V1 hD1 hr0 ⟨rfl, hra1, hb1, hs1⟩ hKd1
            refine wpIn_wide.2 ?_
            have hord := HORD_0.out
            have HR3 := Lib.hid (rowB hb1 hord.2.2.2.2.2.1 HR3.out)
            have HR4 := Lib.hid (rowB hb1 hord.2.2.2.2.2.2.1 HR4.out)
            have HRW := Lib.hid (rowB hb1 hord.2.2.2.2.1 HRW.out)
            have HGL := Lib.hid (rowB hb1 hord.2.2.2.1 HGL.out)
            have HRA := Lib.hid (rowB hb1 (by omega) HRA.out)
            have HRB := Lib.hid (rowB hb1 hord.1 HRB.out)
            have HM := Lib.hid (HM.out.below hb1 hord.2.1 hord.2.2.1)
            have HSW := Lib.hid (HSW.out.keeps (keepsB hb1 hs1) (fun j h0 hj => by have := HSWL_0.out j h0 hj; omega))
            have hcT := (rowN_cell (rowB hb1 hord.2.2.2.2.2.2.2.1 HQT.out)).1 0
            have hcA := (rowN_cell hra1).1 0
            have hcW := (rowN_cell HRW.out).1 0
            have HBV1 := Lib.hid (show Below w.heap.size w V1 from HBU1.out.trans (hb1.mono (by have := HGM.out; omega)))
            have HD0 := Lib.hid ((hb1.block D0 HGA.out).trans HD0.out)
            have hDl1 := (Array.getElem?_eq_some_iff.1 hKd1).1
            have HD1 := Lib.hid hKd1
            have HDW1 := Lib.hid (show gM + 2 ≤ D1 by have := HGM.out; omega)
            have HD01 := Lib.hid (show D0 < D1 by have := HGA.out; omega)
            have HORG := Lib.hid (show gb + 1 < V1.heap.size ∧ gm < V1.heap.size ∧ gc < V1.heap.size ∧ gl < V1.heap.size ∧ gW < V1.heap.size ∧ gM < V1.heap.size ∧ gR < V1.heap.size from ⟨rowN_lt HRB.out, rowN_lt HM.out.1, rowN_lt HM.out.2, rowN_lt HGL.out, rowN_lt HRW.out, rowN_lt HR3.out, rowN_lt HR4.out⟩)
            have HSWL := Lib.hid (show ∀ j, 0 < want.length → InS (.slice a2 (16 * t) c2) j → j < V1.heap.size from fun j h0 hj => HSW.out.lt h0 hj)
            clear hra1 hb1 hs1 hKd1 hord HQT HQA
            go_wp2_with fail
            rw [rounds_succ]
            go_wp2_with fail
            obtain ⟨U2, hU⟩ : ∃ U, (V1.alloc (.cells #[.int .i64 1] 3)).alloc (.cells #[.int .i64 0] 3) = U := ⟨_, rfl⟩
            have hbU : Below V1.heap.size V1 U2 := by rw [← hU]; exact ((Below.refl _ _).alloc (Nat.le_refl _) _).alloc (by simp) _
            have HQT := Lib.hid (show rowN U2 V1.heap.size = some #[.int .i64 1] by rw [← hU, rowN_alloc, if_neg (by simp), rowN_alloc, if_pos rfl])
            have HQA := Lib.hid (show rowN U2 (V1.heap.size + 1) = some #[.int .i64 0] by rw [← hU, rowN_alloc, if_pos (by simp)])
            rw [hU]
            have HR3 := Lib.hid (keptW hbU HR3.out)
            have HR4 := Lib.hid (keptW hbU HR4.out)
            have HRW := Lib.hid (keptW hbU HRW.out)
            have HGL := Lib.hid (keptW hbU HGL.out)
            have HRA := Lib.hid (keptW hbU HRA.out)
            have HRB := Lib.hid (keptW hbU HRB.out)
            have HM := Lib.hid (show MdAt ks iv gm gc U2 from ⟨keptW hbU HM.out.1, keptW hbU HM.out.2⟩)
            have HSW := Lib.hid (HSW.out.kept hbU)
            have HBU2 := Lib.hid (bthen HBV1.out hbU)
            have HGB := Lib.hid (show D0 < V1.heap.size + 1 ∧ D1 < V1.heap.size + 1 by have := (Array.getElem?_eq_some_iff.1 HD0.out).1; omega)
            have hsU2 : V1.heap.size + 1 < U2.heap.size := rowN_lt HQA.out
            have HD0 := Lib.hid ((hbU.block D0 (Array.getElem?_eq_some_iff.1 HD0.out).1).trans HD0.out)
            have HD1 := Lib.hid ((hbU.block D1 hDl1).trans HD1.out)
            have hDl1 : D1 < U2.heap.size := Nat.lt_of_lt_of_le hDl1 hbU.size
            have hDl0 : D0 < U2.heap.size := (Array.getElem?_eq_some_iff.1 HD0.out).1
            obtain ⟨gT2, hgT⟩ : ∃ g, V1.heap.size = g := ⟨_, rfl⟩
            obtain ⟨gA2, hgA⟩ : ∃ g, V1.heap.size + 1 = g := ⟨_, rfl⟩
            rw [hgT] at HQT
            rw [hgA] at HQA HGB hsU2
            rw [hgA, hgT]
            clear hU hbU
            have HORD_3 := Lib.hid (show gb + 1 < gA2 ∧ gm < gA2 ∧ gc < gA2 ∧ gl < gA2 ∧ gW < gA2 ∧ gM < gA2 ∧ gR < gA2 ∧ gT2 < gA2 ∧ gA2 < U2.heap.size from by have := HORG.out; omega)
            have HSWL_3 := Lib.hid (show ∀ j, 0 < want.length → InS (.slice a2 (16 * t) c2) j → j < gA2 from fun j h0 hj => by have := HSWL.out j h0 hj; omega)
            clear hgT hgA
            have hord_3 : gb + 1 < gA2 ∧ gm < gA2 ∧ gc < gA2 ∧ gl < gA2 ∧ gW < gA2 ∧ gM < gA2 ∧ gR < gA2 ∧ gT2 < gA2 ∧ gA2 < U2.heap.size := HORD_3.out
            have hwA_3 : w.heap.size ≤ gM ∧ gM < gA2 := ⟨by have := HGM.out; omega, hord_3.2.2.2.2.2.1⟩
            have hlv_3 : ∀ j, 0 < k ∧ InS (.slice al k cn) j → j < w.heap.size := fun j hj => by
              obtain ⟨h0, o, sp, L', c', e⟩ := hj
              obtain ⟨a', c3, e2, _, h2⟩ := HLS.out
              cases e2
              rcases h2 with h2 | ⟨b', off', ea, hlt', _⟩
              · omega
              · rw [ea] at e; cases e; exact hlt'
            have HRDL_3 := Lib.hid (show ∀ j, (j = gl ∨ (0 < k ∧ InS (.slice al k cn) j) ∨ ∃ z, z < k ∧ 0 < (pb z).length ∧ InS (vs z) j) → j < gA2 from fun j h => by
              rcases h with h | h | ⟨z, hz, h0, h⟩
              · omega
              · have := hlv_3 j h; omega
              · have := (HBS.out z hz).1.lt h0 h; omega)
            have HCY_3 := Lib.hid (chain1_yieldsX (6 - 1) gb (gb + 1) gm gc k t ks iv pb 23 #[.pointer (some ⟨gl, 0, none⟩)] (fun z v V => BytesAt (pb z) v V ∧ v = vs z) (fun j => j = gl ∨ (0 < k ∧ InS (.slice al k cn) j) ∨ ∃ z, z < k ∧ 0 < (pb z).length ∧ InS (vs z) j) U2
              HK.out.1 HY.out HV.out.1 HRA.out HRB.out HM.out (enters_of Tryd.func23 (by kernel_rfl) rfl)
              (lblocks1_yields 4 gl k vs pb (.slice al k cn) (by have := HN10.out; omega) U2 HGL.out (HLS.out.same HBU2.out.size (fun j _ hj => HBU2.out.block j hj)) (fun z hz => (HBS.out z hz).1.kept HBU2.out))
              (fun z v V _ h => h.1) (fun z v V l o o' h hl ho => ⟨h.1.putObj o' hl ho, h.2⟩)
              (fun z v V hz h j hj => .inr (.inr ⟨z, by have := HT1.out; omega, by rw [HT2.out z hz]; omega, by rw [← h.2]; exact hj⟩))
              (fun j h => by have := HRDL_3.out j h; omega) HT1.out HT2.out HT3.out HP2.out)
            refine (wpIn_wide (n := 6)).1 ?_
            refine range_yieldsT (by omega) (gf := 35) (lb := #[.pointer (some ⟨gb, 0, none⟩), .pointer (some ⟨gb + 1, 0, none⟩)]) rfl (enters_of Tryd.func35 (by kernel_rfl) rfl) HCY_3.out
              (fun j => j = gA2) (fun j e => by
                subst e
                refine ⟨by omega, fun h => ?_⟩
                rcases h with h | h | h | h | h
                · omega
                · omega
                · omega
                · omega
                · have := HRDL_3.out _ h; omega)
              (fun j h => by
                rcases h with h | h | h | h | h
                · omega
                · omega
                · omega
                · omega
                · have := HRDL_3.out _ h; omega)
              (fun r v X l o o' h hl ho => ⟨⟨h.1.1.putObj o' hl ho, NF.putObj h.1.1 h.1.2 o' hl ho⟩, fun j hj => by have := h.2 j hj; simp; exact this⟩) (Below.refl _ _)
              (CI gA2 U2) (fun _ _ _ => False) (cI_own gA2 U2 (by omega)) (fun _ _ _ _ _ hs _ _ => hs) ⟨HQA.out, Below.refl _ _, Nat.le_refl _⟩ ?a1_3 ?assign_3 ?body_3 ?done_3 ?stop_3
            case assign_3 =>
              intro l2 v X k hk
              gi_wp2
              exact hk
            case body_3 =>
              rintro l2 r v X hr ⟨hra, hbl, hsz⟩ ⟨⟨hbv, hnfv⟩, hins⟩
              rw [← HFE.out] at hbv
              have hfl := HFL.out r hr
              obtain ⟨bv, ov, cv', rfl, hbvl, hcv⟩ := hbv.cells (by rw [hfl.1]; omega)
              rw [hfl.1] at hbv hins hcv hnfv ⊢
              have hinb := (hins bv ⟨ov, none, _, _, rfl⟩).1
              have hy0 := byte_lt hfl.2 0
              have hx0 : X.cell? ⟨bv, ov, none⟩ = some (.int .u8 ((f r).getD 0 0 : Nat)) := hcv 0 (by omega)
              have hxf : X.frozen? ⟨bv, ov, none⟩ = false := hnfv bv ov 16 cv' rfl 0 (by omega)
              obtain ⟨y, hy⟩ : ∃ y, (f r).getD 0 0 = y := ⟨_, rfl⟩
              rw [hy] at hx0 hy0
              have hst1 : ∀ z, (convert 22 9 (.slice (some ⟨bv, ov, none⟩) 16 cv')).run Tryd.prog (X.drewN z) = .ok (.string (strOf (f r))) (X.drewN z) := fun z => str_bytes (show BytesAt (f r) _ (X.drewN z) from hbv) (fun _ _ e => by cases e)
              have hswX : BytesAt want (.slice a2 (16 * t) c2) X := HSW.out.keeps (keepsB hbl hsz) (fun j h0 hj => by have := HSWL_3.out j h0 hj; omega)
              obtain ⟨b2, o2, ha2⟩ : ∃ b2 o2, a2 = some ⟨b2, o2, none⟩ := by
                obtain ⟨b, o, c, e, _, _⟩ := hswX.cells (by rw [HWL.out]; omega)
                injection e with e1 e2 e3
                exact ⟨b, o, e1⟩
              have hcW0 := (rowN_cell (rowB hbl hord_3.2.2.2.2.1 HRW.out)).1 0
              rw [ha2] at hswX hcW0
              have hblk := bytes_cutm hswX (16 * r) 16 (c2 - 16 * r) (by rw [HWL.out]; omega) (by omega)
              rw [show (want.drop (16 * r)).take 16 = f r from by rw [← HWE.out]; exact blkB_catN t (fun q hq => (HFL.out q hq).1) r hr] at hblk
              have hst2 : ∀ z, (convert 22 9 (.slice (some ⟨b2, o2 + 16 * r, none⟩) 16 (c2 - 16 * r))).run Tryd.prog (X.drewN z) = .ok (.string (strOf (f r))) (X.drewN z) := fun z => str_bytes (show BytesAt (f r) _ (X.drewN z) from hblk) (fun _ _ e => by cases e)
              have hsl : ∀ W, (Instr.sliceAt 22 (.slice (some ⟨b2, o2, none⟩) (16 * t) c2) (some (.int .i64 (16 * ((r : Nat) : Int)))) (some (.int .i64 (16 * ((r : Nat) : Int) + 16))) none).run Tryd.prog W = .ok (.slice (some ⟨b2, o2 + 16 * r, none⟩) 16 (c2 - 16 * r)) W := fun W => by
                have h := run_slice22_lh b2 o2 (16 * t) c2 (16 * r) (16 * r + 16) (by omega) (by omega) W
                rw [show ((16 * r : Nat) : Int) = 16 * ((r : Nat) : Int) by omega, show ((16 * r + 16 : Nat) : Int) = 16 * ((r : Nat) : Int) + 16 by omega, show 16 * r + 16 - 16 * r = 16 by omega] at h
                exact h
              have htk := HT1.out
              have hnk := HN10.out
              have hcA0 : X.cell? ⟨gA2, 0, none⟩ = some (.int .i64 (16 * ((r : Nat) : Int))) := (rowN_cell hra).1 0
              have hfA0 := (rowN_cell hra).2 0
              have hcT0 := (rowN_cell (rowB hbl hord_3.2.2.2.2.2.2.2.1 HQT.out)).1 0
              have hcM0 := (rowN_cell (rowB hbl hord_3.2.2.2.2.2.1 HR3.out)).1 0
              have e1 : IntKind.i64.wrap (16 * ((r : Nat) : Int) + 16) = 16 * ((r : Nat) : Int) + 16 := IntWalk.i64_in _ (by omega)
              have e2 : decide (((16 * t : Nat) : Int) < 16 * ((r : Nat) : Int) + 16) = false := decide_eq_false (by omega)
              have e3 : decide (16 * ((t : Nat) : Int) < 16 * ((r : Nat) : Int) + 16) = false := decide_eq_false (by omega)
              have HRA_ := Lib.hid hra
              have HBL_ := Lib.hid hbl
              have HSZ_ := Lib.hid hsz
              have HCX := Lib.hid hx0
              have hne1 : bv ≠ gA2 := by omega
              have hne2 : gA2 ≠ bv := by omega
              have hne3 : gT2 ≠ bv := by omega
              have hne4 : gT2 ≠ gA2 := by omega
              have hne5 : gM ≠ bv := by omega
              have hne6 : gM ≠ gA2 := by omega
              clear hy hbv hnfv hins hcv hra hbl hsz hswX hblk hfl ha2 hbvl
              gi_wp2_with fail
              refine quiet_round_lit (by kernel_rfl) (by kernel_rfl) (by kernel_rfl) ?_
              repeat (gi_big_quiet_step (fail))
              refine wpQuietIn_nil ?_
              intro _ hw'
              obtain ⟨nq, rfl⟩ := hw'
              have HR1 := Lib.hid (show rowN (X.drewN nq) gA2 = some #[.int .i64 ((16 * r : Nat) : Int)] from HRA_.out)
              have hdA : (X.drewN nq).cell? ⟨gA2, 0, none⟩ = some (.int .i64 (16 * ((r : Nat) : Int))) := hcA0
              have hgA : (X.drewN nq).frozen? ⟨gA2, 0, none⟩ = false := hfA0
              have hdT : (X.drewN nq).cell? ⟨gT2, 0, none⟩ = some (.int .i64 1) := hcT0
              have hdM : (X.drewN nq).cell? ⟨gM, 0, none⟩ = some (.int .i64 many) := hcM0
              have hdx : (X.drewN nq).cell? ⟨bv, ov, none⟩ = some (.int .u8 (y : Nat)) := hx0
              have hdf : (X.drewN nq).frozen? ⟨bv, ov, none⟩ = false := hxf
              have HKV := Lib.hid (show Keeps (fun j => j = gA2 ∨ j = bv) X (X.drewN nq) from ⟨Nat.le_refl _, fun _ _ _ => rfl⟩)
              have HBV_ := Lib.hid (show Below gA2 U2 (X.drewN nq) from below_drewN HBL_.out nq)
              have HSV_ := Lib.hid (show U2.heap.size ≤ (X.drewN nq).heap.size from HSZ_.out)
              have ey : IntKind.u8.wrap (((y : Nat) : Int) + 1) = (((y + 1) % 256 : Nat) : Int) := by rw [IntKind.wrap_u8]; omega
              obtain ⟨y1, hy1⟩ : ∃ x, (y + 1) % 256 = x := ⟨_, rfl⟩
              rw [hy1] at ey
              obtain ⟨mm, hmm⟩ : ∃ x, IntKind.i64.wrap (16 * many) = x := ⟨_, rfl⟩
              clear hcA0 hfA0 hcT0 hcM0 hcW0 hx0 hxf hst1 hst2 hsl hy1
              generalize X.drewN nq = V1 at *
              have HEND := Lib.hid (show KeepsFrom U2.heap.size X ((V1.setCell ⟨bv, ov, none⟩ (.int .u8 (y1 : Nat))).setCell ⟨gA2, 0, none⟩ (.int .i64 (16 * ((r : Nat) : Int) + 16))) ∧ Keeps (fun j => j = gA2 ∨ InS (.slice (some ⟨bv, ov, none⟩) 16 cv') j) X ((V1.setCell ⟨bv, ov, none⟩ (.int .u8 (y1 : Nat))).setCell ⟨gA2, 0, none⟩ (.int .i64 (16 * ((r : Nat) : Int) + 16))) ∧
                  CI gA2 U2 (r + 1) ((V1.setCell ⟨bv, ov, none⟩ (.int .u8 (y1 : Nat))).setCell ⟨gA2, 0, none⟩ (.int .i64 (16 * ((r : Nat) : Int) + 16))) by
                have hks : Keeps (fun j => j = gA2 ∨ j = bv) X ((V1.setCell ⟨bv, ov, none⟩ (.int .u8 (y1 : Nat))).setCell ⟨gA2, 0, none⟩ (.int .i64 (16 * ((r : Nat) : Int) + 16))) :=
                  (HKV.out.trans (Keeps.of_grownBy (grown_setCell V1 bv ov _) (fun r e => by cases e; exact .inr rfl))).trans (Keeps.of_grownBy (grown_setCell _ gA2 0 _) (fun r e => by cases e; exact .inl rfl))
                refine ⟨keepsFrom_cells hks (fun j o ho hc h => ?_), hks.weaken (fun j _ h => h.imp id (fun h => by subst h; exact ⟨ov, none, _, _, rfl⟩)), ?_, (HBV_.out.setCell (p := ⟨bv, ov, none⟩) (by show gA2 ≤ bv; omega) _).setCell (p := ⟨gA2, 0, none⟩) (Nat.le_refl _) _, by simp; exact HSV_.out⟩
                · rcases h with rfl | rfl
                  · rw [row_cells HRA_.out ho] at hc; cases hc
                  · rw [cell_cells HCX.out ho] at hc; cases hc
                · have h := row_set0 (x := .int .i64 (16 * ((r : Nat) : Int) + 16)) (row_cell0 (o := ov) (x := .int .u8 (y1 : Nat)) HR1.out hne2)
                  rw [show ((16 * (r + 1) : Nat) : Int) = 16 * ((r : Nat) : Int) + 16 by omega]; exact h)
              clear HKV HBV_ HSV_ HRA_ HBL_ HSZ_ HR1 HCX
              gi_wp2_with fail
              exact ⟨HEND.out.1, HEND.out.2.1, .inl ⟨rfl, HEND.out.2.2⟩⟩
            case done_3 =>
              rintro D2 V2 hD2 ⟨hra2, hb2, hs2⟩ hKd2
              have hord2 := HORD_3.out
              have HR4 := Lib.hid (rowB hb2 hord2.2.2.2.2.2.2.1 HR4.out)
              have HRW := Lib.hid (rowB hb2 hord2.2.2.2.2.1 HRW.out)
              have hcT := (rowN_cell (rowB hb2 hord2.2.2.2.2.2.2.2.1 HQT.out)).1 0
              have hcA := (rowN_cell hra2).1 0
              have hcW := (rowN_cell HRW.out).1 0
              have HBV2 := Lib.hid (show Below w.heap.size w V2 from HBU2.out.trans (hb2.mono (by have := HGM.out; omega)))
              have HD0 := Lib.hid ((hb2.block D0 HGB.out.1).trans HD0.out)
              have HD1 := Lib.hid ((hb2.block D1 HGB.out.2).trans HD1.out)
              have HD2 := Lib.hid hKd2
              have hDl2 := (Array.getElem?_eq_some_iff.1 hKd2).1
              have hd01 := HD01.out
              have hgb := HGB.out
              clear hra2 hb2 hs2 hKd2 hord2
              clear HQT HQA
              go_wp2_with fail
              rw [rounds_succ]
              go_wp2_with fail
              obtain ⟨X, hX⟩ : ∃ X, V2.alloc (.cells #[.int .i64 2] 3) = X := ⟨_, rfl⟩
              have hbX : Below V2.heap.size V2 X := by rw [← hX]; exact (Below.refl _ _).alloc (Nat.le_refl _) _
              rw [hX]
              refine (known_any X).mono ?_
              rintro e Y ⟨rfl, hbY⟩
              have hbZ := bthen hbX hbY
              have hr4 := keptW hbZ HR4.out
              have hc4 := (rowN_cell hr4).1 0
              have hf4 := (rowN_cell hr4).2 0
              have HR4 := Lib.hid hr4
              have HBY := Lib.hid (bthen HBV2.out hbZ)
              have HD0 := Lib.hid ((hbZ.block D0 (Array.getElem?_eq_some_iff.1 HD0.out).1).trans HD0.out)
              have HD1 := Lib.hid ((hbZ.block D1 (Array.getElem?_eq_some_iff.1 HD1.out).1).trans HD1.out)
              have HD2 := Lib.hid ((hbZ.block D2 hDl2).trans HD2.out)
              clear hX hbX hbY hbZ hr4
              go_wp2_with fail
              have n0 : D0 ≠ gR := by have := HDW0.out; have := HGM.out; omega
              have n1 : D1 ≠ gR := by have := HDW0.out; have := HGM.out; omega
              have n2 : D2 ≠ gR := by have := HDW0.out; have := HGM.out; omega
              have n01 : D0 ≠ D1 := by omega
              have n02 : D0 ≠ D2 := by omega
              have n12 : D1 ≠ D2 := by omega
              have hwd : w.heap.size ≤ D0 ∧ w.heap.size ≤ D1 ∧ w.heap.size ≤ D2 ∧ w.heap.size ≤ gR := by have := HDW0.out; have := HGM.out; omega
              have s2 := (Below.heap_setCell Y ⟨gR, 0, none⟩ (.bool true) D2 (by show D2 ≠ gR; exact n2)).trans HD2.out
              have s1 := (Below.heap_setCell Y ⟨gR, 0, none⟩ (.bool true) D1 (by show D1 ≠ gR; exact n1)).trans HD1.out
              have s0 := (Below.heap_setCell Y ⟨gR, 0, none⟩ (.bool true) D0 (by show D0 ≠ gR; exact n0)).trans HD0.out
              refine ⟨by simp, .inl ⟨_, _, rfl, run_takeDeferred s2, ?_⟩⟩
              refine ⟨by simp, .inl ⟨_, _, rfl, run_takeDeferred ((World.putObj_heap_other n12).trans s1), ?_⟩⟩
              refine ⟨by simp, .inl ⟨_, _, rfl, run_takeDeferred ((World.putObj_heap_other n01).trans ((World.putObj_heap_other n02).trans s0)), ?_⟩⟩
              refine ⟨_, results_bool gR true rfl rfl (by rw [rowN_putObj (fun e => n0 e.symm), rowN_putObj (fun e => n1 e.symm), rowN_putObj (fun e => n2 e.symm)]; exact row_set0 HR4.out), rfl, ?_⟩
              have hb := HBY.out.setCell (p := ⟨gR, 0, none⟩) (by show w.heap.size ≤ gR; exact hwd.2.2.2) (.bool true)
              have hb2 := hb.grown (grownBy_putObj' _ D2 (.deferred none)) hb.size (fun r e => by cases e; exact hwd.2.2.1)
              have hb1 := hb2.grown (grownBy_putObj' _ D1 (.deferred none)) hb2.size (fun r e => by cases e; exact hwd.2.1)
              exact hb1.grown (grownBy_putObj' _ D0 (.deferred none)) hb1.size (fun r e => by cases e; exact hwd.1)
            case stop_3 =>
              rintro D k c V hD hk hx hK
              exact hx.elim
      · have hcb : ks.length ≠ 16 ∨ iv.length ≠ 16 := by rw [HX.out, HY.out]; omega
        have HL1 := Lib.hid (fun (gl : Nat) (W : World) (hW : Below w.heap.size w W) => lchain_no ks iv (.slice ak x ck) (.slice av y cv) 23 #[.pointer (some ⟨gl, 0, none⟩)] hcb W (HK.out.kept hW) (HV.out.kept hW))
        have HL2 := Lib.hid (fun (W : World) (hW : Below w.heap.size w W) => lchain_nil ks iv (.slice ak x ck) (.slice av y cv) W (HK.out.kept hW) (HV.out.kept hW))
        have hnf : ∀ (W : World), (binOp BinOp.eql 31 (.func (.func 21) #[] #[]) .nilFunc).run Tryd.prog W = .ok (.bool false) W := fun W => by kernel_rfl
        have HBL := Lib.hid (lblocks_any al k cn V)
        clear hcb
        by_cases hx16 : x = 16
        · have hy16 : ¬ ((y : Nat) : Int) = 16 := by omega
          have hy17 : (((y : Nat) : Int) == 16) = false := by simp; omega
          subst hx16
          rw [show ((16 : Nat) : Int) = 16 from rfl]
          clear hc
          go_wp2_with fail
          refine HBL.out.mono ?_
          rintro e w1 ⟨rfl, hw1⟩
          have hb1 : Below V.heap.size V w1 := by rw [hw1]; exact (Below.refl _ _).alloc (Nat.le_refl _) _
          have HB1 := Lib.hid (bthen HBV.out hb1)
          have HC1 := Lib.hid (HL1.out V.heap.size w1 HB1.out)
          have HR3 := Lib.hid (keptW hb1 HR3.out)
          have HR4 := Lib.hid (keptW hb1 HR4.out)
          have HRW := Lib.hid (keptW hb1 HRW.out)
          clear hw1 hb1 HBL HL1
          go_wp2_with fail
          refine HC1.out.mono ?_
          rintro e w2 ⟨rfl, hb2⟩
          have HB2 := Lib.hid (bthen HB1.out hb2)
          have HC2 := Lib.hid (HL2.out w2 HB2.out)
          have HR3 := Lib.hid (keptW hb2 HR3.out)
          have HR4 := Lib.hid (keptW hb2 HR4.out)
          have HRW := Lib.hid (keptW hb2 HRW.out)
          clear hb2 HC1 HL2
          go_wp2_with fail
          refine HC2.out.mono ?_
          rintro e U ⟨rfl, hb3⟩
          have HBU := Lib.hid (bthen HB2.out hb3)
          have HR3 := Lib.hid (keptW hb3 HR3.out)
          have HR4 := Lib.hid (keptW hb3 HR4.out)
          have HRW := Lib.hid (keptW hb3 HRW.out)
          clear hb3 HC2
          go_wp2_with fail
          have HRU4 := HR4
          refine (wpIn_wide (n := 6)).1 ?_
          refine range_yieldsS (by omega) (gf := 21) (lb := #[]) rfl (enters_of Tryd.func21 (by kernel_rfl) rfl) (nothing_yields (6 - 1) (fun _ _ _ => True) (fun _ => False) (fun _ _ => False) U)
            (fun _ => False) (fun j h => h.elim) (fun j h => h.elim) (fun _ _ _ _ _ _ _ _ _ => trivial) (Below.refl _ _) (fun _ X => Below U.heap.size U X) (fun _ _ _ => False) (fun _ X Y row h hg hr => h.grown hg h.size (fun r e => (hr r e).1)) (fun _ _ _ _ _ hs _ _ => hs) (Below.refl _ _) ?a1_nx ?assign_nx ?body_nx ?done_nx ?stop_nx
          case assign_nx =>
            intro l2 v X k hk
            gi_wp2
            exact hk
          case body_nx => exact fun l k v X hk => absurd hk (Nat.not_lt_zero _)
          case stop_nx => exact fun _ _ _ _ _ _ h _ => h.elim
          case done_nx =>
            intro D0 V0 hD0 hb0 hKd0
            have HR3 := Lib.hid (keptW hb0 HR3.out)
            have HR4 := Lib.hid (keptW hb0 HR4.out)
            have HRW := Lib.hid (keptW hb0 HRW.out)
            have HBV0 := Lib.hid (bthen HBU.out hb0)
            have hDl0 := (Array.getElem?_eq_some_iff.1 hKd0).1
            have HD0 := Lib.hid hKd0
            have HDW0 := Lib.hid (show gM + 2 ≤ D0 by have := rowN_lt HR4.out; have := HGM.out; have := rowN_lt HRU4.out; omega)
            clear hb0 hKd0
            go_wp2_with fail
            refine wp_loop_rounds 3 ?_
            rw [rounds_succ]
            go_wp2_with fail
            obtain ⟨U1, hU⟩ : ∃ U, (V0.alloc (.cells #[.int .i64 0] 3)).alloc (.cells #[.int .i64 0] 3) = U := ⟨_, rfl⟩
            have hbU : Below V0.heap.size V0 U1 := by rw [← hU]; exact ((Below.refl _ _).alloc (Nat.le_refl _) _).alloc (by simp) _
            have HQT := Lib.hid (show rowN U1 V0.heap.size = some #[.int .i64 0] by rw [← hU, rowN_alloc, if_neg (by simp), rowN_alloc, if_pos rfl])
            have HQA := Lib.hid (show rowN U1 (V0.heap.size + 1) = some #[.int .i64 0] by rw [← hU, rowN_alloc, if_pos (by simp)])
            rw [hU]
            have HR3 := Lib.hid (keptW hbU HR3.out)
            have HR4 := Lib.hid (keptW hbU HR4.out)
            have HRW := Lib.hid (keptW hbU HRW.out)
            have HBU1 := Lib.hid (bthen HBV0.out hbU)
            have HD0 := Lib.hid ((hbU.block D0 hDl0).trans HD0.out)
            have hDl0 : D0 < U1.heap.size := Nat.lt_of_lt_of_le hDl0 hbU.size
            obtain ⟨gT, hgT⟩ : ∃ g, V0.heap.size = g := ⟨_, rfl⟩
            obtain ⟨gA, hgA⟩ : ∃ g, V0.heap.size + 1 = g := ⟨_, rfl⟩
            rw [hgT] at HQT
            rw [hgA] at HQA
            rw [hgA, hgT]
            have HGA := Lib.hid (show D0 < gA by omega)
            clear hU hbU hgT hgA
            refine (wpIn_wide (n := 6)).1 ?_
            refine range_yieldsS (by omega) (gf := 21) (lb := #[]) rfl (enters_of Tryd.func21 (by kernel_rfl) rfl) (nothing_yields (6 - 1) (fun _ _ _ => True) (fun _ => False) (fun _ _ => False) U1)
              (fun _ => False) (fun j h => h.elim) (fun j h => h.elim) (fun _ _ _ _ _ _ _ _ _ => trivial) (Below.refl _ _) (fun _ X => Below U1.heap.size U1 X) (fun _ _ _ => False) (fun _ X Y row h hg hr => h.grown hg h.size (fun r e => (hr r e).1)) (fun _ _ _ _ _ hs _ _ => hs) (Below.refl _ _) ?a1_1x ?assign_1x ?body_1x ?done_1x ?stop_1x
            case assign_1x =>
              intro l2 v X k hk
              gi_wp2
              exact hk
            case body_1x => exact fun l k v X hk => absurd hk (Nat.not_lt_zero _)
            case stop_1x => exact fun _ _ _ _ _ _ h _ => h.elim
            case done_1x =>
              intro D1 V1 hD1 hb1 hKd1
              have HR3 := Lib.hid (keptW hb1 HR3.out)
              have HR4 := Lib.hid (keptW hb1 HR4.out)
              have HRW := Lib.hid (keptW hb1 HRW.out)
              have hcT := (rowN_cell (keptW hb1 HQT.out)).1 0
              have HBV1 := Lib.hid (bthen HBU1.out hb1)
              have HD0 := Lib.hid ((hb1.block D0 hDl0).trans HD0.out)
              have hDl1 := (Array.getElem?_eq_some_iff.1 hKd1).1
              have HD1 := Lib.hid hKd1
              clear hb1 hKd1
              go_wp2_with fail
              rw [rounds_succ]
              go_wp2_with fail
              obtain ⟨U2, hU⟩ : ∃ U, (V1.alloc (.cells #[.int .i64 1] 3)).alloc (.cells #[.int .i64 0] 3) = U := ⟨_, rfl⟩
              have hbU : Below V1.heap.size V1 U2 := by rw [← hU]; exact ((Below.refl _ _).alloc (Nat.le_refl _) _).alloc (by simp) _
              have HQT := Lib.hid (show rowN U2 V1.heap.size = some #[.int .i64 1] by rw [← hU, rowN_alloc, if_neg (by simp), rowN_alloc, if_pos rfl])
              have HQA := Lib.hid (show rowN U2 (V1.heap.size + 1) = some #[.int .i64 0] by rw [← hU, rowN_alloc, if_pos (by simp)])
              rw [hU]
              have HR3 := Lib.hid (keptW hbU HR3.out)
              have HR4 := Lib.hid (keptW hbU HR4.out)
              have HRW := Lib.hid (keptW hbU HRW.out)
              have HBU2 := Lib.hid (bthen HBV1.out hbU)
              have HD0 := Lib.hid ((hbU.block D0 (Array.getElem?_eq_some_iff.1 HD0.out).1).trans HD0.out)
              have HD1 := Lib.hid ((hbU.block D1 hDl1).trans HD1.out)
              have hDl1 : D1 < U2.heap.size := Nat.lt_of_lt_of_le hDl1 hbU.size
              have hDl0 : D0 < U2.heap.size := (Array.getElem?_eq_some_iff.1 HD0.out).1
              obtain ⟨gT2, hgT⟩ : ∃ g, V1.heap.size = g := ⟨_, rfl⟩
              obtain ⟨gA2, hgA⟩ : ∃ g, V1.heap.size + 1 = g := ⟨_, rfl⟩
              rw [hgT] at HQT
              rw [hgA] at HQA
              rw [hgA, hgT]
              clear hU hbU hgT hgA
              refine (wpIn_wide (n := 6)).1 ?_
              refine range_yieldsS (by omega) (gf := 21) (lb := #[]) rfl (enters_of Tryd.func21 (by kernel_rfl) rfl) (nothing_yields (6 - 1) (fun _ _ _ => True) (fun _ => False) (fun _ _ => False) U2)
                (fun _ => False) (fun j h => h.elim) (fun j h => h.elim) (fun _ _ _ _ _ _ _ _ _ => trivial) (Below.refl _ _) (fun _ X => Below U2.heap.size U2 X) (fun _ _ _ => False) (fun _ X Y row h hg hr => h.grown hg h.size (fun r e => (hr r e).1)) (fun _ _ _ _ _ hs _ _ => hs) (Below.refl _ _) ?a1_2x ?assign_2x ?body_2x ?done_2x ?stop_2x
              case assign_2x =>
                intro l2 v X k hk
                gi_wp2
                exact hk
              case body_2x => exact fun l k v X hk => absurd hk (Nat.not_lt_zero _)
              case stop_2x => exact fun _ _ _ _ _ _ h _ => h.elim
              case done_2x =>
                intro D2 V2 hD2 hb2 hKd2
                have HR4 := Lib.hid (keptW hb2 HR4.out)
                have HRW := Lib.hid (keptW hb2 HRW.out)
                have hcT := (rowN_cell (keptW hb2 HQT.out)).1 0
                have hcA := (rowN_cell (keptW hb2 HQA.out)).1 0
                have hcW := (rowN_cell HRW.out).1 0
                have HBV2 := Lib.hid (bthen HBU2.out hb2)
                have HD0 := Lib.hid ((hb2.block D0 hDl0).trans HD0.out)
                have HD1 := Lib.hid ((hb2.block D1 hDl1).trans HD1.out)
                have HD2 := Lib.hid hKd2
                have hDl2 := (Array.getElem?_eq_some_iff.1 hKd2).1
                clear hb2 hKd2
                clear HQT HQA
                go_wp2_with fail
                rw [rounds_succ]
                go_wp2_with fail
                obtain ⟨X, hX⟩ : ∃ X, V2.alloc (.cells #[.int .i64 2] 3) = X := ⟨_, rfl⟩
                have hbX : Below V2.heap.size V2 X := by rw [← hX]; exact (Below.refl _ _).alloc (Nat.le_refl _) _
                rw [hX]
                refine (known_any X).mono ?_
                rintro e Y ⟨rfl, hbY⟩
                have hbZ := bthen hbX hbY
                have hr4 := keptW hbZ HR4.out
                have hc4 := (rowN_cell hr4).1 0
                have hf4 := (rowN_cell hr4).2 0
                have HR4 := Lib.hid hr4
                have HBY := Lib.hid (bthen HBV2.out hbZ)
                have HD0 := Lib.hid ((hbZ.block D0 (Array.getElem?_eq_some_iff.1 HD0.out).1).trans HD0.out)
                have HD1 := Lib.hid ((hbZ.block D1 (Array.getElem?_eq_some_iff.1 HD1.out).1).trans HD1.out)
                have HD2 := Lib.hid ((hbZ.block D2 hDl2).trans HD2.out)
                clear hX hbX hbY hbZ hr4
                go_wp2_with fail
                have n0 : D0 ≠ gR := by have := HDW0.out; have := HGM.out; omega
                have n1 : D1 ≠ gR := by have := HDW0.out; have := HGM.out; omega
                have n2 : D2 ≠ gR := by have := HDW0.out; have := HGM.out; omega
                have n01 : D0 ≠ D1 := by omega
                have n02 : D0 ≠ D2 := by omega
                have n12 : D1 ≠ D2 := by omega
                have hwd : w.heap.size ≤ D0 ∧ w.heap.size ≤ D1 ∧ w.heap.size ≤ D2 ∧ w.heap.size ≤ gR := by have := HDW0.out; have := HGM.out; omega
                have s2 := (Below.heap_setCell Y ⟨gR, 0, none⟩ (.bool true) D2 (by show D2 ≠ gR; exact n2)).trans HD2.out
                have s1 := (Below.heap_setCell Y ⟨gR, 0, none⟩ (.bool true) D1 (by show D1 ≠ gR; exact n1)).trans HD1.out
                have s0 := (Below.heap_setCell Y ⟨gR, 0, none⟩ (.bool true) D0 (by show D0 ≠ gR; exact n0)).trans HD0.out
                refine ⟨by simp, .inl ⟨_, _, rfl, run_takeDeferred s2, ?_⟩⟩
                refine ⟨by simp, .inl ⟨_, _, rfl, run_takeDeferred ((World.putObj_heap_other n12).trans s1), ?_⟩⟩
                refine ⟨by simp, .inl ⟨_, _, rfl, run_takeDeferred ((World.putObj_heap_other n01).trans ((World.putObj_heap_other n02).trans s0)), ?_⟩⟩
                refine ⟨_, results_bool gR true rfl rfl (by rw [rowN_putObj (fun e => n0 e.symm), rowN_putObj (fun e => n1 e.symm), rowN_putObj (fun e => n2 e.symm)]; exact row_set0 HR4.out), rfl, ?_⟩
                have hb := HBY.out.setCell (p := ⟨gR, 0, none⟩) (by show w.heap.size ≤ gR; exact hwd.2.2.2) (.bool true)
                have hb2 := hb.grown (grownBy_putObj' _ D2 (.deferred none)) hb.size (fun r e => by cases e; exact hwd.2.2.1)
                have hb1 := hb2.grown (grownBy_putObj' _ D1 (.deferred none)) hb2.size (fun r e => by cases e; exact hwd.2.1)
                exact hb1.grown (grownBy_putObj' _ D0 (.deferred none)) hb1.size (fun r e => by cases e; exact hwd.1)
        · have hx17 : ¬ ((x : Nat) : Int) = 16 := by omega
          have hx18 : (((x : Nat) : Int) == 16) = false := by simp; omega
          clear hc
          go_wp2_with fail
          refine HBL.out.mono ?_
          rintro e w1 ⟨rfl, hw1⟩
          have hb1 : Below V.heap.size V w1 := by rw [hw1]; exact (Below.refl _ _).alloc (Nat.le_refl _) _
          have HB1 := Lib.hid (bthen HBV.out hb1)
          have HC1 := Lib.hid (HL1.out V.heap.size w1 HB1.out)
          have HR3 := Lib.hid (keptW hb1 HR3.out)
          have HR4 := Lib.hid (keptW hb1 HR4.out)
          have HRW := Lib.hid (keptW hb1 HRW.out)
          clear hw1 hb1 HBL HL1
          go_wp2_with fail
          refine HC1.out.mono ?_
          rintro e w2 ⟨rfl, hb2⟩
          have HB2 := Lib.hid (bthen HB1.out hb2)
          have HC2 := Lib.hid (HL2.out w2 HB2.out)
          have HR3 := Lib.hid (keptW hb2 HR3.out)
          have HR4 := Lib.hid (keptW hb2 HR4.out)
          have HRW := Lib.hid (keptW hb2 HRW.out)
          clear hb2 HC1 HL2
          go_wp2_with fail
          refine HC2.out.mono ?_
          rintro e U ⟨rfl, hb3⟩
          have HBU := Lib.hid (bthen HB2.out hb3)
          have HR3 := Lib.hid (keptW hb3 HR3.out)
          have HR4 := Lib.hid (keptW hb3 HR4.out)
          have HRW := Lib.hid (keptW hb3 HRW.out)
          clear hb3 HC2
          go_wp2_with fail
          have HRU4 := HR4
          refine (wpIn_wide (n := 6)).1 ?_
          refine range_yieldsS (by omega) (gf := 21) (lb := #[]) rfl (enters_of Tryd.func21 (by kernel_rfl) rfl) (nothing_yields (6 - 1) (fun _ _ _ => True) (fun _ => False) (fun _ _ => False) U)
            (fun _ => False) (fun j h => h.elim) (fun j h => h.elim) (fun _ _ _ _ _ _ _ _ _ => trivial) (Below.refl _ _) (fun _ X => Below U.heap.size U X) (fun _ _ _ => False) (fun _ X Y row h hg hr => h.grown hg h.size (fun r e => (hr r e).1)) (fun _ _ _ _ _ hs _ _ => hs) (Below.refl _ _) ?a1_ny ?assign_ny ?body_ny ?done_ny ?stop_ny
          case assign_ny =>
            intro l2 v X k hk
            gi_wp2
            exact hk
          case body_ny => exact fun l k v X hk => absurd hk (Nat.not_lt_zero _)
          case stop_ny => exact fun _ _ _ _ _ _ h _ => h.elim
          case done_ny =>
            intro D0 V0 hD0 hb0 hKd0
            have HR3 := Lib.hid (keptW hb0 HR3.out)
            have HR4 := Lib.hid (keptW hb0 HR4.out)
            have HRW := Lib.hid (keptW hb0 HRW.out)
            have HBV0 := Lib.hid (bthen HBU.out hb0)
            have hDl0 := (Array.getElem?_eq_some_iff.1 hKd0).1
            have HD0 := Lib.hid hKd0
            have HDW0 := Lib.hid (show gM + 2 ≤ D0 by have := rowN_lt HR4.out; have := HGM.out; have := rowN_lt HRU4.out; omega)
            clear hb0 hKd0
            go_wp2_with fail
            refine wp_loop_rounds 3 ?_
            rw [rounds_succ]
            go_wp2_with fail
            obtain ⟨U1, hU⟩ : ∃ U, (V0.alloc (.cells #[.int .i64 0] 3)).alloc (.cells #[.int .i64 0] 3) = U := ⟨_, rfl⟩
            have hbU : Below V0.heap.size V0 U1 := by rw [← hU]; exact ((Below.refl _ _).alloc (Nat.le_refl _) _).alloc (by simp) _
            have HQT := Lib.hid (show rowN U1 V0.heap.size = some #[.int .i64 0] by rw [← hU, rowN_alloc, if_neg (by simp), rowN_alloc, if_pos rfl])
            have HQA := Lib.hid (show rowN U1 (V0.heap.size + 1) = some #[.int .i64 0] by rw [← hU, rowN_alloc, if_pos (by simp)])
            rw [hU]
            have HR3 := Lib.hid (keptW hbU HR3.out)
            have HR4 := Lib.hid (keptW hbU HR4.out)
            have HRW := Lib.hid (keptW hbU HRW.out)
            have HBU1 := Lib.hid (bthen HBV0.out hbU)
            have HD0 := Lib.hid ((hbU.block D0 hDl0).trans HD0.out)
            have hDl0 : D0 < U1.heap.size := Nat.lt_of_lt_of_le hDl0 hbU.size
            obtain ⟨gT, hgT⟩ : ∃ g, V0.heap.size = g := ⟨_, rfl⟩
            obtain ⟨gA, hgA⟩ : ∃ g, V0.heap.size + 1 = g := ⟨_, rfl⟩
            rw [hgT] at HQT
            rw [hgA] at HQA
            rw [hgA, hgT]
            have HGA := Lib.hid (show D0 < gA by omega)
            clear hU hbU hgT hgA
            refine (wpIn_wide (n := 6)).1 ?_
            refine range_yieldsS (by omega) (gf := 21) (lb := #[]) rfl (enters_of Tryd.func21 (by kernel_rfl) rfl) (nothing_yields (6 - 1) (fun _ _ _ => True) (fun _ => False) (fun _ _ => False) U1)
              (fun _ => False) (fun j h => h.elim) (fun j h => h.elim) (fun _ _ _ _ _ _ _ _ _ => trivial) (Below.refl _ _) (fun _ X => Below U1.heap.size U1 X) (fun _ _ _ => False) (fun _ X Y row h hg hr => h.grown hg h.size (fun r e => (hr r e).1)) (fun _ _ _ _ _ hs _ _ => hs) (Below.refl _ _) ?a1_1y ?assign_1y ?body_1y ?done_1y ?stop_1y
            case assign_1y =>
              intro l2 v X k hk
              gi_wp2
              exact hk
            case body_1y => exact fun l k v X hk => absurd hk (Nat.not_lt_zero _)
            case stop_1y => exact fun _ _ _ _ _ _ h _ => h.elim
            case done_1y =>
              intro D1 V1 hD1 hb1 hKd1
              have HR3 := Lib.hid (keptW hb1 HR3.out)
              have HR4 := Lib.hid (keptW hb1 HR4.out)
              have HRW := Lib.hid (keptW hb1 HRW.out)
              have hcT := (rowN_cell (keptW hb1 HQT.out)).1 0
              have HBV1 := Lib.hid (bthen HBU1.out hb1)
              have HD0 := Lib.hid ((hb1.block D0 hDl0).trans HD0.out)
              have hDl1 := (Array.getElem?_eq_some_iff.1 hKd1).1
              have HD1 := Lib.hid hKd1
              clear hb1 hKd1
              go_wp2_with fail
              rw [rounds_succ]
              go_wp2_with fail
              obtain ⟨U2, hU⟩ : ∃ U, (V1.alloc (.cells #[.int .i64 1] 3)).alloc (.cells #[.int .i64 0] 3) = U := ⟨_, rfl⟩
              have hbU : Below V1.heap.size V1 U2 := by rw [← hU]; exact ((Below.refl _ _).alloc (Nat.le_refl _) _).alloc (by simp) _
              have HQT := Lib.hid (show rowN U2 V1.heap.size = some #[.int .i64 1] by rw [← hU, rowN_alloc, if_neg (by simp), rowN_alloc, if_pos rfl])
              have HQA := Lib.hid (show rowN U2 (V1.heap.size + 1) = some #[.int .i64 0] by rw [← hU, rowN_alloc, if_pos (by simp)])
              rw [hU]
              have HR3 := Lib.hid (keptW hbU HR3.out)
              have HR4 := Lib.hid (keptW hbU HR4.out)
              have HRW := Lib.hid (keptW hbU HRW.out)
              have HBU2 := Lib.hid (bthen HBV1.out hbU)
              have HD0 := Lib.hid ((hbU.block D0 (Array.getElem?_eq_some_iff.1 HD0.out).1).trans HD0.out)
              have HD1 := Lib.hid ((hbU.block D1 hDl1).trans HD1.out)
              have hDl1 : D1 < U2.heap.size := Nat.lt_of_lt_of_le hDl1 hbU.size
              have hDl0 : D0 < U2.heap.size := (Array.getElem?_eq_some_iff.1 HD0.out).1
              obtain ⟨gT2, hgT⟩ : ∃ g, V1.heap.size = g := ⟨_, rfl⟩
              obtain ⟨gA2, hgA⟩ : ∃ g, V1.heap.size + 1 = g := ⟨_, rfl⟩
              rw [hgT] at HQT
              rw [hgA] at HQA
              rw [hgA, hgT]
              clear hU hbU hgT hgA
              refine (wpIn_wide (n := 6)).1 ?_
              refine range_yieldsS (by omega) (gf := 21) (lb := #[]) rfl (enters_of Tryd.func21 (by kernel_rfl) rfl) (nothing_yields (6 - 1) (fun _ _ _ => True) (fun _ => False) (fun _ _ => False) U2)
                (fun _ => False) (fun j h => h.elim) (fun j h => h.elim) (fun _ _ _ _ _ _ _ _ _ => trivial) (Below.refl _ _) (fun _ X => Below U2.heap.size U2 X) (fun _ _ _ => False) (fun _ X Y row h hg hr => h.grown hg h.size (fun r e => (hr r e).1)) (fun _ _ _ _ _ hs _ _ => hs) (Below.refl _ _) ?a1_2y ?assign_2y ?body_2y ?done_2y ?stop_2y
              case assign_2y =>
                intro l2 v X k hk
                gi_wp2
                exact hk
              case body_2y => exact fun l k v X hk => absurd hk (Nat.not_lt_zero _)
              case stop_2y => exact fun _ _ _ _ _ _ h _ => h.elim
              case done_2y =>
                intro D2 V2 hD2 hb2 hKd2
                have HR4 := Lib.hid (keptW hb2 HR4.out)
                have HRW := Lib.hid (keptW hb2 HRW.out)
                have hcT := (rowN_cell (keptW hb2 HQT.out)).1 0
                have hcA := (rowN_cell (keptW hb2 HQA.out)).1 0
                have hcW := (rowN_cell HRW.out).1 0
                have HBV2 := Lib.hid (bthen HBU2.out hb2)
                have HD0 := Lib.hid ((hb2.block D0 hDl0).trans HD0.out)
                have HD1 := Lib.hid ((hb2.block D1 hDl1).trans HD1.out)
                have HD2 := Lib.hid hKd2
                have hDl2 := (Array.getElem?_eq_some_iff.1 hKd2).1
                clear hb2 hKd2
                clear HQT HQA
                go_wp2_with fail
                rw [rounds_succ]
                go_wp2_with fail
                obtain ⟨X, hX⟩ : ∃ X, V2.alloc (.cells #[.int .i64 2] 3) = X := ⟨_, rfl⟩
                have hbX : Below V2.heap.size V2 X := by rw [← hX]; exact (Below.refl _ _).alloc (Nat.le_refl _) _
                rw [hX]
                refine (known_any X).mono ?_
                rintro e Y ⟨rfl, hbY⟩
                have hbZ := bthen hbX hbY
                have hr4 := keptW hbZ HR4.out
                have hc4 := (rowN_cell hr4).1 0
                have hf4 := (rowN_cell hr4).2 0
                have HR4 := Lib.hid hr4
                have HBY := Lib.hid (bthen HBV2.out hbZ)
                have HD0 := Lib.hid ((hbZ.block D0 (Array.getElem?_eq_some_iff.1 HD0.out).1).trans HD0.out)
                have HD1 := Lib.hid ((hbZ.block D1 (Array.getElem?_eq_some_iff.1 HD1.out).1).trans HD1.out)
                have HD2 := Lib.hid ((hbZ.block D2 hDl2).trans HD2.out)
                clear hX hbX hbY hbZ hr4
                go_wp2_with fail
                have n0 : D0 ≠ gR := by have := HDW0.out; have := HGM.out; omega
                have n1 : D1 ≠ gR := by have := HDW0.out; have := HGM.out; omega
                have n2 : D2 ≠ gR := by have := HDW0.out; have := HGM.out; omega
                have n01 : D0 ≠ D1 := by omega
                have n02 : D0 ≠ D2 := by omega
                have n12 : D1 ≠ D2 := by omega
                have hwd : w.heap.size ≤ D0 ∧ w.heap.size ≤ D1 ∧ w.heap.size ≤ D2 ∧ w.heap.size ≤ gR := by have := HDW0.out; have := HGM.out; omega
                have s2 := (Below.heap_setCell Y ⟨gR, 0, none⟩ (.bool true) D2 (by show D2 ≠ gR; exact n2)).trans HD2.out
                have s1 := (Below.heap_setCell Y ⟨gR, 0, none⟩ (.bool true) D1 (by show D1 ≠ gR; exact n1)).trans HD1.out
                have s0 := (Below.heap_setCell Y ⟨gR, 0, none⟩ (.bool true) D0 (by show D0 ≠ gR; exact n0)).trans HD0.out
                refine ⟨by simp, .inl ⟨_, _, rfl, run_takeDeferred s2, ?_⟩⟩
                refine ⟨by simp, .inl ⟨_, _, rfl, run_takeDeferred ((World.putObj_heap_other n12).trans s1), ?_⟩⟩
                refine ⟨by simp, .inl ⟨_, _, rfl, run_takeDeferred ((World.putObj_heap_other n01).trans ((World.putObj_heap_other n02).trans s0)), ?_⟩⟩
                refine ⟨_, results_bool gR true rfl rfl (by rw [rowN_putObj (fun e => n0 e.symm), rowN_putObj (fun e => n1 e.symm), rowN_putObj (fun e => n2 e.symm)]; exact row_set0 HR4.out), rfl, ?_⟩
                have hb := HBY.out.setCell (p := ⟨gR, 0, none⟩) (by show w.heap.size ≤ gR; exact hwd.2.2.2) (.bool true)
                have hb2 := hb.grown (grownBy_putObj' _ D2 (.deferred none)) hb.size (fun r e => by cases e; exact hwd.2.2.1)
                have hb1 := hb2.grown (grownBy_putObj' _ D1 (.deferred none)) hb2.size (fun r e => by cases e; exact hwd.2.1)
                exact hb1.grown (grownBy_putObj' _ D0 (.deferred none)) hb1.size (fun r e => by cases e; exact hwd.1)
theorem chains_any (ks iv : List Nat) (ls : List (List Nat)) (vs : Nat → Value) (ak av : Option Addr) (ck cv : Nat) (lv : Value) (many : Int) (w : World) (hG : SG w) (hk : BytesAt ks (.slice ak ks.length ck) w) (hv : BytesAt iv (.slice av iv.length cv) w)
    (hl : LsAt ls.length vs lv w) (hb : ∀ k, k < ls.length → BytesAt (ls.getD k []) (vs k) w ∧ Nil0 (vs k)) :
    Calls Tryd.prog 4 #[.slice ak ks.length ck, .slice av iv.length cv, lv, .int .i64 many] w fun e w' => e = .returned (.bool true) ∧ Below w.heap.size w w' := by
  obtain ⟨al, cn, rfl⟩ : ∃ a c, lv = .slice a ls.length c := by obtain ⟨a, c, e, _⟩ := hl; exact ⟨a, c, e⟩
  by_cases h : 20 < ks.length ∨ 20 < iv.length ∨ 10 < ls.length
  · exact chains_none _ _ _ ak av al ck cv cn many h w
  · exact chains_all ks iv ls vs ak av al ck cv cn many w hG hk hv hl hb (by omega) (by omega) (by omega)
end Go.Proofs.YtjcdbjapadgdfaaDoor
