/- finish: the hash of what is left of a padded string. -/
import Derived.Test.YtmlacbdonkfbdaaDoorSL
namespace Go.Proofs.YtmlacbdonkfbdaaDoor
open Go.RowKit Go.Shelf

attribute [local go_sem] Oper.semAt_some

theorem absB_snoc (k : Nat) : ∀ (s l : List Nat), absB s (k + 1) l = absL (absB s k l) ((l.drop (64 * k)).take 64) := by
  induction k with
  | zero => intro s l; rfl
  | succ k ih =>
    intro s l
    show absB (absL s (l.take 64)) (k + 1) (l.drop 64) = _
    rw [ih, List.drop_drop]
    show absL (absB (absL s (l.take 64)) k (l.drop 64)) _ = absL (absB (absL s (l.take 64)) k (l.drop 64)) _
    congr 3; omega
theorem absB_len {s : List Nat} (hs : s.length = 8) (l : List Nat) (k : Nat) : (absB s k l).length = 8 := by
  cases k with
  | zero => exact hs
  | succ k => 
    rw [absB_snoc]
    have := absB_len hs l k
    exact absL_len this
theorem absB_w32 {s : List Nat} (hs : W32 s) (l : List Nat) (k : Nat) : W32 (absB s k l) := by
  cases k with
  | zero => exact hs
  | succ k => rw [absB_snoc]; exact absL_w32 _ _
theorem blk_slice {bs : List Nat} {v : Value} {V : World} (h : BytesAt bs v V) (hl : bs.length = 64) : ∃ b off c, v = .slice (some ⟨b, off, none⟩) 64 c ∧ b < V.heap.size ∧ ∀ j, j < 64 → V.cell? ⟨b, off + j, none⟩ = some (.int .u8 (bs.getD j 0 : Nat)) := by
  obtain ⟨_, a, c, rfl, _, h2⟩ := h
  rcases h2 with h2 | ⟨b, off, rfl, hb, hj⟩
  · omega
  · exact ⟨b, off, c, by rw [hl], hb, fun j hjl => hj j (by omega)⟩
theorem pad_blk (P : List Nat) {k : Nat} (hk : k < P.length / 64) : ((P.drop (64 * k)).take 64).length = 64 := by rw [List.length_take, List.length_drop]; omega

def z32 : List Nat := List.replicate 32 0
theorem z32_lit : #[Value.int .u8 0, Value.int .u8 0, Value.int .u8 0, Value.int .u8 0, Value.int .u8 0, Value.int .u8 0, Value.int .u8 0, Value.int .u8 0, Value.int .u8 0, Value.int .u8 0, Value.int .u8 0, Value.int .u8 0, Value.int .u8 0, Value.int .u8 0, Value.int .u8 0, Value.int .u8 0, Value.int .u8 0, Value.int .u8 0, Value.int .u8 0, Value.int .u8 0, Value.int .u8 0, Value.int .u8 0, Value.int .u8 0, Value.int .u8 0, Value.int .u8 0, Value.int .u8 0, Value.int .u8 0, Value.int .u8 0, Value.int .u8 0, Value.int .u8 0, Value.int .u8 0, Value.int .u8 0] = arr .u8 z32 := by rw [arr_lit]; rfl
theorem fin_world (w : World) (st : List Nat) (s : Value) (n : Nat) : ∃ W0, (((w.alloc (.cells (arr .u32 st) 52)).alloc (.cells (arr .u8 z32) 27)).alloc (.cells #[s] 22)).alloc (.cells #[.int .i64 (n : Nat)] 3) = W0 ∧ Below w.heap.size w W0 ∧
    rowN W0 w.heap.size = some (stA st #[]) ∧ rowN W0 (w.heap.size + 1) = some (arr .u8 z32) ∧ rowN W0 (w.heap.size + 1 + 1) = some #[s] ∧ rowN W0 (w.heap.size + 1 + 1 + 1) = some #[.int .i64 (n : Nat)] ∧ W0.heap.size = w.heap.size + 4 := by
  refine ⟨_, rfl, ((((Below.refl _ w).alloc (Nat.le_refl _) _).alloc (by simp) _).alloc (by simp <;> omega) _).alloc (by simp <;> omega) _, ?_, ?_, ?_, ?_, by simp⟩
  · rw [stA_nil]; simp only [rowN_alloc, World.size_alloc, if_true]; (repeat rw [if_neg (by omega)])
  · simp only [rowN_alloc, World.size_alloc, if_true]; (repeat rw [if_neg (by omega)])
  · simp only [rowN_alloc, World.size_alloc, if_true]; (repeat rw [if_neg (by omega)])
  · simp only [rowN_alloc, World.size_alloc, if_true]
/-- The first m bytes of O, the others 0. -/
def pf (O : List Nat) (m : Nat) : List Nat := O.take m ++ List.replicate (32 - m) 0
theorem pf_len {O : List Nat} (hO : O.length = 32) {m : Nat} (h : m ≤ 32) : (pf O m).length = 32 := by unfold pf; rw [List.length_append, List.length_take, List.length_replicate]; omega
theorem pf_set {O : List Nat} (hO : O.length = 32) {m x : Nat} (h : m < 32) (hx : O.getD m 0 = x) : (pf O m).set m x = pf O (m + 1) := by
  unfold pf
  have hl : (O.take m).length = m := by rw [List.length_take]; omega
  rw [List.set_append_right _ _ (by omega), hl, Nat.sub_self, show 32 - m = (32 - (m + 1)) + 1 by omega, List.replicate_succ, List.set_cons_zero, List.take_succ_eq_append_getElem (by omega), List.append_assoc, ← hx, List.getD, List.getElem?_eq_getElem (by omega)]; rfl
theorem pf_all {O : List Nat} (hO : O.length = 32) : pf O 32 = O := by unfold pf; rw [List.take_of_length_le (by omega)]; simp
def ob (l : List Nat) : List Nat := l.flatMap fun w => [w / 16777216 % 256, w / 65536 % 256, w / 256 % 256, w % 256]
theorem ob_get : ∀ (l : List Nat) (k : Nat), k < l.length → (ob l).getD (4 * k) 0 = l.getD k 0 / 16777216 % 256 ∧ (ob l).getD (4 * k + 1) 0 = l.getD k 0 / 65536 % 256 ∧ (ob l).getD (4 * k + 2) 0 = l.getD k 0 / 256 % 256 ∧ (ob l).getD (4 * k + 3) 0 = l.getD k 0 % 256
  | [], k, h => by simp at h
  | x :: l, 0, _ => ⟨rfl, rfl, rfl, rfl⟩
  | x :: l, k + 1, h => ob_get l k (by simpa using h)
theorem ob_len : ∀ (l : List Nat), (ob l).length = 4 * l.length
  | [] => rfl
  | x :: l => by have := ob_len l; show (ob l).length + 1 + 1 + 1 + 1 = 4 * (l.length + 1); omega
def FoRel (O : List Nat) (g8 gz D : Nat) (w : World) (i : Value) (wr : World) : Prop :=
  ∃ k : Nat, k ≤ 8 ∧ i = .int .i64 (k : Nat) ∧ rowN wr g8 = some (arr .u8 (pf (ob O) (4 * k))) ∧ rowN wr gz = some (arr .u8 z32) ∧ wr.heap[D]? = some (.deferred (some [])) ∧ Below w.heap.size w wr
theorem results_arr {fn : Func} {p : Tmp} {T n : Nat} {tmps : Array Value} {w : World} (g : Nat) (cs : Array Value) (hl : ∀ (W : World) (g : Nat), (loadVar T ⟨g, 0, none⟩).run Tryd.prog W = rowLoad n T W g (rowN W g)) (h : fn.results = #[.cell p T])
    (hp : tmps.getD p undef = .pointer (some ⟨g, 0, none⟩)) (hr : rowN w g = some cs) (hs : cs.size = n) : (results fn tmps).run Tryd.prog w = .ok (.agg cs) w := by
  have hp' : tmps[p]?.getD undef = .pointer (some ⟨g, 0, none⟩) := by simpa using hp
  have hl' : (loadVar T ⟨g, 0, none⟩).run Tryd.prog w = .ok (.agg cs) w := by rw [hl, hr, rowLoad_some _ _ _ _ _ hs]
  simp [results, h, hp', asAddr, hl']
theorem rowN_putObj {W : World} {D g : Nat} {o : Obj} (h : g ≠ D) : rowN (W.putObj D o) g = rowN W g := by unfold rowN; rw [World.putObj_heap_other h]
def FinI (st P : List Nat) (w : World) (k : Nat) (V : World) : Prop := (rowN V w.heap.size = some (stA (absB st k P) #[]) ∧ rowN V (w.heap.size + 1) = some (arr .u8 z32)) ∧ KG V ∧ Below w.heap.size w V
theorem row_grown {X Y : World} {row : Option Nat} (hg : X.grownBy Y row) (hr : ∀ r, row = some r → ∃ o : Obj, X.heap[r]? = some o ∧ o.isCells = false) {g : Nat} {cs : Array Value} (h : rowN X g = some cs) : rowN Y g = some cs := by
  rw [grownBy_rowN hg (rowN_lt h) (fun e => ?_)]
  · exact h
  · obtain ⟨o, ho, hc⟩ := hr g e.symm
    obtain ⟨t, ht⟩ := rowN_some h
    rw [ht] at ho; cases ho; cases hc
theorem finI_own (st P : List Nat) (w : World) {B : Nat} (hB : w.heap.size ≤ B) (h1 : KG w) : OwnFrom B (FinI st P w) := by
  rintro k X Y row ⟨⟨h, h'⟩, hK, hb⟩ hg hr
  have hr' := fun r e => (hr r e).2
  refine ⟨⟨row_grown hg hr' h, row_grown hg hr' h'⟩, hK.grown hg (fun e => ?_), hb.grown hg hb.size (fun r e => Nat.le_trans hB (hr r e).1)⟩
  have := (hr 1 e).1
  have := h1.1
  omega

set_option maxRecDepth 100000 in
set_option maxHeartbeats 1000000 in
theorem finish_any (st zs : List Nat) (s : Value) (n : Nat) (hst : st.length = 8) (hw : W32 st) (hn : n ≤ 140737488355328) (hL : zs.length ≤ 9223372036854775807) (w : World) (hK : KG w) (hB : BytesAt zs s w) (hnil : Nil0 s) :
    Calls Tryd.prog 39 #[.agg (arr .u32 st), s, .int .i64 (n : Nat)] w fun e w' => e = .returned (.agg (arr .u8 (outB (absB st ((padR zs n).length / 64) (padR zs n))))) ∧ Below w.heap.size w w' := by
  obtain ⟨P, hP⟩ : ∃ P, padR zs n = P := ⟨_, rfl⟩
  rw [hP]
  have HP := Lib.hid hP
  clear hP
  have HST := Lib.hid hst
  have HW := Lib.hid hw
  have HK := Lib.hid hK
  have HB := Lib.hid hB
  have HN := Lib.hid hnil
  have HP3 := Lib.hid (fun V => show Calls Tryd.prog 50 #[s, .int .i64 (n : Nat)] V (fun e w' => e = .returned (.func (.func 55) #[] #[.pointer (some ⟨V.heap.size, 0, none⟩), .pointer (some ⟨V.heap.size + 1, 0, none⟩)]) ∧
    w' = (V.alloc (.cells #[s] 22)).alloc (.cells #[.int .i64 (n : Nat)] 3)) by
    obtain ⟨_, a, c, rfl, _, _⟩ := HB.out
    exact padded_any a zs.length c n V)
  clear hw hK hB hnil
  refine (callsIn_wide (n := 6)).1 ?_
  refine callsIn_of_wp_marks Tryd.func39 rfl trivial ?_ rfl
  simp only [Tryd.ntmps39, List.size_toArray, List.length_cons, List.length_nil, Nat.reduceAdd, Nat.reduceSub, Array.replicate_succ, Array.replicate_zero, List.push_toArray, List.append_toArray, List.nil_append, List.cons_append]
  refine wpIn_wide.2 ?_
  go_wp2_with fail
  refine (HP3.out _).mono ?_
  rintro e w1 ⟨rfl, rfl⟩
  go_wp2_with fail
  obtain ⟨W0, hW, hB0, r0, r1, r2, r3, hz⟩ := fin_world w st s n
  rw [z32_lit, hW]
  clear hW
  have HI0 := Lib.hid (show FinI st (padR zs n) w 0 W0 from ⟨⟨r0, r1⟩, HK.out.kept hB0, hB0⟩)
  have HY0 := Lib.hid (padded1_yields (6 - 1) (w.heap.size + 1 + 1) (w.heap.size + 1 + 1 + 1) zs s n hn hL W0 r2 r3 (HB.out.kept hB0) HN.out)
  have HKW := Lib.hid (HK.out.kept hB0)
  have HBW := Lib.hid (HB.out.kept hB0)
  rw [HP.out] at HI0 HY0
  clear r0 r1 r2 r3 hB0
  refine (wpIn_wide (n := 6)).1 ?_
  refine range_yields (by omega) (gf := 55) (lb := #[.pointer (some ⟨w.heap.size + 1 + 1, 0, none⟩), .pointer (some ⟨w.heap.size + 1 + 1 + 1, 0, none⟩)]) rfl (enters_of Tryd.func55 (by kernel_rfl) rfl) HY0.out
    (fun j => j = w.heap.size) (fun j e => by
      subst e
      refine ⟨by omega, fun h => ?_⟩
      rcases h with h | h | ⟨h0, h⟩
      · omega
      · omega
      · have := HB.out.lt h0 h; omega)
    (fun j h => by
      rcases h with h | h | ⟨h0, h⟩
      · omega
      · omega
      · exact HBW.out.lt h0 h) (fun k v V l o o' h hl ho => h.putObj o' hl ho) (Below.refl _ _)
    (FinI st P w) (fun _ _ _ => False) (finI_own st P w (by omega) HK.out) (fun _ _ _ _ _ hs _ _ => hs) HI0.out ?a1 ?assign ?body ?done ?stop
  case assign =>
    intro l2 v V k hk
    gi_wp2
    exact hk
  case body =>
    rintro l2 k v V hk ⟨⟨hr, hr1⟩, hkg, hb⟩ hphi
    have hl64 := pad_blk P hk
    obtain ⟨b, off, c, rfl, hbl, hc⟩ := blk_slice hphi hl64
    have HAB := Lib.hid (absorb_any (absB st k P) ((P.drop (64 * k)).take 64) #[] w.heap.size b off c (absB_len HST.out P k) (absB_w32 HW.out P k) hl64 hphi.1 V hkg hr hbl hc)
    rw [← absB_snoc] at HAB
    have HR1 := Lib.hid hr1
    have HKG := Lib.hid hkg
    have HBB := Lib.hid hb
    clear hr hr1 hkg hb hphi hl64 hbl hc
    gi_wp2_with fail
    refine ⟨trivial, ?_⟩
    refine (CallsIn.inRound l2 (callsIn_wide.2 HAB.out)).mono ?_
    rintro e W3 ⟨rfl, hr3, hg3⟩
    have hKP : Keeps (fun j => j = w.heap.size ∨ False) V W3 := Keeps.of_grownBy hg3 (fun r e => by cases e; exact .inl rfl)
    have HE := Lib.hid (show RoundEnds W0.heap.size (Keeps fun j => j = w.heap.size ∨ False) (FinI st P w (k + 1)) (fun _ _ => False) V .normal W3 from
      ⟨hKP.from (fun j hj h => by rcases h with h | h; omega; exact h), hKP, .inl ⟨rfl, ⟨⟨hr3, hKP.row HR1.out (fun h => by rcases h with h | h; omega; exact h)⟩, HKG.out.grown hg3 (fun e => by have h1 := HK.out.1; have := Option.some.inj e; omega), HBB.out.grown hg3 HBB.out.size (fun r e => by cases e; exact Nat.le_refl _)⟩⟩⟩)
    clear hKP hr3 hg3
    gi_wp2_with fail
    exact HE.out
  case done =>
    rintro D V hD ⟨⟨hr, hr1⟩, hkg, hb⟩ hK
    have hS8 := absB_len HST.out P (P.length / 64)
    have hSW := absB_w32 HW.out P (P.length / 64)
    obtain ⟨S, hS⟩ : ∃ S, absB st (P.length / 64) P = S := ⟨_, rfl⟩
    rw [hS] at hr hS8 hSW
    have HSE := Lib.hid hS
    have HWD := Lib.hid (fun X => words_any S hS8 hSW X)
    rw [stA_nil] at hr
    have HO8 := Lib.hid (plusL_len hS8 iv_len)
    have HOW := Lib.hid (plusL_w32 S iv)
    obtain ⟨O, hO⟩ : ∃ O, plusL S iv = O := ⟨_, rfl⟩
    rw [hO] at HO8 HOW
    have HOE := Lib.hid hO
    have HR1 := Lib.hid hr1
    have HBB := Lib.hid hb
    have HKD := Lib.hid hK
    have hz32 := z32_lit
    have sz1 : (arr .u32 S).size = 8 := by rw [arr_size, hS8]
    have hDV : D < V.heap.size := (Array.getElem?_eq_some_iff.1 hK).1
    have hgV : w.heap.size + 1 < V.heap.size := rowN_lt hr1
    clear hS hSW hkg hb hK hr1 hO
    go_wp2_with fail
    refine (HWD.out _).mono ?_
    rintro e w2 ⟨rfl, hb2⟩
    have hbA : Below V.heap.size V (V.alloc (.cells (arr .u8 z32) 27)) := (Below.refl _ _).alloc (Nat.le_refl _) _
    have hr8 : rowN (V.alloc (.cells (arr .u8 z32) 27)) V.heap.size = some (arr .u8 z32) := by rw [rowN_alloc, if_pos rfl]
    have hR8 := keptW hb2 hr8
    have hR1 := keptW hb2 (keptW hbA HR1.out)
    have hKD := (hb2.block D (by simp; omega)).trans ((hbA.block D hDV).trans HKD.out)
    have hB2 := HBB.out.trans ((hbA.trans (hb2.mono (by simp))).mono HBB.out.size)
    have HF := Lib.hid (show FoRel O V.heap.size (w.heap.size + 1) D w (.int .i64 0) w2 from ⟨0, by omega, rfl, hR8, hR1, hKD, hB2⟩)
    obtain ⟨g8, hg8⟩ : ∃ g, V.heap.size = g := ⟨_, rfl⟩
    rw [hg8] at HF hDV hgV ⊢
    rw [HOE.out]
    have hwD : w.heap.size ≤ D := by omega
    clear hbA hr8 hR8 hR1 hKD hB2 hb2 hg8 HR1 HBB HKD HWD hr
    go_wp2_with fail
    go_loopw [20] (fun i wr => FoRel O g8 (w.heap.size + 1) D w i wr) (fun i _ => 8 - (intOf i).toNat)
    case atStart => exact HF.out
    case round =>
      obtain ⟨k, hk, rfl, hr8, hr1, hKD, hB⟩ := hrel
      have HB := Lib.hid hB
      have HR1 := Lib.hid hr1
      have HKD := Lib.hid hKD
      have HO32 := Lib.hid (show (ob O).length = 32 by rw [ob_len, HO8.out])
      by_cases hlt : k < 8
      · obtain ⟨x, hx⟩ : ∃ x, O.getD k 0 = x := ⟨_, rfl⟩
        have HG := Lib.hid (ob_get O k (by rw [HO8.out]; exact hlt))
        have hx32 := HOW.out.get k
        have hIX : ∀ W : World, (arIndex 52 (.agg (arr .u32 O)) (.int .i64 (k : Nat))).run Tryd.prog W = .ok (.value (.int .u32 (x : Nat))) W := fun W => by rw [← hx]; exact run_arIndex35 O k W HO8.out hlt
        rw [hx] at HG hx32
        have hc0 := cell_arr hr8 (show 4 * k < (pf (ob O) (4 * k)).length by rw [pf_len HO32.out (by omega)]; omega)
        have hf0 := (rowN_cell hr8).2 (4 * k)
        have HR8 := Lib.hid hr8
        clear hx hr8 hr1 hKD hB HF
        go_wp2_with fail
        refine wp_loop_rounds 5 ?_
        rw [rounds_succ]
        go_wp2_with fail
        obtain ⟨y0, hy⟩ : ∃ X, wr.setCell ⟨g8, 4 * k, none⟩ (.int .u8 (((x : Nat) : Int) / 16777216)) = X := ⟨_, rfl⟩
        rw [hy]
        have HR8_0 := Lib.hid (show rowN y0 g8 = some (arr .u8 (pf (ob O) (4 * k + 1))) by
          rw [← hy, show ((x : Nat) : Int) / 16777216 = ((x / 16777216 % 256 : Nat) : Int) by omega, ← pf_set HO32.out (by omega) HG.out.1]
          exact row_arr HR8.out)
        have HR1_0 := Lib.hid (show rowN y0 (w.heap.size + 1) = some (arr .u8 z32) by rw [← hy]; exact row_cell0 HR1.out (by omega))
        have HKD_0 := Lib.hid (show y0.heap[D]? = some (.deferred (some [])) by rw [← hy]; exact (Below.heap_setCell _ _ _ D (by show D ≠ g8; omega)).trans HKD.out)
        have HB_0 := Lib.hid (show Below w.heap.size w y0 by rw [← hy]; exact HB.out.setCell (p := ⟨g8, 4 * k, none⟩) (by show w.heap.size ≤ g8; omega) _)
        clear hc0 hf0 hy HR8 HR1 HKD HB
        have hc1 := cell_arr HR8_0.out (show 4 * k + 1 < (pf (ob O) (4 * k + 1)).length by rw [pf_len HO32.out (by omega)]; omega)
        have hf1 := (rowN_cell HR8_0.out).2 (4 * k + 1)
        rw [rounds_succ]
        go_wp2_with fail
        obtain ⟨y1, hy⟩ : ∃ X, y0.setCell ⟨g8, 4 * k + 1, none⟩ (.int .u8 (((x : Nat) : Int) / 65536 % 256)) = X := ⟨_, rfl⟩
        rw [hy]
        have HR8_1 := Lib.hid (show rowN y1 g8 = some (arr .u8 (pf (ob O) (4 * k + 2))) by
          rw [← hy, show ((x : Nat) : Int) / 65536 % 256 = ((x / 65536 % 256 : Nat) : Int) by omega, ← pf_set HO32.out (by omega) HG.out.2.1]
          exact row_arr HR8_0.out)
        have HR1_1 := Lib.hid (show rowN y1 (w.heap.size + 1) = some (arr .u8 z32) by rw [← hy]; exact row_cell0 HR1_0.out (by omega))
        have HKD_1 := Lib.hid (show y1.heap[D]? = some (.deferred (some [])) by rw [← hy]; exact (Below.heap_setCell _ _ _ D (by show D ≠ g8; omega)).trans HKD_0.out)
        have HB_1 := Lib.hid (show Below w.heap.size w y1 by rw [← hy]; exact HB_0.out.setCell (p := ⟨g8, 4 * k + 1, none⟩) (by show w.heap.size ≤ g8; omega) _)
        clear hc1 hf1 hy HR8_0 HR1_0 HKD_0 HB_0
        have hc2 := cell_arr HR8_1.out (show 4 * k + 2 < (pf (ob O) (4 * k + 2)).length by rw [pf_len HO32.out (by omega)]; omega)
        have hf2 := (rowN_cell HR8_1.out).2 (4 * k + 2)
        rw [rounds_succ]
        go_wp2_with fail
        obtain ⟨y2, hy⟩ : ∃ X, y1.setCell ⟨g8, 4 * k + 2, none⟩ (.int .u8 (((x : Nat) : Int) / 256 % 256)) = X := ⟨_, rfl⟩
        rw [hy]
        have HR8_2 := Lib.hid (show rowN y2 g8 = some (arr .u8 (pf (ob O) (4 * k + 3))) by
          rw [← hy, show ((x : Nat) : Int) / 256 % 256 = ((x / 256 % 256 : Nat) : Int) by omega, ← pf_set HO32.out (by omega) HG.out.2.2.1]
          exact row_arr HR8_1.out)
        have HR1_2 := Lib.hid (show rowN y2 (w.heap.size + 1) = some (arr .u8 z32) by rw [← hy]; exact row_cell0 HR1_1.out (by omega))
        have HKD_2 := Lib.hid (show y2.heap[D]? = some (.deferred (some [])) by rw [← hy]; exact (Below.heap_setCell _ _ _ D (by show D ≠ g8; omega)).trans HKD_1.out)
        have HB_2 := Lib.hid (show Below w.heap.size w y2 by rw [← hy]; exact HB_1.out.setCell (p := ⟨g8, 4 * k + 2, none⟩) (by show w.heap.size ≤ g8; omega) _)
        clear hc2 hf2 hy HR8_1 HR1_1 HKD_1 HB_1
        have hc3 := cell_arr HR8_2.out (show 4 * k + 3 < (pf (ob O) (4 * k + 3)).length by rw [pf_len HO32.out (by omega)]; omega)
        have hf3 := (rowN_cell HR8_2.out).2 (4 * k + 3)
        rw [rounds_succ]
        go_wp2_with fail
        obtain ⟨y3, hy⟩ : ∃ X, y2.setCell ⟨g8, 4 * k + 3, none⟩ (.int .u8 (((x : Nat) : Int) % 256)) = X := ⟨_, rfl⟩
        rw [hy]
        have HR8_3 := Lib.hid (show rowN y3 g8 = some (arr .u8 (pf (ob O) (4 * (k + 1)))) by
          rw [← hy, show ((x : Nat) : Int) % 256 = ((x % 256 : Nat) : Int) by omega, show 4 * (k + 1) = 4 * k + 3 + 1 by omega, ← pf_set HO32.out (by omega) HG.out.2.2.2]
          exact row_arr HR8_2.out)
        have HR1_3 := Lib.hid (show rowN y3 (w.heap.size + 1) = some (arr .u8 z32) by rw [← hy]; exact row_cell0 HR1_2.out (by omega))
        have HKD_3 := Lib.hid (show y3.heap[D]? = some (.deferred (some [])) by rw [← hy]; exact (Below.heap_setCell _ _ _ D (by show D ≠ g8; omega)).trans HKD_2.out)
        have HB_3 := Lib.hid (show Below w.heap.size w y3 by rw [← hy]; exact HB_2.out.setCell (p := ⟨g8, 4 * k + 3, none⟩) (by show w.heap.size ≤ g8; omega) _)
        clear hc3 hf3 hy HR8_2 HR1_2 HKD_2 HB_2
        rw [rounds_succ]
        go_wp2_with fail
        refine ⟨⟨k + 1, by omega, by go_num, HR8_3.out, HR1_3.out, HKD_3.out, HB_3.out⟩, by simp [intOf]; omega⟩
      · obtain rfl : k = 8 := by omega
        rw [show 4 * 8 = 32 from rfl, pf_all HO32.out] at hr8
        have sz2 : (arr .u8 (ob O)).size = 32 := by rw [arr_size, HO32.out]
        have hl2 : (ob O).length = 32 := HO32.out
        have sz4 : (arr .u8 z32).size = 32 := by rw [arr_size]; rfl
        have HKD1 := Lib.hid (show (wr.setRow (w.heap.size + 1) (arr .u8 (ob O))).heap[D]? = some (.deferred (some [])) from (setRow_other _ _ _ _ (by omega)).trans hKD)
        have HROW := Lib.hid (show rowN ((wr.setRow (w.heap.size + 1) (arr .u8 (ob O))).putObj D (.deferred none)) (w.heap.size + 1) = some (arr .u8 (ob O)) by
          rw [rowN_putObj (by omega)]; exact row_new hr1)
        have HBE := Lib.hid (show Below w.heap.size w ((wr.setRow (w.heap.size + 1) (arr .u8 (ob O))).putObj D (.deferred none)) from
          (below_setRow' hB (by omega) _).grown (grownBy_putObj' _ _ _) (below_setRow' hB (by omega) _).size (fun r e => by cases e; exact hwD))
        clear hKD hB HB HKD HF
        go_wp2_with fail
        refine ⟨by simp, .inl ⟨_, _, rfl, run_takeDeferred HKD1.out, ?_⟩⟩
        exact ⟨_, results_arr _ _ run_loadVar24 rfl rfl HROW.out sz2, by rw [HSE.out]; show _ = Ending.returned (.agg (arr .u8 (ob (plusL S iv)))); rw [HOE.out], HBE.out⟩
  case stop =>
    rintro D k c V hD hk hx hK
    exact hx.elim
end Go.Proofs.YtmlacbdonkfbdaaDoor
