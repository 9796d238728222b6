/- CTS: a mode encrypts. -/
import Derived.Test.YtjcdbjapadgdfaaDoorCD
namespace Go.Proofs.YtjcdbjapadgdfaaDoor
open Go.RowKit Go.Shelf

attribute [local go_sem] Oper.semAt_some
set_option maxRecDepth 100000 in
theorem changeEnd_one (g n : Nat) (f : Fn) (lb : Array Value) (hn : n < 32) (w : World) :
    Calls Tryd.prog 26 #[.slice (some ⟨g, 0, none⟩) n n, .func f #[] lb] w fun e w' => e = .returned (.tuple #[]) ∧ w = w' := by
  have i1 : IntKind.i64.wrap (((n : Nat) : Int) - 16) = ((n : Nat) : Int) - 16 := IntWalk.i64_in _ (by omega)
  have i2 : IntKind.i64.wrap (((n : Nat) : Int) - 16 - 16) = ((n : Nat) : Int) - 16 - 16 := IntWalk.i64_in _ (by omega)
  have i3 : ((n : Nat) : Int) - 16 - 16 < 0 := by omega
  go_enter Tryd.func26, Tryd.ntmps26
  go_wp2_with fail
  refine bodyPost_ret (results_none rfl _ _ _) rfl ?_
  exact ⟨rfl, rfl⟩
set_option maxRecDepth 100000 in
set_option maxHeartbeats 1000000 in
theorem changeEnd_swap (g n : Nat) (hn : 32 ≤ n) (hn2 : n ≤ 1000000) (w : World) (R : World → Prop)
    (H : Calls Tryd.prog 27 #[.pointer (some ⟨g, n - 32, none⟩), .pointer (some ⟨g, n - 16, none⟩)] w.drew fun e w' => e = .returned (.tuple #[]) ∧ R w') :
    Calls Tryd.prog 26 #[.slice (some ⟨g, 0, none⟩) n n, .func (.func 27) #[] #[]] w fun e w' => e = .returned (.tuple #[]) ∧ R w' := by
  have HH := Lib.hid H
  have hs1 := fun W => run_slice22_lhm g 0 n n (n - 32) (n - 16) (by omega) (by omega) W
  have hs2 := fun W => run_slice22_l g 0 n n (n - 16) (by omega) (Nat.le_refl _) W
  rw [Nat.zero_add, show n - 16 - (n - 32) = 16 by omega, show ((n - 32 : Nat) : Int) = ((n : Nat) : Int) - 16 - 16 by omega, show ((n - 16 : Nat) : Int) = ((n : Nat) : Int) - 16 by omega] at hs1
  rw [Nat.zero_add, show n - (n - 16) = 16 by omega, show ((n - 16 : Nat) : Int) = ((n : Nat) : Int) - 16 by omega] at hs2
  have ha1 := fun W => arrayAt16 ⟨g, n - 32, none⟩ 16 16 (Nat.le_refl _) W
  have ha2 := fun W => arrayAt16 ⟨g, n - 16, none⟩ 16 16 (Nat.le_refl _) W
  have i1 : IntKind.i64.wrap (((n : Nat) : Int) - 16) = ((n : Nat) : Int) - 16 := IntWalk.i64_in _ (by omega)
  have i2 : IntKind.i64.wrap (((n : Nat) : Int) - 16 - 16) = ((n : Nat) : Int) - 16 - 16 := IntWalk.i64_in _ (by omega)
  have i3 : ¬ ((n : Nat) : Int) - 16 - 16 < 0 := by omega
  clear H
  go_enter Tryd.func26, Tryd.ntmps26
  go_upto_region 3 with fail
  refine wp_region_still_tail 11 (by kernel_rfl) (by kernel_rfl) ?_
  simp only [List.take_succ_cons, List.take_zero, List.drop_succ_cons, List.drop_zero]
  repeat still_step
  refine wpStill_nil ?_
  change wpList _ _ _ _ _ w.drew
  go_wp2_with fail
  refine HH.out.mono ?_
  rintro e w1 ⟨rfl, hR⟩
  have HR := Lib.hid hR
  clear hR
  go_wp2_with fail
  go_end0
  exact ⟨rfl, HR.out⟩
theorem swp_eq {l : List Nat} (h : 32 ≤ l.length) : put16 (put16 l (l.length - 32) ((l.drop (l.length - 16)).take 16)) (l.length - 16) ((l.drop (l.length - 32)).take 16) = swp l := by
  have ha : ((l.drop (l.length - 16)).take 16).length = 16 := by rw [List.length_take, List.length_drop]; omega
  have hb : ((l.drop (l.length - 32)).take 16).length = 16 := by rw [List.length_take, List.length_drop]; omega
  unfold swp
  rw [if_pos h]
  have h1 := put16_len (l := l) ha (show l.length - 32 + 16 ≤ l.length by omega)
  have e1 : (l.take (l.length - 32)).length = l.length - 32 := by rw [List.length_take]; omega
  have e2 : (l.drop (l.length - 16)).length = 16 := by rw [List.length_drop]; omega
  refine List.ext_getElem? fun i => ?_
  rw [put16_get _ _ _ _ hb (by omega), put16_get _ _ _ _ ha (by omega)]
  by_cases c1 : i < l.length - 32
  · rw [if_pos (by omega), if_pos c1, List.append_assoc, List.getElem?_append_left (by omega), List.getElem?_take, if_pos c1]
  · by_cases c2 : i < l.length - 16
    · rw [if_pos c2, if_neg c1, if_pos (by omega), List.append_assoc, List.getElem?_append_right (by omega), e1, List.getElem?_append_left (by omega), List.getElem?_take, if_pos (by omega)]
    · rw [if_neg c2]
      by_cases c3 : i < l.length
      · rw [if_pos (by omega), List.append_assoc, List.getElem?_append_right (by omega), e1, List.getElem?_append_right (by omega), e2]
        congr 1; omega
      · rw [if_neg (by omega), if_neg c1, if_neg (by omega), List.getElem?_eq_none (by omega), List.append_assoc, List.getElem?_append_right (by omega), e1, List.getElem?_append_right (by omega), e2, List.getElem?_eq_none (by omega)]
/-- changeEnd, exchanging. -/
theorem changeEnd_any (g : Nat) (l : List Nat) (n : Nat) (hl : l.length = n) (hn : n ≤ 1000000) (w : World) (hr : rowN w g = some (arr .u8 l)) :
    Calls Tryd.prog 26 #[.slice (some ⟨g, 0, none⟩) n n, .func (.func 27) #[] #[]] w fun e w' => e = .returned (.tuple #[]) ∧ rowN w' g = some (arr .u8 (swp l)) ∧ w.grownBy w' (some g) := by
  subst hl
  by_cases h : 32 ≤ l.length
  · refine changeEnd_swap g l.length h hn w (fun w' => rowN w' g = some (arr .u8 (swp l)) ∧ w.grownBy w' (some g)) ?_
    refine (swap_any l g (l.length - 32) (l.length - 16) (by omega) (by omega) w.drew hr).mono ?_
    rintro e w' ⟨rfl, h1, h2⟩
    rw [swp_eq h] at h1
    exact ⟨rfl, h1, grownBy_trans (grown_of_below (Below.refl _ _).drew _) h2⟩
  · refine (changeEnd_one g l.length (.func 27) #[] (by omega) w).mono ?_
    rintro e w' ⟨rfl, rfl⟩
    refine ⟨rfl, ?_, grownBy_refl _ _⟩
    unfold swp
    rw [if_neg h]; exact hr
theorem results_slot {fn : Func} {p : Tmp} {u : Value} {tmps : Array Value} {w : World} (h : fn.results = #[.tmp p]) (hp : tmps.getD p undef = u) : (results fn tmps).run Tryd.prog w = .ok u w := by
  have hp' : tmps[p]?.getD undef = u := by simpa using hp
  simp [results, h, hp']
theorem run_mk22z (n : Nat) (hn : n ≤ 1000000) (W : World) : (Instr.makeSlice 22 (.int .i64 0) (.int .i64 (n : Nat))).run Tryd.prog W = .ok (.slice (some ⟨W.heap.size, 0, none⟩) 0 n) (W.alloc (.cells (arr .u8 (zr n)) 5)) := by
  rw [zr_eq]
  obtain ⟨i0, hi, hz0, hz1, hz2⟩ := info_parts Tryd.info5
  rw [run_make W 22 5 i0 (.int .u8 0) Tryd.underlying22 hi hz0 .i64 .i64 0 n (by omega) (by omega) (by rw [hz2]; omega) (by omega), hz1, arr_lit]
  simp only [madeCells, Value.cells, List.map_replicate, Int.toNat_natCast, Nat.mul_one]
  congr 3
  refine Array.ext (by simp) fun i h1 h2 => ?_
  simp [Nat.mod_one]
theorem run_slice22_hm (b L c h : Nat) (hh : h ≤ c) (W : World) :
    (Instr.sliceAt 22 (.slice (some ⟨b, 0, none⟩) L c) none (some (.int .i64 (h : Nat))) (some (.int .i64 (h : Nat)))).run Tryd.prog W = .ok (.slice (some ⟨b, 0, none⟩) h h) W := by
  have e1 : ((h : Nat) : Int).toNat = h := Int.toNat_natCast h
  have e4 : max ((h : Nat) : Int) 0 = h := by omega
  have e6 : ((h : Nat) : Int) ≤ (c : Int) := by omega
  have e7 : (0 : Int) ≤ (h : Int) := by omega
  go_simp
/-- Blocks, one after the other. -/
def catN (f : Nat → List Nat) : Nat → List Nat
  | 0 => []
  | k + 1 => catN f k ++ f k
theorem catN_len {f : Nat → List Nat} : ∀ n, (∀ k, k < n → (f k).length = 16) → (catN f n).length = 16 * n
  | 0, _ => rfl
  | n + 1, h => by
    unfold catN
    rw [List.length_append, catN_len n (fun k hk => h k (by omega)), h n (by omega)]; omega
theorem catN_256 {f : Nat → List Nat} : ∀ n, (∀ k, k < n → ∀ x ∈ f k, x < 256) → ∀ x ∈ catN f n, x < 256
  | 0, _ => fun x hx => by cases hx
  | n + 1, h => fun x hx => by
    unfold catN at hx
    rcases List.mem_append.1 hx with hx | hx
    · exact catN_256 n (fun k hk => h k (by omega)) x hx
    · exact h n (by omega) x hx
/-- The chained blocks of a string. -/
def chF (key iv zs : List Nat) (k : Nat) : List Nat := chS key iv (blkB (padB zs)) (k + 1)
/-- A string, encrypted. -/
def encL (key iv zs : List Nat) : List Nat := (swp (catN (chF key iv zs) (nB zs.length))).take zs.length
theorem own_row {l : List Nat} {base n g : Nat} {w : World} (h : w.ownsRow base 5 1 (.slice (some ⟨g, 0, none⟩) n n) n (cl l)) : rowN w g = some (arr .u8 l) := by
  rcases h.2 with ⟨e, _⟩ | ⟨g', cap, cur, e, _, hg, _, _, hs, ht⟩
  · cases e
  · cases e
    unfold rowN
    rw [hg]
    simp only [if_true]
    rw [Nat.mul_one] at hs ht
    rw [List.take_of_length_le (by rw [Array.length_toList, hs]; exact Nat.le_refl _)] at ht
    congr 1
    apply Array.ext'
    rw [ht, arr_toList]; rfl
theorem made_own2 (w : World) (n base : Nat) (hb : base ≤ w.heap.size) (hn : n ≤ 1000000) : (w.alloc (.cells (arr .u8 (zr n)) 5)).ownsRow base 5 1 (.slice (some ⟨w.heap.size, 0, none⟩) 0 n) 0 (cl []) :=
  ⟨rfl, .inr ⟨w.heap.size, n, _, rfl, hb, heap_alloc_new w _, Nat.zero_le _, by unfold maxLen; omega, by rw [arr_size, zr_len, Nat.mul_one], by simp [cl]⟩⟩
def EnI (f : Nat → List Nat) (gbx gch n : Nat) (w : World) (k : Nat) (V : World) : Prop :=
  rowN V gbx = some #[.slice (some ⟨gch, 0, none⟩) (16 * k) (16 * n)] ∧ V.ownsRow w.heap.size 5 1 (.slice (some ⟨gch, 0, none⟩) (16 * k) (16 * n)) (16 * k) (cl (catN f k)) ∧ Below w.heap.size w V
theorem enI_own (f : Nat → List Nat) (gbx gch n : Nat) (w : World) {B : Nat} (h1 : gbx < B) (h2 : gch < B) (h3 : w.heap.size ≤ B) : OwnAny B (EnI f gbx gch n w) := by
  rintro k X Y row ⟨a1, a2, a3⟩ hg hr
  refine ⟨(grownBy_rowN hg (rowN_lt a1) (fun e => by have := hr _ e.symm; omega)).trans a1, a2.kept hg (.inr (fun e => ?_)), a3.grown hg a3.size (fun r e => Nat.le_trans h3 (hr r e))⟩
  have := hr gch (show row = some gch from e.symm)
  omega
set_option maxRecDepth 100000 in
set_option maxHeartbeats 4000000 in
theorem menc_any (key iv zs : List Nat) (gm gc : Nat) (s : Value) (hk : ∀ x ∈ key, x < 256) (hi : iv.length = 16) (hi2 : ∀ x ∈ iv, x < 256) (h16 : 16 ≤ zs.length) (hmx : zs.length ≤ 131072) (w : World) (hM : MdAt key iv gm gc w) (hB : BytesAt zs s w) :
    Calls Tryd.prog 14 #[.pointer (some ⟨gm, 0, none⟩), s] w fun e w' => ∃ s', e = .returned s' ∧ BytesAt (encL key iv zs) s' w' ∧ Nil0 s' ∧ (∀ j, InS s' j → w.heap.size ≤ j) ∧ Below w.heap.size w w' := by
  have HCO := Lib.hid (completed_any zs s (by omega) w hB)
  have hle := nB_le zs.length
  have hnb : nB zs.length ≤ 9000 ∧ 1 ≤ nB zs.length := by unfold nB; omega
  have HPL := Lib.hid (padB_len zs)
  have HP2 := Lib.hid (padB_256 hB.1)
  have HEL := Lib.hid (show encL key iv zs = (swp (catN (chF key iv zs) (nB zs.length))).take zs.length from rfl)
  have HFE := Lib.hid (show ∀ k, chF key iv zs k = chS key iv (blkB (padB zs)) (k + 1) from fun _ => rfl)
  have HMD := Lib.hid hM.1
  have HCP := Lib.hid hM.2
  obtain ⟨P, hP⟩ : ∃ q, padB zs = q := ⟨_, rfl⟩
  obtain ⟨n, hn⟩ : ∃ q, nB zs.length = q := ⟨_, rfl⟩
  rw [hP] at HCO HPL HP2 HFE
  rw [hn] at HCO HPL HEL hle hnb
  have hp256 : ∀ k, k < n → ∀ x ∈ blkB P k, x < 256 := fun k _ x hx => HP2.out x (List.mem_of_mem_drop (List.mem_of_mem_take hx))
  have hpl : ∀ k, k < n → (blkB P k).length = 16 := fun k hk => blkB_len (by rw [HPL.out]; omega)
  have HLW := Lib.hid (fun k (h : k ≤ n) => chS_lw (p := blkB P) hk hi hi2 k (fun q hq => hp256 q (by omega)))
  obtain ⟨f, hf⟩ : ∃ q, chF key iv zs = q := ⟨_, rfl⟩
  rw [hf] at HEL HFE
  have HF := Lib.hid (fun k (h : k < n) => show (f k).length = 16 ∧ ∀ x ∈ f k, x < 256 by rw [HFE.out]; exact HLW.out (k + 1) (by omega))
  have HCL := Lib.hid (catN_len n (fun k h => (HF.out k h).1))
  have HC2 := Lib.hid (catN_256 n (fun k h => (HF.out k h).2))
  have hmk := run_mk22z (16 * n) (by omega)
  have g1 := rowN_lt hM.1
  have g2 := rowN_lt hM.2
  obtain ⟨_, sa, sc, rfl, _, _⟩ := hB
  have hs3 := fun (g : Nat) W => run_slice22_hm g (16 * n) (16 * n) zs.length hle W
  obtain ⟨L, hL⟩ : ∃ q, zs.length = q := ⟨_, rfl⟩
  rw [hL] at HCO HEL h16 hmx hle hn hs3 ⊢
  rw [HEL.out]
  clear hM hP hn hf hL
  refine (callsIn_wide (n := 6)).1 ?_
  refine callsIn_of_wp_marks Tryd.func14 rfl trivial ?_ rfl
  simp only [Tryd.ntmps14, List.size_toArray, List.length_cons, List.length_nil, Nat.reduceAdd, Nat.reduceSub, Array.replicate_succ, Array.replicate_zero, List.push_toArray, List.append_toArray, List.nil_append, List.cons_append]
  refine wpIn_wide.2 ?_
  go_wp2_with fail
  refine HCO.out.mono ?_
  rintro e w1 ⟨gw, rfl, hgw, hrw, hb1⟩
  have hgw1 := rowN_lt hrw
  have HB1 := Lib.hid hb1
  have HRW := Lib.hid hrw
  have hmk1 := hmk w1
  have HOW := Lib.hid (made_own2 w1 (16 * n) w.heap.size hb1.size (by omega))
  have hw1 := hb1.size
  clear hrw hb1 HCO hmk
  obtain ⟨Ln, hLn⟩ : ∃ q, 16 * n = q := ⟨_, rfl⟩
  have HLN := Lib.hid hLn
  rw [hLn] at hmk1 HOW hs3 ⊢
  clear hLn
  go_wp2_with fail
  obtain ⟨V, hV⟩ : ∃ q, (w1.alloc (.cells (arr .u8 (zr Ln)) 5)).alloc (.cells #[.slice (some ⟨w1.heap.size, 0, none⟩) 0 Ln] 22) = q := ⟨_, rfl⟩
  have hbV : Below w1.heap.size w1 V := by rw [← hV]; exact ((Below.refl _ w1).alloc (Nat.le_refl _) _).alloc (by simp) _
  have HZV := Lib.hid (show V.heap.size = w1.heap.size + 2 by rw [← hV]; simp)
  have hrx : rowN V (w1.heap.size + 1) = some #[.slice (some ⟨w1.heap.size, 0, none⟩) 0 Ln] := by rw [← hV, rowN_alloc, if_pos (by simp)]
  have hoV : V.ownsRow w.heap.size 5 1 (.slice (some ⟨w1.heap.size, 0, none⟩) 0 Ln) 0 (cl []) := by rw [← hV]; exact HOW.out.alloc _
  rw [hV]
  refine (blocksOf_any (some ⟨gw, 0, none⟩) Ln Ln V).mono ?_
  rintro e w2 ⟨rfl, hw2⟩
  have hb2 : Below V.heap.size V w2 := by rw [hw2]; exact ((Below.refl _ V).alloc (Nat.le_refl _) _).alloc (by simp) _
  have HZ2 := Lib.hid (show w2.heap.size = V.heap.size + 2 by rw [hw2]; simp)
  have hq1 : rowN w2 V.heap.size = some #[.slice (some ⟨gw, 0, none⟩) Ln Ln] := by rw [hw2, rowN_alloc, if_neg (by simp), rowN_alloc, if_pos rfl]
  have hq2 : rowN w2 (V.heap.size + 1) = some #[.int .i64 16] := by rw [hw2, rowN_alloc, if_pos (by simp)]
  clear hV hw2
  go_wp2_with fail
  refine (chain_any (some ⟨gm, 0, none⟩) 54 #[.pointer (some ⟨V.heap.size, 0, none⟩), .pointer (some ⟨V.heap.size + 1, 0, none⟩)] w2).mono ?_
  rintro e U ⟨rfl, hU⟩
  have hb3 : Below w2.heap.size w2 U := by rw [hU]; exact ((Below.refl _ w2).alloc (Nat.le_refl _) _).alloc (by simp) _
  have HZ3 := Lib.hid (show U.heap.size = w2.heap.size + 2 by rw [hU]; simp)
  have hq3 : rowN U w2.heap.size = some #[.pointer (some ⟨gm, 0, none⟩)] := by rw [hU, rowN_alloc, if_neg (by simp), rowN_alloc, if_pos rfl]
  have hq4 : rowN U (w2.heap.size + 1) = some #[.func (.func 54) #[] #[.pointer (some ⟨V.heap.size, 0, none⟩), .pointer (some ⟨V.heap.size + 1, 0, none⟩)]] := by rw [hU, rowN_alloc, if_pos (by simp)]
  clear hU
  have hzV := HZV.out
  have hz2 := HZ2.out
  have hz3 := HZ3.out
  have hbVU : Below V.heap.size V U := bthen hb2 hb3
  have hb1U : Below w1.heap.size w1 U := bthen hbV hbVU
  have HBU := Lib.hid (bthen HB1.out hb1U)
  have hMU : MdAt key iv gm gc U := ⟨keptW HBU.out HMD.out, keptW HBU.out HCP.out⟩
  have hBP : BytesAt P (.slice (some ⟨gw, 0, none⟩) Ln Ln) U := bytes_row HP2.out (keptW hb1U HRW.out) Ln (by rw [HPL.out, HLN.out])
  have hInS : ∀ j, InS (Value.slice (some ⟨gw, 0, none⟩) Ln Ln) j → j = gw := fun j h => by
    obtain ⟨o, sp, L', c', e⟩ := h
    cases e; rfl
  have HCY := Lib.hid (chain1_yields (6 - 1) w2.heap.size (w2.heap.size + 1) gm gc n n key iv (blkB P) 54 #[.pointer (some ⟨V.heap.size, 0, none⟩), .pointer (some ⟨V.heap.size + 1, 0, none⟩)] (fun k v X => BytesAt (blkB P k) v X ∧ ∀ j, InS v j → InS (Value.slice (some ⟨gw, 0, none⟩) Ln Ln) j) (fun j => j = V.heap.size ∨ j = V.heap.size + 1 ∨ (0 < P.length ∧ InS (Value.slice (some ⟨gw, 0, none⟩) Ln Ln) j)) U hk hi hi2 hq3 hq4 hMU (enters_of Tryd.func54 (by kernel_rfl) rfl)
    (chunk1_yields 4 V.heap.size (V.heap.size + 1) n P _ HPL.out (by omega) U (keptW hb3 hq1) (keptW hb3 hq2) hBP)
    (fun k v X _ h => h.1) (fun k v X l o o' h hl ho => ⟨h.1.putObj o' hl ho, h.2⟩)
    (fun k v X hk h j hj => .inr (.inr ⟨by rw [HPL.out]; omega, h.2 j hj⟩))
    (fun j h => by
      rcases h with h | h | h
      · omega
      · omega
      · have := hInS j h.2; omega)
    (Nat.le_refl _) hpl (fun h => absurd h (Nat.lt_irrefl _)) hp256)
  have HBX := Lib.hid (keptW hbVU hrx)
  have HOU := Lib.hid (hoV.kept (grown_none hbVU) (.inr (by simp [Value.ownBlock])))
  obtain ⟨gch, hg1⟩ : ∃ q, w1.heap.size = q := ⟨_, rfl⟩
  obtain ⟨gbx, hg2⟩ : ∃ q, gch + 1 = q := ⟨_, rfl⟩
  rw [hg1] at HBX HOU HZV hzV hgw1 hw1 ⊢
  rw [hg2] at HBX ⊢
  have hlt1 : gch < U.heap.size ∧ gbx < U.heap.size ∧ gch < gbx ∧ w.heap.size ≤ gch ∧ gbx < V.heap.size := by omega
  have HI0 := Lib.hid (show EnI f gbx gch n w 0 U from ⟨by rw [HLN.out]; exact HBX.out, by rw [HLN.out]; exact HOU.out, HBU.out⟩)
  clear hbV hrx hoV hb2 hq1 hq2 hb3 hq3 hq4 hbVU hb1U hMU hBP hmk1 HOW HBX HOU HRW hzV hz2 hz3 hg1
  go_wp2_with fail
  have hzV := HZV.out
  have hz2 := HZ2.out
  have hz3 := HZ3.out
  refine (wpIn_wide (n := 6)).1 ?_
  refine range_yieldsT (by omega) (gf := 35) (lb := #[.pointer (some ⟨w2.heap.size, 0, none⟩), .pointer (some ⟨w2.heap.size + 1, 0, none⟩)]) rfl (enters_of Tryd.func35 (by kernel_rfl) rfl) HCY.out
    (fun j => j = gbx ∨ j = gch) (fun j h => by
      refine ⟨by omega, fun h2 => ?_⟩
      rcases h2 with h2 | h2 | h2 | h2 | h2 | h2 | h2
      · omega
      · omega
      · omega
      · omega
      · omega
      · omega
      · have := hInS j h2.2; omega)
    (fun j h2 => by
      rcases h2 with h2 | h2 | h2 | h2 | h2 | h2 | h2
      · omega
      · omega
      · omega
      · omega
      · omega
      · omega
      · have := hInS j h2.2; omega)
    (fun k v X l o o' h hl ho => ⟨⟨h.1.1.putObj o' hl ho, NF.putObj h.1.1 h.1.2 o' hl ho⟩, fun j hj => by have := h.2 j hj; simp; exact this⟩) (Below.refl _ _)
    (EnI f gbx gch n w) (fun _ _ _ => False) (enI_own f gbx gch n w hlt1.2.1 hlt1.1 (by omega)) (fun _ _ _ _ _ hs _ _ => hs) HI0.out ?a1 ?assign ?body ?done ?stop
  case assign =>
    intro l2 v X k hk
    gi_wp2
    exact hk
  case body =>
    rintro l2 k v X hkn ⟨hbx, hown, hbl⟩ ⟨⟨hbv, _⟩, hins⟩
    rw [← HFE.out] at hbv
    have hfl := HF.out k hkn
    obtain ⟨bv, ov, cv, rfl, hbvl, _⟩ := hbv.cells (by rw [hfl.1]; omega)
    have hcells := (bytes_cells hbv).2
    rw [hfl.1] at hins ⊢
    have hbv1 := hins bv ⟨ov, none, _, _, rfl⟩
    obtain ⟨i0, hi0, hz0, hz1, hz2⟩ := info_parts Tryd.info5
    have hbc := (rowN_cell hbx).1 0
    have hne : gbx ≠ gch := by omega
    have HEND := Lib.hid (fun (X2 : World) (hown2 : X2.ownsRow w.heap.size 5 1 (.slice (some ⟨gch, 0, none⟩) (16 * k + 16) (16 * n)) (16 * k + 16) (cl (catN f k) ++ cl (f k))) (hg2 : X.grownBy X2 (some gch)) (hbx2 : rowN X2 gbx = some #[.slice (some ⟨gch, 0, none⟩) (16 * k) (16 * n)]) =>
      show RoundEnds U.heap.size (Keeps fun j => (j = gbx ∨ j = gch) ∨ InS (Value.slice (some ⟨bv, ov, none⟩) 16 cv) j) (EnI f gbx gch n w (k + 1)) (fun c => (fun _ _ _ => False) c (k + 1)) X .normal (X2.setCell ⟨gbx, 0, none⟩ (.slice (some ⟨gch, 0, none⟩) (16 * k + 16) (16 * n))) from by
        have hK : Keeps (fun j => j = gbx ∨ j = gch) X (X2.setCell ⟨gbx, 0, none⟩ (.slice (some ⟨gch, 0, none⟩) (16 * k + 16) (16 * n))) :=
          (Keeps.of_grownBy hg2 (fun r e => by cases e; exact .inr rfl)).trans (Keeps.of_grownBy (grown_setCell _ _ _ _) (fun r e => by cases e; exact .inl rfl))
        refine ⟨hK.from (fun j hj h => by omega), hK.weaken (fun j _ h => .inl h), .inl ⟨rfl, ?_, ?_, ?_⟩⟩
        · rw [show 16 * (k + 1) = 16 * k + 16 by omega]; exact row_set0 hbx2
        · rw [show 16 * (k + 1) = 16 * k + 16 by omega, show catN f (k + 1) = catN f k ++ f k from rfl, cl_app]
          exact hown2.kept (grown_setCell _ _ _ _) (.inr (fun e => hne (by injection e with e; exact e.symm)))
        · exact (hbl.grown hg2 hbl.size (fun r e => by cases e; omega)).setCell (p := ⟨gbx, 0, none⟩) (by show w.heap.size ≤ gbx; omega) _)
    clear hbv hbvl hbl hins hbv1
    gi_wp2_with (gi_at_builtin; refine wpListIn_append_fits _ rfl _ _ 22 rfl w.heap.size 5 i0 1 Tryd.underlying22 hi0 hz1 gch (16 * k) (16 * n) (cl (catN f k)) rfl hown ⟨bv, ov, none⟩ 16 cv (cl (f k)) rfl (by rw [cl_len, hfl.1]) hcells (cl_one _) (by omega) ?_; intro X2 hown2 hg2; have hbx2 := (grownBy_rowN hg2 (rowN_lt hbx) (fun e => hne (by injection e))).trans hbx; have hf2 := (rowN_cell hbx2).2 0; have hc2 := (rowN_cell hbx2).1 0; have HX := Lib.hid (HEND.out X2 hown2 hg2 hbx2); clear hown2 hg2)
    have hX := HX.out
    rw [HZ3.out, HZ2.out, HZV.out] at hX
    exact hX
  case done =>
    rintro D X hD ⟨hbx, hown, hbl⟩ hKD
    rw [HLN.out] at hbx hown
    have hrow := own_row hown
    have HCE := Lib.hid (changeEnd_any gch (catN f n) Ln (by rw [HCL.out, HLN.out]) (by have := HLN.out; omega) X hrow)
    have hc1 := (rowN_cell hbx).1 0
    have HBX := Lib.hid hbx
    have HBL := Lib.hid hbl
    have HKD := Lib.hid hKD
    have hDl : D < X.heap.size := (Array.getElem?_eq_some_iff.1 hKD).1
    have hDg : D ≠ gch ∧ D ≠ gbx ∧ w.heap.size ≤ D := by omega
    have hs3g := hs3 gch
    have HSL := Lib.hid (show (swp (catN f n)).length = Ln by rw [swp_len, HCL.out, HLN.out])
    have HS2 := Lib.hid (show ∀ x ∈ swp (catN f n), x < 256 from fun x hx => by
      unfold swp at hx
      split at hx
      · rcases List.mem_append.1 hx with hx | hx
        · rcases List.mem_append.1 hx with hx | hx
          · exact HC2.out x (List.mem_of_mem_take hx)
          · exact HC2.out x (List.mem_of_mem_drop hx)
        · exact HC2.out x (List.mem_of_mem_drop (List.mem_of_mem_take hx))
      · exact HC2.out x hx)
    clear hbx hown hbl hKD hrow
    go_wp2_with fail
    refine HCE.out.mono ?_
    rintro e X2 ⟨rfl, hr2, hg2⟩
    have HR2 := Lib.hid hr2
    have hbx2 := (grownBy_rowN hg2 (rowN_lt HBX.out) (fun e => by injection e with e; omega)).trans HBX.out
    have hc2 := (rowN_cell hbx2).1 0
    have HKD2 := Lib.hid ((hg2.block D hDl (fun e => hDg.1 (by injection e))).trans HKD.out)
    have HB2 := Lib.hid (HBL.out.grown hg2 HBL.out.size (fun r e => by cases e; omega))
    clear hr2 hg2 hbx2 HCE
    go_wp2_with fail
    refine ⟨by simp, .inl ⟨_, _, rfl, run_takeDeferred HKD2.out, ?_⟩⟩
    have hrP : rowN (X2.putObj D (.deferred none)) gch = some (arr .u8 (swp (catN f n))) := by rw [rowN_putObj (fun e => hDg.1 e.symm)]; exact HR2.out
    have hby := bytes_cutm (bytes_row HS2.out hrP Ln HSL.out) 0 L L (by rw [HSL.out, ← HLN.out]; omega) (Nat.le_refl _)
    rw [List.drop_zero, Nat.add_zero] at hby
    exact ⟨_, results_slot rfl rfl, _, rfl, hby, (fun _ _ e => by cases e), (fun j hj => by
      obtain ⟨o, sp, L', c', e⟩ := hj
      cases e
      exact hlt1.2.2.2.1), HB2.out.grown (grownBy_putObj' _ _ _) HB2.out.size (fun r e => by cases e; exact hDg.2.2)⟩
  case stop =>
    rintro D k c V hD hk hx hK
    exact hx.elim
end Go.Proofs.YtjcdbjapadgdfaaDoor
