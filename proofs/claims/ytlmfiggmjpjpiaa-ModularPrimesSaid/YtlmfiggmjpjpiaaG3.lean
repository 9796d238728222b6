/- takeProduct and giveBack: a window of digits less a product, plus the divisor. -/
import Derived.Test.YtlmfiggmjpjpiaaQ3
import Derived.Test.YtlmfiggmjpjpiaaZMath
namespace Go.Proofs.Ytlmfiggmjpjpiaa
open Go.RowKit

theorem mulAdd0 (x y v : Nat) (hx : x < P64) (hy : y < P64) (hv : v < P64) (w : World) :
    Calls Try.prog 81 #[.int .u64 x, .int .u64 y, .int .u64 v, .int .u64 0] w fun e w' => e = .returned (.tuple #[.int .u64 ((x * y + v + 0) % P64 : Nat), .int .u64 ((x * y + v + 0) / P64 : Nat)]) ∧ w' = w :=
  mulAdd_any x y v 0 hx hy hv P64_pos w

set_option maxRecDepth 100000 in
theorem take1_any (x y q c b lo hi F C D : Nat) (hy : y < P64) (hq : q < P64) (hc : c < P64) (hb : b ≤ 1) (hlo : (y * q + c + 0) % P64 = lo) (hhi : (y * q + c + 0) / P64 = hi) (hCD : C ≠ D) (w : World)
    (hF : w.cell? ⟨F, 0, none⟩ = some (.int .u64 (q : Nat))) (hC : w.cell? ⟨C, 0, none⟩ = some (.int .u64 (c : Nat))) (hCf : w.frozen? ⟨C, 0, none⟩ = false) (hD : w.cell? ⟨D, 0, none⟩ = some (.int .u64 (b : Nat))) (hDf : w.frozen? ⟨D, 0, none⟩ = false) :
    Calls Try.prog 95 #[.int .u64 x, .int .u64 y, .pointer (some ⟨F, 0, none⟩), .pointer (some ⟨C, 0, none⟩), .pointer (some ⟨D, 0, none⟩)] w fun e w' =>
      e = .returned (.int .u64 ((x + P64 - lo - b) % P64 : Nat)) ∧ w' = (w.setCell ⟨C, 0, none⟩ (.int .u64 (hi : Nat))).setCell ⟨D, 0, none⟩ (.int .u64 (if x < lo + b then 1 else 0 : Nat)) := by
  have hM := mulAdd0 y q c hy hq hc
  rw [hlo, hhi] at hM
  have HM := Lib.hid hM
  have hS := run_sub64_call x lo b hb
  obtain ⟨d, hd⟩ : ∃ d, (x + P64 - lo - b) % P64 = d := ⟨_, rfl⟩
  obtain ⟨o, ho⟩ : ∃ o, (if x < lo + b then 1 else 0 : Nat) = o := ⟨_, rfl⟩
  rw [hd, ho] at hS ⊢
  have hD2 : (w.setCell ⟨C, 0, none⟩ (.int .u64 (hi : Nat))).cell? ⟨D, 0, none⟩ = some (.int .u64 (b : Nat)) :=
    (World.cell?_setCell_other w _ _ _ (fun e => hCD (congrArg Addr.block e))).trans hD
  have hDf2 : (w.setCell ⟨C, 0, none⟩ (.int .u64 (hi : Nat))).frozen? ⟨D, 0, none⟩ = false := by rw [World.frozen?_setCell]; exact hDf
  clear hM hlo hhi hd ho hy hq hc hb
  go_enter Try.func95, Try.ntmps95
  go_wp2_with (go_at_call 81; refine (HM.out _).mono ?_; rintro e w1 ⟨rfl, rfl⟩)
  go_ret
  exact ⟨rfl, rfl⟩

/-- The digit q, the carry of the product, the borrow. -/
def Take (F C D q : Nat) (c b : Nat → Nat) (k : Nat) (W : World) : Prop :=
  W.cell? ⟨F, 0, none⟩ = some (.int .u64 (q : Nat)) ∧ Carry C c k W ∧ Carry D b k W
theorem Take.kept {F C D q : Nat} {c b : Nat → Nat} {k bx : Nat} {W₁ W₂ : World} (h : Take F C D q c b k W₁) (hch : Ch (fun b => b = bx) W₁ W₂) (hF : F ≠ bx) (hC : C ≠ bx) (hD : D ≠ bx) : Take F C D q c b k W₂ :=
  ⟨by rw [hch.cell (block_lt_of_cell h.1) hF]; exact h.1, h.2.1.kept hch hC, h.2.2.kept hch hD⟩
theorem Take.set {F C D q : Nat} {c b : Nat → Nat} {k n m : Nat} {W : World} (h : Take F C D q c b k W) (hFC : F ≠ C) (hFD : F ≠ D) (hCD : C ≠ D) (hn : c (k + 1) = n) (hm : b (k + 1) = m) :
    Take F C D q c b (k + 1) ((W.setCell ⟨C, 0, none⟩ (.int .u64 (n : Nat))).setCell ⟨D, 0, none⟩ (.int .u64 (m : Nat))) := by
  have h1 := h.2.1.set hn
  have h2 : Carry D b k (W.setCell ⟨C, 0, none⟩ (.int .u64 (n : Nat))) := h.2.2.kept (Ch.setCell (fun b => b = C) W ⟨C, 0, none⟩ _ rfl) (fun e => hCD e.symm)
  have hch := Ch.setCell (fun b => b = D) (W.setCell ⟨C, 0, none⟩ (.int .u64 (n : Nat))) ⟨D, 0, none⟩ (.int .u64 (m : Nat)) rfl
  refine ⟨?_, ?_, h2.set hm⟩
  · have h3 := (Ch.setCell (fun b => b = C) W ⟨C, 0, none⟩ (.int .u64 (n : Nat)) rfl).cell (o := 0) (block_lt_of_cell h.1) hFC
    rw [hch.cell (by rw [World.setCell]; simpa using block_lt_of_cell h.1) hFD, h3]; exact h.1
  · exact h1.kept hch hCD

theorem enter79 (args : Array Value) (w : World) : (callFunc 95 args).run Try.prog w = .ok (.enter 95 args) w := by
  simp [callFunc, Try.func95, Try.f95, mark]
theorem enter80 (args : Array Value) (w : World) : (callFunc 96 args).run Try.prog w = .ok (.enter 96 args) w := by
  simp [callFunc, Try.func96, Try.f96, mark]

theorem take_round (Wn V q m k F C D : Nat) (hFC : F ≠ C) (hFD : F ≠ D) (hCD : C ≠ D) (hq : q < P64) (hP : V * q < P64 ^ m) (hk : k < m) (W₁ : World)
    (hi : Take F C D q (mulC P64 V q) (addC P64 (subW P64 m Wn (V * q)) (V * q)) k W₁) :
    Calls Try.prog 95 (#[.int .u64 (dgt P64 Wn k : Nat), .int .u64 (dgt P64 V k : Nat)] ++ #[.pointer (some ⟨F, 0, none⟩), .pointer (some ⟨C, 0, none⟩), .pointer (some ⟨D, 0, none⟩)]) W₁ fun e W₂ =>
      e = .returned (.int .u64 (dgt P64 (subW P64 m Wn (V * q)) k : Nat)) ∧ Take F C D q (mulC P64 V q) (addC P64 (subW P64 m Wn (V * q)) (V * q)) (k + 1) W₂ ∧ Ch (fun b => b = C ∨ b = D) W₁ W₂ := by
  have hs := mulC_step P64_pos V q k
  have hl : dgt P64 (V * q) k < P64 := dgt_lt P64_pos
  have e1 : (dgt P64 V k * q + mulC P64 V q k + 0) % P64 = dgt P64 (V * q) k := by rw [Nat.add_zero, hs, Nat.add_mul_mod_self_left, Nat.mod_eq_of_lt hl]
  have e2 : (dgt P64 V k * q + mulC P64 V q k + 0) / P64 = mulC P64 V q (k + 1) := by rw [Nat.add_zero, hs, Nat.add_mul_div_left _ _ P64_pos, Nat.div_eq_of_lt hl, Nat.zero_add]
  obtain ⟨f1, f2⟩ := sub_digit (v := Wn) P64_pos hP hk
  have h := take1_any (dgt P64 Wn k) (dgt P64 V k) q (mulC P64 V q k) (addC P64 (subW P64 m Wn (V * q)) (V * q) k) _ _ F C D (dgt_lt P64_pos) hq (Nat.lt_of_le_of_lt (mulC_le P64_pos) hq) (addC_le P64_pos _ _ _) e1 e2 hCD W₁ hi.1 hi.2.1.1 hi.2.1.2 hi.2.2.1 hi.2.2.2
  rw [f1, f2] at h
  have hcat : (#[.int .u64 (dgt P64 Wn k : Nat), .int .u64 (dgt P64 V k : Nat)] ++ #[.pointer (some ⟨F, 0, none⟩), .pointer (some ⟨C, 0, none⟩), .pointer (some ⟨D, 0, none⟩)] : Array Value) = #[.int .u64 (dgt P64 Wn k : Nat), .int .u64 (dgt P64 V k : Nat), .pointer (some ⟨F, 0, none⟩), .pointer (some ⟨C, 0, none⟩), .pointer (some ⟨D, 0, none⟩)] := by simp
  rw [hcat]
  refine h.mono ?_
  rintro e W₂ ⟨rfl, rfl⟩
  exact ⟨rfl, hi.set hFC hFD hCD rfl rfl, (Ch.setCell _ _ _ _ (.inl rfl)).trans (Ch.setCell _ _ _ _ (.inr rfl))⟩

/-- A window of a row, replaced. -/
theorem win_row (X Z i m : Nat) (hX : X < P64 ^ (i + m)) (out : Nat → Int) (h : ∀ k, k < m → out k = (dgt P64 Z k : Nat)) : combRow (wdA 17 X) i out m = wdA 17 (winSet P64 X i m Z) := by
  refine wdA_ext (by rw [combRow_size, wdA_size]) fun j hj => ?_
  rw [combRow_get _ _ _ _ _ (by rw [wdA_size]; exact hj), dgt_win P64_pos hX]
  by_cases c : i ≤ j ∧ j < i + m
  · rw [if_pos c, if_pos c, h _ (by omega)]
  · rw [if_neg c, if_neg c, wdA_get _ _ _ hj]

theorem combine_take (X V q i m cx cy A Bv F C D : Nat) (hX : X < P64 ^ (i + m)) (hP : V * q < P64 ^ m) (hq : q < P64) (him : i + m ≤ 17) (hAB : Bv ≠ A) (hFA : F ≠ A) (hCA : C ≠ A) (hDA : D ≠ A) (hBC : Bv ≠ C) (hBD : Bv ≠ D) (hFC : F ≠ C) (hFD : F ≠ D) (hCD : C ≠ D) (W : World)
    (hA : rowN W A = some (wdA 17 X)) (hB : rowN W Bv = some (wdA 17 V)) (hT : Take F C D q (mulC P64 V q) (addC P64 (subW P64 m (X / P64 ^ i) (V * q)) (V * q)) 0 W) :
    Calls Try.prog 74 #[.slice (some ⟨A, i, none⟩) m cx, .slice (some ⟨Bv, 0, none⟩) m cy, .func (.func 95) #[] #[.pointer (some ⟨F, 0, none⟩), .pointer (some ⟨C, 0, none⟩), .pointer (some ⟨D, 0, none⟩)]] W fun e W' =>
      e = .returned (.tuple #[]) ∧ rowN W' A = some (wdA 17 (winSet P64 X i m (subW P64 m (X / P64 ^ i) (V * q)))) ∧ Take F C D q (mulC P64 V q) (addC P64 (subW P64 m (X / P64 ^ i) (V * q)) (V * q)) m W' ∧ Ch (fun b => (b = C ∨ b = D) ∨ b = A) W W' := by
  have h := combine_any m A i cx Bv 0 m cy 95 #[.pointer (some ⟨F, 0, none⟩), .pointer (some ⟨C, 0, none⟩), .pointer (some ⟨D, 0, none⟩)] (wdA 17 X) (fun k => (dgt P64 (X / P64 ^ i) k : Nat)) (fun k => (dgt P64 V k : Nat))
    (fun k => (dgt P64 (subW P64 m (X / P64 ^ i) (V * q)) k : Nat)) (Take F C D q (mulC P64 V q) (addC P64 (subW P64 m (X / P64 ^ i) (V * q)) (V * q))) (fun b => b = C ∨ b = D)
    enter79 (by omega) (Nat.le_refl _) W hA (by rintro (e | e); exact hCA e.symm; exact hDA e.symm) hAB (rowN_lt hB) (by rintro (e | e); exact hBC e; exact hBD e)
    (fun k hk => by rw [wdA_get _ _ _ (by omega), dgt_high]) (fun k hk => by rw [Nat.zero_add, (rowN_cell hB).1]; exact wdA_get _ _ _ (by omega))
    hT (fun k W₁ W₂ hi hch => hi.kept hch hFA hCA hDA) (fun k W₁ hk hi => take_round (X / P64 ^ i) V q m k F C D hFC hFD hCD hq hP hk W₁ hi)
  refine h.mono ?_
  rintro e W' ⟨rfl, hr, hi, hch⟩
  exact ⟨rfl, by rw [hr, win_row X _ i m hX _ (fun k _ => rfl)], hi, hch⟩

theorem borrow_top {B m Wn P : Nat} (hW : Wn < B ^ m) (hP : P < B ^ m) (hB : 0 < B) : addC B (subW B m Wn P) P m = if Wn < P then 1 else 0 := by
  rw [addC_top (subW_lt hW) hP, subW_eq hP]
  have h0 : 0 < B ^ m := Nat.pow_pos hB
  by_cases c : Wn < P
  · rw [if_pos c, Nat.mul_one, Nat.add_div_right _ h0, Nat.div_eq_of_lt hW]
  · rw [if_neg c, Nat.mul_zero, Nat.add_zero, Nat.div_eq_of_lt hW]

theorem keptW {W w1 : World} (hb : Below W.heap.size W w1) {g : Nat} {cs : Array Value} (h : rowN W g = some cs) : rowN w1 g = some cs := by
  rw [brow hb _ (rowN_lt h)]; exact h

set_option maxRecDepth 100000 in
theorem takeProduct_any (X V q i m cx cy A Bv : Nat) (hX : X < P64 ^ (i + m)) (hP : V * q < P64 ^ m) (hq : q < P64) (him : i + m ≤ 17) (hAB : Bv ≠ A) (W : World) (hA : rowN W A = some (wdA 17 X)) (hB : rowN W Bv = some (wdA 17 V)) :
    Calls Try.prog 88 #[.slice (some ⟨A, i, none⟩) m cx, .slice (some ⟨Bv, 0, none⟩) m cy, .int .u64 q] W fun e W' =>
      e = .returned (.bool (decide (X / P64 ^ i < V * q))) ∧ rowN W' A = some (wdA 17 (winSet P64 X i m (subW P64 m (X / P64 ^ i) (V * q)))) ∧ Ch (fun b => b = A) W W' := by
  have hmf : ∀ (fn : Fn) (first cap : Array Value) (w : World), (Instr.makeFunc fn first cap).run Try.prog w = .ok (.func fn first cap) w := fun _ _ _ _ => rfl
  have lA := rowN_lt hA
  have lB := rowN_lt hB
  obtain ⟨W3, hW3⟩ : ∃ W3, ((W.alloc (.cells #[.int .u64 (q : Nat)] 24)).alloc (.cells #[.int .u64 0] 24)).alloc (.cells #[.int .u64 0] 24) = W3 := ⟨_, rfl⟩
  have hb3 : Below W.heap.size W W3 := by rw [← hW3]; exact (((Below.refl _ _).alloc (Nat.le_refl _) _).alloc (by simp) _).alloc (by simp <;> omega) _
  have hA3 := keptW hb3 hA
  have hB3 := keptW hb3 hB
  have hF3 : rowN W3 W.heap.size = some #[.int .u64 (q : Nat)] := by
    rw [← hW3]; simp only [rowN_alloc, World.size_alloc, if_true] <;> (repeat rw [if_neg (by omega)])
  have hC3 : rowN W3 (W.heap.size + 1) = some #[.int .u64 0] := by
    rw [← hW3]; simp only [rowN_alloc, World.size_alloc, if_true] <;> (repeat rw [if_neg (by omega)])
  have hD3 : rowN W3 (W.heap.size + 1 + 1) = some #[.int .u64 0] := by
    rw [← hW3]; simp only [rowN_alloc, World.size_alloc, if_true] <;> (repeat rw [if_neg (by omega)])
  have hT : Take W.heap.size (W.heap.size + 1) (W.heap.size + 1 + 1) q (mulC P64 V q) (addC P64 (subW P64 m (X / P64 ^ i) (V * q)) (V * q)) 0 W3 :=
    ⟨by rw [(rowN_cell hF3).1]; rfl, ⟨by rw [(rowN_cell hC3).1, mulC_zero]; rfl, (rowN_cell hC3).2 0⟩, ⟨by rw [(rowN_cell hD3).1, addC_zero]; rfl, (rowN_cell hD3).2 0⟩⟩
  have hCT := combine_take X V q i m cx cy A Bv W.heap.size (W.heap.size + 1) (W.heap.size + 1 + 1) hX hP hq him hAB (by omega) (by omega) (by omega) (by omega) (by omega) (by omega) (by omega) (by omega) W3 hA3 hB3 hT
  have hbt := borrow_top (Wn := X / P64 ^ i) (P := V * q) (m := m) (by rw [Nat.div_lt_iff_lt_mul (Nat.pow_pos P64_pos), Nat.mul_comm, ← Nat.pow_add]; exact hX) hP P64_pos
  have HCT := Lib.hid hCT
  have HBT := Lib.hid hbt
  have HB3 := Lib.hid hb3
  have hl3 : W.heap.size < W3.heap.size := rowN_lt hF3
  clear hCT hbt hT hF3 hC3 hD3 hA3 hB3 hb3 hX hP hq
  go_enter Try.func88, Try.ntmps88
  go_wp2_with fail
  refine HCT.out.mono ?_
  rintro e W4 ⟨rfl, hr, hT4, hch⟩
  have hD4 := hT4.2.2.1
  rw [HBT.out] at hD4
  have HR := Lib.hid hr
  have HCH := Lib.hid hch
  have hfin : Ch (fun b => b = A) W W4 := ⟨hch.os.trans HB3.out.os, hch.tape.trans HB3.out.tape, hch.output.trans HB3.out.output, Nat.le_trans HB3.out.size hch.size, fun k hk hn => by
    rw [hch.block k (Nat.lt_of_lt_of_le hk HB3.out.size) (by rintro ((e | e) | e); omega; omega; exact hn e), HB3.out.block k hk]⟩
  have HFIN := Lib.hid hfin
  clear hT4 hr hch hfin hW3
  by_cases c : X / P64 ^ i < V * q
  · rw [if_pos c] at hD4
    have hdc : decide (X / P64 ^ i < V * q) = true := by simpa using c
    have HDC := Lib.hid hdc
    clear c hdc
    go_wp2_with fail
    go_ret
    exact ⟨by rw [HDC.out]; rfl, HR.out, HFIN.out⟩
  · rw [if_neg c] at hD4
    have hdc : decide (X / P64 ^ i < V * q) = false := by simpa using c
    have HDC := Lib.hid hdc
    clear c hdc
    go_wp2_with fail
    go_ret
    exact ⟨by rw [HDC.out]; rfl, HR.out, HFIN.out⟩

set_option maxRecDepth 100000 in
theorem gb1_any (x y c C : Nat) (hc : c ≤ 1) (w : World) (hC : w.cell? ⟨C, 0, none⟩ = some (.int .u64 (c : Nat))) (hf : w.frozen? ⟨C, 0, none⟩ = false) :
    Calls Try.prog 96 #[.int .u64 x, .int .u64 y, .pointer (some ⟨C, 0, none⟩)] w fun e w' => e = .returned (.int .u64 ((x + y + c) % P64 : Nat)) ∧ w' = w.setCell ⟨C, 0, none⟩ (.int .u64 ((x + y + c) / P64 : Nat)) := by
  have hcall := run_add64_call x y c hc
  go_enter Try.func96, Try.ntmps96
  go_wp2
  go_ret
  exact ⟨rfl, rfl⟩

theorem gb_round (v u k C : Nat) (W₁ : World) (hi : Carry C (addC P64 v u) k W₁) :
    Calls Try.prog 96 (#[.int .u64 (dgt P64 v k : Nat), .int .u64 (dgt P64 u k : Nat)] ++ #[.pointer (some ⟨C, 0, none⟩)]) W₁ fun e W₂ =>
      e = .returned (.int .u64 (dgt P64 (v + u) k : Nat)) ∧ Carry C (addC P64 v u) (k + 1) W₂ ∧ Ch (fun b => b = C) W₁ W₂ := by
  have hs := addC_step P64_pos v u k
  have hl : dgt P64 (v + u) k < P64 := dgt_lt P64_pos
  have e1 : (dgt P64 v k + dgt P64 u k + addC P64 v u k) % P64 = dgt P64 (v + u) k := by rw [hs, Nat.add_mul_mod_self_left, Nat.mod_eq_of_lt hl]
  have e2 : (dgt P64 v k + dgt P64 u k + addC P64 v u k) / P64 = addC P64 v u (k + 1) := by rw [hs, Nat.add_mul_div_left _ _ P64_pos, Nat.div_eq_of_lt hl, Nat.zero_add]
  have h := gb1_any (dgt P64 v k) (dgt P64 u k) (addC P64 v u k) C (addC_le P64_pos _ _ _) W₁ hi.1 hi.2
  rw [e1, e2] at h
  have hcat : (#[.int .u64 (dgt P64 v k : Nat), .int .u64 (dgt P64 u k : Nat)] ++ #[.pointer (some ⟨C, 0, none⟩)] : Array Value) = #[.int .u64 (dgt P64 v k : Nat), .int .u64 (dgt P64 u k : Nat), .pointer (some ⟨C, 0, none⟩)] := by simp
  rw [hcat]
  refine h.mono ?_
  rintro e W₂ ⟨rfl, rfl⟩
  exact ⟨rfl, hi.set rfl, Ch.setCell _ _ _ _ rfl⟩

theorem combine_gb (X V i m cx cy A Bv C : Nat) (hX : X < P64 ^ (i + m)) (him : i + m ≤ 17) (hAB : Bv ≠ A) (hCA : C ≠ A) (hBC : Bv ≠ C) (W : World)
    (hA : rowN W A = some (wdA 17 X)) (hB : rowN W Bv = some (wdA 17 V)) (hC : Carry C (addC P64 (X / P64 ^ i) V) 0 W) :
    Calls Try.prog 74 #[.slice (some ⟨A, i, none⟩) m cx, .slice (some ⟨Bv, 0, none⟩) m cy, .func (.func 96) #[] #[.pointer (some ⟨C, 0, none⟩)]] W fun e W' =>
      e = .returned (.tuple #[]) ∧ rowN W' A = some (wdA 17 (winSet P64 X i m (X / P64 ^ i + V))) ∧ Carry C (addC P64 (X / P64 ^ i) V) m W' ∧ Ch (fun b => b = C ∨ b = A) W W' := by
  have h := combine_any m A i cx Bv 0 m cy 96 #[.pointer (some ⟨C, 0, none⟩)] (wdA 17 X) (fun k => (dgt P64 (X / P64 ^ i) k : Nat)) (fun k => (dgt P64 V k : Nat)) (fun k => (dgt P64 (X / P64 ^ i + V) k : Nat)) (Carry C (addC P64 (X / P64 ^ i) V)) (fun b => b = C)
    enter80 (by omega) (Nat.le_refl _) W hA (fun e => hCA e.symm) hAB (rowN_lt hB) hBC (fun k hk => by rw [wdA_get _ _ _ (by omega), dgt_high]) (fun k hk => by rw [Nat.zero_add, (rowN_cell hB).1]; exact wdA_get _ _ _ (by omega))
    hC (fun k W₁ W₂ hi hch => hi.kept hch hCA) (fun k W₁ _ hi => gb_round (X / P64 ^ i) V k C W₁ hi)
  refine h.mono ?_
  rintro e W' ⟨rfl, hr, hi, hch⟩
  exact ⟨rfl, by rw [hr, win_row X _ i m hX _ (fun k _ => rfl)], hi, hch⟩

set_option maxRecDepth 100000 in
theorem giveBack_any (X V i m cx cy A Bv : Nat) (hX : X < P64 ^ (i + m)) (him : i + m ≤ 17) (hAB : Bv ≠ A) (W : World) (hA : rowN W A = some (wdA 17 X)) (hB : rowN W Bv = some (wdA 17 V)) :
    Calls Try.prog 89 #[.slice (some ⟨A, i, none⟩) m cx, .slice (some ⟨Bv, 0, none⟩) m cy] W fun e W' =>
      e = .returned (.tuple #[]) ∧ rowN W' A = some (wdA 17 (winSet P64 X i m (X / P64 ^ i + V))) ∧ Ch (fun b => b = A) W W' := by
  have hmf : ∀ (fn : Fn) (first cap : Array Value) (w : World), (Instr.makeFunc fn first cap).run Try.prog w = .ok (.func fn first cap) w := fun _ _ _ _ => rfl
  have lA := rowN_lt hA
  have lB := rowN_lt hB
  obtain ⟨W3, hW3⟩ : ∃ W3, W.alloc (.cells #[.int .u64 0] 24) = W3 := ⟨_, rfl⟩
  have hb3 : Below W.heap.size W W3 := by rw [← hW3]; exact (Below.refl _ _).alloc (Nat.le_refl _) _
  have hA3 := keptW hb3 hA
  have hB3 := keptW hb3 hB
  have hC3 : rowN W3 W.heap.size = some #[.int .u64 0] := by rw [← hW3, rowN_alloc, if_pos rfl]
  have hC : Carry W.heap.size (addC P64 (X / P64 ^ i) V) 0 W3 := ⟨by rw [(rowN_cell hC3).1, addC_zero]; rfl, (rowN_cell hC3).2 0⟩
  have hCT := combine_gb X V i m cx cy A Bv W.heap.size hX him hAB (by omega) (by omega) W3 hA3 hB3 hC
  have HCT := Lib.hid hCT
  have HB3 := Lib.hid hb3
  clear hCT hC hC3 hA3 hB3 hb3 hX
  go_enter Try.func89, Try.ntmps89
  go_wp2_with fail
  refine HCT.out.mono ?_
  rintro e W4 ⟨rfl, hr, hC4, hch⟩
  have HR := Lib.hid hr
  have hfin : Ch (fun b => b = A) W W4 := ⟨hch.os.trans HB3.out.os, hch.tape.trans HB3.out.tape, hch.output.trans HB3.out.output, Nat.le_trans HB3.out.size hch.size, fun k hk hn => by
    rw [hch.block k (Nat.lt_of_lt_of_le hk HB3.out.size) (by rintro (e | e); omega; exact hn e), HB3.out.block k hk]⟩
  have HFIN := Lib.hid hfin
  clear hC4 hr hch hfin hW3
  go_wp2_with fail
  go_end0
  exact ⟨rfl, HR.out, HFIN.out⟩
end Go.Proofs.Ytlmfiggmjpjpiaa
