/- The ladder's closure: each bit doubles what has been joined so far. -/
import Derived.Test.YtlmfiggmjpjpiaaMK
import Derived.Test.YtlmfiggmjpjpiaaF0
import Derived.Test.YtlmfiggmjpjpiaaC8
import Derived.Test.YtlmfiggmjpjpiaaZE
namespace Go.Proofs.Ytlmfiggmjpjpiaa
open Go.RowKit

theorem row_cell0 {W : World} {b c : Nat} {cs : Array Value} {x : Value} (h : rowN W b = some cs) (hne : b ≠ c) : rowN (W.setCell ⟨c, 0, none⟩ x) b = some cs := by
  rw [rowN_setCell, if_neg hne]; exact h
theorem row_set0 {W : World} {b : Nat} {y x : Value} (h : rowN W b = some #[y]) : rowN (W.setCell ⟨b, 0, none⟩ x) b = some #[x] := by
  rw [rowN_setCell, if_pos rfl, h]; rfl
theorem row_other {W : World} {b c : Nat} {cs ds : Array Value} (h : rowN W b = some cs) (hne : b ≠ c) : rowN (W.setRow c ds) b = some cs := by
  rw [rowN_setRow, if_neg hne]; exact h
theorem row_new {W : World} {b : Nat} {cs ds : Array Value} (h : rowN W b = some cs) : rowN (W.setRow b ds) b = some ds := by
  rw [rowN_setRow, if_pos rfl, h]; rfl
theorem Ch.setRow {S : Nat → Prop} (W : World) (b : Nat) (cs : Array Value) (h : S b) : Ch S W (W.setRow b cs) :=
  ⟨rfl, rfl, rfl, by simp [World.setRow], fun k _ hn => setRow_other W b k cs (fun e => hn (by rw [e]; exact h))⟩
theorem Ch.of_below {S : Nat → Prop} {W W' : World} (h : Below W.heap.size W W') : Ch S W W' :=
  ⟨h.os, h.tape, h.output, h.size, fun k hk _ => h.block k hk⟩

/-- A function that joins residues: its number, the modulus that it is bound to, and what it makes of two. -/
structure Joins (K m : Nat) (op : Nat → Nat → Nat) : Prop where
  enter : ∀ (args : Array Value) (w : World), (callFunc K args).run Try.prog w = .ok (.enter K args) w
  lt : ∀ a b, a < m → b < m → op a b < m
  call : ∀ (a b : Nat) (W : World), a < m → b < m → Calls Try.prog K #[.agg (natA m), .agg (natA a), .agg (natA b)] W fun e W' => e = .returned (.agg (natA (op a b))) ∧ Below W.heap.size W W'

/-- What is left where a number has been joined to itself n times. -/
def dbl (op : Nat → Nat → Nat) : Nat → Nat → Nat
  | 0, y => y
  | n + 1, y => op (dbl op n y) (dbl op n y)
theorem dbl_lt {op : Nat → Nat → Nat} {m : Nat} (h : ∀ a b, a < m → b < m → op a b < m) (n y : Nat) (hy : y < m) : dbl op n y < m := by
  induction n with
  | zero => exact hy
  | succ n ih => exact h _ _ ih ih

/-- What holds while the place goes down. -/
def LdRel (K m bP bJ bR d p y : Nat) (op : Nat → Nat → Nat) (W wr : World) : Prop :=
  ∃ q : Nat, d ≤ q ∧ q ≤ p ∧ rowN wr bP = some #[.int .i64 (q : Nat)] ∧ rowN wr bJ = some #[.func (.func K) #[.agg (natA m)] #[]] ∧ rowN wr bR = some (natA (dbl op (p - q) y)) ∧ Ch (fun b => b = bP ∨ b = bR) W wr

theorem dbl_step (op : Nat → Nat → Nat) (p q y : Nat) (h : q < p) : op (dbl op (p - (q + 1)) y) (dbl op (p - (q + 1)) y) = dbl op (p - q) y := by
  rw [show p - q = (p - (q + 1)) + 1 by omega]; rfl

set_option maxRecDepth 100000 in
set_option maxHeartbeats 800000 in
theorem descend_down (K m : Nat) (op : Nat → Nat → Nat) (hJn : Joins K m op) (bP bJ bR d p y : Nat) (hp : p ≤ 1024) (hd : d ≤ p) (hy : y < m) (W : World) (hP : rowN W bP = some #[.int .i64 (p : Nat)])
    (hJ : rowN W bJ = some #[.func (.func K) #[.agg (natA m)] #[]]) (hR : rowN W bR = some (natA y)) (h1 : bP ≠ bR) (h2 : bJ ≠ bR) (h3 : bJ ≠ bP) :
    Calls Try.prog 82 #[.int .i64 (d : Nat), .pointer (some ⟨bP, 0, none⟩), .pointer (some ⟨bJ, 0, none⟩), .pointer (some ⟨bR, 0, none⟩)] W fun e W' =>
      e = .returned (.tuple #[]) ∧ rowN W' bP = some #[.int .i64 (d : Nat)] ∧ rowN W' bJ = some #[.func (.func K) #[.agg (natA m)] #[]] ∧ rowN W' bR = some (natA (dbl op (p - d) y)) ∧ Ch (fun b => b = bP ∨ b = bR) W W' := by
  have hE := hJn.enter
  have HJN := Lib.hid hJn
  have H0 := Lib.hid (show LdRel K m bP bJ bR d p y op W W from ⟨p, hd, Nat.le_refl _, hP, hJ, by rw [Nat.sub_self]; exact hR, Ch.refl _ _⟩)
  clear hJn hP hJ hR
  go_enter Try.func82, Try.ntmps82
  go_wp2_with fail
  go_loopw [5] (fun _ wr => LdRel K m bP bJ bR d p y op W wr) (fun _ wr => (intOf ((wr.cell? ⟨bP, 0, none⟩).getD undef)).toNat)
  case atStart => exact H0.out
  case round =>
    obtain ⟨q, hq1, hq2, hP, hJ, hR, hch⟩ := hrel
    have HCH := Lib.hid hch
    have HP := Lib.hid hP
    have HJ := Lib.hid hJ
    have cP := (rowN_cell hP).1 0
    have fP := (rowN_cell hP).2 0
    have cJ := (rowN_cell hJ).1 0
    have lP := rowN_lt hP
    have lJ := rowN_lt hJ
    have lR := rowN_lt hR
    clear hch hP hJ H0
    by_cases hlt : d < q
    · obtain ⟨q', rfl⟩ : ∃ q', q = q' + 1 := ⟨q - 1, by omega⟩
      have hz := dbl_lt HJN.out.lt (p - (q' + 1)) y hy
      have HC := Lib.hid (fun W' => HJN.out.call _ _ W' hz hz)
      rw [dbl_step op p q' y (by omega)] at HC
      generalize dbl op (p - (q' + 1)) y = z at *
      obtain ⟨z', hz'⟩ : ∃ z', dbl op (p - q') y = z' := ⟨_, rfl⟩
      rw [hz'] at HC
      have HZ := Lib.hid hz'
      clear hz'
      go_wp2_with fail
      refine (HC.out _).mono ?_
      rintro e w2 ⟨rfl, hb⟩
      have hR2 := kept hb _ _ hR
      have hP2 := row_other (ds := natA z') (kept hb _ _ HP.out) h1
      have hJ2 := row_other (ds := natA z') (kept hb _ _ HJ.out) h2
      have hR3 := row_new (ds := natA z') hR2
      have HCH2 := Lib.hid ((HCH.out.trans (Ch.of_below hb)).trans (Ch.setRow w2 bR (natA z') (.inr rfl)))
      have HP2 := Lib.hid hP2
      have HJ2 := Lib.hid hJ2
      have HR3 := Lib.hid hR3
      have cP2 := (rowN_cell hP2).1 0
      have fP2 := (rowN_cell hP2).2 0
      have HR0 := Lib.hid HP.out
      clear hb cP fP cJ hP2 hJ2 hR3 hR hz
      go_wp2_with fail
      refine ⟨⟨q', by omega, by omega, ?_, row_cell0 HJ2.out h3, ?_, HCH2.out.trans (Ch.setCell _ _ _ _ (.inl rfl))⟩, ?_⟩
      · rw [row_set0 HP2.out]
      · rw [HZ.out]; exact row_cell0 HR3.out h1.symm
      · rw [(rowN_cell (row_set0 HP2.out)).1 0, (rowN_cell HR0.out).1 0]
        simp [intOf]
    · obtain rfl : q = d := by omega
      go_wp2_with fail
      go_end0
      exact ⟨rfl, HP.out, HJ.out, hR, HCH.out⟩

set_option maxRecDepth 100000 in
set_option maxHeartbeats 400000 in
theorem descend_stay (K m : Nat) (bP bJ bR d p y : Nat) (hd : p < d) (W : World) (hP : rowN W bP = some #[.int .i64 (p : Nat)])
    (hJ : rowN W bJ = some #[.func (.func K) #[.agg (natA m)] #[]]) (hR : rowN W bR = some (natA y)) :
    Calls Try.prog 82 #[.int .i64 (d : Nat), .pointer (some ⟨bP, 0, none⟩), .pointer (some ⟨bJ, 0, none⟩), .pointer (some ⟨bR, 0, none⟩)] W fun e W' =>
      e = .returned (.tuple #[]) ∧ rowN W' bP = some #[.int .i64 (p : Nat)] ∧ rowN W' bJ = some #[.func (.func K) #[.agg (natA m)] #[]] ∧ rowN W' bR = some (natA y) ∧ Ch (fun b => b = bP ∨ b = bR) W W' := by
  have cP := (rowN_cell hP).1 0
  have HP := Lib.hid hP
  have HJ := Lib.hid hJ
  have HR := Lib.hid hR
  clear hP hJ hR
  go_enter Try.func82, Try.ntmps82
  go_wp2_with fail
  refine wp_loop_rounds 1 ?_
  rw [rounds_succ]
  go_wp2_with fail
  go_end0
  exact ⟨rfl, HP.out, HJ.out, HR.out, Ch.refl _ _⟩

theorem descend_any (K m : Nat) (op : Nat → Nat → Nat) (hJn : Joins K m op) (bP bJ bR d p y : Nat) (hp : p ≤ 1024) (hy : y < m) (W : World) (hP : rowN W bP = some #[.int .i64 (p : Nat)])
    (hJ : rowN W bJ = some #[.func (.func K) #[.agg (natA m)] #[]]) (hR : rowN W bR = some (natA y)) (h1 : bP ≠ bR) (h2 : bJ ≠ bR) (h3 : bJ ≠ bP) :
    Calls Try.prog 82 #[.int .i64 (d : Nat), .pointer (some ⟨bP, 0, none⟩), .pointer (some ⟨bJ, 0, none⟩), .pointer (some ⟨bR, 0, none⟩)] W fun e W' =>
      e = .returned (.tuple #[]) ∧ rowN W' bP = some #[.int .i64 (min p d : Nat)] ∧ rowN W' bJ = some #[.func (.func K) #[.agg (natA m)] #[]] ∧ rowN W' bR = some (natA (dbl op (p - d) y)) ∧ Ch (fun b => b = bP ∨ b = bR) W W' := by
  by_cases h : d ≤ p
  · rw [Nat.min_eq_right h]
    exact descend_down K m op hJn bP bJ bR d p y hp h hy W hP hJ hR h1 h2 h3
  · rw [Nat.min_eq_left (by omega), show p - d = 0 by omega]
    exact descend_stay K m bP bJ bR d p y (by omega) W hP hJ hR
end Go.Proofs.Ytlmfiggmjpjpiaa
