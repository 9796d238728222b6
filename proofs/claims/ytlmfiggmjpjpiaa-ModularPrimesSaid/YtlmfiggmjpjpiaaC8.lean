/- What combine comes to, whatever closure it is given. -/
import Derived.Test.YtlmfiggmjpjpiaaZC
import Derived.Deep.RegionWith
import Derived.Deep.DeepCutAuto
namespace Go.Proofs.Ytlmfiggmjpjpiaa
open Go.RowKit

/-- From W to W' nothing that was there has turned but the blocks of S. -/
structure Ch (S : Nat → Prop) (W W' : World) : Prop where
  os : W'.os = W.os
  tape : W'.tape = W.tape
  output : W'.output = W.output
  size : W.heap.size ≤ W'.heap.size
  block : ∀ k, k < W.heap.size → ¬ S k → W'.heap[k]? = W.heap[k]?

theorem Ch.refl (S : Nat → Prop) (W : World) : Ch S W W := ⟨rfl, rfl, rfl, Nat.le_refl _, fun _ _ _ => rfl⟩
theorem Ch.trans {S : Nat → Prop} {a b c : World} (h : Ch S a b) (k : Ch S b c) : Ch S a c :=
  ⟨k.os.trans h.os, k.tape.trans h.tape, k.output.trans h.output, Nat.le_trans h.size k.size, fun i hi hs => (k.block i (Nat.lt_of_lt_of_le hi h.size) hs).trans (h.block i hi hs)⟩
theorem Ch.drew (S : Nat → Prop) (W : World) : Ch S W W.drew := ⟨rfl, rfl, rfl, Nat.le_refl _, fun _ _ _ => rfl⟩
theorem Ch.setCell (S : Nat → Prop) (W : World) (a : Addr) (v : Value) (h : S a.block) : Ch S W (W.setCell a v) :=
  ⟨rfl, rfl, rfl, by simp [World.setCell], fun k _ hn => Below.heap_setCell W a v k (fun e => hn (by rw [e]; exact h))⟩
theorem Ch.alloc (S : Nat → Prop) (W : World) (o : Obj) : Ch S W (W.alloc o) :=
  ⟨rfl, rfl, rfl, by simp, fun k hk _ => Below.heap_alloc W o k hk⟩
theorem Ch.mono {S S' : Nat → Prop} {a b : World} (h : Ch S a b) (hs : ∀ k, S k → S' k) : Ch S' a b :=
  ⟨h.os, h.tape, h.output, h.size, fun i hi hn => h.block i hi (fun e => hn (hs _ e))⟩
theorem Ch.row {S : Nat → Prop} {a b : World} (h : Ch S a b) {g : Nat} (hl : g < a.heap.size) (hn : ¬ S g) : rowN b g = rowN a g := by
  unfold rowN; rw [h.block g hl hn]
theorem Ch.cell {S : Nat → Prop} {a b : World} (h : Ch S a b) {g o : Nat} (hl : g < a.heap.size) (hn : ¬ S g) : b.cell? ⟨g, o, none⟩ = a.cell? ⟨g, o, none⟩ :=
  World.cell?_of_block (h.block g hl hn)
theorem Ch.frozen {S : Nat → Prop} {a b : World} (h : Ch S a b) {g o : Nat} (hl : g < a.heap.size) (hn : ¬ S g) : b.frozen? ⟨g, o, none⟩ = a.frozen? ⟨g, o, none⟩ :=
  World.frozen?_of_block (h.block g hl hn)
theorem Ch.below {S : Nat → Prop} {a b : World} (h : Ch S a b) (B : Nat) (hB : B ≤ a.heap.size) (hs : ∀ k, S k → B ≤ k) : Below B a b :=
  ⟨h.os, h.tape, h.output, h.size, fun k hk => h.block k (by omega) (fun e => by have := hs k e; omega)⟩

/-- A row of cells whose cells from o on have been replaced, k of them. -/
def combRow (cs : Array Value) (o : Nat) (out : Nat → Int) : Nat → Array Value
  | 0 => cs
  | k + 1 => (combRow cs o out k).setIfInBounds (o + k) (.int .u64 (out k))

theorem combRow_size (cs : Array Value) (o : Nat) (out : Nat → Int) (k : Nat) : (combRow cs o out k).size = cs.size := by
  induction k with
  | zero => rfl
  | succ k ih => simp [combRow, ih]

theorem combRow_get (cs : Array Value) (o : Nat) (out : Nat → Int) (n j : Nat) (hj : j < cs.size) :
    (combRow cs o out n)[j]? = if o ≤ j ∧ j < o + n then some (.int .u64 (out (j - o))) else cs[j]? := by
  induction n with
  | zero => rw [if_neg (by omega)]; rfl
  | succ k ih =>
    rw [combRow, Array.getElem?_setIfInBounds, combRow_size]
    by_cases e : o + k = j
    · rw [if_pos e, if_pos (by omega), if_pos (by omega)]
      congr 3
      omega
    · rw [if_neg e, ih]
      by_cases h : o ≤ j ∧ j < o + k
      · rw [if_pos h, if_pos (by omega)]
      · rw [if_neg h, if_neg (by omega)]

/-- What the loop holds behind k digits. -/
def CombRel (n bx ox : Nat) (cs : Array Value) (out : Nat → Int) (Inv : Nat → World → Prop) (S : Nat → Prop) (W : World) (s : Value) (wr : World) : Prop :=
  ∃ k, k ≤ n ∧ s = .int .i64 (k : Nat) ∧ rowN wr bx = some (combRow cs ox out k) ∧ Inv k wr ∧ Ch (fun b => S b ∨ b = bx) W wr

set_option maxRecDepth 100000 in
theorem combine_any (n bx ox cx b2 oy ny cy F : Nat) (caps : Array Value) (cs : Array Value) (x y out : Nat → Int) (Inv : Nat → World → Prop) (S : Nat → Prop)
    (hE : ∀ (args : Array Value) (w : World), (callFunc F args).run Try.prog w = .ok (.enter F args) w)
    (hn : n ≤ 9223372036854775807) (hny : n ≤ ny) (W : World) (hrow : rowN W bx = some cs) (hbx : ¬ S bx) (hne : b2 ≠ bx) (hb2 : b2 < W.heap.size) (hS2 : ¬ S b2)
    (hx : ∀ k, k < n → cs[ox + k]? = some (.int .u64 (x k))) (hy : ∀ k, k < n → W.cell? ⟨b2, oy + k, none⟩ = some (.int .u64 (y k)))
    (hI0 : Inv 0 W) (hI : ∀ k W₁ W₂, Inv k W₁ → Ch (fun b => b = bx) W₁ W₂ → Inv k W₂)
    (hF : ∀ k W₁, k < n → Inv k W₁ → Calls Try.prog F (#[.int .u64 (x k), .int .u64 (y k)] ++ caps) W₁ fun e W₂ => e = .returned (.int .u64 (out k)) ∧ Inv (k + 1) W₂ ∧ Ch S W₁ W₂) :
    Calls Try.prog 74 #[.slice (some ⟨bx, ox, none⟩) n cx, .slice (some ⟨b2, oy, none⟩) ny cy, .func (.func F) #[] caps] W fun e W' =>
      e = .returned (.tuple #[]) ∧ rowN W' bx = some (combRow cs ox out n) ∧ Inv n W' ∧ Ch (fun b => S b ∨ b = bx) W W' := by
  have HX := Lib.hid hx
  have HY := Lib.hid hy
  have HI := Lib.hid hI
  have HF := Lib.hid hF
  have HR := Lib.hid hrow
  have H0 := Lib.hid hI0
  clear hx hy hI hF hrow hI0
  go_enter Try.func74, Try.ntmps74
  go_wp2_with fail
  go_loopw [9] (fun s wr => CombRel n bx ox cs out Inv S W s wr) (fun s _ => n - (intOf s).toNat)
  case atStart => exact ⟨0, Nat.zero_le _, rfl, HR.out, H0.out, Ch.refl _ _⟩
  case round =>
    obtain ⟨k, hk, rfl, hrow, hinv, hch⟩ := hrel
    have HI1 := Lib.hid hinv
    have HC1 := Lib.hid hch
    have HR1 := Lib.hid hrow
    clear hinv hch hrow
    by_cases hlt : k < n
    · have hcx : wr.cell? ⟨bx, ox + k, none⟩ = some (.int .u64 (x k)) := by
        have h := HX.out k hlt
        rw [(rowN_cell HR1.out).1, combRow_get _ _ _ _ _ (by have := (Array.getElem?_eq_some_iff.1 h).1; exact this), if_neg (by omega)]
        exact h
      have hcy : wr.cell? ⟨b2, oy + k, none⟩ = some (.int .u64 (y k)) := by
        rw [HC1.out.cell hb2 (by rintro (h | h); exact hS2 h; exact hne h)]
        exact HY.out k hlt
      have hlty : (k : Int) < (ny : Int) := by omega
      have hinvd := HI.out k wr wr.drew HI1.out (Ch.drew _ _)
      have HID := Lib.hid hinvd
      clear hinvd
      have hrd : rowN wr.drew bx = some (combRow cs ox out k) := HR1.out
      have hlx : ox + k < (combRow cs ox out k).size := by rw [combRow_size]; exact (Array.getElem?_eq_some_iff.1 (HX.out k hlt)).1
      have hbl : bx < wr.drew.heap.size := rowN_lt hrd
      have HRD := Lib.hid hrd
      have HLX := Lib.hid hlx
      have HBL := Lib.hid hbl
      clear hrd hlx hbl
      go_wp2_with fail
      go_region_with ((refine (HF.out k _ hlt HID.out).mono ?_; rintro e w2 ⟨rfl, hinv2, hch2⟩; have hr2 := (hch2.row HBL.out hbx).trans HRD.out; have HINV2 := Lib.hid hinv2; have HCH2 := Lib.hid hch2; have hc2 := ((rowN_cell hr2).1 (ox + k)).trans (Array.getElem?_eq_getElem HLX.out); have hf2 := (rowN_cell hr2).2 (ox + k); have HR2 := Lib.hid hr2; clear hr2 hinv2 hch2))
      all_goals
        go_wp2_with fail
        refine ⟨⟨k + 1, by omega, rfl, ?_, HI.out _ _ _ HINV2.out (Ch.setCell _ _ _ _ rfl), ?_⟩, by simp [intOf]; omega⟩
        · rw [rowN_setCell, if_pos rfl, HR2.out]; rfl
        · exact ((HC1.out.trans (Ch.drew _ _)).trans (HCH2.out.mono (fun _ h => .inl h))).trans (Ch.setCell _ _ _ _ (.inr rfl))
    · obtain rfl : k = n := by omega
      go_wp2_with fail
      go_end0
      exact ⟨rfl, HR1.out, HI1.out, HC1.out⟩
end Go.Proofs.Ytlmfiggmjpjpiaa

