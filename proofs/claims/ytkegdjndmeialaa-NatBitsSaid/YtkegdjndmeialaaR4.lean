/- Are two numbers the same? -/
import Derived.Test.YtkegdjndmeialaaR3
namespace Go.Proofs.Ytkegdjndmeialaa
open Go.RowKit

theorem conv_keeps {l : List Nat} {w w' : World} {s : Value} (h : w'.ownsRow w.heap.size 5 1 s l.length (l.map fun x => .int .u8 (x : Nat))) :
    ∀ W, Below w'.heap.size w' W → (convert 22 9 s).run Try.prog W = .ok (.string (strOf l)) W := fun W hW =>
  owns_str h W (fun g _ hg => hW.block g hg)

theorem dlen16 {v : Nat} (hv : v < P64 ^ 16) : dlen 65536 v ≤ 64 := by
  refine dlen_le (by omega) ?_
  have e : (65536 : Nat) ^ 64 = P64 ^ 16 := by
    rw [P64_16, p16]
  rw [e]; exact hv

theorem natA_lit (v : Nat) : (#[.int .u64 (dgt P64 v 0 : Nat), .int .u64 (dgt P64 v 1 : Nat), .int .u64 (dgt P64 v 2 : Nat), .int .u64 (dgt P64 v 3 : Nat), .int .u64 (dgt P64 v 4 : Nat), .int .u64 (dgt P64 v 5 : Nat), .int .u64 (dgt P64 v 6 : Nat), .int .u64 (dgt P64 v 7 : Nat), .int .u64 (dgt P64 v 8 : Nat), .int .u64 (dgt P64 v 9 : Nat), .int .u64 (dgt P64 v 10 : Nat), .int .u64 (dgt P64 v 11 : Nat), .int .u64 (dgt P64 v 12 : Nat), .int .u64 (dgt P64 v 13 : Nat), .int .u64 (dgt P64 v 14 : Nat), .int .u64 (dgt P64 v 15 : Nat)] : Array Value) = natA v := by
  refine Array.ext (by rw [natA_size]; rfl) fun i h1 h2 => ?_
  rw [natA_getElem]
  have h3 : i < 16 := h1
  rcases (by omega : i = 0 ∨ i = 1 ∨ i = 2 ∨ i = 3 ∨ i = 4 ∨ i = 5 ∨ i = 6 ∨ i = 7 ∨ i = 8 ∨ i = 9 ∨ i = 10 ∨ i = 11 ∨ i = 12 ∨ i = 13 ∨ i = 14 ∨ i = 15) with rfl | rfl | rfl | rfl | rfl | rfl | rfl | rfl | rfl | rfl | rfl | rfl | rfl | rfl | rfl | rfl <;> rfl

set_option maxRecDepth 100000 in
set_option maxHeartbeats 300000 in
theorem same_eq (v : Nat) (hv : v < P64 ^ 16) (s : Value) (w : World) (h : RefN v s w) : Calls Try.prog 16 #[.agg (natA v), s] w fun e w' => e = .returned (.bool true) ∧ Below w.heap.size w w' := by
  have HV := Lib.hid hv
  have hn := dlen16 hv
  have HR := Lib.hid (DigN.kept h (((Below.refl _ w).alloc (Nat.le_refl _) (.cells (natA v) 28)).drew))
  have hA : rowN (w.alloc (.cells (natA v) 28)).drew w.heap.size = some (natA v) := by
    rw [rowN_drew, rowN_alloc, if_pos rfl]
  have HA := Lib.hid hA
  have HB := Lib.hid (((Below.refl _ w).alloc (Nat.le_refl _) (.cells (natA v) 28)).drew)
  clear hv h
  generalize hL : dlen 65536 v = L at *
  clear hL
  go_enter Try.func16, Try.ntmps16
  go_wp2_with fail
  have hA' := HA.out
  go_region_with (first
    | (go_at_call 45; rw [natA_lit]; refine (bytes_any v HV.out _).mono ?_; rintro e w1 ⟨s1, rfl, ho, hb⟩; have HK1 := Lib.hid (conv_keeps ho); have hc1 := HK1.out w1 (Below.refl _ _); have HR1 := Lib.hid (HR.out.kept hb); have HB1 := Lib.hid (HB.out.trans (hb.mono HB.out.size)); clear ho hb)
    | (go_at_call 48; refine (rbytes_any v L s _ HR1.out (by omega)).mono ?_; rintro e w2 ⟨s2, rfl, ho, hb⟩; have hc2 := conv_keeps ho w2 (Below.refl _ _); have hc3 := HK1.out w2 hb; have HB2 := Lib.hid (HB1.out.trans (hb.mono HB1.out.size)); clear ho hb))
  all_goals
    go_wp2_with fail
    go_ret
    exact ⟨rfl, HB2.out⟩
end Go.Proofs.Ytkegdjndmeialaa
