/- What Bytes comes to. -/
import Derived.Test.YtkegdjndmeialaaC1
namespace Go.Proofs.Ytkegdjndmeialaa
open Go.RowKit

/-- How many bytes a number has; its bytes, the most significant one first. -/
def nBytes (v : Nat) : Nat := (dlen 2 v + 7) / 8
def bytesN (v : Nat) : List Nat := (List.range (nBytes v)).map fun i => v / 2 ^ ((nBytes v - 1 - i) * 8) % 256
theorem bytesN_length (v : Nat) : (bytesN v).length = nBytes v := by simp [bytesN]

/-- The call hands back a slice of its own that holds l. -/
def Owns (e : TypeId) (k : IntKind) (l : List Nat) (w : World) (en : Ending) (w' : World) : Prop :=
  ∃ s, en = .returned s ∧ w'.ownsRow w.heap.size e 1 s l.length (l.map fun x => .int k (x : Nat)) ∧ Below w.heap.size w w'

theorem Try.info5 : (Try.prog.info? 5).map (fun i => (i.zero, i.size, i.bytes)) = some (some (.int .u8 0), 1, 1) := by kernel_rfl

theorem P64_two (n : Nat) (h : n = 64 * 16) : P64 ^ 16 = 2 ^ n := by
  subst h
  rw [P64_pow, ← Nat.pow_mul]

theorem dlen2_le {v : Nat} (hv : v < P64 ^ 16) : dlen 2 v ≤ 1024 := by
  obtain ⟨n, hn⟩ : ∃ n, n = 64 * 16 := ⟨_, rfl⟩
  rw [P64_two n hn] at hv
  have := dlen_le (by omega) hv
  omega

theorem below_none {w w' : World} (h : Below w.heap.size w w') : w.grownBy w' none := ⟨h.os, h.tape, h.output, h.size, fun k hk _ => h.block k hk⟩

/-- What the loop holds behind i bytes. -/
def BytesRel (v nb g : Nat) (w : World) (s : Value) (wr : World) : Prop :=
  ∃ (i : Nat) (xs : List Value), i ≤ nb ∧ s = .int .i64 (i : Nat) ∧ wr.ownsRow (w.heap.size + 1) 5 1 (.slice (some ⟨g, 0, none⟩) nb nb) nb xs ∧ (∀ j, j < i → xs[j]? = some (.int .u8 (v / 2 ^ ((nb - 1 - j) * 8) % 256 : Nat))) ∧
    rowN wr w.heap.size = some (natA v) ∧ Below w.heap.size w wr

set_option maxRecDepth 100000 in
theorem bytes_any (v : Nat) (hv : v < P64 ^ 16) (w : World) : Calls Try.prog 45 #[.agg (natA v)] w (Owns 5 .u8 (bytesN v) w) := by
  obtain ⟨i0, hi, hz0, hz1, hz2⟩ := info_parts Try.info5
  have hL := dlen2_le hv
  obtain ⟨L, HL⟩ : ∃ L, dlen 2 v = L := ⟨_, rfl⟩
  rw [HL] at hL
  have hnb : ((L : Int) + 8 - 1) / 8 = ((nBytes v : Nat) : Int) := by unfold nBytes; rw [HL]; omega
  have hnb8 : nBytes v ≤ 128 := by unfold nBytes; rw [HL]; omega
  obtain ⟨nb, Hnb⟩ : ∃ nb, nBytes v = nb := ⟨_, rfl⟩
  rw [Hnb] at hnb hnb8
  have HL := Lib.hid HL
  have HN := Lib.hid hnb
  have HNB := Lib.hid Hnb
  clear hnb Hnb
  rename_i HL0
  clear HL0
  go_enter Try.func45, Try.ntmps45
  go_wp2_with fail
  refine (bitLen_any v hv _).mono ?_
  rintro e w1 ⟨rfl, hb1⟩
  rw [HL.out]
  have hrow1 : rowN w1 w.heap.size = some (natA v) := by rw [brow hb1 _ (by simp)]; simp [rowN_alloc]
  have HR1 := Lib.hid hrow1
  clear hrow1
  have hlt1 : w.heap.size < w1.heap.size := by have := hb1.size; simp at this; omega
  have hbel1 : Below w.heap.size w w1 := ((Below.refl _ _).alloc (Nat.le_refl _) _).trans (hb1.mono (by simp))
  clear hb1
  go_wp2_with (at_make; rw [HN.out]; refine wpList_make_full _ rfl _ _ 22 rfl (w.heap.size + 1) 5 i0 (.int .u8 0) 1 Try.underlying22 hi hz0 hz1 .i64 .i64 _ _ nb rfl rfl rfl rfl (by rw [hz2]; omega) (by unfold maxLen; omega) (by omega) ?_)
  intro w2 hown2 hg2
  have hbel2 : Below w.heap.size w w2 := hbel1.grown hg2 (by omega) (fun k e => by cases e)
  have hrow2 : rowN w2 w.heap.size = some (natA v) := by rw [grownBy_rowN hg2 (by omega) (by simp)]; exact HR1.out
  have HO2 := Lib.hid hown2
  have HR2 := Lib.hid hrow2
  clear hown2 hg2 hrow2
  go_wp2_with fail
  go_loopw [15] (fun s wr => BytesRel v nb w1.heap.size w s wr) (fun s _ => nb - (intOf s).toNat)
  case atStart => exact ⟨0, _, Nat.zero_le _, rfl, HO2.out, fun j h => by omega, HR2.out, hbel2⟩
  case round =>
    obtain ⟨i, xs, hile, rfl, hown, hxs, hrow, hbel⟩ := hrel
    have HO := Lib.hid hown
    have HX := Lib.hid hxs
    have HB := Lib.hid hbel
    clear hown hxs hbel hbel2 hbel1
    by_cases hil : i < nb
    · have hwr : w.heap.size < wr.heap.size := rowN_lt hrow
      go_wp2_with fail
      refine (group8 v _ (by omega) (by omega) (by omega) _).mono ?_
      rintro e w3 ⟨rfl, hb3⟩
      have ho3 := HO.out.kept (below_none hb3) (.inr (by simp [Value.ownBlock]))
      have hlen : xs.length = nb := by have := HO.out.1; omega
      obtain ⟨old, hold⟩ : ∃ old, w3.cell? ⟨w1.heap.size, i, none⟩ = some old := ⟨xs[i]'(by omega), by rw [ho3.cellAt i (by omega)]; exact List.getElem?_eq_getElem _⟩
      have hfro := ho3.frozenAt i
      have hr3 : rowN w3 w.heap.size = some (natA v) := by rw [brow hb3 _ hwr]; exact hrow
      have hb03 : Below w.heap.size w w3 := HB.out.trans (hb3.mono (by omega))
      have HO3 := Lib.hid ho3
      have HB3 := Lib.hid hb03
      have HLEN := Lib.hid hlen
      have HR3 := Lib.hid hr3
      clear ho3 hb3 hb03 hrow hwr hlen hr3
      generalize hx : v / 2 ^ ((↑nb - 1 - ↑i : Int) * 8).toNat % 256 = x
      have HXX := Lib.hid hx
      clear hx
      go_wp2_with fail
      refine ⟨⟨i + 1, xs.set i (.int .u8 (x : Nat)), by omega, rfl, (HO3.out.stored i _).1, fun j hj => ?_, ?_, HB3.out.setCell (by show w.heap.size ≤ w1.heap.size; omega) _⟩, by simp [intOf]; omega⟩
      · by_cases e : j = i
        · subst e
          rw [List.getElem?_set_self (by rw [HLEN.out]; omega), ← HXX.out]
          have e2 : ((↑nb - 1 - ↑j : Int) * 8).toNat = (nb - 1 - j) * 8 := by omega
          rw [e2]
        · rw [List.getElem?_set_ne (fun h => e h.symm)]; exact HX.out j (by omega)
      · rw [rowN_setCell, if_neg (by show ¬ w.heap.size = w1.heap.size; omega)]; exact HR3.out
    · obtain rfl : i = nb := by omega
      clear hrow
      go_wp2_with fail
      go_ret
      refine ⟨_, rfl, ?_, HB.out⟩
      have hlen : xs.length = i := by have := HO.out.1; omega
      have e : (bytesN v).map (fun x => Value.int .u8 (x : Nat)) = xs := by
        refine List.ext_getElem? fun j => ?_
        by_cases hj : j < i
        · rw [HX.out j hj]
          simp [bytesN, HNB.out, hj]
        · rw [List.getElem?_eq_none (by simp [bytesN, HNB.out]; omega), List.getElem?_eq_none (by omega)]
      rw [e, bytesN_length, HNB.out]
      have h := HO.out
      obtain ⟨h1, h2⟩ := h
      refine ⟨h1, ?_⟩
      rcases h2 with ⟨h2, _⟩ | ⟨g, cap, cur, e1, e2, e3⟩
      · cases h2
      · exact .inr ⟨g, cap, cur, e1, by omega, e3⟩
end Go.Proofs.Ytkegdjndmeialaa
