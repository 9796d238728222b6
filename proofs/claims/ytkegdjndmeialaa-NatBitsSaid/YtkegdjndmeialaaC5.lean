/- What Text comes to; a slice of bytes as a string. -/
import Derived.Test.YtkegdjndmeialaaC4
namespace Go.Proofs.Ytkegdjndmeialaa
open Go.RowKit

/-- The string of bytes. -/
def strOf (l : List Nat) : ByteArray := ⟨(l.map UInt8.ofNat).toArray⟩
theorem strOf_size (l : List Nat) : (strOf l).size = l.length := by simp [strOf, ByteArray.size]

theorem foldl_push (ns : List Nat) : ∀ s : ByteArray, (ns.map fun n => ((n : Nat) : Int)).foldl (fun r n => r.push (UInt8.ofNat n.toNat)) s = ⟨s.data ++ (ns.map UInt8.ofNat).toArray⟩ := by
  induction ns with
  | nil => intro s; simp
  | cons n ns ih =>
    intro s
    rw [List.map_cons, List.foldl_cons, ih]
    simp [ByteArray.push]

theorem run_str (W : World) (g off n cap : Nat) (l : List Nat) (hl : l.length = n) (h : ∀ j, j < n → W.cell? ⟨g, off + j, none⟩ = some (.int .u8 (l.getD j 0 : Nat))) :
    (convert 22 9 (.slice (some ⟨g, off, none⟩) n cap)).run Try.prog W = .ok (.string (strOf l)) W := by
  rw [run_convert_bytes_string (P := Try.prog) W 22 9 5 _ _ _ Try.underlying22 Try.underlying5 Try.underlying9]
  have hld := run_loadCells_list (P := Try.prog) W ⟨g, off, none⟩ (l.map fun x => Value.int .u8 (x : Nat)) (fun j v hv => by
    have hj : j < l.length := by
      by_cases hj : j < l.length
      · exact hj
      · rw [List.getElem?_eq_none (by simp; omega)] at hv; cases hv
    have hadd : (⟨g, off, none⟩ : Addr).add j = ⟨g, off + j, none⟩ := by unfold Addr.add; split <;> simp_all
    rw [hadd, h j (by omega), ← hv]
    simp [List.getD, hj])
  rw [List.length_map, hl] at hld
  have := run_bytesToString (P := Try.prog) W ⟨g, off, none⟩ n cap (l.map fun n => ((n : Nat) : Int)) (by rw [hld, List.map_map]; rfl)
  have he : ByteArray.empty.data = #[] := rfl
  rw [this, foldl_push, he, Array.empty_append]
  rfl

/-- The hexadecimal digits. -/
def hexc (d : Nat) : Nat := if d < 10 then 48 + d else 87 + d
def nHex (v : Nat) : Nat := max 1 ((dlen 2 v + 3) / 4)
def hexN (v : Nat) : List Nat := (List.range (nHex v)).map fun i => hexc (v / 2 ^ ((nHex v - 1 - i) * 4) % 16)
theorem hexN_length (v : Nat) : (hexN v).length = nHex v := by simp [hexN]

theorem run_numeral (d : Nat) (hd : d < 16) (W : World) :
    (Instr.index 9 (.string { data := #[48, 49, 50, 51, 52, 53, 54, 55, 56, 57, 97, 98, 99, 100, 101, 102] }) (.int .u8 (d : Nat))).run Try.prog W = .ok (.int .u8 (hexc d : Nat)) W := by
  rcases (by omega : d = 0 ∨ d = 1 ∨ d = 2 ∨ d = 3 ∨ d = 4 ∨ d = 5 ∨ d = 6 ∨ d = 7 ∨ d = 8 ∨ d = 9 ∨ d = 10 ∨ d = 11 ∨ d = 12 ∨ d = 13 ∨ d = 14 ∨ d = 15) with rfl | rfl | rfl | rfl | rfl | rfl | rfl | rfl | rfl | rfl | rfl | rfl | rfl | rfl | rfl | rfl
  all_goals kernel_rfl

/-- What the loop holds behind i digits. -/
def TextRel (v nb g : Nat) (w : World) (s : Value) (wr : World) : Prop :=
  ∃ (i : Nat) (xs : List Value), i ≤ nb ∧ s = .int .i64 (i : Nat) ∧ wr.ownsRow (w.heap.size + 1) 5 1 (.slice (some ⟨g, 0, none⟩) nb nb) nb xs ∧ (∀ j, j < i → xs[j]? = some (.int .u8 (hexc (v / 2 ^ ((nb - 1 - j) * 4) % 16) : Nat))) ∧
    rowN wr w.heap.size = some (natA v) ∧ Below w.heap.size w wr

set_option maxRecDepth 100000 in
theorem text_any (v : Nat) (hv : v < P64 ^ 16) (w : World) : Calls Try.prog 17 #[.agg (natA v)] w fun e w' => e = .returned (.string (strOf (hexN v))) ∧ Below w.heap.size w w' := by
  obtain ⟨i0, hi, hz0, hz1, hz2⟩ := info_parts Try.info5
  have hL := dlen2_le hv
  obtain ⟨L, HL⟩ : ∃ L, dlen 2 v = L := ⟨_, rfl⟩
  rw [HL] at hL
  have hnb8 : nHex v ≤ 256 := by unfold nHex; rw [HL]; omega
  obtain ⟨nb, Hnb⟩ : ∃ nb, nHex v = nb := ⟨_, rfl⟩
  rw [Hnb] at hnb8
  have HL := Lib.hid HL
  have HNB := Lib.hid Hnb
  clear Hnb
  rename_i HL0
  clear HL0
  go_enter Try.func17, Try.ntmps17
  go_wp2_with fail
  refine (bitLen_any v hv _).mono ?_
  rintro e w1 ⟨rfl, hb1⟩
  rw [HL.out]
  have hrow1 : rowN w1 w.heap.size = some (natA v) := by rw [brow hb1 _ (by simp)]; simp [rowN_alloc]
  have HR1 := Lib.hid hrow1
  clear hrow1
  have hlt1 : w.heap.size < w1.heap.size := by have := hb1.size; simp at this; omega
  have hbel1 : Below w.heap.size w w1 := ((Below.refl _ _).alloc (Nat.le_refl _) _).trans (hb1.mono (by simp))
  clear hb1
  have hnb : max 1 (((L : Int) + 4 - 1) / 4) = ((nb : Nat) : Int) := by
    have h := HNB.out
    unfold nHex at h
    rw [HL.out] at h
    omega
  have HN := Lib.hid hnb
  clear hnb
  go_wp2_with (at_make; rw [HN.out]; refine wpList_make_full _ rfl _ _ 22 rfl (w.heap.size + 1) 5 i0 (.int .u8 0) 1 Try.underlying22 hi hz0 hz1 .i64 .i64 _ _ nb rfl rfl rfl rfl (by rw [hz2]; omega) (by unfold maxLen; omega) (by omega) ?_)
  intro w2 hown2 hg2
  have hbel2 : Below w.heap.size w w2 := hbel1.grown hg2 (by omega) (fun k e => by cases e)
  have hrow2 : rowN w2 w.heap.size = some (natA v) := by rw [grownBy_rowN hg2 (by omega) (by simp)]; exact HR1.out
  have HO2 := Lib.hid hown2
  have HR2 := Lib.hid hrow2
  clear hown2 hg2 hrow2
  go_wp2_with fail
  go_loopw [16] (fun s wr => TextRel v nb w1.heap.size w s wr) (fun s _ => nb - (intOf s).toNat)
  case atStart => exact ⟨0, _, Nat.zero_le _, rfl, HO2.out, fun j h => by omega, HR2.out, hbel2⟩
  case round =>
    obtain ⟨i, xs, hile, rfl, hown, hxs, hrow, hbel⟩ := hrel
    have HO := Lib.hid hown
    have HX := Lib.hid hxs
    have HB := Lib.hid hbel
    clear hown hxs hbel hbel2 hbel1
    by_cases hil : i < nb
    · have hwr : w.heap.size < wr.heap.size := rowN_lt hrow
      go_wp2_with fail
      refine (group4 v _ (by omega) (by omega) (by omega) _).mono ?_
      rintro e w3 ⟨rfl, hb3⟩
      have ho3 := HO.out.kept (below_none hb3) (.inr (by simp [Value.ownBlock]))
      have hlen : xs.length = nb := by have := HO.out.1; omega
      obtain ⟨old, hold⟩ : ∃ old, w3.cell? ⟨w1.heap.size, i, none⟩ = some old := ⟨xs[i]'(by omega), by rw [ho3.cellAt i (by omega)]; exact List.getElem?_eq_getElem _⟩
      have hfro := ho3.frozenAt i
      have hr3 : rowN w3 w.heap.size = some (natA v) := by rw [brow hb3 _ hwr]; exact hrow
      have hb03 : Below w.heap.size w w3 := HB.out.trans (hb3.mono (by omega))
      have HO3 := Lib.hid ho3
      have HB3 := Lib.hid hb03
      have HLEN := Lib.hid hlen
      have HR3 := Lib.hid hr3
      clear ho3 hb3 hb03 hrow hwr hlen hr3
      have hx16 : v / 2 ^ ((↑nb - 1 - ↑i : Int) * 4).toNat % 16 < 16 := Nat.mod_lt _ (by omega)
      generalize hx : v / 2 ^ ((↑nb - 1 - ↑i : Int) * 4).toNat % 16 = x at *
      have HXX := Lib.hid hx
      clear hx
      have hnum := run_numeral x hx16
      go_wp2_with fail
      refine ⟨⟨i + 1, xs.set i (.int .u8 (hexc x : Nat)), by omega, rfl, (HO3.out.stored i _).1, fun j hj => ?_, ?_, HB3.out.setCell (by show w.heap.size ≤ w1.heap.size; omega) _⟩, by simp [intOf]; omega⟩
      · by_cases e : j = i
        · subst e
          rw [List.getElem?_set_self (by rw [HLEN.out]; omega), ← HXX.out]
          have e2 : ((↑nb - 1 - ↑j : Int) * 4).toNat = (nb - 1 - j) * 4 := by omega
          rw [e2]
        · rw [List.getElem?_set_ne (fun h => e h.symm)]; exact HX.out j (by omega)
      · rw [rowN_setCell, if_neg (by show ¬ w.heap.size = w1.heap.size; omega)]; exact HR3.out
    · obtain rfl : i = nb := by omega
      clear hrow
      have hstr := run_str wr w1.heap.size 0 i i (hexN v) (by rw [hexN_length, HNB.out]) (fun j hj => by
        rw [Nat.zero_add, HO.out.cellAt j (by omega), HX.out j hj]
        simp [hexN, HNB.out, hj])
      go_wp2_with fail
      go_ret
      exact ⟨rfl, HB.out⟩
end Go.Proofs.Ytkegdjndmeialaa
