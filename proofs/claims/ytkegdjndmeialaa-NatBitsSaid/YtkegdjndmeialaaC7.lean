/- What Parse comes to. -/
import Derived.Test.YtkegdjndmeialaaC6
namespace Go.Proofs.Ytkegdjndmeialaa
open Go.RowKit

/-- The hexadecimal digits of a string as numbers. -/
def digs (s : ByteArray) : List Nat := (natsOf s).map fun x => (numV (x : Nat)).toNat
theorem digs_length (s : ByteArray) : (digs s).length = s.size := by rw [digs, List.length_map, natsOf_length]
theorem digs_get (s : ByteArray) (i : Nat) (h : i < s.size) : (digs s).getD i 0 = (numV (s[i].toNat : Nat)).toNat := by
  have h1 := natsOf_get s i h
  have h2 : i < (natsOf s).length := by rw [natsOf_length]; exact h
  rw [List.getD, List.getElem?_eq_getElem h2, Option.getD_some] at h1
  rw [digs, List.getD, List.getElem?_map, List.getElem?_eq_getElem h2]
  simp only [Option.map_some, Option.getD_some]
  rw [h1]

theorem numV_bd (x : Int) (h : isNumB x = true) : 0 ≤ numV x ∧ numV x < 16 := by
  unfold isNumB at h
  simp only [Bool.or_eq_true, decide_eq_true_eq] at h
  unfold numV
  split <;> omega

theorem isTextB_num (s : ByteArray) (h : isTextB s = true) (i : Nat) (hi : i < s.size) : isNumB (s[i].toNat : Nat) = true := by
  unfold isTextB at h
  simp only [Bool.and_eq_true] at h
  cases hn : isNumB (s[i].toNat : Nat) with
  | true => rfl
  | false => rw [allNum_false s i hi hn] at h; exact absurd h.2 (by simp)

set_option maxRecDepth 100000 in
theorem parse_no (s : ByteArray) (hm : s.size ≤ 9223372036854775807) (h : isTextB s = false) (w : World) :
    Calls Try.prog 19 #[.string s] w fun e w' => e = .returned (.tuple #[.agg (natA 0), .int .i64 6]) ∧ Below w.heap.size w w' := by
  have H := Lib.hid h
  clear h
  go_enter Try.func19, Try.ntmps19
  go_wp2_with fail
  refine (isText_any s hm _).mono ?_
  rintro e w1 ⟨rfl, rfl⟩
  rw [H.out]
  go_wp2_with fail
  exact ret_nat_tmp _ (natA 0) rfl rfl rfl (by simp [rowN_setRow, rowN_alloc]) (natA_size _) ⟨rfl, below_setRow' ((Below.refl _ _).alloc (Nat.le_refl _) _) (Nat.le_refl _) _⟩

set_option maxRecDepth 100000 in
theorem parse_full (s : ByteArray) (hm : s.size ≤ 9223372036854775807) (h : isTextB s = true) (hs : 256 < s.size) (w : World) :
    Calls Try.prog 19 #[.string s] w fun e w' => e = .returned (.tuple #[.agg (natA 0), .int .i64 7]) ∧ Below w.heap.size w w' := by
  have H := Lib.hid h
  clear h
  go_enter Try.func19, Try.ntmps19
  go_wp2_with fail
  refine (isText_any s hm _).mono ?_
  rintro e w1 ⟨rfl, rfl⟩
  rw [H.out]
  go_wp2_with fail
  exact ret_nat_tmp _ (natA 0) rfl rfl rfl (by simp [rowN_setRow, rowN_alloc]) (natA_size _) ⟨rfl, below_setRow' ((Below.refl _ _).alloc (Nat.le_refl _) _) (Nat.le_refl _) _⟩

/-- What the loop holds behind i digits. -/
def PrRel (L : List Nat) (m A : Nat) (W : World) (s : Value) (wr : World) : Prop :=
  ∃ i, i ≤ m ∧ s = .int .i64 (i : Nat) ∧ rowN wr A = some (natA (valBE 16 (L.take i) * 16 ^ (m - i))) ∧ W.grownBy wr (some A)

theorem pr_step (L : List Nat) (m i : Nat) (hm : L.length = m) (hi : i < m) :
    valBE 16 (L.take i) * 16 ^ (m - i) + L.getD i 0 * 2 ^ (((m : Int) - 1 - i) * 4).toNat = valBE 16 (L.take (i + 1)) * 16 ^ (m - (i + 1)) := by
  have h := valBE_step 4 L m i hm hi
  have e : (((m : Int) - 1 - i) * 4).toNat = (m - 1 - i) * 4 := by omega
  rw [e]
  exact h

theorem pr_dvd (L : List Nat) (m i : Nat) (hi : i < m) : 2 ^ ((((m : Int) - 1 - i) * 4).toNat + 4) ∣ valBE 16 (L.take i) * 16 ^ (m - i) := by
  have h := valBE_dvd 4 L m i hi
  have e : (((m : Int) - 1 - i) * 4).toNat = (m - 1 - i) * 4 := by omega
  rw [e]
  exact h

set_option maxRecDepth 100000 in
theorem parse_ok (s : ByteArray) (h : isTextB s = true) (hs : s.size ≤ 256) (w : World) :
    Calls Try.prog 19 #[.string s] w fun e w' => e = .returned (.tuple #[.agg (natA (valBE 16 (digs s))), .int .i64 0]) ∧ Below w.heap.size w w' := by
  have HNUM := Lib.hid (isTextB_num s h)
  have H := Lib.hid h
  clear h
  obtain ⟨L, hL⟩ : ∃ L, digs s = L := ⟨_, rfl⟩
  have HL := Lib.hid hL
  rw [hL]
  clear hL
  go_enter Try.func19, Try.ntmps19
  go_wp2_with fail
  refine (isText_any s (by omega) _).mono ?_
  rintro e w1 ⟨rfl, rfl⟩
  rw [H.out]
  go_wp2_with fail
  go_loopw [16] (fun x wr => PrRel L s.size (w.heap.size + 1) ((w.alloc (.cells (natA 0) 28)).alloc (.cells (natA 0) 28)) x wr) (fun x _ => s.size - (intOf x).toNat)
  case atStart => exact ⟨0, Nat.zero_le _, rfl, by simp [rowN_alloc, valBE], grownBy_refl _ _⟩
  case round =>
    obtain ⟨i, hi, rfl, hrow, hgr⟩ := hrel
    have HR := Lib.hid hrow
    have HG := Lib.hid hgr
    clear hrow hgr
    by_cases hil : i < s.size
    · have hn := HNUM.out i hil
      obtain ⟨hb0, hb1⟩ := numV_bd _ hn
      have HN := Lib.hid hn
      have HB0 := Lib.hid hb0
      have HB1 := Lib.hid hb1
      clear hn hb0 hb1
      have hb := s[i].toNat_lt
      go_wp2_with fail
      refine (numeralValue_any _ (by omega) (by omega) HN.out _).mono ?_
      rintro e w1 ⟨rfl, rfl⟩
      go_wp2_with fail
      refine (place_any 4 (w.heap.size + 1) (valBE 16 (L.take i) * 16 ^ (s.size - i)) _ _ (by omega) (by omega) (by omega) HB0.out (by have := HB1.out; omega) (by omega) (pr_dvd _ _ _ hil) _ HR.out).mono ?_
      rintro e w2 ⟨rfl, hr2, hg2⟩
      have HR2 := Lib.hid hr2
      have HG2 := Lib.hid hg2
      clear hr2 hg2
      go_wp2_with fail
      refine ⟨⟨i + 1, by omega, rfl, ?_, grownBy_trans HG.out HG2.out⟩, by simp [intOf]; omega⟩
      rw [HR2.out, ← digs_get s i hil, HL.out, ← pr_step _ _ _ (by rw [← HL.out, digs_length]) hil]
    · obtain rfl : i = s.size := by omega
      have hRA : rowN wr (w.heap.size + 1) = some (natA (valBE 16 L)) := by
        have := HR.out
        rw [List.take_of_length_le (by rw [← HL.out, digs_length]; exact Nat.le_refl _), Nat.sub_self, Nat.pow_zero, Nat.mul_one] at this
        exact this
      have hR0 : rowN wr w.heap.size = some (natA 0) := by
        rw [grownBy_rowN HG.out (by simp; omega) (by simp)]; simp [rowN_alloc]
      go_wp2_with fail
      refine ret_nat_tmp _ (natA (valBE 16 L)) rfl rfl rfl (by simp [rowN_setRow, hR0]) (natA_size _) ⟨rfl, below_setRow' ?_ (Nat.le_refl _) _⟩
      exact (((Below.refl _ _).alloc (Nat.le_refl _) _).alloc (by simp) _).grown HG.out (by simp; omega) (fun k e => by cases e; omega)
end Go.Proofs.Ytkegdjndmeialaa
