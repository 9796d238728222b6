/- What FromBytes comes to. -/
import Derived.Test.YtkegdjndmeialaaC1
namespace Go.Proofs.Ytkegdjndmeialaa
open Go.RowKit

/-- The number with given bytes, 0 if it has too many bits; the error. -/
def fbV (zs : List Nat) : Nat := if valBE 256 zs < P64 ^ 16 then valBE 256 zs else 0
def fbE (zs : List Nat) : Int := if valBE 256 zs < P64 ^ 16 then 0 else 7

/-- What the first loop leaves: the bytes from k on. -/
def FbRel (zs : List Nat) (b off n : Nat) (s : Value) : Prop :=
  ∃ k off' c', k ≤ n ∧ s = .slice (some ⟨b, off', none⟩) (n - k) c' ∧ n - k ≤ c' ∧ (k < n → off' = off + k) ∧ ∀ j, j < k → zs.getD j 0 = 0

theorem pow256 (m : Nat) : (256 : Nat) ^ m = 2 ^ (8 * m) := by rw [show (256 : Nat) = 2 ^ 8 by decide, ← Nat.pow_mul]
theorem P64_16 : P64 ^ 16 = 256 ^ 128 := by
  have e : 64 * 16 = 8 * 128 := by decide
  have h : ∀ a b : Nat, a = b → (2 : Nat) ^ a = 2 ^ b := fun a b h => by rw [h]
  exact (by rw [P64_pow, ← Nat.pow_mul] : P64 ^ 16 = 2 ^ (64 * 16)).trans ((h _ _ e).trans (pow256 128).symm)

theorem fb_fits (zs : List Nat) (k m : Nat) (hz : zs.length = k + m) (h256 : ∀ j, zs.getD j 0 < 256) (h0 : ∀ j, j < k → zs.getD j 0 = 0) (hm : m ≤ 128) :
    fbV zs = valBE 256 (zs.drop k) ∧ fbE zs = 0 := by
  have h1 := valBE_drop 256 zs k (by omega) h0
  have h2 : valBE 256 (zs.drop k) < 256 ^ (zs.drop k).length := valBE_lt 256 (by omega) _ (fun x hx => by
    obtain ⟨j, hj, rfl⟩ := List.mem_iff_getElem.1 hx
    have := h256 (k + j)
    simp only [List.length_drop] at hj
    rw [List.getD, List.getElem?_eq_getElem (by omega)] at this
    simpa using this)
  have h3 : 256 ^ (zs.drop k).length ≤ 256 ^ 128 := Nat.pow_le_pow_right (by omega) (by rw [List.length_drop]; omega)
  have h4 : valBE 256 zs < P64 ^ 16 := by rw [P64_16, h1]; omega
  unfold fbV fbE
  rw [if_pos h4, if_pos h4, h1]
  exact ⟨rfl, rfl⟩

theorem fb_full (zs : List Nat) (k m : Nat) (hz : zs.length = k + m) (h0 : ∀ j, j < k → zs.getD j 0 = 0) (hk : zs.getD k 0 ≠ 0) (hm : 128 < m) : fbV zs = 0 ∧ fbE zs = 7 := by
  have h1 := valBE_drop 256 zs k (by omega) h0
  have h2 := valBE_ge 256 zs k (by omega) hk
  have h3 : 256 ^ 128 ≤ 256 ^ (zs.length - k - 1) := Nat.pow_le_pow_right (by omega) (by omega)
  have h4 : ¬ valBE 256 zs < P64 ^ 16 := by rw [P64_16, h1]; omega
  unfold fbV fbE
  rw [if_neg h4, if_neg h4]
  exact ⟨rfl, rfl⟩

/-- What the second loop holds behind i bytes: the number's block alone has turned. -/
def FbRel2 (L : List Nat) (m A : Nat) (W : World) (s : Value) (wr : World) : Prop :=
  ∃ i, i ≤ m ∧ s = .int .i64 (i : Nat) ∧ rowN wr A = some (natA (valBE 256 (L.take i) * 256 ^ (m - i))) ∧ W.grownBy wr (some A)

theorem fb2_step (L : List Nat) (m i : Nat) (hm : L.length = m) (hi : i < m) :
    valBE 256 (L.take i) * 256 ^ (m - i) + L.getD i 0 * 2 ^ (((m : Int) - 1 - i) * 8).toNat = valBE 256 (L.take (i + 1)) * 256 ^ (m - (i + 1)) := by
  have h := valBE_step 8 L m i hm hi
  have e : (((m : Int) - 1 - i) * 8).toNat = (m - 1 - i) * 8 := by omega
  rw [e]
  exact h

theorem fb2_dvd (L : List Nat) (m i : Nat) (hi : i < m) : 2 ^ ((((m : Int) - 1 - i) * 8).toNat + 8) ∣ valBE 256 (L.take i) * 256 ^ (m - i) := by
  have h := valBE_dvd 8 L m i hi
  have e : (((m : Int) - 1 - i) * 8).toNat = (m - 1 - i) * 8 := by omega
  rw [e]
  exact h

theorem grownBy_refl (w : World) (r : Option Nat) : w.grownBy w r := ⟨rfl, rfl, rfl, Nat.le_refl _, fun _ _ _ => rfl⟩
theorem grownBy_trans {a b c : World} {r : Option Nat} (h : a.grownBy b r) (k : b.grownBy c r) : a.grownBy c r :=
  ⟨k.os.trans h.os, k.tape.trans h.tape, k.output.trans h.output, Nat.le_trans h.size k.size, fun i hi hr => (k.block i (Nat.lt_of_lt_of_le hi h.size) hr).trans (h.block i hi hr)⟩

set_option maxRecDepth 100000 in
theorem fromBytes_some (b off n c : Nat) (zs : List Nat) (w : World) (hz : zs.length = n) (h256 : ∀ j, zs.getD j 0 < 256) (hn : n ≤ 9223372036854775807) (hnc : n ≤ c) (hblk : b < w.heap.size)
    (hc : ∀ j, j < n → w.cell? ⟨b, off + j, none⟩ = some (.int .u8 (zs.getD j 0 : Nat))) :
    Calls Try.prog 12 #[.slice (some ⟨b, off, none⟩) n c] w fun e w' => e = .returned (.tuple #[.agg (natA (fbV zs)), .int .i64 (fbE zs)]) ∧ Below w.heap.size w w' := by
  have HC := Lib.hid hc
  have HZ := Lib.hid hz
  have H256 := Lib.hid h256
  clear hc hz h256
  go_enter Try.func12, Try.ntmps12
  go_wp2
  go_loop [0] (fun s => FbRel zs b off n s) (fun s => match s with | .slice _ m _ => m | _ => 0)
  case atStart => exact ⟨0, off, c, Nat.zero_le _, rfl, hnc, fun _ => rfl, fun j h => by omega⟩
  case round =>
    obtain ⟨k, off', c', hk, rfl, hkc, hoff, h0⟩ := hrel
    have H0 := Lib.hid h0
    clear h0
    obtain ⟨m, rfl⟩ : ∃ m, n = k + m := ⟨n - k, by omega⟩
    simp only [Nat.add_sub_cancel_left] at hkc ⊢
    by_cases hlt : 0 < m
    · obtain rfl := hoff (by omega)
      have hcell := HC.out k (by omega)
      clear hoff
      go_wp2_with fail
      · have hz0 : (((zs[k]?.getD 0 : Nat) : Int) == 0) = true := by assumption
        refine ⟨⟨k + 1, if c' = 1 then off + k else off + k + 1, c' - 1, by omega, ?_, by omega, fun h => by rw [if_neg (by omega)]; omega, fun j hj => ?_⟩, by simp; omega⟩
        · rw [show k + m - (k + 1) = m - 1 by omega]; split <;> rfl
        · by_cases e : j = k
          · subst e; have := eq_of_beq hz0; simp only [List.getD]; omega
          · exact H0.out j (by omega)
      · have hz0 : (((zs[k]?.getD 0 : Nat) : Int) == 0) = false := by assumption
        have hm : (128 : Int) < (m : Int) := by assumption
        obtain ⟨e1, e2⟩ := fb_full zs k m HZ.out H0.out (fun e => by rw [List.getD] at e; rw [e] at hz0; simp at hz0) (by omega)
        rw [e1, e2]
        exact ret_nat_tmp _ (natA 0) rfl rfl rfl (by simp [rowN_setRow, rowN_alloc]) (natA_size _) ⟨rfl, below_setRow' ((Below.refl _ _).alloc (Nat.le_refl _) _) (Nat.le_refl _) _⟩
      · have hm : (m : Int) ≤ 128 := by assumption
        have hfits := Lib.hid (fb_fits zs k m HZ.out H256.out H0.out (by omega))
        have hL : (zs.drop k).length = m := by rw [List.length_drop, HZ.out]; omega
        have HL := Lib.hid hL
        clear hL
        go_loopw [24] (fun s wr => FbRel2 (zs.drop k) m (w.heap.size + 1) ((w.alloc (.cells (natA 0) 28)).alloc (.cells (natA 0) 28)) s wr) (fun s _ => m - (intOf s).toNat)
        case atStart => exact ⟨0, Nat.zero_le _, rfl, by simp [rowN_alloc, valBE], grownBy_refl _ _⟩
        case round =>
          obtain ⟨i, hi, rfl, hrow, hgr⟩ := hrel
          have HR := Lib.hid hrow
          have HG := Lib.hid hgr
          clear hrow hgr
          by_cases hil : i < m
          · have hci : wr.cell? ⟨b, off + k + i, none⟩ = some (.int .u8 ((zs.drop k).getD i 0 : Nat)) := by
              have h1 := HC.out (k + i) (by omega)
              have h2 : ((w.alloc (.cells (natA 0) 28)).alloc (.cells (natA 0) 28)).cell? ⟨b, off + k + i, none⟩ = some (.int .u8 (zs.getD (k + i) 0 : Nat)) := by
                rw [World.cell?_alloc_past _ _ _ (by simp; omega), World.cell?_alloc_past _ _ _ hblk, Nat.add_assoc]; exact h1
              rw [HG.out.cell h2 (by simp; omega)]
              simp [List.getD]
            have hx := H256.out (k + i)
            simp only [List.getD] at hx
            have HX := Lib.hid hx
            clear hx
            go_wp2_with fail
            refine (place_any 8 (w.heap.size + 1) (valBE 256 ((zs.drop k).take i) * 256 ^ (m - i)) _ _ (by omega) (by omega) (by omega) (by omega) (by have := HX.out; omega) (by omega) (fb2_dvd _ _ _ hil) _ HR.out).mono ?_
            rintro e w2 ⟨rfl, hr2, hg2⟩
            have HR2 := Lib.hid hr2
            have HG2 := Lib.hid hg2
            clear hr2 hg2
            go_wp2_with fail
            refine ⟨⟨i + 1, by omega, rfl, ?_, grownBy_trans HG.out HG2.out⟩, by simp [intOf]; omega⟩
            rw [HR2.out, Int.toNat_natCast, ← fb2_step _ _ _ HL.out hil]
            simp [List.getD]
          · obtain rfl : i = m := by omega
            have hRA : rowN wr (w.heap.size + 1) = some (natA (valBE 256 (zs.drop k))) := by
              have := HR.out
              rw [List.take_of_length_le (by rw [HL.out]; exact Nat.le_refl _), Nat.sub_self, Nat.pow_zero, Nat.mul_one] at this
              exact this
            have hR0 : rowN wr w.heap.size = some (natA 0) := by
              rw [grownBy_rowN HG.out (by simp; omega) (by simp)]; simp [rowN_alloc]
            go_wp2_with fail
            obtain ⟨e1, e2⟩ := hfits.out
            rw [e1, e2]
            refine ret_nat_tmp _ (natA (valBE 256 (zs.drop k))) rfl rfl rfl (by simp [rowN_setRow, hR0]) (natA_size _) ⟨rfl, below_setRow' ?_ (Nat.le_refl _) _⟩
            exact (((Below.refl _ _).alloc (Nat.le_refl _) _).alloc (by simp) _).grown HG.out (by simp; omega) (fun k e => by cases e; omega)
    · obtain rfl : m = 0 := by omega
      clear hoff
      have hfits := Lib.hid (fb_fits zs k 0 HZ.out H256.out H0.out (by omega))
      have hd : zs.drop k = [] := List.drop_eq_nil_of_le (by rw [HZ.out]; omega)
      have HD := Lib.hid hd
      clear hd
      go_wp2_with fail
      refine wp_loop_rounds 1 ?_
      rw [rounds_succ]
      go_wp2_with fail
      obtain ⟨e1, e2⟩ := hfits.out
      rw [e1, e2, HD.out]
      exact ret_nat_tmp _ (natA 0) rfl rfl rfl (by simp [rowN_setRow, rowN_alloc]) (natA_size _) ⟨rfl, below_setRow' (((Below.refl _ _).alloc (Nat.le_refl _) _).alloc (by simp) _) (Nat.le_refl _) _⟩

set_option maxRecDepth 100000 in
theorem fromBytes_nil (a : Option Addr) (c : Nat) (w : World) :
    Calls Try.prog 12 #[.slice a 0 c] w fun e w' => e = .returned (.tuple #[.agg (natA 0), .int .i64 0]) ∧ Below w.heap.size w w' := by
  go_enter Try.func12, Try.ntmps12
  go_wp2
  refine wp_loop_rounds 1 ?_
  rw [rounds_succ]
  go_wp2_with fail
  refine wp_loop_rounds 1 ?_
  rw [rounds_succ]
  go_wp2_with fail
  exact ret_nat_tmp _ (natA 0) rfl rfl rfl (by simp [rowN_setRow, rowN_alloc]) (natA_size _) ⟨rfl, below_setRow' (((Below.refl _ _).alloc (Nat.le_refl _) _).alloc (by simp) _) (Nat.le_refl _) _⟩

end Go.Proofs.Ytkegdjndmeialaa
