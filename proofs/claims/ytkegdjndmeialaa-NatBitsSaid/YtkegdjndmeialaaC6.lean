/- What Parse comes to. -/
import Derived.Test.YtkegdjndmeialaaC2
import Derived.Test.YtkegdjndmeialaaC5
namespace Go.Proofs.Ytkegdjndmeialaa
open Go.RowKit

/-- Is a byte a hexadecimal digit? Its value. -/
def isNumB (x : Int) : Bool := decide (48 ≤ x ∧ x ≤ 57) || decide (97 ≤ x ∧ x ≤ 102)
def numV (x : Int) : Int := if x ≤ 57 then x - 48 else x - 87

set_option maxRecDepth 100000 in
theorem isNumeral_any (x : Int) (w : World) : Calls Try.prog 69 #[.int .u8 x] w fun e w' => e = .returned (.bool (isNumB x)) ∧ w = w' := by
  have h : isNumB x = (decide (48 ≤ x) && decide (x ≤ 57) || decide (97 ≤ x) && decide (x ≤ 102)) := by
    unfold isNumB
    rw [Bool.decide_and, Bool.decide_and]
  have H := Lib.hid h
  clear h
  by_cases h1 : 48 ≤ x <;> by_cases h2 : x ≤ 57 <;> by_cases h3 : 97 ≤ x <;> by_cases h4 : x ≤ 102 <;> first | (exfalso; omega) | skip
  all_goals
    go_enter Try.func69, Try.ntmps69
    go_wp2
    go_ret
    exact ⟨by rw [H.out]; simp [h1, h2, h3, h4], rfl⟩

set_option maxRecDepth 100000 in
theorem numeralValue_any (x : Int) (h0 : 0 ≤ x) (h1 : x ≤ 255) (h : isNumB x = true) (w : World) : Calls Try.prog 52 #[.int .u8 x] w fun e w' => e = .returned (.int .u8 (numV x)) ∧ w = w' := by
  unfold isNumB at h
  simp only [Bool.or_eq_true, decide_eq_true_eq] at h
  by_cases h2 : x ≤ 57
  · have e : numV x = x - 48 := by unfold numV; rw [if_pos h2]
    have H := Lib.hid e
    have h3 : 48 ≤ x := by omega
    clear e h
    go_enter Try.func52, Try.ntmps52
    go_wp2
    go_ret
    exact ⟨by rw [H.out]; rfl, rfl⟩
  · have e : numV x = x - 87 := by unfold numV; rw [if_neg h2]
    have H := Lib.hid e
    have h3 : 97 ≤ x := by omega
    have h4 : x ≤ 102 := by omega
    clear e h
    go_enter Try.func52, Try.ntmps52
    go_wp2
    go_ret
    exact ⟨by rw [H.out]; show Ending.returned (.int .u8 (x - 97 + 10)) = _; rw [show x - 97 + 10 = x - 87 by omega], rfl⟩

/-- The bytes of a string as numbers. -/
def natsOf (s : ByteArray) : List Nat := s.data.toList.map (·.toNat)
theorem natsOf_length (s : ByteArray) : (natsOf s).length = s.size := by
  show (s.data.toList.map _).length = s.data.size
  rw [List.length_map, Array.length_toList]
theorem natsOf_get (s : ByteArray) (i : Nat) (h : i < s.size) : (natsOf s).getD i 0 = s[i].toNat := by
  have h' : i < s.data.size := h
  simp only [natsOf, List.getD, List.getElem?_map, Array.getElem?_toList]
  rw [Array.getElem?_eq_getElem h']
  rfl
theorem natsOf_lt (s : ByteArray) : ∀ x ∈ natsOf s, x < 256 := by
  intro x hx
  simp only [natsOf, List.mem_map] at hx
  obtain ⟨b, _, rfl⟩ := hx
  exact b.toNat_lt
theorem natsOf_strOf (l : List Nat) (h : ∀ x ∈ l, x < 256) : natsOf (strOf l) = l := by
  simp only [natsOf, strOf, List.map_map]
  conv => rhs; rw [← List.map_id l]
  refine List.map_congr_left fun x hx => ?_
  have := h x hx
  simp [Nat.mod_eq_of_lt this]

theorem toList_one (s : ByteArray) (h : s.size = 1) (h0 : (s[0]'(by omega)).toNat = 48) : s.toList = [48] := by
  obtain ⟨⟨l⟩⟩ := s
  have hl : l.length = 1 := h
  match l, hl with
  | [a], _ =>
    rw [ByteArray.toList_eq]
    have : a.toNat = 48 := h0
    have e : a = 48 := UInt8.toNat_inj.1 this
    rw [e]

theorem toList_ne (s : ByteArray) (h : s.size ≠ 1) : (s.toList == [48]) = false := by
  rw [ByteArray.toList_eq]
  by_cases e : s.data.toList = [48]
  · exfalso
    have : s.data.size = 1 := by rw [← Array.length_toList, e]; rfl
    exact h this
  · simpa using e

theorem toList_empty (s : ByteArray) (h : 0 < s.size) : s.toList.isEmpty = false := by
  rw [ByteArray.toList_eq]
  have : s.data.toList ≠ [] := fun e => by
    have : s.data.size = 0 := by rw [← Array.length_toList, e]; rfl
    have h' : 0 < s.data.size := h
    omega
  simpa using this

set_option maxRecDepth 100000 in
theorem isText_empty (s : ByteArray) (h : s.size = 0) (w : World) : Calls Try.prog 51 #[.string s] w fun e w' => e = .returned (.bool false) ∧ w = w' := by
  have h1 : s.toList = [] := by
    rw [ByteArray.toList_eq]
    have h' : s.data.size = 0 := h
    rw [Array.eq_empty_of_size_eq_zero h']
  clear h
  go_enter Try.func51, Try.ntmps51
  go_wp2_with fail
  go_ret
  exact ⟨rfl, rfl⟩

set_option maxRecDepth 100000 in
theorem isText_zero (s : ByteArray) (h : 0 < s.size) (h0 : s[0].toNat = 48) (h1 : s.size ≠ 1) (w : World) : Calls Try.prog 51 #[.string s] w fun e w' => e = .returned (.bool false) ∧ w = w' := by
  have h2 := toList_ne s h1
  have h3 := toList_empty s h
  have h4 : ¬ s.toList = [] := by simpa using h3
  have h5 : ((s[0].toNat : Nat) : Int) = 48 := by omega
  clear h0
  go_enter Try.func51, Try.ntmps51
  go_wp2_with fail
  go_ret
  exact ⟨rfl, rfl⟩

def allNum (s : ByteArray) : Bool := (natsOf s).all fun x => isNumB (x : Nat)

theorem allNum_true (s : ByteArray) (h : ∀ j (hj : j < s.size), isNumB (s[j].toNat : Nat) = true) : allNum s = true := by
  unfold allNum
  rw [List.all_eq_true]
  intro x hx
  obtain ⟨j, hj, rfl⟩ := List.mem_iff_getElem.1 hx
  rw [natsOf_length] at hj
  have := natsOf_get s j hj
  rw [List.getD, List.getElem?_eq_getElem (by rw [natsOf_length]; exact hj), Option.getD_some] at this
  rw [this]
  exact h j hj

theorem allNum_false (s : ByteArray) (j : Nat) (hj : j < s.size) (h : isNumB (s[j].toNat : Nat) = false) : allNum s = false := by
  unfold allNum
  rw [List.all_eq_false]
  have := natsOf_get s j hj
  rw [List.getD, List.getElem?_eq_getElem (by rw [natsOf_length]; exact hj), Option.getD_some] at this
  exact ⟨_, List.getElem_mem (by rw [natsOf_length]; exact hj), by rw [this, h]; simp⟩

set_option maxRecDepth 100000 in
theorem isText_loop (s : ByteArray) (h : 0 < s.size) (hm : s.size ≤ 9223372036854775807) (h0 : s[0].toNat ≠ 48 ∨ s.size = 1) (w : World) : Calls Try.prog 51 #[.string s] w fun e w' => e = .returned (.bool (allNum s)) ∧ w = w' := by
  have h3 := toList_empty s h
  have h4 : ¬ s.toList = [] := by simpa using h3
  have hcase : (((s[0].toNat : Nat) : Int) = 48 ∧ (s.toList == [48]) = true) ∨ ¬ ((s[0].toNat : Nat) : Int) = 48 := by
    by_cases e : s[0].toNat = 48
    · have h1 : s.size = 1 := by rcases h0 with h0 | h0; exact absurd e h0; exact h0
      exact .inl ⟨by omega, by rw [toList_one s h1 e]; rfl⟩
    · exact .inr (by omega)
  clear h0
  rcases hcase with ⟨h5, h6⟩ | h5
  all_goals
    go_enter Try.func51, Try.ntmps51
    go_wp2_with fail
    go_loop [17] (fun x => ∃ i : Nat, i ≤ s.size ∧ x = .int .i64 i ∧ ∀ j (hj : j < s.size), j < i → isNumB (s[j].toNat : Nat) = true) (fun x => s.size - (intOf x).toNat)
    case atStart => exact ⟨0, Nat.zero_le _, rfl, fun j _ h => by omega⟩
    case round =>
      obtain ⟨i, hi, rfl, hz⟩ := hrel
      have HZ := Lib.hid hz
      clear hz
      by_cases hlt : i < s.size
      · go_wp2_with fail
        refine (isNumeral_any _ _).mono ?_
        rintro e w1 ⟨rfl, rfl⟩
        cases hn : isNumB ((s[i].toNat : Nat) : Int) with
        | true =>
          have HN := Lib.hid hn
          clear hn
          go_wp2_with fail
          refine ⟨⟨i + 1, by omega, rfl, fun j hj h => ?_⟩, by simp [intOf]; omega⟩
          by_cases e : j = i
          · subst e; exact HN.out
          · exact HZ.out j hj (by omega)
        | false =>
          have HF := Lib.hid (allNum_false s i hlt hn)
          clear hn
          go_wp2_with fail
          go_ret
          exact ⟨by rw [HF.out]; rfl, rfl⟩
      · have HF := Lib.hid (allNum_true s (fun j hj => HZ.out j hj (by omega)))
        go_wp2_with fail
        go_ret
        exact ⟨by rw [HF.out]; rfl, rfl⟩

/-- Is a string that of a number? -/
def isTextB (s : ByteArray) : Bool := decide (0 < s.size) && ((natsOf s).getD 0 0 != 48 || s.size == 1) && allNum s

theorem isText_any (s : ByteArray) (hm : s.size ≤ 9223372036854775807) (w : World) : Calls Try.prog 51 #[.string s] w fun e w' => e = .returned (.bool (isTextB s)) ∧ w = w' := by
  by_cases h : s.size = 0
  · have : isTextB s = false := by simp [isTextB, h]
    rw [this]
    exact isText_empty s h w
  · have h' : 0 < s.size := by omega
    by_cases h0 : s[0].toNat ≠ 48 ∨ s.size = 1
    · have : isTextB s = allNum s := by
        unfold isTextB
        rw [natsOf_get s 0 h']
        rcases h0 with h0 | h0
        · simp [h', h0]
        · simp [h0]
      rw [this]
      exact isText_loop s h' hm h0 w
    · have h1 : s[0].toNat = 48 := by omega
      have h2 : s.size ≠ 1 := by omega
      have : isTextB s = false := by
        unfold isTextB
        rw [natsOf_get s 0 h', h1]
        simp [h2]
      rw [this]
      exact isText_zero s h' h1 h2 w
end Go.Proofs.Ytkegdjndmeialaa
