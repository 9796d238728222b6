/- joined, of law05. -/
import Derived.Test.YtmlacbdonkfbdaaDoorWO
namespace Go.Proofs.YtmlacbdonkfbdaaDoor
open Go.RowKit Go.Shelf

theorem wpList_appX {w : World} {ops : Array Oper} {rest : List Oper} {o : Oper} {a : Act} {Q : Exit → Act → World → Prop} (hgd : o.guard = none) (s x : Operand)
    (ho : o.op = .call { callee := .builtin .append, args := #[s, x], argTypes := #[22, 22] }) (base : Nat) {l zs : List Nat} {v src : Value} (hs : a.eval s = v) (hx : a.eval x = src)
    (hown : w.ownsRow base 5 1 v l.length (cl l)) (hB : BytesAt zs src w) (hnil : Nil0 src) (hL : l.length + zs.length ≤ 100000000) (hbase : base ≤ w.heap.size)
    (h : ∀ v' w', w'.ownsRow base 5 1 v' (l ++ zs).length (cl (l ++ zs)) → w.grownBy w' v.ownBlock → wpList Tryd.prog ops Q rest (a.put o.dst v') w') : wpList Tryd.prog ops Q (o :: rest) a w := by
  obtain ⟨i0, hi, hz0, hz1, hz2⟩ := info_parts Tryd.info5
  obtain ⟨ad, c, rfl⟩ : ∃ ad c, src = .slice ad zs.length c := by obtain ⟨_, a, c, e, _⟩ := hB; exact ⟨a, c, e⟩
  cases ad with
  | none =>
    have h0 : zs = [] := by
      obtain ⟨_, a0, c0, e, _, h2⟩ := hB
      cases e
      rcases h2 with h2 | ⟨b, off, ea, _⟩
      · exact List.length_eq_zero_iff.1 h2
      · cases ea
    obtain rfl := hnil _ _ rfl
    subst h0
    rw [List.append_nil] at h
    exact wpList_append_own_none hgd s x 22 ho base 5 i0 1 Tryd.underlying22 hi v _ _ hs hown hx (h v w hown (grownBy_refl _ _))
  | some ad =>
    have hc := (bytes_cells hB).2
    refine wpList_append_own _ hgd s x 22 ho base 5 i0 (.int .u8 0) 1 1 Tryd.underlying22 hi hz0 hz1 hz2 rfl (by decide) v _ _ hs hown ad zs.length c (cl zs) hx (by rw [cl_len, Nat.mul_one]) hc (cl_one zs) (by unfold maxLen; omega) (by omega) hbase ?_
    intro v' w' ho' hg _
    exact h v' w' (by rw [List.length_append, cl_app]; exact ho') hg

def JRel (ls : List (List Nat)) (N : Nat) (w : World) (o i : Value) (wr : World) : Prop :=
  ∃ k : Nat, k ≤ N ∧ i = .int .i64 (k : Nat) ∧ wr.ownsRow w.heap.size 5 1 o (catL (ls.take k)).length (cl (catL (ls.take k))) ∧ (∀ l ∈ ls.take k, l.length ≤ 200) ∧ Below w.heap.size w wr
theorem cat_256 {ls : List (List Nat)} (h : ∀ l ∈ ls, ∀ x ∈ l, x < 256) : ∀ x ∈ catL ls, x < 256 := by
  intro x hx
  obtain ⟨l, hl, hxl⟩ := List.mem_flatten.1 hx
  exact h l hl x hxl
set_option maxRecDepth 100000 in
set_option maxHeartbeats 2000000 in
theorem joined_any (ls : List (List Nat)) (v : Value) (w : World) (hLs : ListAt ls v w) (hN : ls.length ≤ 2000000) (hT : (catL ls).length ≤ 2000000) (h256 : ∀ l ∈ ls, ∀ x ∈ l, x < 256) :
    Calls Tryd.prog 8 #[v] w fun e w' => (((∃ l ∈ ls, 200 < l.length) ∧ e = .returned (.tuple #[.slice none 0 0, .bool false])) ∨
      ((∀ l ∈ ls, l.length ≤ 200) ∧ ∃ s', e = .returned (.tuple #[s', .bool (decide (ls.length ≤ 8))]) ∧ BytesAt (catL ls) s' w' ∧ Nil0 s' ∧ ∀ j, InS s' j → w.heap.size ≤ j)) ∧ Below w.heap.size w w' := by
  have HT := Lib.hid hT
  have H256 := Lib.hid h256
  obtain ⟨a, c, rfl, hcell⟩ := hLs
  obtain ⟨N, hNN⟩ : ∃ N, ls.length = N := ⟨_, rfl⟩
  have HNN := Lib.hid hNN
  rw [hNN] at hcell hN ⊢
  have HCELL := Lib.hid hcell
  have HI0 := Lib.hid (show JRel ls N w (.slice none 0 0) (.int .i64 0) w from ⟨0, by omega, rfl, World.ownsRow_nil w _ 5 1, (fun l h => by cases h), Below.refl _ _⟩)
  clear hcell hT h256 hNN
  go_enter Tryd.func8, Tryd.ntmps8
  go_wp2_with fail
  go_loopw [4, 5] (fun o i wr => JRel ls N w o i wr) (fun _ i _ => N - (intOf i).toNat)
  case atStart => exact HI0.out
  case round =>
    clear HI0
    obtain ⟨k, hk, rfl, ho, h200, hB⟩ := hrel
    have HO := Lib.hid ho
    have HB := Lib.hid hB
    have H200 := Lib.hid h200
    by_cases hlt : k < N
    · obtain ⟨b0, off0, rfl, hb0, hcells⟩ : ∃ b off, a = some ⟨b, off, none⟩ ∧ b < w.heap.size ∧ ∀ i, i < N → ∃ s, w.cell? ⟨b, off + i, none⟩ = some s ∧ BytesAt (ls.getD i []) s w ∧ Nil0 s := by
        rcases HCELL.out with h | h
        · omega
        · exact h
      obtain ⟨sk, hsc, hsb, hsn⟩ := hcells k hlt
      have hsc1 : wr.cell? ⟨b0, off0 + k, none⟩ = some sk := (hB.cell (p := ⟨b0, off0 + k, none⟩) hb0).trans hsc
      have hkN : ((k : Nat) : Int) < ((N : Nat) : Int) := by omega
      have hkls : k < ls.length := by rw [HNN.out]; exact hlt
      have HCAT := Lib.hid (catL_succ ls k hkls)
      have hle := catL_take_le ls (k + 1)
      rw [HCAT.out, List.length_append] at hle
      have hmem : ls.getD k [] ∈ ls := by rw [List.getD, List.getElem?_eq_getElem hkls]; exact List.getElem_mem hkls
      have HTAKE := Lib.hid (show ∀ x ∈ ls.take (k + 1), (ls.getD k []).length ≤ 200 → x.length ≤ 200 from fun x hx h => by
        rw [List.take_succ_eq_append_getElem hkls] at hx
        rcases List.mem_append.1 hx with hx | hx
        · exact H200.out x hx
        · have : x = ls[k] := by simpa using hx
          rw [this]; rw [List.getD, List.getElem?_eq_getElem hkls] at h; exact h)
      obtain ⟨zk, hzk⟩ : ∃ z, ls.getD k [] = z := ⟨_, rfl⟩
      rw [hzk] at hsb HCAT hle hmem HTAKE
      have HMEM := Lib.hid hmem
      have HLE := Lib.hid (show (catL (ls.take k)).length + zk.length ≤ 2000000 by have := HT.out; omega)
      have HSB := Lib.hid (hsb.kept hB)
      obtain ⟨ak, ck, rfl⟩ : ∃ ak ck, sk = .slice ak zk.length ck := by obtain ⟨_, a, c, e, _⟩ := hsb; exact ⟨a, c, e⟩
      have HSN := Lib.hid hsn
      clear ho hB h200 hcells hsc hsb hsn hkls hle hmem hzk
      by_cases hbig : 200 < zk.length
      · have hbi : (200 : Int) < ((zk.length : Nat) : Int) := by omega
        go_wp2_with fail
        go_ret2
        exact ⟨.inl ⟨⟨zk, HMEM.out, hbig⟩, rfl⟩, HB.out⟩
      · have hbi : ¬ (200 : Int) < ((zk.length : Nat) : Int) := by omega
        go_wp2_with (at_builtin; refine wpList_appX rfl _ _ rfl w.heap.size rfl rfl HO.out HSB.out HSN.out (by have := HLE.out; omega) HB.out.size ?_; intro v3 w3 hown3 hgrow3)
        have hb3 := below_owned HB.out HO.out hgrow3 HB.out.size
        have HE := Lib.hid (show JRel ls N w v3 (.int .i64 ((k + 1 : Nat) : Int)) w3 from ⟨k + 1, hlt, rfl, by rw [HCAT.out]; exact hown3, fun x hx => HTAKE.out x hx (by omega), hb3⟩)
        clear hown3 hgrow3 hb3
        go_wp2_with fail
        first | exact ⟨HE.out, by simp [intOf]; omega⟩ | exact ⟨by have h := HE.out; rw [show ((k + 1 : Nat) : Int) = (k : Int) + 1 by omega] at h; exact h, by simp [intOf]; omega⟩
    · obtain rfl : N = k := by omega
      have hkN : ¬ ((N : Nat) : Int) < ((N : Nat) : Int) := by omega
      rw [List.take_of_length_le (by rw [HNN.out]; omega)] at ho h200
      have hy := owns_both (cat_256 H256.out) ho
      have hn := owns_nil0 ho
      have HY := Lib.hid hy
      have HYN := Lib.hid hn
      have H2 := Lib.hid h200
      clear ho h200 hB hy hn
      by_cases h8 : N ≤ 8
      · have h8i : ((N : Nat) : Int) ≤ 8 := by omega
        have hd : decide (N ≤ 8) = true := by simpa using h8
        have HD := Lib.hid hd
        clear hd
        go_wp2_with fail
        go_ret2
        exact ⟨.inr ⟨H2.out, _, by first | rfl | (rw [HD.out]; rfl), HY.out.1, HYN.out, HY.out.2⟩, HB.out⟩
      · have h8i : ¬ ((N : Nat) : Int) ≤ 8 := by omega
        have hd : decide (N ≤ 8) = false := by simpa using h8
        have HD := Lib.hid hd
        clear hd
        go_wp2_with fail
        go_ret2
        exact ⟨.inr ⟨H2.out, _, by first | rfl | (rw [HD.out]; rfl), HY.out.1, HYN.out, HY.out.2⟩, HB.out⟩
end Go.Proofs.YtmlacbdonkfbdaaDoor
