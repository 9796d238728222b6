/- What the laws call besides: appends of bytes, arrays compared; what a slice of bytes that came in reads. -/
import Derived.ProofKit
import Derived.OpenShut
import Derived.ChangeOld
import Derived.Laws.AppendOwnNone
import Derived.Test.YtmlacbdonkfbdaaDoorTF
namespace Go.Proofs.YtmlacbdonkfbdaaDoor
open Go.RowKit Go.Shelf

/-! ### arrays of 32 bytes compared -/
def arEql (x y : Operand) (a b : Value) : Sem Next := do pure (.value (← (do eqGuard .eql 27 x y a b; binOp .eql 27 a b)))
def arNeq (x y : Operand) (a b : Value) : Sem Next := do pure (.value (← (do eqGuard .neq 27 x y a b; binOp .neq 27 a b)))
section
variable (ρ : Operand → Value) (dst : Option Tmp) (x y : Operand) (ty yt : TypeId) (pos : String) (after : Array Edge) (guard : Option (Nat × Bool))
@[go_sem ↓] theorem execOp_eql24 : execOp ρ { dst, op := .binOp .eql 27 x y yt, type := ty, pos, after, guard } = arEql x y (ρ x) (ρ y) := rfl
@[go_sem ↓] theorem execOp_neq24 : execOp ρ { dst, op := .binOp .neq 27 x y yt, type := ty, pos, after, guard } = arNeq x y (ρ x) (ρ y) := rfl
end
theorem eqItems_arr (d : Nat) (l : List Nat) (hl : l.length = 32) (w : World) : ∀ is : List Nat, (∀ i ∈ is, i < 32) → (Op.eqItems (d + 1) 5 1 (arr .u8 l) (arr .u8 l) is).run Tryd.prog w = .ok true w := by
  have hp : Tryd.prog.plainKey 5 = true := by kernel_rfl
  intro is
  induction is with
  | nil => intro _; rfl
  | cons i is ih =>
    intro h
    have hi : i < 32 := h i (by simp)
    simp only [Op.eqItems, Sem.run_bind, Nat.mul_one, run_part_plain w hp (arr_get .u8 l i (by omega)), Result.andThen_ok, run_equalIn_int (P := Tryd.prog) w d 5 .u8 .u8 _ _ Tryd.underlying5, beq_self_eq_true]
    simp only [Bool.not_true, Bool.false_eq_true, if_false]
    exact ih fun j hj => h j (by simp [hj])
theorem run_eq24 (d : Nat) (l : List Nat) (hl : l.length = 32) (w : World) : (Op.equalIn (d + 2) 27 (.agg (arr .u8 l)) (.agg (arr .u8 l))).run Tryd.prog w = .ok true w := by
  obtain ⟨i, hi⟩ : ∃ i, Tryd.prog.info? 5 = some i := by
    have h : (Tryd.prog.info? 5).isSome = true := by kernel_rfl
    exact Option.isSome_iff_exists.1 h
  have hc : Tryd.prog.cellsOf 5 = 1 := by kernel_rfl
  rw [run_equalIn_array (P := Tryd.prog) w (d + 1) (arr .u8 l) (arr .u8 l) Tryd.underlying27 hi, hc]
  exact eqItems_arr d l hl w _ (fun j hj => by simpa using hj)
@[go_sem] theorem run_arEql (x y : Operand) (l : List Nat) (w : World) (hl : l.length = 32) : (arEql x y (.agg (arr .u8 l)) (.agg (arr .u8 l))).run Tryd.prog w = .ok (.value (.bool true)) w := by
  have h0 : Tryd.prog.eqGuardType Tryd.prog.depth 27 = false := by kernel_rfl
  have hg := run_eqGuard_agg (P := Tryd.prog) w .eql 27 x y (arr .u8 l) (arr .u8 l) h0
  have he : ∀ n, n = 9998 + 2 → (Op.equalIn n 27 (.agg (arr .u8 l)) (.agg (arr .u8 l))).run Tryd.prog w = .ok true w := fun n hn => by rw [hn]; exact run_eq24 9998 l hl w
  have he' := he 10000 (by decide)
  simp only [arEql, Sem.run_bind, hg, Result.andThen_ok, run_eql_struct, he', Sem.run_pure]
@[go_sem] theorem run_arNeq (x y : Operand) (l : List Nat) (w : World) (hl : l.length = 32) : (arNeq x y (.agg (arr .u8 l)) (.agg (arr .u8 l))).run Tryd.prog w = .ok (.value (.bool false)) w := by
  have h0 : Tryd.prog.eqGuardType Tryd.prog.depth 27 = false := by kernel_rfl
  have hg := run_eqGuard_agg (P := Tryd.prog) w .neq 27 x y (arr .u8 l) (arr .u8 l) h0
  have he : ∀ n, n = 9998 + 2 → (Op.equalIn n 27 (.agg (arr .u8 l)) (.agg (arr .u8 l))).run Tryd.prog w = .ok true w := fun n hn => by rw [hn]; exact run_eq24 9998 l hl w
  have he' := he 10000 (by decide)
  simp only [arNeq, Sem.run_bind, hg, Result.andThen_ok, run_neq_struct, he', Sem.run_pure, Bool.not_true]

/-! ### append of bytes to bytes that are owned -/
theorem bytes_cells {zs : List Nat} {ad : Addr} {L c : Nat} {w : World} (h : BytesAt zs (.slice (some ad) L c) w) : L = zs.length ∧ ∀ j u, (cl zs)[j]? = some u → w.cell? (ad.add j) = some u := by
  obtain ⟨_, a0, c0, e, _, h3⟩ := h
  cases e
  refine ⟨rfl, fun j u hu => ?_⟩
  have hj : j < zs.length := by
    have := (List.getElem?_eq_some_iff.1 hu).1
    rw [cl_len] at this; exact this
  rcases h3 with h3 | ⟨b, off, ea, _, hjj⟩
  · omega
  · cases ea
    rw [cl_get zs j hj] at hu
    cases hu
    rw [show (⟨b, off, none⟩ : Addr).add j = ⟨b, off + j, none⟩ by unfold Addr.add; split <;> simp_all]
    exact hjj j hj
theorem wpList_app {w : World} {ops : Array Oper} {rest : List Oper} {o : Oper} {a : Act} {Q : Exit → Act → World → Prop} (hgd : o.guard = none) (s x : Operand)
    (ho : o.op = .call { callee := .builtin .append, args := #[s, x], argTypes := #[22, 22] }) (base : Nat) {l zs : List Nat} {v src : Value} (hs : a.eval s = v) (hx : a.eval x = src)
    (hown : w.ownsRow base 5 1 v l.length (cl l)) (hB : BytesAt zs src w) (hnil : Nil0 src) (hL : l.length + zs.length ≤ 1000000) (hbase : base ≤ w.heap.size)
    (h : ∀ v' w', w'.ownsRow base 5 1 v' (l ++ zs).length (cl (l ++ zs)) → w.grownBy w' v.ownBlock → wpList Tryd.prog ops Q rest (a.put o.dst v') w') : wpList Tryd.prog ops Q (o :: rest) a w := by
  obtain ⟨i0, hi, hz0, hz1, hz2⟩ := info_parts Tryd.info5
  obtain ⟨ad, c, rfl⟩ : ∃ ad c, src = .slice ad zs.length c := by obtain ⟨_, a, c, e, _⟩ := hB; exact ⟨a, c, e⟩
  cases ad with
  | none =>
    have h0 : zs = [] := by
      obtain ⟨_, a0, c0, e, _, h2⟩ := hB
      cases e
      rcases h2 with h2 | ⟨b, off, ea, _⟩
      · exact List.length_eq_zero_iff.1 h2
      · cases ea
    obtain rfl := hnil _ _ rfl
    subst h0
    rw [List.append_nil] at h
    exact wpList_append_own_none hgd s x 22 ho base 5 i0 1 Tryd.underlying22 hi v _ _ hs hown hx (h v w hown (grownBy_refl _ _))
  | some ad =>
    have hc := (bytes_cells hB).2
    refine wpList_append_own _ hgd s x 22 ho base 5 i0 (.int .u8 0) 1 1 Tryd.underlying22 hi hz0 hz1 hz2 rfl (by decide) v _ _ hs hown ad zs.length c (cl zs) hx (by rw [cl_len, Nat.mul_one]) hc (cl_one zs) (by unfold maxLen; omega) (by omega) hbase ?_
    intro v' w' ho' hg _
    exact h v' w' (by rw [List.length_append, cl_app]; exact ho') hg

/-! ### arguments -/
theorem wf_u8 {n : Int} (h : (Lit.int .u8 n).wf = true) : 0 ≤ n ∧ n < 256 := by
  have e1 : IntKind.u8.min = 0 := by kernel_rfl
  have e2 : IntKind.u8.max = 255 := by kernel_rfl
  simp [Lit.wf, e1, e2] at h
  omega
theorem bytesAt_of (w : World) (a : Option Addr) (len cap : Nat) (z : List Int)
    (h : (a = none ∧ len = 0 ∧ cap = 0 ∧ z = []) ∨ ∃ x, a = some x ∧ len ≤ cap ∧ cap ≤ maxLen ∧ z.length = cap ∧ (∀ i, i < z.length → w.cell? (x.add i) = some (.int .u8 (z.getD i 0))) ∧ ∀ n ∈ z, (Lit.int .u8 n).wf = true) :
    ∃ zs : List Nat, zs.length = len ∧ BytesAt zs (.slice a len cap) w ∧ Nil0 (.slice a len cap) := by
  rcases h with ⟨rfl, rfl, rfl, rfl⟩ | ⟨x, rfl, hl, hm, hz, hcell, hwz⟩
  · exact ⟨[], rfl, ⟨fun x hx => absurd hx (by simp), none, 0, rfl, Nat.le_refl _, .inl rfl⟩, fun L c e => by cases e; rfl⟩
  · have hlen : ((z.take len).map Int.toNat).length = len := by simp; omega
    refine ⟨(z.take len).map Int.toNat, hlen, ⟨fun y hy => ?_, some x, cap, by rw [hlen], by omega, ?_⟩, fun L c e => by cases e⟩
    · obtain ⟨n, hn, rfl⟩ := List.mem_map.1 hy
      have := wf_u8 (hwz n (List.mem_of_mem_take hn))
      omega
    · rw [hlen]
      by_cases h0 : len = 0
      · exact .inl h0
      · have hc := hcell 0 (by omega)
        have hspot : x.spot = none := by simpa [Addr.add] using World.cell?_spot hc
        obtain ⟨b, off, spot⟩ := x
        simp at hspot
        subst hspot
        have hadd : ∀ j, (⟨b, off, none⟩ : Addr).add j = ⟨b, off + j, none⟩ := fun j => by unfold Addr.add; split <;> simp_all
        refine .inr ⟨b, off, rfl, World.block_lt_of_cell? w ⟨b, off + 0, none⟩ (by rw [← hadd]; exact hc), fun j hj => ?_⟩
        have hj2 : j < z.length := by omega
        have hw := wf_u8 (hwz (z[j]'hj2) (List.getElem_mem _))
        rw [← hadd, hcell j hj2]
        have e1 : z.getD j 0 = z[j] := by rw [List.getD, List.getElem?_eq_getElem hj2]; rfl
        have e2 : ((z.take len).map Int.toNat).getD j 0 = (z[j]).toNat := by
          rw [List.getD, List.getElem?_map, List.getElem?_take, if_pos hj, List.getElem?_eq_getElem hj2]; rfl
        rw [e1, e2]
        congr 2
        omega
/-- The string that a slice of bytes converts to. -/
theorem str_bytes {zs : List Nat} {s : Value} {W : World} (h : BytesAt zs s W) (hnil : Nil0 s) : (convert 22 9 s).run Tryd.prog W = .ok (.string (strOf zs)) W := by
  obtain ⟨h1, a, c, rfl, hc, h2⟩ := h
  rcases h2 with h2 | ⟨b, off, rfl, _, hj⟩
  · have h0 := List.length_eq_zero_iff.1 h2
    subst h0
    rw [run_convert_bytes_string (P := Tryd.prog) W 22 9 5 _ _ _ Tryd.underlying22 Tryd.underlying5 Tryd.underlying9]
    cases a with
    | none => first | rfl | simp [Conv.bytesToString, strOf]
    | some ad =>
      have hld := run_loadCells_list (P := Tryd.prog) W ad [] (by simp)
      have := run_bytesToString (P := Tryd.prog) W ad 0 c [] (by simpa using hld)
      rw [show ([] : List Nat).length = 0 from rfl, this]; rfl
  · exact run_str W b off _ c zs rfl hj
end Go.Proofs.YtmlacbdonkfbdaaDoor
