/- Appends anywhere; lists of strings; bytes that are counted up in place. -/
import Derived.Test.YtmlacbdonkfbdaaDoorTH
namespace Go.Proofs.YtmlacbdonkfbdaaDoor
open Go.RowKit Go.Shelf

theorem wp_app {w : World} {o : Oper} {a : Act} {K : Act → World → Prop} {Q : Exit → Act → World → Prop} (s x : Operand)
    (ho : o.op = .call { callee := .builtin .append, args := #[s, x], argTypes := #[22, 22] }) (base : Nat) {l zs : List Nat} {v src : Value} (hs : a.eval s = v) (hx : a.eval x = src)
    (hown : w.ownsRow base 5 1 v l.length (cl l)) (hB : BytesAt zs src w) (hnil : Nil0 src) (hL : l.length + zs.length ≤ 1000000) (hbase : base ≤ w.heap.size)
    (h : ∀ v' w', w'.ownsRow base 5 1 v' (l ++ zs).length (cl (l ++ zs)) → w.grownBy w' v.ownBlock → K (a.put o.dst v') w') : o.wp Tryd.prog a w K Q := by
  obtain ⟨i0, hi, hz0, hz1, hz2⟩ := info_parts Tryd.info5
  obtain ⟨ad, c, rfl⟩ : ∃ ad c, src = .slice ad zs.length c := by obtain ⟨_, a, c, e, _⟩ := hB; exact ⟨a, c, e⟩
  cases ad with
  | none =>
    have h0 : zs = [] := by
      obtain ⟨_, a0, c0, e, _, h2⟩ := hB
      cases e
      rcases h2 with h2 | ⟨b, off, ea, _⟩
      · exact List.length_eq_zero_iff.1 h2
      · cases ea
    obtain rfl := hnil _ _ rfl
    subst h0
    rw [List.append_nil] at h
    have hrun := run_append_owned_none (P := Tryd.prog) (w := w) base 22 o.type 5 i0 1 Tryd.underlying22 hi v _ _ hown
    have hx' : a.eval x = .slice none 0 0 := hx
    unfold Oper.wp
    simp [execOp, ho, resolve, invoke, builtin, hs, hx', hrun, Result.andThen]
    exact h v w hown (grownBy_refl _ _)
  | some ad =>
    have hc := (bytes_cells hB).2
    refine wp_append_own w s x 22 ho base 5 i0 (.int .u8 0) 1 1 Tryd.underlying22 hi hz0 hz1 hz2 rfl (by decide) v _ _ hs hown ad zs.length c (cl zs) hx (by rw [cl_len, Nat.mul_one]) hc (cl_one zs) (by unfold maxLen; omega) (by omega) hbase ?_
    intro v' w' ho' hg _
    exact h v' w' (by rw [List.length_append, cl_app]; exact ho') hg
theorem wpList_appW {w : World} {ops : Array Oper} {rest : List Oper} {o : Oper} {a : Act} {Q : Exit → Act → World → Prop} (hw : Region.wanted o (yielded ops a.tmps) = true) (s x : Operand)
    (ho : o.op = .call { callee := .builtin .append, args := #[s, x], argTypes := #[22, 22] }) (base : Nat) {l zs : List Nat} {v src : Value} (hs : a.eval s = v) (hx : a.eval x = src)
    (hown : w.ownsRow base 5 1 v l.length (cl l)) (hB : BytesAt zs src w) (hnil : Nil0 src) (hL : l.length + zs.length ≤ 1000000) (hbase : base ≤ w.heap.size)
    (h : ∀ v' w', w'.ownsRow base 5 1 v' (l ++ zs).length (cl (l ++ zs)) → w.grownBy w' v.ownBlock → wpList Tryd.prog ops Q rest (a.put o.dst v') w') : wpList Tryd.prog ops Q (o :: rest) a w :=
  wpList_step fun K hK => by rw [if_pos hw]; exact wp_app s x ho base hs hx hown hB hnil hL hbase fun v' w' h1 h2 => hK _ _ (h v' w' h1 h2)

/-! ### a list of strings that came in -/
def ListAt (ls : List (List Nat)) (v : Value) (W : World) : Prop := ∃ a c, v = .slice a ls.length c ∧ (ls.length = 0 ∨ ∃ b off, a = some ⟨b, off, none⟩ ∧ b < W.heap.size ∧
  ∀ i, i < ls.length → ∃ s, W.cell? ⟨b, off + i, none⟩ = some s ∧ BytesAt (ls.getD i []) s W ∧ Nil0 s)
theorem ListAt.kept {ls : List (List Nat)} {v : Value} {W V : World} (h : ListAt ls v W) (hb : Below W.heap.size W V) : ListAt ls v V := by
  obtain ⟨a, c, e, h⟩ := h
  refine ⟨a, c, e, ?_⟩
  rcases h with h | ⟨b, off, ea, hlt, hi⟩
  · exact .inl h
  · exact .inr ⟨b, off, ea, Nat.lt_of_lt_of_le hlt hb.size, fun i hl => by
      obtain ⟨s, h1, h2, h3⟩ := hi i hl
      exact ⟨s, (hb.cell (p := ⟨b, off + i, none⟩) hlt).trans h1, h2.kept hb, h3⟩⟩
def catL (ls : List (List Nat)) : List Nat := ls.flatten
theorem catL_succ (ls : List (List Nat)) (k : Nat) (hk : k < ls.length) : catL (ls.take (k + 1)) = catL (ls.take k) ++ ls.getD k [] := by
  unfold catL
  rw [List.take_succ_eq_append_getElem hk, List.flatten_append, List.getD, List.getElem?_eq_getElem hk]
  simp
theorem catL_len (ls : List (List Nat)) (h : ∀ l ∈ ls, l.length ≤ 150) : (catL ls).length ≤ 150 * ls.length := by
  induction ls with
  | nil => simp [catL]
  | cons l ls ih =>
    have h1 := h l (by simp)
    have h2 := ih (fun x hx => h x (by simp [hx]))
    unfold catL at h2 ⊢
    rw [List.flatten_cons, List.length_append, List.length_cons]
    omega

/-! ### each byte of an owned slice is counted up -/
def IncRel (B L : Nat) (v : Value) (w : World) (i : Value) (wr : World) : Prop :=
  ∃ (k : Nat) (ys : List Nat), k ≤ L ∧ i = .int .i64 (k : Nat) ∧ ys.length = L ∧ (∀ x ∈ ys, x < 256) ∧ wr.ownsRow B 5 1 v L (cl ys) ∧ w.grownBy wr v.ownBlock
theorem cl_set (ys : List Nat) (k x : Nat) : (cl ys).set k (.int .u8 (x : Nat)) = cl (ys.set k x) := by unfold cl; rw [List.map_set]
theorem inc_cell {B L k : Nat} {a : Option Addr} {c : Nat} {wr : World} {ys : List Nat} (hys : ys.length = L) (h : wr.ownsRow B 5 1 (.slice a L c) L (cl ys)) (hk : k < L) :
    ∃ g, a = some ⟨g, 0, none⟩ ∧ L ≤ c ∧ wr.cell? ⟨g, k, none⟩ = some (.int .u8 (ys.getD k 0 : Nat)) ∧ wr.frozen? ⟨g, k, none⟩ = false := by
  rcases h.2 with ⟨e, h0⟩ | ⟨g, cap, cur, e, hb, hg, hn, hc, hs, ht⟩
  · omega
  · injection e with e1 e2 e3
    subst e1
    subst e3
    exact ⟨g, rfl, hn, by rw [h.cellAt k (by omega)]; exact cl_get ys k (by omega), h.frozenAt k⟩
theorem IncRel.step {B L k : Nat} {g c : Nat} {w wr : World} {ys : List Nat} (hk : k < L) (hys : ys.length = L) (h256 : ∀ x ∈ ys, x < 256) (ho : wr.ownsRow B 5 1 (.slice (some ⟨g, 0, none⟩) L c) L (cl ys)) (hg : w.grownBy wr (some g)) (x : Nat) (hx : x < 256) :
    IncRel B L (.slice (some ⟨g, 0, none⟩) L c) w (.int .i64 ((k + 1 : Nat) : Int)) (wr.setCell ⟨g, k, none⟩ (.int .u8 (x : Nat))) := by
  have h := ho.stored k (.int .u8 (x : Nat))
  rw [cl_set] at h
  refine ⟨k + 1, ys.set k x, hk, rfl, by rw [List.length_set, hys], fun y hy => ?_, h.1, grownBy_trans hg h.2⟩
  rcases List.mem_or_eq_of_mem_set hy with hy | rfl
  · exact h256 y hy
  · exact hx
end Go.Proofs.YtmlacbdonkfbdaaDoor
