/- AES: strings of bytes, strings, owned rows: what is needed of them. -/
import Derived.Laws.AppendOwnNone
import Derived.OwnWalk
import Derived.Lib.SlBytesConst
import Derived.Test.YtjcdbjapadgdfaaDoorAD
namespace Go.Proofs.YtjcdbjapadgdfaaDoor
open Go.RowKit

theorem Tryd.info5 : (Tryd.prog.info? 5).map (fun i => (i.zero, i.size, i.bytes)) = some (some (.int .u8 0), 1, 1) := by kernel_rfl

/-- A slice that reads these bytes. -/
def BytesAt (zs : List Nat) (s : Value) (w : World) : Prop :=
  (∀ x ∈ zs, x < 256) ∧ ∃ a c, s = .slice a zs.length c ∧ zs.length ≤ c ∧ (zs.length = 0 ∨ ∃ b off, a = some ⟨b, off, none⟩ ∧ b < w.heap.size ∧ ∀ j, j < zs.length → w.cell? ⟨b, off + j, none⟩ = some (.int .u8 (zs.getD j 0 : Nat)))
theorem BytesAt.kept {zs : List Nat} {s : Value} {w w' : World} (h : BytesAt zs s w) (hb : Below w.heap.size w w') : BytesAt zs s w' := by
  obtain ⟨h1, a, c, e, hc, h⟩ := h
  refine ⟨h1, a, c, e, hc, ?_⟩
  rcases h with h | ⟨b, off, ea, hlt, hj⟩
  · exact .inl h
  · exact .inr ⟨b, off, ea, Nat.lt_of_lt_of_le hlt hb.size, fun j hjl => (hb.cell (p := ⟨b, off + j, none⟩) hlt).trans (hj j hjl)⟩
theorem byte_lt {zs : List Nat} (h : ∀ x ∈ zs, x < 256) (i : Nat) : zs.getD i 0 < 256 := by
  by_cases hi : i < zs.length
  · rw [List.getD, List.getElem?_eq_getElem hi]; exact h _ (List.getElem_mem _)
  · rw [List.getD, List.getElem?_eq_none (by omega)]; exact (by decide : (0 : Nat) < 256)
/-- A nil slice has no capacity. -/
def Nil0 (s : Value) : Prop := ∀ L c, s = .slice none L c → c = 0
def cl (l : List Nat) : List Value := l.map fun x => .int .u8 (x : Nat)
theorem cl_len (l : List Nat) : (cl l).length = l.length := by unfold cl; rw [List.length_map]
theorem cl_app (l m : List Nat) : cl (l ++ m) = cl l ++ cl m := by unfold cl; rw [List.map_append]
theorem cl_one (l : List Nat) : ∀ u ∈ cl l, u.oneCell' = true := by
  intro u hu
  obtain ⟨x, _, rfl⟩ := List.mem_map.1 hu
  rfl
theorem cl_get (l : List Nat) (j : Nat) (h : j < l.length) : (cl l)[j]? = some (.int .u8 (l.getD j 0 : Nat)) := by
  unfold cl; rw [List.getElem?_map, List.getElem?_eq_getElem h, List.getD, List.getElem?_eq_getElem h]; rfl
theorem owns_bytes {l : List Nat} {base : Nat} {w : World} {s : Value} (hl : ∀ x ∈ l, x < 256) (h : w.ownsRow base 5 1 s l.length (cl l)) : BytesAt l s w := by
  obtain ⟨_, h2⟩ := h
  refine ⟨hl, ?_⟩
  rcases h2 with ⟨rfl, h0⟩ | ⟨g, cap, cur, rfl, hb, hg, hn, hc, hs, ht⟩
  · exact ⟨none, 0, by rw [h0], by omega, .inl h0⟩
  · refine ⟨_, cap, rfl, hn, .inr ⟨g, 0, rfl, (Array.getElem?_eq_some_iff.1 hg).1, fun j hj => ?_⟩⟩
    rw [Nat.zero_add, cell_of_row w g j cur 5 (0, 0) hg]
    have e : (cur.toList.take (l.length * 1))[j]? = cur[j]? := by rw [List.getElem?_take, if_pos (by omega), Array.getElem?_toList]
    rw [← e, ht]
    exact cl_get l j hj
/-- The blocks at which a slice lies. -/
def InS (s : Value) (j : Nat) : Prop := ∃ off sp L c, s = .slice (some ⟨j, off, sp⟩) L c
theorem owns_both {l : List Nat} {base : Nat} {w : World} {s : Value} (hl : ∀ x ∈ l, x < 256) (h : w.ownsRow base 5 1 s l.length (cl l)) : BytesAt l s w ∧ ∀ j, InS s j → base ≤ j := by
  refine ⟨owns_bytes hl h, ?_⟩
  rintro j ⟨off, sp, L, c, rfl⟩
  rcases h.2 with ⟨e, _⟩ | ⟨g, cap, cur, e, hb, _⟩
  · cases e
  · cases e; exact hb
theorem owns_slice {base e size n : Nat} {w : World} {v : Value} {xs : List Value} (h : w.ownsRow base e size v n xs) : ∃ (a : Option Addr) (c : Nat), v = .slice a n c := by
  rcases h.2 with ⟨rfl, rfl⟩ | ⟨g, cap, cur, rfl, _⟩
  · exact ⟨none, 0, rfl⟩
  · exact ⟨_, cap, rfl⟩
theorem below_owned {base e size n : Nat} {w0 w w' : World} {v : Value} {xs : List Value} (hb : Below base w0 w) (h : w.ownsRow base e size v n xs) (hg : w.grownBy w' v.ownBlock) (hs : base ≤ w.heap.size) : Below base w0 w' := hb.grown hg hs (fun k e => (h.lt k e).1)
theorem owns_nil0 {base k : Nat} {w : World} {s : Value} {xs : List Value} (h : w.ownsRow base 5 1 s k xs) : Nil0 s := by
  rintro L c rfl
  rcases h.2 with ⟨e, _⟩ | ⟨g, cap, cur, e, _⟩
  · cases e; rfl
  · cases e
theorem bytes_cells {zs : List Nat} {ad : Addr} {L c : Nat} {w : World} (h : BytesAt zs (.slice (some ad) L c) w) : L = zs.length ∧ ∀ j u, (cl zs)[j]? = some u → w.cell? (ad.add j) = some u := by
  obtain ⟨_, a0, c0, e, _, h3⟩ := h
  cases e
  refine ⟨rfl, fun j u hu => ?_⟩
  have hj : j < zs.length := by
    have := (List.getElem?_eq_some_iff.1 hu).1
    rw [cl_len] at this; exact this
  rcases h3 with h3 | ⟨b, off, ea, _, hjj⟩
  · omega
  · cases ea
    rw [cl_get zs j hj] at hu
    cases hu
    rw [show (⟨b, off, none⟩ : Addr).add j = ⟨b, off + j, none⟩ by unfold Addr.add; split <;> simp_all]
    exact hjj j hj
theorem wpList_app {w : World} {ops : Array Oper} {rest : List Oper} {o : Oper} {a : Act} {Q : Exit → Act → World → Prop} (hgd : o.guard = none) (s x : Operand)
    (ho : o.op = .call { callee := .builtin .append, args := #[s, x], argTypes := #[22, 22] }) (base : Nat) {l zs : List Nat} {v src : Value} (hs : a.eval s = v) (hx : a.eval x = src)
    (hown : w.ownsRow base 5 1 v l.length (cl l)) (hB : BytesAt zs src w) (hnil : Nil0 src) (hL : l.length + zs.length ≤ 1000000) (hbase : base ≤ w.heap.size)
    (h : ∀ v' w', w'.ownsRow base 5 1 v' (l ++ zs).length (cl (l ++ zs)) → w.grownBy w' v.ownBlock → wpList Tryd.prog ops Q rest (a.put o.dst v') w') : wpList Tryd.prog ops Q (o :: rest) a w := by
  obtain ⟨i0, hi, hz0, hz1, hz2⟩ := info_parts Tryd.info5
  obtain ⟨ad, c, rfl⟩ : ∃ ad c, src = .slice ad zs.length c := by obtain ⟨_, a, c, e, _⟩ := hB; exact ⟨a, c, e⟩
  cases ad with
  | none =>
    have h0 : zs = [] := by
      obtain ⟨_, a0, c0, e, _, h2⟩ := hB
      cases e
      rcases h2 with h2 | ⟨b, off, ea, _⟩
      · exact List.length_eq_zero_iff.1 h2
      · cases ea
    obtain rfl := hnil _ _ rfl
    subst h0
    rw [List.append_nil] at h
    exact wpList_append_own_none hgd s x 22 ho base 5 i0 1 Tryd.underlying22 hi v _ _ hs hown hx (h v w hown (grownBy_refl _ _))
  | some ad =>
    have hc := (bytes_cells hB).2
    refine wpList_append_own _ hgd s x 22 ho base 5 i0 (.int .u8 0) 1 1 Tryd.underlying22 hi hz0 hz1 hz2 rfl (by decide) v _ _ hs hown ad zs.length c (cl zs) hx (by rw [cl_len, Nat.mul_one]) hc (cl_one zs) (by unfold maxLen; omega) (by omega) hbase ?_
    intro v' w' ho' hg _
    exact h v' w' (by rw [List.length_append, cl_app]; exact ho') hg
theorem wp_app {w : World} {o : Oper} {a : Act} {K : Act → World → Prop} {Q : Exit → Act → World → Prop} (s x : Operand)
    (ho : o.op = .call { callee := .builtin .append, args := #[s, x], argTypes := #[22, 22] }) (base : Nat) {l zs : List Nat} {v src : Value} (hs : a.eval s = v) (hx : a.eval x = src)
    (hown : w.ownsRow base 5 1 v l.length (cl l)) (hB : BytesAt zs src w) (hnil : Nil0 src) (hL : l.length + zs.length ≤ 1000000) (hbase : base ≤ w.heap.size)
    (h : ∀ v' w', w'.ownsRow base 5 1 v' (l ++ zs).length (cl (l ++ zs)) → w.grownBy w' v.ownBlock → K (a.put o.dst v') w') : o.wp Tryd.prog a w K Q := by
  obtain ⟨i0, hi, hz0, hz1, hz2⟩ := info_parts Tryd.info5
  obtain ⟨ad, c, rfl⟩ : ∃ ad c, src = .slice ad zs.length c := by obtain ⟨_, a, c, e, _⟩ := hB; exact ⟨a, c, e⟩
  cases ad with
  | none =>
    have h0 : zs = [] := by
      obtain ⟨_, a0, c0, e, _, h2⟩ := hB
      cases e
      rcases h2 with h2 | ⟨b, off, ea, _⟩
      · exact List.length_eq_zero_iff.1 h2
      · cases ea
    obtain rfl := hnil _ _ rfl
    subst h0
    rw [List.append_nil] at h
    have hrun := run_append_owned_none (P := Tryd.prog) (w := w) base 22 o.type 5 i0 1 Tryd.underlying22 hi v _ _ hown
    have hx' : a.eval x = .slice none 0 0 := hx
    unfold Oper.wp
    simp [execOp, ho, resolve, invoke, builtin, hs, hx', hrun, Result.andThen]
    exact h v w hown (grownBy_refl _ _)
  | some ad =>
    have hc := (bytes_cells hB).2
    refine wp_append_own w s x 22 ho base 5 i0 (.int .u8 0) 1 1 Tryd.underlying22 hi hz0 hz1 hz2 rfl (by decide) v _ _ hs hown ad zs.length c (cl zs) hx (by rw [cl_len, Nat.mul_one]) hc (cl_one zs) (by unfold maxLen; omega) (by omega) hbase ?_
    intro v' w' ho' hg _
    exact h v' w' (by rw [List.length_append, cl_app]; exact ho') hg
theorem wpList_appW {w : World} {ops : Array Oper} {rest : List Oper} {o : Oper} {a : Act} {Q : Exit → Act → World → Prop} (hw : Region.wanted o (yielded ops a.tmps) = true) (s x : Operand)
    (ho : o.op = .call { callee := .builtin .append, args := #[s, x], argTypes := #[22, 22] }) (base : Nat) {l zs : List Nat} {v src : Value} (hs : a.eval s = v) (hx : a.eval x = src)
    (hown : w.ownsRow base 5 1 v l.length (cl l)) (hB : BytesAt zs src w) (hnil : Nil0 src) (hL : l.length + zs.length ≤ 1000000) (hbase : base ≤ w.heap.size)
    (h : ∀ v' w', w'.ownsRow base 5 1 v' (l ++ zs).length (cl (l ++ zs)) → w.grownBy w' v.ownBlock → wpList Tryd.prog ops Q rest (a.put o.dst v') w') : wpList Tryd.prog ops Q (o :: rest) a w :=
  wpList_step fun K hK => by rw [if_pos hw]; exact wp_app s x ho base hs hx hown hB hnil hL hbase fun v' w' h1 h2 => hK _ _ (h v' w' h1 h2)
theorem run_app {w : World} (ty : TypeId) (base : Nat) {l zs : List Nat} {v src : Value} (hown : w.ownsRow base 5 1 v l.length (cl l)) (hB : BytesAt zs src w) (hnil : Nil0 src) (hL : l.length + zs.length ≤ 1000000) (hbase : base ≤ w.heap.size) :
    ∃ v' w', (Builtin.append_ #[22, 22] ty #[v, src]).run Tryd.prog w = .ok v' w' ∧ w'.ownsRow base 5 1 v' (l ++ zs).length (cl (l ++ zs)) ∧ w.grownBy w' v.ownBlock := by
  obtain ⟨i0, hi, hz0, hz1, hz2⟩ := info_parts Tryd.info5
  obtain ⟨ad, c, rfl⟩ : ∃ ad c, src = .slice ad zs.length c := by obtain ⟨_, a, c, e, _⟩ := hB; exact ⟨a, c, e⟩
  cases ad with
  | none =>
    have h0 : zs = [] := by
      obtain ⟨_, a0, c0, e, _, h2⟩ := hB
      cases e
      rcases h2 with h2 | ⟨b, off, ea, _⟩
      · exact List.length_eq_zero_iff.1 h2
      · cases ea
    obtain rfl := hnil _ _ rfl
    subst h0
    rw [List.append_nil]
    exact ⟨v, w, run_append_owned_none (P := Tryd.prog) (w := w) base 22 ty 5 i0 1 Tryd.underlying22 hi v _ _ hown, hown, grownBy_refl _ _⟩
  | some ad =>
    have hc := (bytes_cells hB).2
    obtain ⟨v', w', h1, h2, h3, _⟩ := run_append_own (P := Tryd.prog) w base 22 ty 5 i0 (.int .u8 0) 1 1 Tryd.underlying22 hi hz0 hz1 hz2 rfl (by decide) v _ _ hown ad zs.length c (cl zs) (by rw [cl_len, Nat.mul_one]) hc (cl_one zs) (by unfold maxLen; omega) (by omega) hbase
    exact ⟨v', w', h1, by rw [List.length_append, cl_app]; exact h2, h3⟩
/-- The string of bytes. -/
def strOf (l : List Nat) : ByteArray := ⟨(l.map UInt8.ofNat).toArray⟩
theorem foldl_push (ns : List Nat) : ∀ s : ByteArray, (ns.map fun n => ((n : Nat) : Int)).foldl (fun r n => r.push (UInt8.ofNat n.toNat)) s = ⟨s.data ++ (ns.map UInt8.ofNat).toArray⟩ := by
  induction ns with
  | nil => intro s; simp
  | cons n ns ih =>
    intro s
    rw [List.map_cons, List.foldl_cons, ih]
    simp [ByteArray.push]
theorem run_str (W : World) (g off n cap : Nat) (l : List Nat) (hl : l.length = n) (h : ∀ j, j < n → W.cell? ⟨g, off + j, none⟩ = some (.int .u8 (l.getD j 0 : Nat))) :
    (convert 22 9 (.slice (some ⟨g, off, none⟩) n cap)).run Tryd.prog W = .ok (.string (strOf l)) W := by
  rw [run_convert_bytes_string (P := Tryd.prog) W 22 9 5 _ _ _ Tryd.underlying22 Tryd.underlying5 Tryd.underlying9]
  have hld := run_loadCells_list (P := Tryd.prog) W ⟨g, off, none⟩ (l.map fun x => Value.int .u8 (x : Nat)) (fun j v hv => by
    have hj : j < l.length := by
      by_cases hj : j < l.length
      · exact hj
      · rw [List.getElem?_eq_none (by simp; omega)] at hv; cases hv
    have hadd : (⟨g, off, none⟩ : Addr).add j = ⟨g, off + j, none⟩ := by unfold Addr.add; split <;> simp_all
    rw [hadd, h j (by omega), ← hv]
    simp [List.getD, hj])
  rw [List.length_map, hl] at hld
  have := run_bytesToString (P := Tryd.prog) W ⟨g, off, none⟩ n cap (l.map fun n => ((n : Nat) : Int)) (by rw [hld, List.map_map]; rfl)
  have he : ByteArray.empty.data = #[] := rfl
  rw [this, foldl_push, he, Array.empty_append]
  rfl
theorem str_arr {W : World} {g : Nat} {l : List Nat} {n : Nat} (h : rowN W g = some (arr .u8 l)) (hl : l.length = n) : (convert 22 9 (.slice (some ⟨g, 0, none⟩) n n)).run Tryd.prog W = .ok (.string (strOf l)) W :=
  run_str W g 0 n n l hl (fun j hj => by rw [Nat.zero_add]; exact cell_arr h (by omega))
theorem bytes_row {W : World} {g : Nat} {l : List Nat} (h256 : ∀ x ∈ l, x < 256) (h : rowN W g = some (arr .u8 l)) (n : Nat) (hn : l.length = n) : BytesAt l (.slice (some ⟨g, 0, none⟩) n n) W :=
  ⟨h256, _, n, by rw [hn], by omega, .inr ⟨g, 0, rfl, rowN_lt h, fun j hj => by rw [Nat.zero_add]; exact cell_arr h hj⟩⟩
/-- The string that a slice of bytes converts to. -/
theorem str_bytes {zs : List Nat} {s : Value} {W : World} (h : BytesAt zs s W) (hnil : Nil0 s) : (convert 22 9 s).run Tryd.prog W = .ok (.string (strOf zs)) W := by
  obtain ⟨h1, a, c, rfl, hc, h2⟩ := h
  rcases h2 with h2 | ⟨b, off, rfl, _, hj⟩
  · have h0 := List.length_eq_zero_iff.1 h2
    subst h0
    rw [run_convert_bytes_string (P := Tryd.prog) W 22 9 5 _ _ _ Tryd.underlying22 Tryd.underlying5 Tryd.underlying9]
    cases a with
    | none => first | rfl | simp [Conv.bytesToString, strOf]
    | some ad =>
      have hld := run_loadCells_list (P := Tryd.prog) W ad [] (by simp)
      have := run_bytesToString (P := Tryd.prog) W ad 0 c [] (by simpa using hld)
      rw [show ([] : List Nat).length = 0 from rfl, this]; rfl
  · exact run_str W b off _ c zs rfl hj
theorem wf_u8 {n : Int} (h : (Lit.int .u8 n).wf = true) : 0 ≤ n ∧ n < 256 := by
  have e1 : IntKind.u8.min = 0 := by kernel_rfl
  have e2 : IntKind.u8.max = 255 := by kernel_rfl
  simp [Lit.wf, e1, e2] at h
  omega
theorem bytesAt_of (w : World) (a : Option Addr) (len cap : Nat) (z : List Int)
    (h : (a = none ∧ len = 0 ∧ cap = 0 ∧ z = []) ∨ ∃ x, a = some x ∧ len ≤ cap ∧ cap ≤ maxLen ∧ z.length = cap ∧ (∀ i, i < z.length → w.cell? (x.add i) = some (.int .u8 (z.getD i 0))) ∧ ∀ n ∈ z, (Lit.int .u8 n).wf = true) :
    ∃ zs : List Nat, zs.length = len ∧ BytesAt zs (.slice a len cap) w ∧ Nil0 (.slice a len cap) := by
  rcases h with ⟨rfl, rfl, rfl, rfl⟩ | ⟨x, rfl, hl, hm, hz, hcell, hwz⟩
  · exact ⟨[], rfl, ⟨fun x hx => absurd hx (by simp), none, 0, rfl, Nat.le_refl _, .inl rfl⟩, fun L c e => by cases e; rfl⟩
  · have hlen : ((z.take len).map Int.toNat).length = len := by simp; omega
    refine ⟨(z.take len).map Int.toNat, hlen, ⟨fun y hy => ?_, some x, cap, by rw [hlen], by omega, ?_⟩, fun L c e => by cases e⟩
    · obtain ⟨n, hn, rfl⟩ := List.mem_map.1 hy
      have := wf_u8 (hwz n (List.mem_of_mem_take hn))
      omega
    · rw [hlen]
      by_cases h0 : len = 0
      · exact .inl h0
      · have hc := hcell 0 (by omega)
        have hspot : x.spot = none := by simpa [Addr.add] using World.cell?_spot hc
        obtain ⟨b, off, spot⟩ := x
        simp at hspot
        subst hspot
        have hadd : ∀ j, (⟨b, off, none⟩ : Addr).add j = ⟨b, off + j, none⟩ := fun j => by unfold Addr.add; split <;> simp_all
        refine .inr ⟨b, off, rfl, World.block_lt_of_cell? w ⟨b, off + 0, none⟩ (by rw [← hadd]; exact hc), fun j hj => ?_⟩
        have hj2 : j < z.length := by omega
        have hw := wf_u8 (hwz (z[j]'hj2) (List.getElem_mem _))
        rw [← hadd, hcell j hj2]
        have e1 : z.getD j 0 = z[j] := by rw [List.getD, List.getElem?_eq_getElem hj2]; rfl
        have e2 : ((z.take len).map Int.toNat).getD j 0 = (z[j]).toNat := by
          rw [List.getD, List.getElem?_map, List.getElem?_take, if_pos hj, List.getElem?_eq_getElem hj2]; rfl
        rw [e1, e2]
        congr 2
        omega
theorem bytes_take {bs : List Nat} {a : Option Addr} {L c : Nat} {W : World} (h : BytesAt bs (.slice a L c) W) (m : Nat) (hm : m ≤ L) : BytesAt (bs.take m) (.slice a m c) W := by
  obtain ⟨h1, a0, c0, e, hc, h2⟩ := h
  cases e
  have hl : (bs.take m).length = m := by rw [List.length_take]; omega
  refine ⟨fun x hx => h1 x (List.mem_of_mem_take hx), a, c, by rw [hl], by omega, ?_⟩
  rw [hl]
  rcases h2 with h2 | ⟨b, off, ea, hb, hj⟩
  · exact .inl (by omega)
  · refine .inr ⟨b, off, ea, hb, fun j hjl => ?_⟩
    rw [hj j (by omega)]
    simp [List.getD, hjl]
theorem run_slice22_h (a : Option Addr) (L c n : Nat) (hn : n ≤ c) (ha : a = none → c = 0) (W : World) : (Instr.sliceAt 22 (.slice a L c) none (some (.int .i64 (n : Nat))) none).run Tryd.prog W = .ok (.slice a n c) W := by
  have e1 : ((n : Nat) : Int).toNat = n := Int.toNat_natCast n
  have e7 : (0 : Int) ≤ (n : Int) := by omega
  have e6 : ((n : Nat) : Int) ≤ (c : Int) := by omega
  cases a with
  | none =>
    obtain rfl := ha rfl
    obtain rfl : n = 0 := by omega
    go_simp
  | some ad => go_simp
theorem cl_set (ys : List Nat) (k x : Nat) : (cl ys).set k (.int .u8 (x : Nat)) = cl (ys.set k x) := by unfold cl; rw [List.map_set]
structure Keeps (M : Nat → Prop) (V V' : World) : Prop where
  size : V.heap.size ≤ V'.heap.size
  same : ∀ j, j < V.heap.size → ¬ M j → V'.heap[j]? = V.heap[j]?
theorem Keeps.refl (M : Nat → Prop) (V : World) : Keeps M V V := ⟨Nat.le_refl _, fun _ _ _ => rfl⟩
theorem Keeps.trans {M : Nat → Prop} {A B C : World} (h : Keeps M A B) (k : Keeps M B C) : Keeps M A C :=
  ⟨Nat.le_trans h.size k.size, fun j hj hm => (k.same j (Nat.lt_of_lt_of_le hj h.size) hm).trans (h.same j hj hm)⟩
theorem Keeps.weaken {M M' : Nat → Prop} {A B : World} (h : Keeps M A B) (hm : ∀ j, j < A.heap.size → M j → M' j) : Keeps M' A B := ⟨h.size, fun j hj hn => h.same j hj fun hM => hn (hm j hj hM)⟩
theorem Keeps.of_grownBy {M : Nat → Prop} {A B : World} {row : Option Nat} (hg : A.grownBy B row) (hr : ∀ r, row = some r → M r) : Keeps M A B :=
  ⟨hg.size, fun j hj hm => hg.block j hj fun e => hm (hr j e.symm)⟩
theorem Keeps.of_below {M : Nat → Prop} {A B : World} (h : Below A.heap.size A B) : Keeps M A B := ⟨h.size, fun j hj _ => h.block j hj⟩
theorem Keeps.row {M : Nat → Prop} {A B : World} (h : Keeps M A B) {g : Nat} {cs : Array Value} (hr : rowN A g = some cs) (hm : ¬ M g) : rowN B g = some cs := by
  have := h.same g (rowN_lt hr) hm
  unfold rowN at hr ⊢
  rw [this]; exact hr
theorem Keeps.cell {M : Nat → Prop} {A B : World} (h : Keeps M A B) {p : Addr} (hp : p.block < A.heap.size) (hm : ¬ M p.block) : B.cell? p = A.cell? p := World.cell?_of_block (w := A) (h.same p.block hp hm)
theorem BytesAt.keeps {zs : List Nat} {s : Value} {w w' : World} (h : BytesAt zs s w) {M : Nat → Prop} (hk : Keeps M w w') (hM : ∀ j, 0 < zs.length → InS s j → ¬ M j) : BytesAt zs s w' := by
  obtain ⟨h1, a, c, rfl, hc, h⟩ := h
  refine ⟨h1, a, c, rfl, hc, ?_⟩
  rcases h with h | ⟨b, off, rfl, hlt, hj⟩
  · exact .inl h
  · exact .inr ⟨b, off, rfl, Nat.lt_of_lt_of_le hlt hk.size, fun j hjl => (hk.cell (p := ⟨b, off + j, none⟩) hlt (hM b (by omega) ⟨off, none, _, _, rfl⟩)).trans (hj j hjl)⟩
/-- The slice lies in blocks that are there. -/
theorem BytesAt.lt {zs : List Nat} {s : Value} {w : World} (h : BytesAt zs s w) (h0 : 0 < zs.length) {j : Nat} (hj : InS s j) : j < w.heap.size := by
  obtain ⟨h1, a, c, rfl, hc, h⟩ := h
  obtain ⟨off, sp, L, c', e⟩ := hj
  cases e
  rcases h with h | ⟨b, off, e, hlt, hj⟩
  · omega
  · cases e; exact hlt
end Go.Proofs.YtjcdbjapadgdfaaDoor
