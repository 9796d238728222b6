/- A copy of a slice of bytes: the append of a slice that may be nil, and the loop that writes to the copy. -/
import Derived.Test.YtkegdjndmeialaaN1
import Derived.Test.YtkegdjndmeialaaN3
import Derived.Test.YtkegdjndmeialaaM2
import Derived.Test.YtkegdjndmeialaaF1
import Derived.Test.YtkegdjndmeialaaR10
import Derived.Laws.AppendOwnNone
namespace Go.Proofs.Ytkegdjndmeialaa
open Go.RowKit

theorem wpList_append_own_opt {P : Program} {w : World} {ops : Array Oper} {rest : List Oper} {o : Oper} {a : Act} {Q : Exit → Act → World → Prop} (hgd : o.guard = none) (s x : Operand) (t : TypeId)
    (ho : o.op = .call { callee := .builtin .append, args := #[s, x], argTypes := #[t, t] })
    (base : Nat) (e : TypeId) (i : TypeInfo) (z : Value) (size bytes : Nat) (ht : P.underlying t = some (.slice e)) (hi : P.info? e = some i) (hz : i.zero = some z)
    (hsize : i.size = size) (hby : i.bytes = bytes) (hzs : z.cells.size = size) (hsz : 0 < size)
    (v : Value) (n : Nat) (xs : List Value) (hs : a.eval s = v) (hown : w.ownsRow base e size v n xs)
    (ao : Option Addr) (m c : Nat) (news : List Value) (hx : a.eval x = .slice ao m c) (hl : news.length = m * size) (hnone : ao = none → m = 0 ∧ c = 0)
    (hnews : ∀ ad, ao = some ad → ∀ j u, news[j]? = some u → w.cell? (ad.add j) = some u) (h1 : ∀ u ∈ news, u.oneCell' = true)
    (h63 : n + m ≤ maxLen) (hbytes : (n + m) * bytes ≤ 140737488355328) (hbase : base ≤ w.heap.size)
    (h : ∀ v' w', w'.ownsRow base e size v' (n + m) (xs ++ news) → w.grownBy w' v.ownBlock → (v' = .slice none 0 0 ↔ v = .slice none 0 0 ∧ m = 0) → wpList P ops Q rest (a.put o.dst v') w') : wpList P ops Q (o :: rest) a w := by
  cases ao with
  | some ad => exact wpList_append_own w hgd s x t ho base e i z size bytes ht hi hz hsize hby hzs hsz v n xs hs hown ad m c news hx hl (hnews ad rfl) h1 h63 hbytes hbase h
  | none =>
    obtain ⟨rfl, rfl⟩ := hnone rfl
    have hn : news = [] := List.eq_nil_of_length_eq_zero (by simpa using hl)
    subst hn
    refine wpList_append_own_none hgd s x t ho base e i size ht hi v n xs hs hown hx ?_
    exact h v w (by simpa using hown) (World.grownBy.refl _ _) (by simp)

/-- A row whose first n cells are bytes. -/
def Bytes8 (cs : Array Value) (n : Nat) : Prop := ∀ j, j < n → ∃ x : Int, 0 ≤ x ∧ x < 256 ∧ cs[j]? = some (.int .u8 x)

theorem Bytes8.set {cs : Array Value} {n k : Nat} (h : Bytes8 cs n) {x : Int} (h0 : 0 ≤ x) (h1 : x < 256) : Bytes8 (cs.setIfInBounds k (.int .u8 x)) n := by
  intro j hj
  obtain ⟨y, hy0, hy1, hy⟩ := h j hj
  rw [Array.getElem?_setIfInBounds]
  by_cases e : k = j
  · subst e
    have hl : k < cs.size := (Array.getElem?_eq_some_iff.1 hy).1
    rw [if_pos rfl, if_pos hl]
    exact ⟨x, h0, h1, rfl⟩
  · rw [if_neg e]; exact ⟨y, hy0, hy1, hy⟩

/-- Digits stay where a byte is written. -/
theorem DigN.setByte {v n g k : Nat} {s : Value} {W : World} {x : Int} (y : Value) (h : DigN v n s W) (hc : W.cell? ⟨g, k, none⟩ = some (.int .u8 x)) : DigN v n s (W.setCell ⟨g, k, none⟩ y) := by
  obtain ⟨h1, a, c, rfl, h2, h3, h4⟩ := h
  refine ⟨h1, a, c, rfl, h2, h3, ?_⟩
  rcases h4 with h4 | ⟨b, off, rfl, h5, h6⟩
  · exact .inl h4
  · refine .inr ⟨b, off, rfl, by simpa using h5, fun j hj => ?_⟩
    rw [← h6 j hj]
    by_cases e : (⟨b, off + j, none⟩ : Addr) = ⟨g, k, none⟩
    · have := h6 j hj
      rw [e, hc] at this
      cases this
    · exact World.cell?_setCell_other W _ _ y (fun e' => e e'.symm)

/-- What a copy is: a row of its own that reads the same bytes. -/
theorem copied {w w3 : World} {n : Nat} {v' : Value} {zs : List Nat} (hl : zs.length = n) (h256 : ∀ x ∈ zs, x < 256)
    (hown : w3.ownsRow w.heap.size 5 1 v' (0 + n) ([] ++ zs.map fun x => .int .u8 (x : Nat))) (hgrow : (w.alloc (.cells #[] 5)).grownBy w3 (some w.heap.size))
    (hnil : v' = .slice none 0 0 ↔ (Value.slice (some ⟨w.heap.size, 0, none⟩) 0 0 = .slice none 0 0 ∧ n = 0)) :
    ∃ g cap cs, v' = .slice (some ⟨g, 0, none⟩) n cap ∧ w.heap.size ≤ g ∧ rowN w3 g = some cs ∧ Bytes8 cs n ∧ BytesAt zs (.slice (some ⟨g, 0, none⟩) n cap) w3 ∧ Below w.heap.size w w3 := by
  have hB : Below w.heap.size w w3 := ((Below.refl _ w).alloc (Nat.le_refl _) _).grown hgrow (by simp) (fun k e => by cases e; exact Nat.le_refl _)
  obtain ⟨_, h2⟩ := hown
  rw [Nat.zero_add, List.nil_append] at h2
  rcases h2 with ⟨h3, _⟩ | ⟨g, cap, cur, rfl, hb, hg, hn, hc, hs, ht⟩
  · have := (hnil.1 h3).1
    cases this
  · have hrow : rowN w3 g = some cur := by unfold rowN; rw [hg]; simp
    have hget : ∀ j, j < n → cur[j]? = some (.int .u8 (zs.getD j 0 : Nat)) := by
      intro j hj
      have e : (cur.toList.take (n * 1))[j]? = cur[j]? := by
        rw [List.getElem?_take, if_pos (by omega), Array.getElem?_toList]
      rw [← e, ht, List.getElem?_map, List.getElem?_eq_getElem (by omega), List.getD, List.getElem?_eq_getElem (by omega)]
      rfl
    refine ⟨g, cap, cur, rfl, hb, hrow, fun j hj => ⟨_, by omega, ?_, hget j hj⟩, ⟨h256, some ⟨g, 0, none⟩, cap, by rw [hl], by omega, .inr ⟨g, 0, rfl, rowN_lt hrow, fun j hj => ?_⟩⟩, hB⟩
    · have : zs.getD j 0 < 256 := h256 _ (by rw [List.getD, List.getElem?_eq_getElem (by omega)]; exact List.getElem_mem _)
      omega
    · rw [Nat.zero_add, (rowN_cell hrow).1]; exact hget j (by omega)

/-- Cells of the copied bytes. -/
theorem bytes_news {zs : List Nat} {a : Option Addr} {n c : Nat} {w : World} (h : BytesAt zs (.slice a n c) w) :
    ∀ ad, a = some ad → ∀ j u, (zs.map fun x => Value.int .u8 (x : Nat))[j]? = some u → (w.alloc (.cells #[] 5)).cell? (ad.add j) = some u := by
  rintro ad rfl j u hu
  obtain ⟨h256, a', c', he, hn, hx⟩ := h
  cases he
  have hj : j < zs.length := by
    rw [List.getElem?_map] at hu
    rcases Nat.lt_or_ge j zs.length with h | h
    · exact h
    · rw [List.getElem?_eq_none h] at hu; cases hu
  rcases hx with hx | ⟨b, off, he, hb, hc⟩
  · omega
  · cases he
    have hadd : (⟨b, off, none⟩ : Addr).add j = ⟨b, off + j, none⟩ := by unfold Addr.add; split <;> simp_all
    rw [hadd, World.cell?_alloc_past _ _ _ hb, hc j hj, ← hu, List.getElem?_map, List.getElem?_eq_getElem hj, List.getD, List.getElem?_eq_getElem hj]
    rfl
theorem bytes_one {zs : List Nat} : ∀ u ∈ (zs.map fun x => Value.int .u8 (x : Nat)), u.oneCell' = true := by
  intro u hu
  obtain ⟨x, _, rfl⟩ := List.mem_map.1 hu
  rfl
/-- What holds while the copy is written to. -/
def RdRel (w : World) (g gn n V X : Nat) (t i : Value) (wr : World) : Prop :=
  ∃ (k : Nat) (cs : Array Value), k ≤ n ∧ i = .int .i64 (k : Nat) ∧ rowN wr g = some cs ∧ Bytes8 cs n ∧ rowN wr gn = some (natA V) ∧ RefN X t wr ∧ Below w.heap.size w wr
theorem RdRel.step {w wr : World} {g gn n k V X : Nat} {t : Value} {cs : Array Value} {x y : Int} (hk : k < n) (hrow : rowN wr g = some cs) (h8 : Bytes8 cs n) (hx : cs[k]? = some (.int .u8 x)) (hne : gn ≠ g) (hg : w.heap.size ≤ g)
    (hV : rowN wr gn = some (natA V)) (hT : RefN X t wr) (hB : Below w.heap.size w wr) (h0 : 0 ≤ y) (h1 : y < 256) : RdRel w g gn n V X t (.int .i64 ((k : Int) + 1)) (wr.setCell ⟨g, k, none⟩ (.int .u8 y)) := by
  refine ⟨k + 1, cs.setIfInBounds k (.int .u8 y), by omega, rfl, ?_, h8.set h0 h1, ?_, ?_, hB.setCell (p := ⟨g, k, none⟩) hg _⟩
  · rw [rowN_setCell, if_pos rfl, hrow]; rfl
  · rw [rowN_setCell, if_neg hne]; exact hV
  · exact DigN.setByte _ hT (x := x) (by rw [(rowN_cell hrow).1]; exact hx)
theorem u8_wrap (x : Int) : 0 ≤ IntKind.u8.wrap x ∧ IntKind.u8.wrap x < 256 := by
  rw [IntKind.wrap_u8]; omega
end Go.Proofs.Ytkegdjndmeialaa
