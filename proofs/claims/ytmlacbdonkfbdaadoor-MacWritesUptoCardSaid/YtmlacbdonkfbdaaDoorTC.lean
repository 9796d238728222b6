/- A Hash in progress: what it has taken in. -/
import Derived.Laws.IdiomCopy
import Derived.Test.YtmlacbdonkfbdaaDoorTB
namespace Go.Proofs.YtmlacbdonkfbdaaDoor
open Go.RowKit

theorem absB_app (bs : List Nat) : ∀ (k : Nat) (s zs : List Nat), 64 * k ≤ zs.length → absB s k (zs ++ bs) = absB s k zs
  | 0, _, _, _ => rfl
  | k + 1, s, zs, h => by
    show absB (absL s ((zs ++ bs).take 64)) k ((zs ++ bs).drop 64) = absB (absL s (zs.take 64)) k (zs.drop 64)
    rw [List.take_append_of_le_length (by omega), List.drop_append_of_le_length (by omega)]
    exact absB_app bs k _ _ (by rw [List.length_drop]; omega)
theorem absB_add (b : Nat) : ∀ (a : Nat) (s l : List Nat), absB s (a + b) l = absB (absB s a l) b (l.drop (64 * a))
  | 0, s, l => by rw [Nat.zero_add]; rfl
  | a + 1, s, l => by
    rw [show a + 1 + b = (a + b) + 1 by omega]
    show absB (absL s (l.take 64)) (a + b) (l.drop 64) = absB (absB (absL s (l.take 64)) a (l.drop 64)) b (l.drop (64 * (a + 1)))
    rw [absB_add b a, List.drop_drop, show 64 + 64 * a = 64 * (a + 1) by omega]
def splice (tl : List Nat) (o : Nat) (l : List Nat) : List Nat := tl.take o ++ l ++ tl.drop (o + l.length)
theorem splice_len {tl : List Nat} {o : Nat} {l : List Nat} (h : o + l.length ≤ tl.length) : (splice tl o l).length = tl.length := by
  unfold splice; rw [List.length_append, List.length_append, List.length_take, List.length_drop]; omega
theorem splice_256 {tl : List Nat} {o : Nat} {l : List Nat} (h : ∀ x ∈ tl, x < 256) (h2 : ∀ x ∈ l, x < 256) : ∀ x ∈ splice tl o l, x < 256 := by
  intro x hx
  unfold splice at hx
  rcases List.mem_append.1 hx with hx | hx
  · rcases List.mem_append.1 hx with hx | hx
    · exact h x (List.mem_of_mem_take hx)
    · exact h2 x hx
  · exact h x (List.mem_of_mem_drop hx)
theorem splice_take {tl : List Nat} {o : Nat} {l : List Nat} (h : o ≤ tl.length) : (splice tl o l).take (o + l.length) = tl.take o ++ l := by
  unfold splice
  rw [List.take_append_of_le_length (by rw [List.length_append, List.length_take]; omega), List.take_of_length_le (by rw [List.length_append, List.length_take]; omega)]
/-- What a Hash with the bytes zs holds. -/
structure HI (zs st tl : List Nat) : Prop where
  st : st = absB zero8 (zs.length / 64) zs
  len : tl.length = 64
  b256 : ∀ x ∈ tl, x < 256
  tail : tl.take (zs.length % 64) = zs.drop (64 * (zs.length / 64))
theorem HI.zero : HI [] zero8 z64 := by
  refine ⟨rfl, z64_len, fun x hx => ?_, rfl⟩
  rw [z64_eq] at hx
  have := List.eq_of_mem_replicate hx
  omega
theorem HI.hash {zs st tl : List Nat} (h : HI zs st tl) : hashOut st tl zs.length = shaL zs := by
  obtain ⟨h1, h2, h3, h4⟩ := h
  have hl : (tl.take (zs.length % 64)).length = zs.length % 64 := by rw [List.length_take]; omega
  unfold hashOut shaL
  rw [← padR_all zs]
  congr 1
  have hp : padR zs zs.length = zs.take (64 * (zs.length / 64)) ++ endL (zs.drop (64 * (zs.length / 64))) zs.length := by unfold padR; rw [Nat.mul_comm]
  have hq : padR (tl.take (zs.length % 64)) zs.length = endL (zs.drop (64 * (zs.length / 64))) zs.length := by
    unfold padR; rw [hl, show zs.length % 64 / 64 * 64 = 0 by omega, List.take_zero, List.drop_zero, List.nil_append, h4]
  rw [hq, hp]
  obtain ⟨T, hT⟩ : ∃ T, endL (zs.drop (64 * (zs.length / 64))) zs.length = T := ⟨_, rfl⟩
  have hz : (zs.take (64 * (zs.length / 64))).length = 64 * (zs.length / 64) := by rw [List.length_take]; omega
  rw [hT, List.length_append, hz, show (64 * (zs.length / 64) + T.length) / 64 = zs.length / 64 + T.length / 64 by omega, absB_add, List.drop_append_of_le_length (by omega), List.drop_eq_nil_of_le (by omega), List.nil_append, absB_app _ _ _ _ (by omega), h1]
  congr 1
  have h5 := absB_app (zs.drop (64 * (zs.length / 64))) (zs.length / 64) zero8 (zs.take (64 * (zs.length / 64))) (by omega)
  rw [List.take_append_drop] at h5
  exact h5
theorem HI.short {zs st tl bs : List Nat} (h : HI zs st tl) (hs : zs.length % 64 + bs.length < 64) (h256 : ∀ x ∈ bs, x < 256) : HI (zs ++ bs) st (splice tl (zs.length % 64) bs) := by
  obtain ⟨h1, h2, h3, h4⟩ := h
  have e1 : (zs ++ bs).length / 64 = zs.length / 64 := by rw [List.length_append]; omega
  have e2 : (zs ++ bs).length % 64 = zs.length % 64 + bs.length := by rw [List.length_append]; omega
  refine ⟨?_, by rw [splice_len (by omega)]; exact h2, splice_256 h3 h256, ?_⟩
  · rw [e1, absB_app _ _ _ _ (by omega)]; exact h1
  · rw [e1, e2, splice_take (by omega), h4, List.drop_append_of_le_length (by omega)]
theorem HI.full {zs st tl bs : List Nat} (h : HI zs st tl) (hs : 64 ≤ zs.length % 64 + bs.length) : absL st (splice tl (zs.length % 64) (bs.take (64 - zs.length % 64))) = absB zero8 (zs.length / 64 + 1) (zs ++ bs) := by
  obtain ⟨h1, h2, h3, h4⟩ := h
  have hm : (bs.take (64 - zs.length % 64)).length = 64 - zs.length % 64 := by rw [List.length_take]; omega
  rw [absB_snoc, absB_app _ _ _ _ (by omega), ← h1]
  congr 1
  unfold splice
  rw [hm, List.drop_eq_nil_of_le (by omega), List.append_nil, h4, List.drop_append_of_le_length (by omega), List.take_append, List.length_drop, show 64 - (zs.length - 64 * (zs.length / 64)) = 64 - zs.length % 64 by omega]
  rw [List.take_of_length_le (l := zs.drop _) (by rw [List.length_drop]; omega)]
theorem HI.long {zs st tl bs tl1 b2 : List Nat} (h : HI zs st tl) (hs : 64 ≤ zs.length % 64 + bs.length) (h256 : ∀ x ∈ bs, x < 256) (h1 : tl1 = splice tl (zs.length % 64) (bs.take (64 - zs.length % 64))) (h2 : b2 = bs.drop (64 - zs.length % 64)) :
    HI (zs ++ bs) (absB (absL st tl1) (b2.length / 64) b2) (splice tl1 0 (b2.drop (b2.length / 64 * 64))) := by
  have hf := h.full hs
  rw [← h1] at hf
  have hm : (bs.take (64 - zs.length % 64)).length = 64 - zs.length % 64 := by rw [List.length_take]; omega
  have l1 : tl1.length = 64 := by rw [h1, splice_len (by rw [hm, h.len]; omega)]; exact h.len
  have l2 : b2.length = bs.length - (64 - zs.length % 64) := by rw [h2, List.length_drop]
  have hb2 : (zs ++ bs).drop (64 * (zs.length / 64 + 1)) = b2 := by
    rw [List.drop_append, List.drop_eq_nil_of_le (by omega), List.nil_append, h2]
    congr 1; omega
  have e1 : (zs ++ bs).length / 64 = zs.length / 64 + 1 + b2.length / 64 := by rw [List.length_append]; omega
  have e2 : (zs ++ bs).length % 64 = b2.length % 64 := by rw [List.length_append]; omega
  have l3 : (b2.drop (b2.length / 64 * 64)).length = b2.length % 64 := by rw [List.length_drop]; omega
  refine ⟨?_, by rw [splice_len (by omega)]; exact l1, splice_256 (by rw [h1]; exact splice_256 h.b256 (fun x hx => h256 x (List.mem_of_mem_take hx))) (fun x hx => h256 x (by rw [h2] at hx; exact List.mem_of_mem_drop (List.mem_of_mem_drop hx))), ?_⟩
  · rw [hf, e1, absB_add (b2.length / 64) (zs.length / 64 + 1), hb2]
  · have h5 := splice_take (tl := tl1) (o := 0) (l := b2.drop (b2.length / 64 * 64)) (by omega)
    rw [l3, Nat.zero_add, List.take_zero, List.nil_append] at h5
    rw [e1, e2, h5, ← hb2, List.drop_drop]
    rw [hb2]
    congr 1; omega

/-! ### copy into the tail -/
theorem hashA_list (st tl : List Nat) (n : Nat) : (hashA st tl n).toList = (st.map fun x => Value.int .u32 (x : Nat)) ++ (tl.map fun x => Value.int .u8 (x : Nat)) ++ [.int .i64 (n : Nat)] := by
  unfold hashA stA
  rw [Array.toList_append, Array.toList_append, arr_toList, arr_toList, List.append_assoc]
theorem hashA_splice {st tl l : List Nat} {o : Nat} (hs : st.length = 8) (ht : tl.length = 64) (ho : o + l.length ≤ 64) (n : Nat) :
    ((hashA st tl n).toList.take (8 + o) ++ (l.map fun x => Value.int .u8 (x : Nat)) ++ (hashA st tl n).toList.drop (8 + o + (l.map fun x => Value.int .u8 (x : Nat)).length)).toArray = hashA st (splice tl o l) n := by
  apply Array.ext'
  rw [hashA_list, hashA_list, List.length_map]
  unfold splice
  simp only [List.map_append, List.map_take, List.map_drop]
  have hS : (st.map fun x => Value.int .u32 (x : Nat)).length = 8 := by rw [List.length_map, hs]
  have hT : (tl.map fun x => Value.int .u8 (x : Nat)).length = 64 := by rw [List.length_map, ht]
  generalize (st.map fun x => Value.int .u32 (x : Nat)) = S at *
  generalize (tl.map fun x => Value.int .u8 (x : Nat)) = T at *
  rw [List.append_assoc S T, List.take_append, List.drop_append, hS, List.take_of_length_le (by omega), List.drop_eq_nil_of_le (by omega), List.nil_append, show 8 + o - 8 = o by omega, show 8 + o + l.length - 8 = o + l.length by omega,
    List.take_append_of_le_length (by omega), List.drop_append_of_le_length (by omega)]
  simp only [List.append_assoc]
theorem setRow_row {w : World} {g : Nat} {cs : Array Value} (h : rowN w g = some cs) : w.setRow g cs = w := by
  obtain ⟨t, hg⟩ := rowN_some h
  exact setRow_self w g cs t (0, 0) hg
theorem copy_tail {W : World} {g o c n m : Nat} {st tl bs : List Nat} {s : Value} (hs : st.length = 8) (ht : tl.length = 64) (ho : o ≤ 64) (hr : rowN W g = some (hashA st tl n)) (hB : BytesAt bs s W) (hm : m = min bs.length (64 - o)) :
    (Builtin.copy_ #[22, 22] 3 #[.slice (some ⟨g, 8 + o, none⟩) (64 - o) c, s]).run Tryd.prog W = .ok (.int .i64 (m : Nat)) (W.setRow g (hashA st (splice tl o (bs.take m)) n)) := by
  obtain ⟨h256, a, c2, rfl, hcc, h2⟩ := hB
  have hi : (Tryd.prog.info? 5).map (·.size) = some 1 := by kernel_rfl
  have hlm : (bs.take m).length = m := by rw [List.length_take]; omega
  by_cases h0 : m = 0
  · have hn : Nat.min bs.length (64 - o) = 0 := by rw [hm] at h0; exact h0
    rw [run_copy_none (P := Tryd.prog) W 22 22 3 5 _ a (64 - o) c bs.length c2 Tryd.underlying22 hi hn, h0, List.take_zero]
    have : splice tl o [] = tl := by unfold splice; simp
    rw [this, setRow_row hr]; rfl
  · rcases h2 with h2 | ⟨b, off, rfl, _, hj⟩
    · omega
    · obtain ⟨t, hg⟩ := rowN_some hr
      have := run_copy_row Tryd.prog W 22 22 3 5 g (8 + o) (64 - o) c ⟨b, off, none⟩ bs.length c2 (hashA st tl n) t ((bs.take m).map fun x => Value.int .u8 (x : Nat)) Tryd.underlying22 hi hg
        (by rw [List.length_map, hlm, hm]) (fun j v hv => by
          have hjl := (List.getElem?_eq_some_iff.1 hv).1
          rw [List.length_map, hlm] at hjl
          rw [List.getElem?_map] at hv
          have e : (⟨b, off, none⟩ : Addr).add j = ⟨b, off + j, none⟩ := by simp [Addr.add]
          rw [e, hj j (by omega), ← hv, List.getElem?_take, if_pos hjl, List.getD]
          rw [List.getElem?_eq_getElem (show j < bs.length by omega)]; first | done | rfl)
        (by rw [List.length_map, hlm, hashA_size hs ht]; omega) (fun v hv => by obtain ⟨x, _, rfl⟩ := List.mem_map.1 hv; rfl)
      rw [this, hashA_splice hs ht (by rw [hlm]; omega), List.length_map, hlm]; rfl
end Go.Proofs.YtmlacbdonkfbdaaDoor
