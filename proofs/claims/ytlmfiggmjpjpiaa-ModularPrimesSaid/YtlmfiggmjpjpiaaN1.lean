/- What a slice of bytes that came in reads. -/
import Derived.Test.YtlmfiggmjpjpiaaZR
import Derived.ProofKit
import Derived.OpenShut
import Derived.ChangeOld
namespace Go.Proofs.Ytlmfiggmjpjpiaa
open Go.RowKit

theorem wf_u8 {n : Int} (h : (Lit.int .u8 n).wf = true) : 0 ≤ n ∧ n < 256 := by
  have e1 : IntKind.u8.min = 0 := by kernel_rfl
  have e2 : IntKind.u8.max = 255 := by kernel_rfl
  simp [Lit.wf, e1, e2] at h
  omega
theorem wf_i64 {n : Int} (h : (Lit.int .i64 n).wf = true) : -9223372036854775808 ≤ n ∧ n ≤ 9223372036854775807 := by
  have e1 : IntKind.i64.min = -9223372036854775808 := by kernel_rfl
  have e2 : IntKind.i64.max = 9223372036854775807 := by kernel_rfl
  simp [Lit.wf, e1, e2] at h
  omega

theorem bytesAt_of (w : World) (a : Option Addr) (len cap : Nat) (z : List Int)
    (h : (a = none ∧ len = 0 ∧ cap = 0 ∧ z = []) ∨ ∃ x, a = some x ∧ len ≤ cap ∧ cap ≤ maxLen ∧ z.length = cap ∧ (∀ i, i < z.length → w.cell? (x.add i) = some (.int .u8 (z.getD i 0))) ∧ ∀ n ∈ z, (Lit.int .u8 n).wf = true) :
    ∃ zs : List Nat, zs.length = len ∧ BytesAt zs (.slice a len cap) w := by
  rcases h with ⟨rfl, rfl, rfl, rfl⟩ | ⟨x, rfl, hl, hm, hz, hcell, hwz⟩
  · exact ⟨[], rfl, fun x hx => absurd hx (by simp), none, 0, rfl, Nat.le_refl _, .inl rfl⟩
  · have hlen : ((z.take len).map Int.toNat).length = len := by simp; omega
    refine ⟨(z.take len).map Int.toNat, hlen, fun y hy => ?_, some x, cap, by rw [hlen], by omega, ?_⟩
    · obtain ⟨n, hn, rfl⟩ := List.mem_map.1 hy
      have := wf_u8 (hwz n (List.mem_of_mem_take hn))
      omega
    · rw [hlen]
      by_cases h0 : len = 0
      · exact .inl h0
      · have hc := hcell 0 (by omega)
        have hspot : x.spot = none := by simpa [Addr.add] using World.cell?_spot hc
        obtain ⟨b, off, spot⟩ := x
        simp at hspot
        subst hspot
        have hadd : ∀ j, (⟨b, off, none⟩ : Addr).add j = ⟨b, off + j, none⟩ := fun j => by unfold Addr.add; split <;> simp_all
        refine .inr ⟨b, off, rfl, World.block_lt_of_cell? w ⟨b, off + 0, none⟩ (by rw [← hadd]; exact hc), fun j hj => ?_⟩
        have hj2 : j < z.length := by omega
        have hw := wf_u8 (hwz (z[j]'hj2) (List.getElem_mem _))
        rw [← hadd, hcell j hj2]
        have e1 : z.getD j 0 = z[j] := by rw [List.getD, List.getElem?_eq_getElem hj2]; rfl
        have e2 : ((z.take len).map Int.toNat).getD j 0 = (z[j]).toNat := by
          rw [List.getD, List.getElem?_map, List.getElem?_take, if_pos hj, List.getElem?_eq_getElem hj2]; rfl
        rw [e1, e2]
        congr 2
        omega
end Go.Proofs.Ytlmfiggmjpjpiaa
