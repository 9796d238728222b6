/- ShaSums walked. -/
import Derived.Test.YtjpieoepokakgaaDoorTH
namespace Go.Proofs.YtjpieoepokakgaaDoor
open Go.RowKit Go.Shelf

set_option maxRecDepth 100000 in
set_option maxHeartbeats 1000000 in
theorem sums_walk (zs : List Nat) (s : Value) (w : World) (hB : BytesAt zs s w) (hnil : Nil0 s) (hK : KG w) (hG : RG w) :
    Calls Tryd.prog 3 #[s] w fun e w' => e = .returned (.bool true) ∧ Below w.heap.size w w' := by
  have HB := Lib.hid hB
  have HN := Lib.hid hnil
  have HK := Lib.hid hK
  have HG := Lib.hid hG
  obtain ⟨a, c, rfl⟩ : ∃ a c, s = .slice a zs.length c := by obtain ⟨_, a, c, e, _⟩ := hB; exact ⟨a, c, e⟩
  obtain ⟨L, hl⟩ : ∃ L, zs.length = L := ⟨_, rfl⟩
  have HL := Lib.hid hl
  rw [hl] at HB HN ⊢
  clear hB hnil hK hG hl
  by_cases hbig : 300 < L
  · have hb : (300 : Int) < ((L : Nat) : Int) := by omega
    go_enter Tryd.func3, Tryd.ntmps3
    go_wp2_with fail
    refine (known_any _ HK.out).mono ?_
    rintro e w1 ⟨rfl, hb1⟩
    have HB1 := Lib.hid hb1
    clear hb1
    go_wp2_with fail
    go_ret
    exact ⟨rfl, HB1.out⟩
  · have hb : ¬ (300 : Int) < ((L : Nat) : Int) := by omega
    have hown2 : (w.alloc (.cells #[] 5)).ownsRow w.heap.size 5 1 (.slice (some ⟨w.heap.size, 0, none⟩) 0 0) ([] : List Nat).length (cl []) := World.ownsRow_lit w #[] 0 (Nat.le_refl _) (by unfold maxLen; omega) rfl
    have hbel2 : Below w.heap.size w (w.alloc (.cells #[] 5)) := (Below.refl _ w).alloc (Nat.le_refl _) _
    go_enter Tryd.func3, Tryd.ntmps3
    go_wp2_with (at_builtin; refine wpList_app rfl _ _ rfl w.heap.size rfl rfl hown2 (HB.out.kept hbel2) HN.out (by rw [HL.out]; simp; omega) hbel2.size ?_; intro v3 w3 hown3 hgrow3)
    have hb3 := below_owned hbel2 hown2 hgrow3 hbel2.size
    rw [List.nil_append] at hown3
    have hz3 := owns_both HB.out.1 hown3
    have hn3 := owns_nil0 hown3
    have HB3 := Lib.hid hb3
    have HZ3 := Lib.hid hz3.1
    have HN3 := Lib.hid hn3
    have HS := Lib.hid (fun W (h1 : KG W) (h2 : BytesAt zs v3 W) => sum_any zs v3 (by rw [HL.out]; omega) W h1 h2 hn3)
    have HR := Lib.hid (fun W (h1 : RG W) (h2 : BytesAt zs (.slice a L c) W) => rsum_any zs (.slice a L c) (by rw [HL.out]; omega) W h1 h2 HN.out)
    have hO : (shaL zs).length = 32 := outB_len (absB_len rfl _ _)
    obtain ⟨O, hOe⟩ : ∃ O, shaL zs = O := ⟨_, rfl⟩
    rw [hOe] at HS HR hO
    obtain ⟨a3, c3, rfl⟩ : ∃ a c, v3 = .slice a L c := by obtain ⟨_, a, c, e, _⟩ := hz3.1; exact ⟨a, c, by rw [e, HL.out]⟩
    clear hown2 hbel2 hown3 hgrow3 hb3 hz3 hn3 hOe
    go_wp2_with fail
    refine (HS.out _ (HK.out.kept HB3.out) HZ3.out).mono ?_
    rintro e w4 ⟨rfl, hb4⟩
    have HB4 := Lib.hid (HB3.out.trans (hb4.mono HB3.out.size))
    have HZ4 := Lib.hid (HZ3.out.kept hb4)
    clear hb4
    go_wp2_with fail
    refine (HR.out _ (HG.out.kept HB4.out) (HB.out.kept HB4.out)).mono ?_
    rintro e w5 ⟨rfl, hb5⟩
    have HB5 := Lib.hid (HB4.out.trans (hb5.mono HB4.out.size))
    have hs1 := str_bytes (HZ4.out.kept hb5) HN3.out
    have hs2 := str_bytes (HB.out.kept HB5.out) HN.out
    clear hb5
    go_wp2_with fail
    refine (known_any _ (HK.out.kept HB5.out)).mono ?_
    rintro e w6 ⟨rfl, hb6⟩
    have HB6 := Lib.hid (HB5.out.trans (hb6.mono HB5.out.size))
    clear hb6 hs1 hs2
    go_wp2_with fail
    go_ret
    exact ⟨rfl, HB6.out⟩
end Go.Proofs.YtjpieoepokakgaaDoor
