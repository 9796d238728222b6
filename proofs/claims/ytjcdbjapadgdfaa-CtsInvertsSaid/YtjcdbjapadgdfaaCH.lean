/- CtsLong walked. -/
import Derived.Test.YtjcdbjapadgdfaaCG
namespace Go.Proofs.Ytjcdbjapadgdfaa
open Go.RowKit Go.Shelf

attribute [local go_sem] Oper.semAt_some
set_option maxRecDepth 100000 in
set_option maxHeartbeats 8000000 in
theorem long_all (ks : List Nat) (ak : Option Addr) (ck : Nat) (t : Nat) (ht : t < 256) (w : World) (hk : BytesAt ks (.slice ak ks.length ck) w) :
    Calls Try.prog 3 #[.slice ak ks.length ck, .int .u8 (t : Nat)] w fun e w' => e = .returned (.bool true) ∧ Below w.heap.size w w' := by
  by_cases hks : ks.length = 16
  · have hcap : 16 ≤ ck ∧ ∃ b off, ak = some ⟨b, off, none⟩ := by
      obtain ⟨_, a, c, e, hc, h2⟩ := hk
      cases e
      rcases h2 with h2 | ⟨b, off, ea, _⟩
      · rw [h2] at hks; cases hks
      · exact ⟨by omega, b, off, ea⟩
    obtain ⟨hck, b, off, rfl⟩ := hcap
    rw [hks] at hk ⊢
    have HEN := Lib.hid (fun (n : Nat) (hn : 131072 < n) (W : World) (hb : Below w.heap.size w W) => show Calls Try.prog 7 #[.slice (some ⟨b, off, none⟩) 16 ck, .slice (some ⟨b, off, none⟩) 16 ck, .slice (some ⟨w.heap.size, 0, none⟩) n n] W (fun e w' => e = .returned (.tuple #[.slice none 0 0, .int .i64 5]) ∧ Below W.heap.size W w') from
      enc_long ks ks _ _ _ n n hks hks hn W (hk.kept hb) (hk.kept hb))
    have HDE := Lib.hid (fun (n : Nat) (hn : 131072 < n) (W : World) (hb : Below w.heap.size w W) => show Calls Try.prog 8 #[.slice (some ⟨b, off, none⟩) 16 ck, .slice (some ⟨b, off, none⟩) 16 ck, .slice (some ⟨w.heap.size, 0, none⟩) n n] W (fun e w' => e = .returned (.tuple #[.slice none 0 0, .int .i64 5]) ∧ Below W.heap.size W w') from
      dec_long ks ks _ _ _ n n hks hks hn W (hk.kept hb) (hk.kept hb))
    have HDA := Lib.hid (fun (n : Nat) (W : World) (hb : Below w.heap.size w W) => show Calls Try.prog 8 #[.slice (some ⟨b, off, none⟩) 16 ck, .slice (some ⟨b, off, none⟩) 3 ck, .slice (some ⟨w.heap.size, 0, none⟩) n n] W (fun e w' => e = .returned (.tuple #[.slice none 0 0, .int .i64 2]) ∧ Below W.heap.size W w') from by
      have hz := bytes_cutm (hk.kept hb) 0 3 ck (by omega) (by omega)
      exact dec_arg ks _ _ _ _ n n (.inr (by rw [List.length_take, List.drop_zero, hks]; decide)) W (hk.kept hb) hz)
    obtain ⟨n, hn⟩ : ∃ n, n = 131073 + t % 100 := ⟨_, rfl⟩
    have hn1 : 131072 < n := by omega
    have HN1 := Lib.hid hn1
    have hn2 : n ≤ 1000000 := by omega
    have hlit : (131073 + ((t : Nat) : Int) % 100) = ((n : Nat) : Int) := by omega
    have hmk : ∀ W : World, (Instr.makeSlice 22 (.int .i64 (131073 + ((t : Nat) : Int) % 100)) (.int .i64 (131073 + ((t : Nat) : Int) % 100))).run Try.prog W = .ok (.slice (some ⟨W.heap.size, 0, none⟩) n n) (W.alloc (.cells (arr .u8 (zr n)) 5)) := by rw [hlit]; exact run_mk22 n hn2
    clear hlit hn hn2 hn1
    have HB0 := Lib.hid (show Below w.heap.size w (w.alloc (.cells (arr .u8 (zr n)) 5)) from (Below.refl _ _).alloc (Nat.le_refl _) _)
    have hck3 : (3 : Int) ≤ ((ck : Nat) : Int) := by omega
    clear hk hks
    go_enter Try.func3, Try.ntmps3
    go_wp2_with fail
    refine (HEN.out n HN1.out _ HB0.out).mono ?_
    rintro e w1 ⟨rfl, hb⟩
    have HB1 := Lib.hid (HB0.out.trans (hb.mono HB0.out.size))
    clear hb HEN
    go_wp2_with fail
    refine (HDE.out n HN1.out _ HB1.out).mono ?_
    rintro e w2 ⟨rfl, hb⟩
    have HB2 := Lib.hid (HB1.out.trans (hb.mono HB1.out.size))
    clear hb HDE
    go_wp2_with fail
    refine (HDA.out n _ HB2.out).mono ?_
    rintro e w3 ⟨rfl, hb⟩
    have HB3 := Lib.hid (HB2.out.trans (hb.mono HB2.out.size))
    have HKN := Lib.hid (known_any w3)
    clear hb HDA
    go_wp2_with fail
    refine HKN.out.mono ?_
    rintro e w4 ⟨rfl, hb⟩
    have HB4 := Lib.hid (HB3.out.trans (hb.mono HB3.out.size))
    clear hb HKN
    go_wp2_with fail
    go_ret
    exact ⟨rfl, HB4.out⟩
  · obtain ⟨L, hL⟩ : ∃ L, ks.length = L := ⟨_, rfl⟩
    rw [hL] at hks ⊢
    have hi : ¬ ((L : Nat) : Int) = 16 := by omega
    have HKN := Lib.hid (known_any w)
    clear hk hL
    go_enter Try.func3, Try.ntmps3
    go_wp2_with fail
    refine HKN.out.mono ?_
    rintro e w1 ⟨rfl, hb⟩
    have HB := Lib.hid hb
    clear hb HKN
    go_wp2_with fail
    go_ret
    exact ⟨rfl, HB.out⟩
end Go.Proofs.Ytjcdbjapadgdfaa
