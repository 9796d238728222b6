/- AES: AesInverts walked. -/
import Derived.Test.YtfmmokcniechcaaAS
namespace Go.Proofs.Ytfmmokcniechcaa
open Go.RowKit Go.Shelf

attribute [local go_sem] Oper.semAt_some
theorem nil0_of {zs : List Nat} {s : Value} {w : World} (h : BytesAt zs s w) (h0 : 0 < zs.length) : Nil0 s := by
  rintro L c rfl
  obtain ⟨_, a, c', e, _, h2⟩ := h
  cases e
  rcases h2 with h2 | ⟨b, off, ea, _⟩
  · omega
  · cases ea
set_option maxRecDepth 100000 in
set_option maxHeartbeats 8000000 in
theorem inverts_all (ks zs : List Nat) (ak az : Option Addr) (ck cz : Nat) (w : World) (hk : BytesAt ks (.slice ak ks.length ck) w) (hz : BytesAt zs (.slice az zs.length cz) w) :
    Calls Try.prog 3 #[.slice ak ks.length ck, .slice az zs.length cz] w fun e w' => e = .returned (.bool true) ∧ Below w.heap.size w w' := by
  have HKN := Lib.hid (known_any w)
  by_cases hks : ks.length = 16
  · by_cases hzs : zs.length = 16
    · have HN := Lib.hid (new_any ks _ hks w hk)
      have HZ := Lib.hid hz
      have HZN := Lib.hid (nil0_of hz (by omega))
      have HKW := Lib.hid (wordsL_w32 hk.1)
      have HZW := Lib.hid (wordsL_w32 hz.1)
      have HEL := Lib.hid (encS_lw (wordsL_len ks) HKW.out (wordsL_len zs) HZW.out 11)
      have HDL := Lib.hid (decS_lw (wordsL_len ks) HKW.out (wordsL_len zs) HZW.out 11)
      have HDE := Lib.hid ((congrArg bytesL (dec_enc (wordsL_len ks) HKW.out (wordsL_len zs) HZW.out 11 (Nat.le_refl _))).trans (bytes_words hzs hz.1))
      have HED := Lib.hid ((congrArg bytesL (enc_dec (wordsL_len ks) HKW.out (wordsL_len zs) HZW.out 11 (Nat.le_refl _))).trans (bytes_words hzs hz.1))
      have HE1 := Lib.hid (fun (g : Nat) (W : World) (hC : CphAt ks g W) (hB : BytesAt zs (.slice az 16 cz) W) => encrypt_any g ks zs (.slice az 16 cz) hzs hk.1 W hC hB)
      have HD1 := Lib.hid (fun (g : Nat) (W : World) (hC : CphAt ks g W) (hB : BytesAt zs (.slice az 16 cz) W) => decrypt_any g ks zs (.slice az 16 cz) hzs hk.1 W hC hB)
      have HD2 := Lib.hid (fun (g : Nat) (s : Value) (W : World) (hC : CphAt ks g W) (hB : BytesAt (bytesL (encS (wordsL ks) (wordsL zs) 11)) s W) => decrypt_any g ks (bytesL (encS (wordsL ks) (wordsL zs) 11)) s (by rw [bytesL_len, HEL.out.1]) hk.1 W hC hB)
      have HE2 := Lib.hid (fun (g : Nat) (s : Value) (W : World) (hC : CphAt ks g W) (hB : BytesAt (bytesL (decS (wordsL ks) (wordsL zs) 11)) s W) => encrypt_any g ks (bytesL (decS (wordsL ks) (wordsL zs) 11)) s (by rw [bytesL_len, HDL.out.1]) hk.1 W hC hB)
      rw [words_bytes HEL.out.1, HDE.out] at HD2
      rw [words_bytes HDL.out.1, HED.out] at HE2
      rw [hzs] at HZ HZN ⊢
      rw [hks] at HN ⊢
      have hp24 := run_eqp24
      clear hk hz hks hzs HKN HKW HZW HEL HDL HDE HED
      go_enter Try.func3, Try.ntmps3
      go_wp2_with fail
      refine HN.out.mono ?_
      rintro e w1 ⟨g, rfl, hg, hC, hb⟩
      have HC1 := Lib.hid hC
      have HZ1 := Lib.hid (HZ.out.kept hb)
      have HB1 := Lib.hid hb
      have hp := hp24 g
      clear hC hb HN hp24
      go_wp2_with fail
      refine (HE1.out g _ HC1.out HZ1.out).mono ?_
      rintro e w2 ⟨x, rfl, hx, _, _, hb⟩
      have HC2 := Lib.hid (keptW hb HC1.out)
      have HZ2 := Lib.hid (HZ1.out.kept hb)
      have HB2 := Lib.hid (bthen HB1.out hb)
      have HX2 := Lib.hid hx
      clear hx hb HC1 HZ1 HB1 HE1
      go_wp2_with fail
      refine (HD2.out g _ _ HC2.out HX2.out).mono ?_
      rintro e w3 ⟨y, rfl, hy, hyn, _, hb⟩
      have HC3 := Lib.hid (keptW hb HC2.out)
      have HZ3 := Lib.hid (HZ2.out.kept hb)
      have HB3 := Lib.hid (bthen HB2.out hb)
      have HY3 := Lib.hid hy
      have HYN := Lib.hid hyn
      clear hy hyn hb HC2 HZ2 HB2 HX2 HD2
      go_wp2_with fail
      refine (HD1.out g _ HC3.out HZ3.out).mono ?_
      rintro e w4 ⟨z, rfl, hz, _, _, hb⟩
      have HC4 := Lib.hid (keptW hb HC3.out)
      have HZ4 := Lib.hid (HZ3.out.kept hb)
      have HB4 := Lib.hid (bthen HB3.out hb)
      have HY4 := Lib.hid (HY3.out.kept hb)
      have HX4 := Lib.hid hz
      clear hz hb HC3 HZ3 HB3 HY3 HD1
      go_wp2_with fail
      refine (HE2.out g _ _ HC4.out HX4.out).mono ?_
      rintro e w5 ⟨u, rfl, hu, hun, _, hb⟩
      have hs1 := str_bytes (HZ4.out.kept hb) HZN.out
      have hs2 := str_bytes (HY4.out.kept hb) HYN.out
      have hs3 := str_bytes hu hun
      have HB5 := Lib.hid (bthen HB4.out hb)
      have HK5 := Lib.hid (known_any w5)
      clear hu hun hb HC4 HZ4 HB4 HY4 HX4 HE2
      go_wp2_with fail
      refine HK5.out.mono ?_
      rintro e w6 ⟨rfl, hb⟩
      have HB6 := Lib.hid (bthen HB5.out hb)
      clear hb HK5 HB5
      go_wp2_with fail
      go_ret
      exact ⟨rfl, HB6.out⟩
    · obtain ⟨L, hL⟩ : ∃ L, zs.length = L := ⟨_, rfl⟩
      rw [hL] at hzs ⊢
      rw [hks]
      have hi : ¬ ((L : Nat) : Int) = 16 := by omega
      clear hk hz hL
      go_enter Try.func3, Try.ntmps3
      go_wp2_with fail
      refine HKN.out.mono ?_
      rintro e w1 ⟨rfl, hb⟩
      have HB := Lib.hid hb
      clear hb HKN
      go_wp2_with fail
      go_ret
      exact ⟨rfl, HB.out⟩
  · obtain ⟨L, hL⟩ : ∃ L, ks.length = L := ⟨_, rfl⟩
    rw [hL] at hks ⊢
    have hi : ¬ ((L : Nat) : Int) = 16 := by omega
    clear hk hz hL
    go_enter Try.func3, Try.ntmps3
    go_wp2_with fail
    refine HKN.out.mono ?_
    rintro e w1 ⟨rfl, hb⟩
    have HB := Lib.hid hb
    clear hb HKN
    go_wp2_with fail
    go_ret
    exact ⟨rfl, HB.out⟩
end Go.Proofs.Ytfmmokcniechcaa
