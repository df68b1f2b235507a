/-
  The laws of stage 8: DistBack and DistCuts.
-/
import Derived.Test.YtaohhijjalcbiaaL8B
namespace Go.Proofs.Ytaohhijjalcbiaa
open Go.ChangeShapes Go.WideShapes Go.ChangeAt Go.RowKit
set_option linter.unusedVariables false
set_option linter.unusedSimpArgs false

theorem chkD_ok {L : Nat} {ps : List Int} (h5 : 5 ≤ L) (h12 : L ≤ 12) (ok : okP (2 ^ L) ps) (h1 : 1 ≤ ps.length) (h2 : ps.length ≤ 256) : chkD L ps = 0 := by
  unfold chkD
  rw [if_neg (by omega), Int.toNat_natCast]
  have hf : flB (2 ^ L) ps = true := (flB_iff ps _).2 ⟨ok.1, ok.2.1⟩
  have hl : ps.getD (ps.length - 1) 0 ≠ 0 := by
    intro e
    rcases ok.2.2 with h | h
    · rw [h] at h1; simp at h1
    · apply h
      rw [List.getLast?_eq_getElem?]
      simp only [List.getD_eq_getElem?_getD] at e
      rw [List.getElem?_eq_getElem (by omega)] at e ⊢
      simpa using e
  rw [if_neg (fun hx => by
    rcases hx with x | x | x | x
    · omega
    · omega
    · exact hl x
    · rw [hf] at x; cases x)]
theorem dscR_ok {L : Nat} {ps : List Int} (h : chkD L ps = 0) : dscR L ps = dscS L ps ∧ dscN L ps = (totP (dsc L ps) : Nat) := by
  unfold dscR dscN
  rw [if_pos h, if_pos h, Int.toNat_natCast]
  exact ⟨rfl, rfl⟩
theorem read_lit (S : ByteArray) (hS : S.size ≤ 1048576) (w : World) : Calls Try.prog 24 #[.string S, .int .i64 0, .int .i64 12, .int .i64 256] w (RdLeft (rdOut S 0 12 256) w) := by
  have k := read_ok S hS 0 12 256 (Nat.zero_le _) (by omega) (by omega) (by omega) (by omega) w
  rw [extract_all] at k
  exact k

theorem size_pos (L : Nat) (ps : List Int) : 1 ≤ (dscS L ps).size := by
  rw [dscS_size]
  simp only [dsc, totP]
  omega
theorem size_le {L : Nat} {ps : List Int} (h12 : L ≤ 12) (ok : okP (2 ^ L) ps) (hl : ps.length ≤ 256) : (dscS L ps).size ≤ 1000 := by
  have := dsc_tot h12 ok
  rw [dscS_size]; omega
theorem mod_nat (cut : Int) (n : Nat) (h : 1 ≤ n) : ∃ m : Nat, cut % (n : Int) = (m : Int) ∧ m < n := by
  have a := Int.emod_nonneg cut (show (n : Int) ≠ 0 by omega)
  have b := Int.emod_lt_of_pos cut (show 0 < (n : Int) by omega)
  generalize cut % (n : Int) = x at *
  exact ⟨x.toNat, by omega, by omega⟩
theorem mod_of (cut : Int) (n m : Nat) (h0 : -9223372036854775808 ≤ cut) (h1 : cut ≤ 9223372036854775807) (hn : 1 ≤ n) (hn2 : n ≤ 1000) (h : cut % (n : Int) = (m : Int)) (u : World) :
    Calls Try.prog 27 #[.int .i64 cut, .int .i64 (n : Int)] u fun e w' => e = .returned (.int .i64 (m : Int)) ∧ u = w' := by
  have k := mod_any cut n h0 h1 (by omega) (by omega) u
  rw [h] at k
  exact k
theorem ext_le (S : ByteArray) (m : Nat) (h : S.size ≤ 1000) : (S.extract 0 m).size ≤ 1048576 := by simp; omega
theorem i2_size (w : World) (A B : Obj) : w.heap.size ≤ ((w.alloc A).alloc B).heap.size := by simp; omega
set_option maxHeartbeats 2000000 in
theorem back_any (A0 : Option Addr) (n0 cap0 : Nat) (xs : List Int) (more : ByteArray) (hmo : more.size ≤ maxLen) (w : World) (hl : xs.length = n0) (hn : n0 ≤ 9223372036854775807) (h : IntsAt w w.heap.size A0 xs) (hr : ∀ x ∈ xs, -9223372036854775808 ≤ x ∧ x ≤ 9223372036854775807) :
    Calls Try.prog 6 #[.slice A0 n0 cap0, .string more] w fun r w' => r = .returned (.bool true) ∧ Below w.heap.size w w' := by
  unfold maxLen at hmo
  by_cases h40 : 40 < more.size
  · go_enter Try.func6, Try.ntmps6
    go_wp2_with (go_at_call 9; (with_reducible refine (awake_c _).mono ?_); rintro e w1 ⟨rfl, hb1⟩)
    go_ret
    exact ⟨rfl, hb1⟩
  have hK := kitDist_c A0 n0 cap0 xs w hl hn h hr
  have HK := Lib.hid hK
  clear hK h hr hl
  unfold DistLeft at HK
  go_enter Try.func6, Try.ntmps6
  go_upto_region 4 with (go_at_call 26; (with_reducible refine HK.out.mono ?_); rintro e w1 ⟨L, ps, A, c, rfl, d1, d2, d3, d4, d5, d6, d7, d8⟩)
  have hchk := chkD_ok d1 (by omega) d3 d4 (by omega)
  obtain ⟨e1, e2⟩ := dscR_ok hchk
  have hout := back_out d1 (by omega) d3 (by omega) more
  have hsz := dscS_size L ps
  have htt := dsc_tot (L := L) (by omega) d3
  have hP : ∀ u, Below w1.heap.size w1 u → Prb u A ps.length ps := fun u hu => ⟨rfl, by omega, (d7.below hu).more hu.size⟩
  have hWr := fun u (hu : Below w1.heap.size w1 u) => write_c L A ps.length c ps d6 u (hP u hu)
  have hBi := fun u (hu : Below w1.heap.size w1 u) => bits_c L A ps.length c ps d6 u (hP u hu)
  rw [hchk, e1] at hWr
  rw [hchk, e2] at hBi
  have hRd := fun u => read_lit (dscS L ps ++ more) (by rw [ByteArray.size_append]; omega) u
  rw [hout] at hRd
  unfold RdLeft at hRd
  simp only at hRd
  have hn7 : (((totP (dsc L ps) : Nat) : Int) + 7) / 8 = ((dscS L ps).size : Int) := by rw [hsz]; omega
  have hS0 : (dscS L ps).size ≤ 1000 := by omega
  have ht0 : totP (dsc L ps) ≤ 8000 := by omega
  generalize dscS L ps = S at *
  generalize totP (dsc L ps) = t at *
  have HP := Lib.hid hP
  have HW := Lib.hid hWr
  have HBi := Lib.hid hBi
  have HRd := Lib.hid hRd
  have HD7 := Lib.hid d7
  have HD8 := Lib.hid d8
  have hcmp : ((S.size : Int) == ((t : Int) + 7) / 8) = true := by rw [hn7]; simp
  have hb0 := Lib.hid (bel_box (Below.refl w1.heap.size w1) (.cells #[.int .i64 (L : Int), .slice A ps.length c] 24))
  have kd := Lib.hid (blk_new w1 24 #[.int .i64 (L : Int), .slice A ps.length c])
  clear hchk e1 e2 hout hsz htt hP hWr hBi hRd d3 d7 d8 hn7 HK
  generalize w1.alloc (.cells #[.int .i64 (L : Int), .slice A ps.length c] 24) = W at *
  have y0 := blk_cell kd.out 0
  have y1 := blk_cell kd.out 1
  go_wp2_with (first
    | (go_at_call 17; (with_reducible refine (HW.out _ hb0.out).mono ?_); rintro e w2 ⟨rfl, hb2⟩; have kd2 := Lib.hid (blk_below kd.out hb2 (blk_lt kd.out)); have y0 := blk_cell kd2.out 0; have y1 := blk_cell kd2.out 1; have B2 := Lib.hid (bel_call hb0.out hb2); clear hb2)
    | (go_at_call 19; (with_reducible refine (HBi.out _ B2.out).mono ?_); rintro e w3 ⟨rfl, hb3⟩; have kd3 := Lib.hid (blk_below kd2.out hb3 (blk_lt kd2.out)); have B3 := Lib.hid (bel_call B2.out hb3); clear hb3)
    | (go_at_call 24; (with_reducible refine (HRd.out _).mono ?_); rintro e w4 ⟨A2, c2, rfl, i2, hc2, hb4⟩; have kd4 := Lib.hid (blk_alloc (blk_alloc (blk_below kd3.out hb4 (blk_lt kd3.out)) (.cells #[.int .i64 (L : Int), .slice A2 ps.length c2] 24)) (.cells #[.int .i64 0, .int .i64 0] 39)); have y0 := blk_cell kd4.out 0; have y1 := blk_cell kd4.out 1; have B4 := Lib.hid (bel_box (bel_box (bel_call B3.out hb4) (.cells #[.int .i64 (L : Int), .slice A2 ps.length c2] 24)) (.cells #[.int .i64 0, .int .i64 0] 39)); have I2 := Lib.hid (i2.below (bel_box (bel_box (Below.refl _ _) (.cells #[.int .i64 (L : Int), .slice A2 ps.length c2] 24)) (.cells #[.int .i64 0, .int .i64 0] 39))); clear hb4 i2)
    | (go_at_call 23; (with_reducible refine (sameDist_c _ _ _ _ _ _ _ _ _ (by omega) I2.out (HD7.out.below B4.out) (i2_size _ _ _) B4.out.size).mono ?_); rintro e w5 ⟨rfl, hb5⟩; have B5 := Lib.hid (bel_call B4.out hb5); clear hb5)
    | (go_at_call 9; (with_reducible refine (awake_c _).mono ?_); rintro e w6 ⟨rfl, hb6⟩))
  go_ret
  exact ⟨rfl, HD8.out.trans ((bel_call B5.out hb6).mono HD8.out.size)⟩

set_option maxHeartbeats 2000000 in
theorem cuts_any (A0 : Option Addr) (n0 cap0 : Nat) (xs : List Int) (cut : Int) (hc1 : -9223372036854775808 ≤ cut) (hc2 : cut ≤ 9223372036854775807) (w : World) (hl : xs.length = n0) (hn : n0 ≤ 9223372036854775807) (h : IntsAt w w.heap.size A0 xs) (hr : ∀ x ∈ xs, -9223372036854775808 ≤ x ∧ x ≤ 9223372036854775807) :
    Calls Try.prog 7 #[.slice A0 n0 cap0, .int .i64 cut] w fun r w' => r = .returned (.bool true) ∧ Below w.heap.size w w' := by
  have hK := kitDist_c A0 n0 cap0 xs w hl hn h hr
  have HK := Lib.hid hK
  clear hK h hr hl
  unfold DistLeft at HK
  go_enter Try.func7, Try.ntmps7
  go_wp2_with (first
    | (go_at_call 26; (with_reducible refine HK.out.mono ?_); rintro e w1 ⟨L, ps, A, c, rfl, d1, d2, d3, d4, d5, d6, d7, d8⟩; have hchk := chkD_ok d1 (by omega) d3 d4 (by omega); have hWr := write_c L A ps.length c ps d6 w1 ⟨rfl, by omega, d7⟩; rw [hchk, (dscR_ok hchk).1] at hWr)
    | (go_at_call 17; (with_reducible refine hWr.mono ?_); rintro e w2 ⟨rfl, hb2⟩; have hs1 := size_pos L ps; have hs2 := size_le (L := L) (by omega) d3 (by omega); have hcut := Lib.hid (fun m hm => cut_out d1 (by omega) d3 (by omega) m hm); have BW := Lib.hid (bel_call d8 hb2); clear hWr hchk d3 d7 d8 hb2; generalize dscS L ps = S at *; have hne : ((S.size : Int) == 0) = false := beq_eq_false_iff_ne.2 (by omega); obtain ⟨m, hm1, hm2⟩ := mod_nat cut S.size hs1; have hMod := Lib.hid (mod_of cut S.size m hc1 hc2 hs1 hs2 hm1); have hRd := fun u => read_lit (S.extract 0 m) (ext_le S m hs2) u; rw [hcut.out m hm2] at hRd; have HRD := Lib.hid hRd; clear hRd hm1 hcut)
    | (go_at_call 27; (with_reducible refine (hMod.out _).mono ?_); rintro e w3 ⟨rfl, rfl⟩)
    | (go_at_call 24; (with_reducible refine (HRD.out _).mono ?_); rintro e w4 ⟨A2, c2, rfl, i2, hc2', hb4⟩; have B4 := Lib.hid (bel_box (bel_box (bel_call BW.out hb4) (.cells #[.int .i64 0, .slice A2 0 c2] 24)) (.cells #[.int .i64 23, .int .i64 0] 39)); clear hb4 i2)
    | (go_at_call 9; (with_reducible refine (awake_c _).mono ?_); rintro e w6 ⟨rfl, hb6⟩))
  go_ret
  exact ⟨rfl, bel_call B4.out hb6⟩
end Go.Proofs.Ytaohhijjalcbiaa
