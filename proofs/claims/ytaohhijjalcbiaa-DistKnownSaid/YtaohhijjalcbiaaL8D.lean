/-
  The laws of stage 8: DistKnown.
-/
import Derived.Test.YtaohhijjalcbiaaL8A
import Derived.Deep.CutRange
namespace Go.Proofs.Ytaohhijjalcbiaa
open Go.ChangeShapes Go.WideShapes Go.ChangeAt Go.RowKit
set_option linter.unusedVariables false
set_option linter.unusedSimpArgs false

theorem pre3_c (w : World) : Calls Try.prog 21 #[.int .i64 3] w fun e w' => e = .returned (.tuple #[.agg #[.int .i64 0, .slice none 0 0], .int .i64 11]) ∧ Below w.heap.size w w' := by
  go_enter Try.func21, Try.ntmps21
  go_wp2
  refine bodyPost_ret (v := .tuple #[.agg #[.int .i64 0, .slice none 0 0], .int .i64 11]) (by simp [results, Try.results21, go_sem]) rfl ⟨rfl, bel_box (bel_box (Below.refl _ _) _) _⟩
theorem lit_n : dscN 5 [16, 16] = 14 := by kernel_rfl
theorem lit_c1 : chkD 5 [32, 0] = 23 := by kernel_rfl
theorem lit_c2 : chkD 5 [31] = 23 := by kernel_rfl
theorem lit_c3 : chkD 5 [-2, 34] = 23 := by kernel_rfl
theorem lit_r1 : rdOut ⟨#[16, 63]⟩ 0 9 9 = (5, [16, 16], 2, 0, 0) := by kernel_rfl
theorem lit_r2 : rdOut ⟨#[]⟩ 0 9 9 = (0, [], 0, 23, 0) := by kernel_rfl
theorem lit_r3 : rdOut ⟨#[15]⟩ 0 9 9 = (0, [], 0, 31, 0) := by kernel_rfl
theorem rd99 (S : ByteArray) (hS : S.size ≤ 1048576) (o : Int × List Int × Int × Int × Int) (ho : rdOut S 0 9 9 = o) (w : World) : Calls Try.prog 24 #[.string S, .int .i64 0, .int .i64 9, .int .i64 9] w (RdLeft o w) := by
  subst ho
  have k := read_ok S hS 0 9 9 (Nat.zero_le _) (by omega) (by omega) (by omega) (by omega) w
  have e : S.extract 0 S.size = S := by simp
  rw [e] at k
  exact k
theorem chk_lit (u : World) (T : TypeId) (l : Int) (xs : List Int) (n : Nat) (c : Int) (hn : xs.length = n) (hl : n ≤ 1000000) (hc : chkD l xs = c) : Calls Try.prog 11 #[.agg #[.int .i64 l, .slice (some ⟨u.heap.size, 0, none⟩) n n]] (u.alloc (.cells (tabD xs) T)) fun e w' => e = .returned (.int .i64 c) ∧ Below (u.alloc (.cells (tabD xs) T)).heap.size (u.alloc (.cells (tabD xs) T)) w' := by
  have k := check_c l (some ⟨u.heap.size, 0, none⟩) n n xs _ (prb_lit u T xs n hn hl)
  rw [hc] at k
  exact k

set_option maxHeartbeats 4000000 in
set_option maxRecDepth 100000 in
theorem known_any (w : World) : Calls Try.prog 5 #[] w fun r w' => r = .returned (.bool true) ∧ Below w.heap.size w w' := by
  have hBits : ∀ u : World, Calls Try.prog 19 #[.agg #[.int .i64 5, .slice (some ⟨u.heap.size, 0, none⟩) 2 2]] (u.alloc (.cells #[.int .i64 16, .int .i64 16] 3)) fun e w' => e = .returned (.tuple #[.int .i64 14, .int .i64 0]) ∧ Below (u.alloc (.cells #[.int .i64 16, .int .i64 16] 3)).heap.size (u.alloc (.cells #[.int .i64 16, .int .i64 16] 3)) w' := fun u => by
    have k := bits_c 5 (some ⟨u.heap.size, 0, none⟩) 2 2 [16, 16] (Nat.le_refl _) _ (prb_lit u 3 [16, 16] 2 rfl (by decide))
    rw [lit_n, lit_chk] at k
    exact k
  have hR1 := fun u => rd99 ⟨#[16, 63]⟩ (by decide) _ lit_r1 u
  have hR2 := fun u => rd99 ⟨#[]⟩ (by decide) _ lit_r2 u
  have hR3 := fun u => rd99 ⟨#[15]⟩ (by decide) _ lit_r3 u
  have hR4 := fun u => range_c ⟨#[0, 0]⟩ (by decide) 1 4 9 (.inr (.inr (.inl (by omega)))) u
  have hC1 : ∀ u : World, Calls Try.prog 11 #[.agg #[.int .i64 5, .slice (some ⟨u.heap.size, 0, none⟩) 2 2]] (u.alloc (.cells #[.int .i64 32, .int .i64 0] 3)) fun e w' => e = .returned (.int .i64 23) ∧ Below (u.alloc (.cells #[.int .i64 32, .int .i64 0] 3)).heap.size (u.alloc (.cells #[.int .i64 32, .int .i64 0] 3)) w' := fun u : World => chk_lit u 3 5 [32, 0] 2 23 rfl (by decide) lit_c1
  have hC2 : ∀ u : World, Calls Try.prog 11 #[.agg #[.int .i64 5, .slice (some ⟨u.heap.size, 0, none⟩) 1 1]] (u.alloc (.cells #[.int .i64 31] 3)) fun e w' => e = .returned (.int .i64 23) ∧ Below (u.alloc (.cells #[.int .i64 31] 3)).heap.size (u.alloc (.cells #[.int .i64 31] 3)) w' := fun u : World => chk_lit u 3 5 [31] 1 23 rfl (by decide) lit_c2
  have hC3 : ∀ u : World, Calls Try.prog 11 #[.agg #[.int .i64 5, .slice (some ⟨u.heap.size, 0, none⟩) 2 2]] (u.alloc (.cells #[.int .i64 (-2), .int .i64 34] 3)) fun e w' => e = .returned (.int .i64 23) ∧ Below (u.alloc (.cells #[.int .i64 (-2), .int .i64 34] 3)).heap.size (u.alloc (.cells #[.int .i64 (-2), .int .i64 34] 3)) w' := fun u : World => chk_lit u 3 5 [-2, 34] 2 23 rfl (by decide) lit_c3
  have hSz := fun u => size_c 6 none 0 0 u
  rw [show sizeD 6 = 64 from rfl] at hSz
  unfold RdLeft at hR1 hR2 hR3 hR4
  simp only [List.length_cons, List.length_nil, Nat.zero_add, Nat.reduceAdd] at hR1 hR2 hR3 hR4
  have HBits := Lib.hid hBits
  have HR1 := Lib.hid hR1
  have HR2 := Lib.hid hR2
  have HR3 := Lib.hid hR3
  have HR4 := Lib.hid hR4
  have HC1 := Lib.hid hC1
  have HC2 := Lib.hid hC2
  have HC3 := Lib.hid hC3
  have HSz := Lib.hid hSz
  clear hBits hR1 hR2 hR3 hR4 hC1 hC2 hC3 hSz
  go_enter Try.func5, Try.ntmps5
  go_upto_region 3 with (first
    | (go_at_call 19; (with_reducible refine (HBits.out _).mono ?_); rintro e w1 ⟨rfl, hb1⟩)
    | (go_at_call 24; (with_reducible refine (HR1.out _).mono ?_); rintro e w2 ⟨A2, c2, rfl, i2, hc2, hb2⟩))
  have B2 := Lib.hid (bel_box (bel_box (bel_call (bel_call (bel_box (Below.refl _ _) _) hb1) hb2) (.cells #[.int .i64 5, .slice A2 2 c2] 24)) (.cells #[.int .i64 0, .int .i64 0] 39))
  have kd := blk_alloc (blk_new w2 24 #[.int .i64 5, .slice A2 2 c2]) (.cells #[.int .i64 0, .int .i64 0] 39)
  have k5 := Lib.hid (blk_new2 w2 (.cells #[.int .i64 5, .slice A2 2 c2] 24) 39 #[.int .i64 0, .int .i64 0])
  have I2 := Lib.hid (i2.below (bel_box (bel_box (Below.refl _ _) (.cells #[.int .i64 5, .slice A2 2 c2] 24)) (.cells #[.int .i64 0, .int .i64 0] 39)))
  have hsz2 := Lib.hid (show w2.heap.size ≤ ((w2.alloc (.cells #[.int .i64 5, .slice A2 2 c2] 24)).alloc (.cells #[.int .i64 0, .int .i64 0] 39)).heap.size by simp; omega)
  have hq2 : w.heap.size ≤ w2.heap.size + 1 := Nat.le_trans (bel_call (bel_call (bel_box (Below.refl w.heap.size w) _) hb1) hb2).size (Nat.le_succ _)
  clear hb1 hb2 i2
  generalize (w2.alloc (.cells #[.int .i64 5, .slice A2 2 c2] 24)).alloc (.cells #[.int .i64 0, .int .i64 0] 39) = W2 at *
  generalize w2.heap.size = q2 at *
  have y0 := blk_cell kd 0
  have y1 := blk_cell kd 1
  clear kd
  have hS : Calls Try.prog 23 #[.agg #[.int .i64 5, .slice A2 2 c2], .agg #[.int .i64 5, .slice (some ⟨W2.heap.size, 0, none⟩) 2 2]] (W2.alloc (.cells #[.int .i64 16, .int .i64 16] 3)) fun e w' => e = .returned (.bool true) ∧ Below (W2.alloc (.cells #[.int .i64 16, .int .i64 16] 3)).heap.size (W2.alloc (.cells #[.int .i64 16, .int .i64 16] 3)) w' :=
    sameDist_c 5 A2 (some ⟨W2.heap.size, 0, none⟩) c2 2 q2 (W2.alloc (.cells #[.int .i64 16, .int .i64 16] 3)).heap.size [16, 16] _ (by decide) (I2.out.below ((Below.refl _ _).alloc hsz2.out _)) (prb_lit W2 3 [16, 16] 2 rfl (by decide)).2.2 (Nat.le_trans hsz2.out (by simp)) (Nat.le_refl _)
  have HS := Lib.hid hS
  clear hS
  go_upto_region 5 with (go_at_call 23; (with_reducible refine HS.out.mono ?_); rintro e w3 ⟨rfl, hb3⟩; have k6 := Lib.hid (blk_below (blk_alloc k5.out (.cells #[.int .i64 16, .int .i64 16] 3)) hb3 (blk_lt (blk_alloc k5.out _))); have z0 := blk_cell k6.out 0; have z1 := blk_cell k6.out 1; have B3 := Lib.hid (bel_call (bel_box B2.out _) hb3); clear hb3)
  clear y0 y1 I2 hsz2 HS B2 k5
  go_upto_region 7 with (first
    | (go_at_call 11; (with_reducible refine (HC1.out _).mono ?_); rintro e w4 ⟨rfl, hb4⟩; have k7 := Lib.hid (blk_below (blk_alloc k6.out _) hb4 (blk_lt (blk_alloc k6.out _))); have B4 := Lib.hid (bel_call (bel_box B3.out _) hb4); clear hb4)
    | (go_at_call 11; (with_reducible refine (HC2.out _).mono ?_); rintro e w5 ⟨rfl, hb5⟩; have k8 := Lib.hid (blk_below (blk_alloc k7.out _) hb5 (blk_lt (blk_alloc k7.out _))); have B5 := Lib.hid (bel_call (bel_box B4.out _) hb5); clear hb5)
    | (go_at_call 11; (with_reducible refine (HC3.out _).mono ?_); rintro e w6 ⟨rfl, hb6⟩; have k9 := Lib.hid (blk_below (blk_alloc k8.out _) hb6 (blk_lt (blk_alloc k8.out _))); have B6 := Lib.hid (bel_call (bel_box B5.out _) hb6); clear hb6))
  clear z0 z1 k6 k7 k8 B3 B4 B5
  go_upto_region 8 with (go_at_call 24; (with_reducible refine (HR2.out _).mono ?_); rintro e w7 ⟨A7, c7, rfl, i7, hc7, hb7⟩; have k10 := Lib.hid (blk_below k9.out hb7 (blk_lt k9.out)); have z0 := blk_cell k10.out 0; have z1 := blk_cell k10.out 1; have f0 := blk_frozen k10.out 0; have f1 := blk_frozen k10.out 1; have B7 := Lib.hid (bel_call B6.out hb7); clear hb7 i7)
  have k11 := Lib.hid (blk_set (blk_set k10.out 0 (.int .i64 23)) 1 (.int .i64 0))
  have B8 := Lib.hid ((B7.out.setCell (p := ⟨q2 + 1, 0, none⟩) hq2 (.int .i64 23)).setCell (p := ⟨q2 + 1, 1, none⟩) hq2 (.int .i64 0))
  clear z0 z1 f0 f1 k10 B7 k9 B6
  generalize (w7.setCell ⟨q2 + 1, 0, none⟩ (.int .i64 23)).setCell ⟨q2 + 1, 1, none⟩ (.int .i64 0) = W8 at *
  go_upto_region 9 with (go_at_call 24; (with_reducible refine (HR3.out _).mono ?_); rintro e w9 ⟨A9, c9, rfl, i9, hc9, hb9⟩)
  have k12 := Lib.hid (blk_alloc (blk_alloc (blk_below k11.out hb9 (blk_lt k11.out)) (.cells #[.int .i64 0, .slice A9 0 c9] 24)) (.cells #[.int .i64 31, .int .i64 0] 39))
  have m12 := Lib.hid (blk_new2 w9 (.cells #[.int .i64 0, .slice A9 0 c9] 24) 39 #[.int .i64 31, .int .i64 0])
  have B9 := Lib.hid (bel_box (bel_box (bel_call B8.out hb9) (.cells #[.int .i64 0, .slice A9 0 c9] 24)) (.cells #[.int .i64 31, .int .i64 0] 39))
  clear hb9 i9 k11 B8
  generalize (w9.alloc (.cells #[.int .i64 0, .slice A9 0 c9] 24)).alloc (.cells #[.int .i64 31, .int .i64 0] 39) = W9 at *
  generalize w9.heap.size = q9 at *
  go_upto_region 10 with (go_at_call 24; (with_reducible refine (HR4.out _).mono ?_); rintro e w10 ⟨A10, c10, rfl, i10, hc10, hb10⟩)
  have k13 := Lib.hid (blk_alloc (blk_alloc (blk_below k12.out hb10 (blk_lt k12.out)) (.cells #[.int .i64 0, .slice A10 0 c10] 24)) (.cells #[.int .i64 2, .int .i64 0] 39))
  have m13 := Lib.hid (blk_alloc (blk_alloc (blk_below m12.out hb10 (blk_lt m12.out)) (.cells #[.int .i64 0, .slice A10 0 c10] 24)) (.cells #[.int .i64 2, .int .i64 0] 39))
  have n13 := Lib.hid (blk_new2 w10 (.cells #[.int .i64 0, .slice A10 0 c10] 24) 39 #[.int .i64 2, .int .i64 0])
  have B10 := Lib.hid (bel_box (bel_box (bel_call B9.out hb10) (.cells #[.int .i64 0, .slice A10 0 c10] 24)) (.cells #[.int .i64 2, .int .i64 0] 39))
  clear hb10 i10 k12 m12 B9
  generalize (w10.alloc (.cells #[.int .i64 0, .slice A10 0 c10] 24)).alloc (.cells #[.int .i64 2, .int .i64 0] 39) = W10 at *
  generalize w10.heap.size = q10 at *
  go_wp2_with (first
    | (go_at_call 21; (with_reducible refine (pre3_c _).mono ?_); rintro e w11 ⟨rfl, hb11⟩; have k14 := blk_below k13.out hb11 (blk_lt k13.out); have m14 := blk_below m13.out hb11 (blk_lt m13.out); have n14 := blk_below n13.out hb11 (blk_lt n13.out); have x0 := blk_cell k14 0; have x1 := blk_cell k14 1; have x2 := blk_cell m14 0; have x3 := blk_cell m14 1; have x4 := blk_cell n14 0; have x5 := blk_cell n14 1; have B11 := Lib.hid (bel_call B10.out hb11); clear hb11 k14 m14 n14)
    | (go_at_call 13; (with_reducible refine (HSz.out _).mono ?_); rintro e w12 ⟨rfl, hb12⟩)
    | (go_at_call 9; (with_reducible refine (awake_c _).mono ?_); rintro e w13 ⟨rfl, hb13⟩))
  go_ret
  exact ⟨rfl, bel_call (bel_call B11.out hb12) hb13⟩
end Go.Proofs.Ytaohhijjalcbiaa
