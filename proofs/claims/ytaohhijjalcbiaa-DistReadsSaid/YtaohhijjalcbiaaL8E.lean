/-
  The laws of stage 8: DistReads.
-/
import Derived.Test.YtaohhijjalcbiaaR8T
import Derived.Test.YtaohhijjalcbiaaD8B
import Derived.Test.YtaohhijjalcbiaaL8A
namespace Go.Proofs.Ytaohhijjalcbiaa
open Go.ChangeShapes Go.WideShapes Go.ChangeAt Go.RowKit
set_option linter.unusedVariables false
set_option linter.unusedSimpArgs false

theorem bit_cut (S : ByteArray) (a m k : Nat) (ha : a ≤ m) (hm : m ≤ S.size) (h : k < 8 * (m - a)) : bitAt (S.extract a m) k = bitAt (S.extract a S.size) k := by
  have h1 : k / 8 < (S.extract a m).size := by simp; omega
  have h2 : k / 8 < (S.extract a S.size).size := by simp; omega
  unfold bitAt
  rw [dif_pos h1, dif_pos h2, ByteArray.getElem_extract, ByteArray.getElem_extract]
theorem rdR_cut {T T' : ByteArray} {sym : Nat} (h : ∀ k, k < 4800 → bitAt T' k = bitAt T k) (h1 : 4800 ≤ 8 * T.size) (h2 : 4800 ≤ 8 * T'.size) (hs : sym ≤ 256) (hn : 5 + numB T 0 4 ≤ 12) (l : List Int) (B : Nat) (hr : rdR T sym = some (l, B)) : rdR T' sym = some (l, B) := by
  have e : numB T' 0 4 = numB T 0 4 := numB_agree h 0 4 (by omega)
  unfold rdR at hr ⊢
  rw [e]
  obtain ⟨m, m1, m2, m3, m4, m5⟩ := rdL_in T sym 300 (2 ^ (5 + numB T 0 4)) [] 4 l B (two12 hn) (by simp) hr
  have m6 : m.length = l.length := by rw [m1]; simp
  exact rdL_agree (K := 4800) (fun k hk => (h k hk).symm) h2 300 _ [] 4 l B (two12 hn) (by simp) hr (by omega)
theorem rdOut_cut (S : ByteArray) (a m most sym : Nat) (hm : m = if a + 600 < S.size then a + 600 else S.size) (hmost : most ≤ 12) (hs : sym ≤ 256) : rdOut (S.extract a m) a most sym = rdOut (S.extract a S.size) a most sym := by
  by_cases c : a + 600 < S.size
  · rw [if_pos c] at hm
    have s1 : (S.extract a m).size = 600 := by simp; omega
    have s2 : (S.extract a S.size).size = S.size - a := by simp
    have hb : ∀ k, k < 4800 → bitAt (S.extract a m) k = bitAt (S.extract a S.size) k := fun k hk => bit_cut S a m k (by omega) (by omega) (by omega)
    have h1 : 4800 ≤ 8 * (S.extract a S.size).size := by omega
    have h2 : 4800 ≤ 8 * (S.extract a m).size := by omega
    generalize S.extract a S.size = T at *
    generalize S.extract a m = T' at *
    clear s1 s2 hm c
    have e : numB T' 0 4 = numB T 0 4 := numB_agree hb 0 4 (by omega)
    unfold rdOut
    rw [Int.toNat_natCast]
    unfold rdE
    rw [if_neg (show ¬ 8 * T'.size < 4 by omega), if_neg (show ¬ 8 * T.size < 4 by omega), e]
    by_cases c1 : (most : Int) < 5 + (numB T 0 4 : Nat)
    · rw [if_pos c1, if_pos c1]; rfl
    · have hn : 5 + numB T 0 4 ≤ 12 := by omega
      have er : rdR T' sym = rdR T sym := by
        cases hr : rdR T sym with
        | some q => exact rdR_cut hb h1 h2 hs hn q.1 q.2 hr
        | none =>
          cases hr' : rdR T' sym with
          | none => rfl
          | some q =>
            have := rdR_cut (fun k hk => (hb k hk).symm) h2 h1 hs (by omega) q.1 q.2 hr'
            rw [hr] at this; cases this
      rw [er]
  · rw [if_neg c] at hm
    rw [hm]

/-- both sides -/
theorem both_c (S : ByteArray) (hS : S.size ≤ 700) (at' most sym : Int) : ∃ o, o.2.1.length ≤ 1000000 ∧
    (∀ w, Calls Try.prog 24 #[.string S, .int .i64 at', .int .i64 most, .int .i64 sym] w (RdLeft o w)) ∧
    (∀ w, Calls Try.prog 25 #[.string S, .int .i64 at', .int .i64 most, .int .i64 sym] w (RdLeft o w)) := by
  by_cases h : at' < 0 ∨ (S.size : Int) < at' ∨ most < 5 ∨ 12 < most ∨ sym < 1 ∨ 256 < sym
  · exact ⟨_, by simp, fun w => range_c S (by omega) at' most sym h w, fun w => rrange_c S (by omega) at' most sym h w⟩
  · obtain ⟨a, rfl⟩ := Int.eq_ofNat_of_zero_le (show 0 ≤ at' by omega)
    obtain ⟨b, rfl⟩ := Int.eq_ofNat_of_zero_le (show 0 ≤ most by omega)
    obtain ⟨c, rfl⟩ := Int.eq_ofNat_of_zero_le (show 0 ≤ sym by omega)
    refine ⟨rdOut (S.extract a S.size) a b c, ?_, fun w => read_ok S (by omega) a b c (by omega) (by omega) (by omega) (by omega) (by omega) w, fun w => ?_⟩
    · unfold rdOut
      split
      · split
        · rename_i h0 _ l B e
          have e2 := e
          unfold rdR at e2
          rw [Int.toNat_natCast] at e2 h0
          have hn : 5 + numB (S.extract a S.size) 0 4 ≤ 12 := by
            unfold rdE at h0
            by_cases k1 : 8 * (S.extract a S.size).size < 4
            · rw [if_pos k1] at h0; omega
            · rw [if_neg k1] at h0
              by_cases k2 : (b : Int) < 5 + (numB (S.extract a S.size) 0 4 : Nat)
              · rw [if_pos k2] at h0; omega
              · omega
          obtain ⟨m, m1, m2, m3, m4, m5⟩ := rdL_in _ c 300 _ [] 4 _ _ (two12 hn) (by simp) e2
          show l.length ≤ 1000000
          omega
        · simp
      · simp
    · rw [← rdOut_cut S a (if a + 600 < S.size then a + 600 else S.size) b c rfl (by omega) (by omega)]
      exact rread_ok S (by omega) a _ b c (by split <;> split <;> omega) (by split <;> omega) (by split <;> omega) (by omega) (by omega) (by omega) (by omega) w

set_option maxHeartbeats 1000000 in
theorem reads_any (S : ByteArray) (at' most sym : Int) (hS : S.size ≤ maxLen) (w : World) :
    Calls Try.prog 4 #[.string S, .int .i64 at', .int .i64 most, .int .i64 sym] w fun r w' => r = .returned (.bool true) ∧ Below w.heap.size w w' := by
  by_cases hb : 700 < (S.size : Int)
  · go_enter Try.func4, Try.ntmps4
    go_wp2_with (go_at_call 9; (with_reducible refine (awake_c _).mono ?_); rintro e w6 ⟨rfl, hb6⟩)
    go_ret
    exact ⟨rfl, hb6⟩
  · obtain ⟨o, hlo, h1, h2⟩ := both_c S (by omega) at' most sym
    obtain ⟨o1, xs, o3, o4, o5⟩ := o
    unfold RdLeft at h1 h2
    simp only at h1 h2 hlo
    have H1 := Lib.hid h1
    have H2 := Lib.hid h2
    clear h1 h2
    go_enter Try.func4, Try.ntmps4
    go_upto_region 5 with (first
      | (go_at_call 24; (with_reducible refine (H1.out _).mono ?_); rintro e w1 ⟨A1, c1, rfl, i1, hc1, hb1⟩)
      | (go_at_call 25; (with_reducible refine (H2.out _).mono ?_); rintro e w2 ⟨A2, c2, rfl, i2, hc2, hb2⟩))
    have hz1 : w1.heap.size ≤ ((w1.alloc (.cells #[.int .i64 o1, .slice A1 xs.length c1] 24)).alloc (.cells #[.int .i64 o4, .int .i64 o5] 39)).heap.size := by simp; omega
    have hz2 := hb2.size
    have hsd := sameDist_c o1 A1 A2 c1 c2 w1.heap.size w2.heap.size xs ((w2.alloc (.cells #[.int .i64 o1, .slice A2 xs.length c2] 24)).alloc (.cells #[.int .i64 o4, .int .i64 o5] 39)) hlo
      (i1.below ((((((Below.refl w1.heap.size w1).alloc (Nat.le_refl _) _).alloc (by simp) _).trans (hb2.mono hz1)).alloc (by omega) _).alloc (by simp; omega) _)) (i2.below (((Below.refl w2.heap.size w2).alloc (Nat.le_refl _) _).alloc (by simp) _)) (by simp; omega) (by simp; omega)
    have HB := Lib.hid (bel_box (bel_box (bel_call (bel_box (bel_box (bel_call (Below.refl w.heap.size w) hb1) (.cells #[.int .i64 o1, .slice A1 xs.length c1] 24)) (.cells #[.int .i64 o4, .int .i64 o5] 39)) hb2) (.cells #[.int .i64 o1, .slice A2 xs.length c2] 24)) (.cells #[.int .i64 o4, .int .i64 o5] 39))
    have k9 := blk_alloc (blk_new w1 24 #[.int .i64 o1, .slice A1 xs.length c1]) (.cells #[.int .i64 o4, .int .i64 o5] 39)
    have k11 := blk_new2 w1 (.cells #[.int .i64 o1, .slice A1 xs.length c1] 24) 39 #[.int .i64 o4, .int .i64 o5]
    have k9' := blk_alloc (blk_alloc (blk_below k9 hb2 (blk_lt k9)) (.cells #[.int .i64 o1, .slice A2 xs.length c2] 24)) (.cells #[.int .i64 o4, .int .i64 o5] 39)
    have k11' := blk_alloc (blk_alloc (blk_below k11 hb2 (blk_lt k11)) (.cells #[.int .i64 o1, .slice A2 xs.length c2] 24)) (.cells #[.int .i64 o4, .int .i64 o5] 39)
    have k12 := blk_alloc (blk_new w2 24 #[.int .i64 o1, .slice A2 xs.length c2]) (.cells #[.int .i64 o4, .int .i64 o5] 39)
    have k14 := blk_new2 w2 (.cells #[.int .i64 o1, .slice A2 xs.length c2] 24) 39 #[.int .i64 o4, .int .i64 o5]
    have y90 := blk_cell k9' 0
    have y91 := blk_cell k9' 1
    have y120 := blk_cell k12 0
    have y121 := blk_cell k12 1
    have K11 := Lib.hid k11'
    have K14 := Lib.hid k14
    have HSD := Lib.hid hsd
    clear hsd k9 k11 k9' k11' k12 k14 i1 i2 hb1 hb2 hz1 hz2 H1 H2
    generalize (w2.alloc (.cells #[.int .i64 o1, .slice A2 xs.length c2] 24)).alloc (.cells #[.int .i64 o4, .int .i64 o5] 39) = U at *
    generalize w1.heap.size = p1 at *
    generalize w2.heap.size = p2 at *
    go_wp2_with (first
      | (go_at_call 23; (with_reducible refine HSD.out.mono ?_); rintro e w3 ⟨rfl, hb3⟩; have k11 := blk_below K11.out hb3 (blk_lt K11.out); have k14 := blk_below K14.out hb3 (blk_lt K14.out); have x110 := blk_cell k11 0; have x111 := blk_cell k11 1; have x140 := blk_cell k14 0; have x141 := blk_cell k14 1; clear k11 k14)
      | (go_at_call 9; (with_reducible refine (awake_c _).mono ?_); rintro e w6 ⟨rfl, hb6⟩))
    go_ret
    exact ⟨rfl, bel_call (bel_call HB.out hb3) hb6⟩
end Go.Proofs.Ytaohhijjalcbiaa
