/-
  CursorInner: the law's walk, for every string and all numbers.
-/
import Derived.Test.YtipigfngeiodlaaReads
import Derived.Test.YtipigfngeiodlaaModK
namespace Go.Proofs.Ytipigfngeiodlaa
open Go.ChangeShapes Go.WideShapes Go.ChangeAt Go.RowKit
set_option linter.unusedVariables false

theorem long8 (S : ByteArray) (x y z : Int) (w : World) (h1 : decide ((100 : Int) < (S.size : Int)) = true) :
    Calls Try.prog 8 #[.string S, .int .i64 x, .int .i64 y, .int .i64 z] w fun e w' => e = .returned (.bool true) ∧ Below w.heap.size w w' := by
  go_enter Try.func8, Try.ntmps8
  go_wp2_with (go_at_call 9; (with_reducible refine (awake_any _).mono ?_); rintro e w1 ⟨rfl, hb1⟩)
  go_ret
  exact ⟨rfl, hb1⟩

/-- reading within bounds -/
theorem good_bytes (S : ByteArray) (a z : Nat) (hS : S.size ≤ 9223372036854775807) (h : a + z ≤ S.size) (w : World) :
    Calls Try.prog 18 #[.agg #[.string S, .int .i64 (a : Int), .int .i64 0, .int .i64 0], .int .i64 (z : Int)] w fun r w' => r = .returned (.tuple #[.agg #[.string S, .int .i64 ((a + z : Nat) : Int), .int .i64 0, .int .i64 0], .string (S.extract a (a + z))]) ∧ Below w.heap.size w w' := by
  have h0 := obytes_any S a 0 0 z hS w
  obtain ⟨r1, r2, r3, r4⟩ := cr_right S a 0 0 ⟨by omega, by omega, by omega, by omega, by omega, by omega, fun _ => rfl⟩
  have hk : ybOk S a 0 z := ⟨rfl, by omega, by omega⟩
  unfold ybA ybE ybF ybT at h0
  rw [r1, r2, r3, r4, if_pos hk, if_pos rfl, if_pos rfl, if_neg (show ¬ (z : Int) < 0 by omega), if_neg (show ¬ (z : Int) < 0 by omega), if_neg (show ¬ (S.size : Int) - a < z by omega), if_neg (show ¬ (S.size : Int) - a < z by omega), if_pos hk,
    show (a : Int).toNat = a by omega, show ((a : Int) + z).toNat = a + z by omega, show (a : Int) + z = ((a + z : Nat) : Int) by omega] at h0
  exact h0
theorem short_bytes (S : ByteArray) (a z : Nat) (hS : S.size ≤ 9223372036854775807) (ha : a ≤ S.size) (h : S.size < a + z) (w : World) :
    Calls Try.prog 18 #[.agg #[.string S, .int .i64 (a : Int), .int .i64 0, .int .i64 0], .int .i64 (z : Int)] w fun r w' => r = .returned (.tuple #[.agg #[.string S, .int .i64 (a : Int), .int .i64 5, .int .i64 (S.size : Int)], .string ⟨#[]⟩]) ∧ Below w.heap.size w w' := by
  have h0 := obytes_any S a 0 0 z hS w
  obtain ⟨r1, r2, r3, r4⟩ := cr_right S a 0 0 ⟨by omega, by omega, by omega, by omega, by omega, by omega, fun _ => rfl⟩
  have hk : ¬ ybOk S a 0 z := by unfold ybOk; omega
  unfold ybA ybE ybF ybT at h0
  rw [r1, r2, r3, r4, if_neg hk, if_pos rfl, if_pos rfl, if_neg (show ¬ (z : Int) < 0 by omega), if_neg (show ¬ (z : Int) < 0 by omega), if_pos (show (S.size : Int) - a < z by omega), if_pos (show (S.size : Int) - a < z by omega), if_neg hk] at h0
  exact h0
theorem good_inner (S : ByteArray) (a z : Nat) (hS : S.size ≤ 9223372036854775807) (h : a + z ≤ S.size) (w : World) :
    Calls Try.prog 22 #[.agg #[.string S, .int .i64 (a : Int), .int .i64 0, .int .i64 0], .int .i64 (z : Int)] w fun r w' => r = .returned (.tuple #[.agg #[.string (S.extract 0 (a + z)), .int .i64 (a : Int), .int .i64 0, .int .i64 0], .agg #[.string S, .int .i64 ((a + z : Nat) : Int), .int .i64 0, .int .i64 0]]) ∧ Below w.heap.size w w' := by
  have h0 := oinner_any S a 0 0 z hS w
  obtain ⟨r1, r2, r3, r4⟩ := cr_right S a 0 0 ⟨by omega, by omega, by omega, by omega, by omega, by omega, fun _ => rfl⟩
  have hk : ybOk S a 0 z := ⟨rfl, by omega, by omega⟩
  have e1 : ybA S a 0 z = ((a + z : Nat) : Int) := by unfold ybA; rw [if_pos hk]; omega
  have e2 : ybE S a 0 z = 0 := by unfold ybE; rw [if_pos rfl, if_neg (by omega), if_neg (by omega)]
  have e3 : ybF S a 0 0 z = 0 := by unfold ybF; rw [if_pos rfl, if_neg (by omega), if_neg (by omega)]
  unfold iS iA iF at h0
  rw [r1, r2, r3, r4, e1, e2, e3, if_pos rfl, if_pos rfl, if_pos rfl, show (((a + z : Nat) : Int)).toNat = a + z by omega] at h0
  exact h0
theorem good_left (S : ByteArray) (a z : Nat) (hS : S.size ≤ 9223372036854775807) (h : a + z = S.size) (w : World) :
    Calls Try.prog 12 #[.agg #[.string S, .int .i64 (a : Int), .int .i64 0, .int .i64 0]] w fun r w' => r = .returned (.int .i64 (z : Int)) ∧ Below w.heap.size w w' := by
  have h0 := oleft_any S a 0 0 hS w
  obtain ⟨r1, r2, r3, r4⟩ := cr_right S a 0 0 ⟨by omega, by omega, by omega, by omega, by omega, by omega, fun _ => rfl⟩
  unfold ylX at h0
  rw [r1, r2, r3, if_pos rfl, show (S.size : Int) - a = z by omega] at h0
  exact h0

set_option maxRecDepth 100000 in
set_option maxHeartbeats 2000000 in
theorem inner_law (S T t u : ByteArray) (x y z : Int) (a n k : Nat) (a1 e1 f1 : Int) (w : World) (h1 : decide ((100 : Int) < (S.size : Int)) = false)
    (hx : x % ((S.size : Int) + 1) = a) (hy : y % ((S.size : Int) - a + 1) = n) (hz : z % ((n : Int) + 2) = k)
    (hx0 : -9223372036854775808 ≤ x) (hx1 : x ≤ 9223372036854775807) (hy0 : -9223372036854775808 ≤ y) (hy1 : y ≤ 9223372036854775807) (hz0 : -9223372036854775808 ≤ z) (hz1 : z ≤ 9223372036854775807)
    (hs : S.size ≤ 100) (ha : a ≤ S.size) (hn : a + n ≤ S.size) (hk : k ≤ n + 1)
    (h24 : ∀ v, Calls Try.prog 24 #[.string S, .int .i64 (a : Int)] v fun r w' => r = .returned (.agg #[.string S, .int .i64 (a : Int), .int .i64 0, .int .i64 0]) ∧ Below v.heap.size v w')
    (h22 : ∀ v, Calls Try.prog 22 #[.agg #[.string S, .int .i64 (a : Int), .int .i64 0, .int .i64 0], .int .i64 (n : Int)] v fun r w' => r = .returned (.tuple #[.agg #[.string T, .int .i64 (a : Int), .int .i64 0, .int .i64 0], .agg #[.string S, .int .i64 ((a + n : Nat) : Int), .int .i64 0, .int .i64 0]]) ∧ Below v.heap.size v w')
    (h18 : ∀ v, Calls Try.prog 18 #[.agg #[.string T, .int .i64 (a : Int), .int .i64 0, .int .i64 0], .int .i64 (k : Int)] v fun r w' => r = .returned (.tuple #[.agg #[.string T, .int .i64 a1, .int .i64 e1, .int .i64 f1], .string t]) ∧ Below v.heap.size v w')
    (b1 : Int) (b2 : Int) (b3 : Int)
    (h18' : ∀ v, Calls Try.prog 18 #[.agg #[.string S, .int .i64 (a : Int), .int .i64 0, .int .i64 0], .int .i64 (k : Int)] v fun r w' => r = .returned (.tuple #[.agg #[.string S, .int .i64 b1, .int .i64 b2, .int .i64 b3], .string u]) ∧ Below v.heap.size v w')
    (h12 : ∀ v, Calls Try.prog 12 #[.agg #[.string T, .int .i64 (a : Int), .int .i64 0, .int .i64 0]] v fun r w' => r = .returned (.int .i64 (n : Int)) ∧ Below v.heap.size v w')
    (hcase : (n < k ∧ e1 = 5 ∧ f1 = ((a + n : Nat) : Int) ∧ t = ⟨#[]⟩) ∨ (k ≤ n ∧ t = u ∧ a1 = b1 ∧ e1 = b2 ∧ f1 = b3)) :
    Calls Try.prog 8 #[.string S, .int .i64 x, .int .i64 y, .int .i64 z] w fun e w' => e = .returned (.bool true) ∧ Below w.heap.size w w' := by
  have hm1 := fun v => mod_any x ((S.size : Int) + 1) hx0 hx1 (by omega) (by omega) v
  have hm2 := fun v => mod_any y ((S.size : Int) - a + 1) hy0 hy1 (by omega) (by omega) v
  have hm3 := fun v => mod_any z ((n : Int) + 2) hz0 hz1 (by omega) (by omega) v
  rw [hx] at hm1
  rw [hy] at hm2
  rw [hz] at hm3
  have hmore : wrap64 ((a : Int) + n) = ((a + n : Nat) : Int) := by rw [IntWalk.wrap64_in _ ⟨by omega, by omega⟩]; omega
  clear hx hy hz hx0 hx1 hy0 hy1 hz0 hz1
  go_enter Try.func8, Try.ntmps8
  go_upto_region 6 with (go_at_call 30; first | ((with_reducible refine (hm1 _).mono ?_); rintro e w1 ⟨rfl, rfl⟩) | ((with_reducible refine (hm2 _).mono ?_); rintro e w1 ⟨rfl, rfl⟩) | ((with_reducible refine (hm3 _).mono ?_); rintro e w1 ⟨rfl, rfl⟩))
  go_cut [9] from 16 to 117 (fun p wx => ∃ g, p = .pointer (some ⟨g, 0, none⟩) ∧ Blk wx g 26 (at4 S a 0 0) ∧ Below w.heap.size w wx)
  case first =>
    go_wp2_with (go_at_call 24; (with_reducible refine (h24 _).mono ?_); rintro r w1 ⟨rfl, hb1⟩)
    go_meet
    exact ⟨_, rfl, blk_new _ _ _, below_box hb1 _⟩
  case rest =>
    obtain ⟨g9, rfl, k9, hbw⟩ := hcut
    have K9 := Lib.hid k9
    obtain ⟨⟨c0, c1, c2, c3⟩, _⟩ := blk4 k9
    clear k9
    go_upto_region 7 with fail
    go_cut [10, 11] from 16 to 117 (fun p q wx => ∃ g h, p = .pointer (some ⟨g, 0, none⟩) ∧ q = .pointer (some ⟨h, 0, none⟩) ∧ Blk wx g 26 (at4 T a 0 0) ∧ Blk wx h 26 (at4 S ((a + n : Nat) : Int) 0 0) ∧ Blk wx g9 26 (at4 S a 0 0) ∧ Below w.heap.size w wx)
    case first =>
      go_wp2_with (go_at_call 22; (with_reducible refine (h22 _).mono ?_); rintro r w1 ⟨rfl, hb1⟩)
      go_meet
      exact ⟨_, _, rfl, rfl, blk_alloc (blk_new _ _ _) _, blk_new2 _ _ _ _, blk_alloc (blk_alloc (blk_next K9.out hb1) _) _, below_box (below_box (below_call hbw hb1) _) _⟩
    case rest =>
      obtain ⟨g10, g11, rfl, rfl, k10, k11, k9, hbw⟩ := hcut
      have K9 := Lib.hid k9
      have K10 := Lib.hid k10
      have K11 := Lib.hid k11
      clear c0 c1 c2 c3
      obtain ⟨⟨c0, c1, c2, c3⟩, _⟩ := blk4 k10
      clear k9 k10 k11
      go_upto_region 8 with fail
      go_cut [12, 13] from 16 to 117 (fun p q wx => ∃ g, p = .pointer (some ⟨g, 0, none⟩) ∧ q = .string t ∧ Blk wx g 26 (at4 T a1 e1 f1) ∧ Blk wx g9 26 (at4 S a 0 0) ∧ Blk wx g10 26 (at4 T a 0 0) ∧ Blk wx g11 26 (at4 S ((a + n : Nat) : Int) 0 0) ∧ Below w.heap.size w wx)
      case first =>
        go_wp2_with (go_at_call 18; (with_reducible refine (h18 _).mono ?_); rintro r w1 ⟨rfl, hb1⟩)
        go_meet
        exact ⟨_, rfl, rfl, blk_new _ _ _, blk_alloc (blk_next K9.out hb1) _, blk_alloc (blk_next K10.out hb1) _, blk_alloc (blk_next K11.out hb1) _, below_box (below_call hbw hb1) _⟩
      case rest =>
        obtain ⟨g12, rfl, rfl, k12, k9, k10, k11, hbw⟩ := hcut
        have K10 := Lib.hid k10
        have K11 := Lib.hid k11
        have K12 := Lib.hid k12
        clear c0 c1 c2 c3
        obtain ⟨⟨c0, c1, c2, c3⟩, _⟩ := blk4 k9
        clear k9 k10 k11 k12
        go_upto_region 9 with fail
        go_cut [14, 15] from 16 to 117 (fun p q wx => ∃ g, p = .pointer (some ⟨g, 0, none⟩) ∧ q = .string u ∧ Blk wx g 26 (at4 S b1 b2 b3) ∧ Blk wx g10 26 (at4 T a 0 0) ∧ Blk wx g11 26 (at4 S ((a + n : Nat) : Int) 0 0) ∧ Blk wx g12 26 (at4 T a1 e1 f1) ∧ Below w.heap.size w wx)
        case first =>
          go_wp2_with (go_at_call 18; (with_reducible refine (h18' _).mono ?_); rintro r w1 ⟨rfl, hb1⟩)
          go_meet
          exact ⟨_, rfl, rfl, blk_new _ _ _, blk_alloc (blk_next K10.out hb1) _, blk_alloc (blk_next K11.out hb1) _, blk_alloc (blk_next K12.out hb1) _, below_box (below_call hbw hb1) _⟩
        case rest =>
          obtain ⟨g14, rfl, rfl, k14, k10, k11, k12, hbw⟩ := hcut
          have K12 := Lib.hid k12
          have K14 := Lib.hid k14
          clear c0 c1 c2 c3
          obtain ⟨⟨c0, c1, c2, c3⟩, _⟩ := blk4 k10
          obtain ⟨⟨d0, d1, d2, d3⟩, _⟩ := blk4 k11
          clear k10 k11 k12 k14
          rcases hcase with ⟨hlt, rfl, rfl, rfl⟩ | ⟨hle, rfl, rfl, rfl, rfl⟩
          · have hlt2 : (n : Int) < (k : Int) := by omega
            go_wp2_with (first
              | (go_at_call 12; (with_reducible refine (h12 _).mono ?_); rintro r w1 ⟨rfl, hb1⟩; obtain ⟨⟨u0, u1, u2, u3⟩, _⟩ := blk4 (blk_next K12.out hb1))
              | (go_at_call 9; (with_reducible refine (awake_any _).mono ?_); rintro r w2 ⟨rfl, hb2⟩))
            go_ret
            exact ⟨rfl, below_call (below_call hbw hb1) hb2⟩
          · have hle2 : (k : Int) ≤ (n : Int) := by omega
            go_wp2_with (first
              | (go_at_call 12; (with_reducible refine (h12 _).mono ?_); rintro r w1 ⟨rfl, hb1⟩; obtain ⟨⟨u0, u1, u2, u3⟩, _⟩ := blk4 (blk_next K12.out hb1); obtain ⟨⟨v0, v1, v2, v3⟩, _⟩ := blk4 (blk_next K14.out hb1))
              | (go_at_call 9; (with_reducible refine (awake_any _).mono ?_); rintro r w2 ⟨rfl, hb2⟩))
            go_ret
            exact ⟨rfl, below_call (below_call hbw hb1) hb2⟩

theorem extract_in (S : ByteArray) (m a b : Nat) (hb : b ≤ m) : (S.extract 0 m).extract a b = S.extract a b := by
  simp only [ByteArray.extract_extract]
  congr 1 <;> omega

theorem innerlaw_any (S : ByteArray) (x y z : Int) (hS : S.size ≤ 9223372036854775807) (hx0 : -9223372036854775808 ≤ x) (hx1 : x ≤ 9223372036854775807) (hy0 : -9223372036854775808 ≤ y) (hy1 : y ≤ 9223372036854775807) (hz0 : -9223372036854775808 ≤ z) (hz1 : z ≤ 9223372036854775807) (w : World) :
    Calls Try.prog 8 #[.string S, .int .i64 x, .int .i64 y, .int .i64 z] w fun e w' => e = .returned (.bool true) ∧ Below w.heap.size w w' := by
  by_cases h : 100 < S.size
  · exact long8 S x y z w (decide_eq_true (by omega))
  · have hxn := Int.emod_nonneg x (show (S.size : Int) + 1 ≠ 0 by omega)
    have hxl := Int.emod_lt_of_pos x (show 0 < (S.size : Int) + 1 by omega)
    obtain ⟨a, ha⟩ := Int.eq_ofNat_of_zero_le hxn
    have hyn := Int.emod_nonneg y (show (S.size : Int) - a + 1 ≠ 0 by omega)
    have hyl := Int.emod_lt_of_pos y (show 0 < (S.size : Int) - a + 1 by omega)
    obtain ⟨n, hn⟩ := Int.eq_ofNat_of_zero_le hyn
    have hzn := Int.emod_nonneg z (show (n : Int) + 2 ≠ 0 by omega)
    have hzl := Int.emod_lt_of_pos z (show 0 < (n : Int) + 2 by omega)
    obtain ⟨k, hk⟩ := Int.eq_ofNat_of_zero_le hzn
    have h1 : a ≤ S.size := by omega
    have h2 : a + n ≤ S.size := by omega
    have h3 : k ≤ n + 1 := by omega
    have hT : (S.extract 0 (a + n)).size = a + n := by rw [ByteArray.size_extract]; omega
    by_cases hc : n < k
    · have hb := fun v => obytes_any S a 0 0 k hS v
      exact inner_law S _ _ _ x y z a n k _ _ _ w (decide_eq_false (by omega)) ha hn hk hx0 hx1 hy0 hy1 hz0 hz1 (by omega) h1 h2 h3 (fun v => onew_ok S a hS (by omega) (by omega) v) (fun v => good_inner S a n hS h2 v)
        (fun v => short_bytes (S.extract 0 (a + n)) a k (by omega) (by omega) (by omega) v) _ _ _ (by obtain ⟨r1, r2, r3, r4⟩ := cr_right S a 0 0 ⟨by omega, by omega, by omega, by omega, by omega, by omega, fun _ => rfl⟩; rw [r1, r2, r3, r4] at hb; exact hb)
        (fun v => good_left (S.extract 0 (a + n)) a n (by omega) (by omega) v) (.inl ⟨hc, rfl, by rw [hT], rfl⟩)
    · exact inner_law S _ _ _ x y z a n k _ _ _ w (decide_eq_false (by omega)) ha hn hk hx0 hx1 hy0 hy1 hz0 hz1 (by omega) h1 h2 h3 (fun v => onew_ok S a hS (by omega) (by omega) v) (fun v => good_inner S a n hS h2 v)
        (fun v => good_bytes (S.extract 0 (a + n)) a k (by omega) (by omega) v) _ _ _ (fun v => good_bytes S a k hS (by omega) v)
        (fun v => good_left (S.extract 0 (a + n)) a n (by omega) (by omega) v) (.inr ⟨by omega, extract_in S (a + n) a (a + k) (by omega), rfl, rfl, rfl⟩)
end Go.Proofs.Ytipigfngeiodlaa
