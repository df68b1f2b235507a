/-
  XxhStates: the law's walk, for every state and every string.
-/
import Derived.Test.YtgiihdgkejhbeaaR5E
import Derived.Test.YtgiihdgkejhbeaaParts
namespace Go.Proofs.Ytgiihdgkejhbeaa
open Go.ChangeShapes Go.WideShapes Go.ChangeAt Go.RowKit
set_option linter.unusedVariables false

theorem states_long (a b c d T : Int) (s : ByteArray) (e : Int) (t : ByteArray) (h : decide (60 < (s.size : Int)) = true ∨ (decide (60 < (s.size : Int)) = false ∧ decide (200 < (t.size : Int)) = true)) (w : World) :
    Calls Try.prog 4 #[.agg #[.int .u64 a, .int .u64 b, .int .u64 c, .int .u64 d, .int .i64 T, .string s, .int .u64 e], .string t] w fun r w' => r = .returned (.bool true) ∧ Below w.heap.size w w' := by
  rcases h with h | ⟨h, h'⟩
  all_goals
    go_enter Try.func4, Try.ntmps4
    go_wp2_with (go_at_call 8; (with_reducible refine (awake_any _).mono ?_); rintro x w1 ⟨rfl, hb1⟩)
    go_ret
    exact ⟨rfl, below_call (below_box (Below.refl _ _) _) hb1⟩

theorem three7 {w : World} {g h i : Nat} {t t2 t3 : TypeId} {v0 v1 v2 v3 v4 v5 v6 u0 u1 u2 u3 u4 u5 u6 x0 x1 x2 x3 x4 x5 x6 : Value} (k : Blk w g t #[v0, v1, v2, v3, v4, v5, v6]) (l : Blk w h t2 #[u0, u1, u2, u3, u4, u5, u6]) (m : Blk w i t3 #[x0, x1, x2, x3, x4, x5, x6]) :
    (w.cell? ⟨g, 0, none⟩ = some v0 ∧ w.cell? ⟨g, 1, none⟩ = some v1 ∧ w.cell? ⟨g, 2, none⟩ = some v2 ∧ w.cell? ⟨g, 3, none⟩ = some v3 ∧ w.cell? ⟨g, 4, none⟩ = some v4 ∧ w.cell? ⟨g, 5, none⟩ = some v5 ∧ w.cell? ⟨g, 6, none⟩ = some v6) ∧
    (w.cell? ⟨h, 0, none⟩ = some u0 ∧ w.cell? ⟨h, 1, none⟩ = some u1 ∧ w.cell? ⟨h, 2, none⟩ = some u2 ∧ w.cell? ⟨h, 3, none⟩ = some u3 ∧ w.cell? ⟨h, 4, none⟩ = some u4 ∧ w.cell? ⟨h, 5, none⟩ = some u5 ∧ w.cell? ⟨h, 6, none⟩ = some u6) ∧
    (w.cell? ⟨i, 0, none⟩ = some x0 ∧ w.cell? ⟨i, 1, none⟩ = some x1 ∧ w.cell? ⟨i, 2, none⟩ = some x2 ∧ w.cell? ⟨i, 3, none⟩ = some x3 ∧ w.cell? ⟨i, 4, none⟩ = some x4 ∧ w.cell? ⟨i, 5, none⟩ = some x5 ∧ w.cell? ⟨i, 6, none⟩ = some x6) := ⟨c7 k, c7 l, c7 m⟩

set_option maxRecDepth 100000 in
set_option maxHeartbeats 4000000 in
theorem states_law (a b c d T : Int) (s : ByteArray) (e : Int) (t : ByteArray) (R0 R1 R2 R3 R4 R6 F0 F1 F2 F3 F4 F6 k N M C : Int) (R5 F5 : ByteArray) (w : World)
    (h1 : decide (60 < (s.size : Int)) = false) (h2 : decide (200 < (t.size : Int)) = false)
    (h16 : ∀ u, Calls Try.prog 16 #[.agg #[.int .u64 a, .int .u64 b, .int .u64 c, .int .u64 d, .int .i64 T, .string s, .int .u64 e], .string t] u fun x w' => x = .returned (.tuple #[.agg #[.int .u64 R0, .int .u64 R1, .int .u64 R2, .int .u64 R3, .int .i64 R4, .string R5, .int .u64 R6], .int .i64 k]) ∧ Below u.heap.size u w')
    (h17 : ∀ u, Calls Try.prog 17 #[.agg #[.int .u64 a, .int .u64 b, .int .u64 c, .int .u64 d, .int .i64 T, .string s, .int .u64 e], .string t] u fun x w' => x = .returned (.tuple #[.agg #[.int .u64 R0, .int .u64 R1, .int .u64 R2, .int .u64 R3, .int .i64 R4, .string R5, .int .u64 R6], .int .i64 k]) ∧ Below u.heap.size u w')
    (h18 : ∀ u, Calls Try.prog 18 #[.agg #[.int .u64 a, .int .u64 b, .int .u64 c, .int .u64 d, .int .i64 T, .string s, .int .u64 e]] u fun x w' => x = .returned (.tuple #[.int .u64 N, .int .i64 M]) ∧ Below u.heap.size u w')
    (h19 : ∀ u, Calls Try.prog 19 #[.agg #[.int .u64 a, .int .u64 b, .int .u64 c, .int .u64 d, .int .i64 T, .string s, .int .u64 e]] u fun x w' => x = .returned (.tuple #[.int .u64 N, .int .i64 M]) ∧ Below u.heap.size u w')
    (h20 : ∀ u, Calls Try.prog 20 #[.agg #[.int .u64 a, .int .u64 b, .int .u64 c, .int .u64 d, .int .i64 T, .string s, .int .u64 e]] u fun x w' => x = .returned (.int .i64 C) ∧ Below u.heap.size u w')
    (h21 : ∀ u, Calls Try.prog 21 #[.agg #[.int .u64 a, .int .u64 b, .int .u64 c, .int .u64 d, .int .i64 T, .string s, .int .u64 e]] u fun x w' => x = .returned (.int .i64 C) ∧ Below u.heap.size u w')
    (h22 : ∀ u, Calls Try.prog 22 #[.int .u64 e] u fun x w' => x = .returned (.agg #[.int .u64 F0, .int .u64 F1, .int .u64 F2, .int .u64 F3, .int .i64 F4, .string F5, .int .u64 F6]) ∧ Below u.heap.size u w')
    (h23 : ∀ u, Calls Try.prog 23 #[.int .u64 e] u fun x w' => x = .returned (.agg #[.int .u64 F0, .int .u64 F1, .int .u64 F2, .int .u64 F3, .int .i64 F4, .string F5, .int .u64 F6]) ∧ Below u.heap.size u w') :
    Calls Try.prog 4 #[.agg #[.int .u64 a, .int .u64 b, .int .u64 c, .int .u64 d, .int .i64 T, .string s, .int .u64 e], .string t] w fun r w' => r = .returned (.bool true) ∧ Below w.heap.size w w' := by
  have hq1 := fun u => eq_arr9999 R0 R1 R2 R3 R0 R1 R2 R3 u
  have hq2 := fun u => eq_arr9999 F0 F1 F2 F3 F0 F1 F2 F3 u
  go_enter Try.func4, Try.ntmps4
  go_upto_region 3 with fail
  go_cut [2, 5, 6] from 13 to 82 (fun p p' y' wx => ∃ g g', p = .pointer (some ⟨g, 0, none⟩) ∧ p' = .pointer (some ⟨g', 0, none⟩) ∧ y' = .int .i64 k ∧ w.heap.size ≤ g ∧ Blk wx g 32 #[.int .u64 a, .int .u64 b, .int .u64 c, .int .u64 d, .int .i64 T, .string s, .int .u64 e] ∧ Blk wx g' 32 #[.int .u64 R0, .int .u64 R1, .int .u64 R2, .int .u64 R3, .int .i64 R4, .string R5, .int .u64 R6] ∧ Below w.heap.size w wx)
  case first =>
    go_wp2_with (go_at_call 16; (with_reducible refine (h16 _).mono ?_); rintro x w1 ⟨rfl, hb1⟩)
    go_meet
    exact ⟨_, _, rfl, rfl, rfl, Nat.le_refl _, blk_alloc (blk_next (blk_new _ 32 _) hb1) _, blk_new _ _ _, below_box (below_call (below_box (Below.refl _ _) _) hb1) _⟩
  case rest =>
    obtain ⟨g2, g5, rfl, rfl, rfl, hg2, k2, k5, hbw⟩ := hcut
    obtain ⟨c0, c1, c2, c3, c4, c5, c6⟩ := c7 k2
    go_upto_region 4 with fail
    go_cut [7, 8] from 13 to 82 (fun p' y' wx => ∃ g', p' = .pointer (some ⟨g', 0, none⟩) ∧ y' = .int .i64 k ∧ Blk wx g2 32 #[.int .u64 a, .int .u64 b, .int .u64 c, .int .u64 d, .int .i64 T, .string s, .int .u64 e] ∧ Blk wx g5 32 #[.int .u64 R0, .int .u64 R1, .int .u64 R2, .int .u64 R3, .int .i64 R4, .string R5, .int .u64 R6] ∧ Blk wx g' 32 #[.int .u64 R0, .int .u64 R1, .int .u64 R2, .int .u64 R3, .int .i64 R4, .string R5, .int .u64 R6] ∧ Below w.heap.size w wx)
    case first =>
      go_wp2_with (go_at_call 17; (with_reducible refine (h17 _).mono ?_); rintro x w1 ⟨rfl, hb1⟩)
      go_meet
      exact ⟨_, rfl, rfl, blk_alloc (blk_next k2 hb1) _, blk_alloc (blk_next k5 hb1) _, blk_new _ _ _, below_box (below_call hbw hb1) _⟩
    case rest =>
      clear c0 c1 c2 c3 c4 c5 c6 k2 k5 hbw
      obtain ⟨g7, rfl, rfl, k2, k5, k7, hbw⟩ := hcut
      obtain ⟨c0, c1, c2, c3, c4, c5, c6⟩ := c7 k2
      go_upto_region 7 with (first
        | (go_at_call 18; (with_reducible refine (h18 _).mono ?_); rintro x w2 ⟨rfl, hb2⟩; obtain ⟨d0, d1, d2, d3, d4, d5, d6⟩ := c7 (blk_next k2 hb2))
        | (go_at_call 19; (with_reducible refine (h19 _).mono ?_); rintro x w3 ⟨rfl, hb3⟩))
      have K2 := Lib.hid (blk_drew (blk_next (blk_next k2 hb2) hb3))
      have K5 := Lib.hid (blk_drew (blk_next (blk_next k5 hb2) hb3))
      have K7 := Lib.hid (blk_drew (blk_next (blk_next k7 hb2) hb3))
      have HB := Lib.hid (below_call (below_call hbw hb2) hb3)
      clear c0 c1 c2 c3 c4 c5 c6 d0 d1 d2 d3 d4 d5 d6 k2 k5 k7 hbw hb2 hb3
      go_region_held3 (fun w' => (w'.cell? ⟨g2, 0, none⟩ = some (.int .u64 a) ∧ w'.cell? ⟨g2, 1, none⟩ = some (.int .u64 b) ∧ w'.cell? ⟨g2, 2, none⟩ = some (.int .u64 c) ∧ w'.cell? ⟨g2, 3, none⟩ = some (.int .u64 d) ∧ w'.cell? ⟨g2, 4, none⟩ = some (.int .i64 T) ∧ w'.cell? ⟨g2, 5, none⟩ = some (.string s) ∧ w'.cell? ⟨g2, 6, none⟩ = some (.int .u64 e)) ∧
          (w'.cell? ⟨g5, 0, none⟩ = some (.int .u64 R0) ∧ w'.cell? ⟨g5, 1, none⟩ = some (.int .u64 R1) ∧ w'.cell? ⟨g5, 2, none⟩ = some (.int .u64 R2) ∧ w'.cell? ⟨g5, 3, none⟩ = some (.int .u64 R3) ∧ w'.cell? ⟨g5, 4, none⟩ = some (.int .i64 R4) ∧ w'.cell? ⟨g5, 5, none⟩ = some (.string R5) ∧ w'.cell? ⟨g5, 6, none⟩ = some (.int .u64 R6)) ∧
          (w'.cell? ⟨g7, 0, none⟩ = some (.int .u64 R0) ∧ w'.cell? ⟨g7, 1, none⟩ = some (.int .u64 R1) ∧ w'.cell? ⟨g7, 2, none⟩ = some (.int .u64 R2) ∧ w'.cell? ⟨g7, 3, none⟩ = some (.int .u64 R3) ∧ w'.cell? ⟨g7, 4, none⟩ = some (.int .i64 R4) ∧ w'.cell? ⟨g7, 5, none⟩ = some (.string R5) ∧ w'.cell? ⟨g7, 6, none⟩ = some (.int .u64 R6)))
        (first | (with_reducible exact three7 K2.out K5.out K7.out) | (with_reducible exact three7 a2 a5 a7) | (with_reducible exact three7 b2 b5 b7) | (with_reducible exact three7 e2 e5 e7) | (with_reducible exact three7 f2 f5 f7) | (with_reducible exact three7 p2 p5 p7))
        (first
          | (go_at_call 20; (with_reducible refine (h20 _).mono ?_); rintro z u1 ⟨rfl, hu1⟩; have a2 := blk_next K2.out hu1; have a5 := blk_next K5.out hu1; have a7 := blk_next K7.out hu1)
          | (go_at_call 21; (with_reducible refine (h21 _).mono ?_); rintro z u2 ⟨rfl, hu2⟩; have b2 := blk_next a2 hu2; have b5 := blk_next a5 hu2; have b7 := blk_next a7 hu2)
          | (go_at_call 22; (with_reducible refine (h22 _).mono ?_); rintro z u3 ⟨rfl, hu3⟩; have e2 := blk_next b2 hu3; have e5 := blk_next b5 hu3; have e7 := blk_next b7 hu3)
          | (go_at_call 23; (with_reducible refine (h23 _).mono ?_); rintro z u4 ⟨rfl, hu4⟩; have f2 := blk_next e2 hu4; have f5 := blk_next e5 hu4; have f7 := blk_next e7 hu4)
          | (go_at_call 8; (with_reducible refine (awake_any _).mono ?_); rintro z u5 ⟨rfl, hu5⟩; have p2 := blk_next f2 hu5; have p5 := blk_next f5 hu5; have p7 := blk_next f7 hu5))
      all_goals
        go_wp2_with fail
        go_ret
        exact ⟨rfl, below_call (below_call (below_call (below_call (below_call HB.out.drew hu1) hu2) hu3) hu4) hu5⟩

theorem adV_agg (a b c d T : Int) (s : ByteArray) (e : Int) (t : ByteArray) : ∃ (R0 R1 R2 R3 R4 R6 : Int) (R5 : ByteArray), adV a b c d T s e t = .agg #[.int .u64 R0, .int .u64 R1, .int .u64 R2, .int .u64 R3, .int .i64 R4, .string R5, .int .u64 R6] := by
  unfold adV
  split
  · split
    · exact ⟨_, _, _, _, _, _, _, rfl⟩
    · exact ⟨_, _, _, _, _, _, _, rfl⟩
  · exact ⟨_, _, _, _, _, _, _, rfl⟩
theorem states_any (a b c d T : Int) (s : ByteArray) (e : Int) (t : ByteArray) (w : World) :
    Calls Try.prog 4 #[.agg #[.int .u64 a, .int .u64 b, .int .u64 c, .int .u64 d, .int .i64 T, .string s, .int .u64 e], .string t] w fun r w' => r = .returned (.bool true) ∧ Below w.heap.size w w' := by
  by_cases h1 : 60 < s.size
  · exact states_long a b c d T s e t (.inl (decide_eq_true (by omega))) w
  · by_cases h2 : 200 < t.size
    · exact states_long a b c d T s e t (.inr ⟨decide_eq_false (by omega), decide_eq_true (by omega)⟩) w
    · obtain ⟨R0, R1, R2, R3, R4, R6, R5, hR⟩ := adV_agg a b c d T s e t
      have hA := fun u => oadd_any a b c d T s e t (by omega) u
      have hB := fun u => radd_any a b c d T s e t (by omega) u
      rw [hR] at hA hB
      exact states_law a b c d T s e t R0 R1 R2 R3 R4 R6 _ _ _ _ _ _ _ _ _ _ R5 _ w (decide_eq_false (by omega)) (decide_eq_false (by omega)) hA hB
        (fun u => osum_any a b c d T s e (by omega) u) (fun u => rsum_any a b c d T s e (by omega) u) (fun u => check_any a b c d T s e u) (fun u => rcheck_any a b c d T s e u) (fun u => new_any e u) (fun u => rnew_any e u)
end Go.Proofs.Ytgiihdgkejhbeaa
