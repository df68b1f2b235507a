/-
  BitsWrites: the law's walk, for every writer and all numbers.
-/
import Derived.Test.YtoaiaaecnmcnoaaKnown
import Derived.Test.YtoaiaaecnmcnoaaB2Align
namespace Go.Proofs.Ytoaiaaecnmcnoaa
open Go.ChangeShapes Go.WideShapes Go.ChangeAt Go.RowKit
set_option linter.unusedVariables false

theorem size_tests (m : Nat) : (60 < m → decide ((60 : Int) < (m : Int)) = true) ∧ (m ≤ 60 → decide ((60 : Int) < (m : Int)) = false) ∧ (m < 1048574 → decide ((m : Int) < 1048574) = true) ∧ (1048574 ≤ m → decide ((m : Int) < 1048574) = false) ∧
    (1048578 < m → decide ((1048578 : Int) < (m : Int)) = true) ∧ (m ≤ 1048578 → decide ((1048578 : Int) < (m : Int)) = false) := by
  refine ⟨fun h => ?_, fun h => ?_, fun h => ?_, fun h => ?_, fun h => ?_, fun h => ?_⟩
  · exact decide_eq_true (by omega)
  · exact decide_eq_false (by omega)
  · exact decide_eq_true (by omega)
  · exact decide_eq_false (by omega)
  · exact decide_eq_true (by omega)
  · exact decide_eq_false (by omega)

theorem writes_long1 (S : ByteArray) (P N n v : Int) (w : World) (h1 : decide ((60 : Int) < (S.size : Int)) = true) (h2 : decide ((S.size : Int) < 1048574) = true) :
    Calls Try.prog 3 #[.agg #[.string S, .int .i64 P, .int .i64 N], .int .i64 n, .int .i64 v] w fun e w' => e = .returned (.bool true) ∧ Below w.heap.size w w' := by
  go_enter Try.func3, Try.ntmps3
  go_wp2_with (go_at_call 8; (with_reducible refine (awake_any _).mono ?_); rintro e w1 ⟨rfl, hb1⟩)
  go_ret
  exact ⟨rfl, below_call (below_box (Below.refl _ _) _) hb1⟩

theorem writes_long2 (S : ByteArray) (P N n v : Int) (w : World) (h1 : decide ((60 : Int) < (S.size : Int)) = true) (h2 : decide ((S.size : Int) < 1048574) = false) (h3 : decide ((1048578 : Int) < (S.size : Int)) = true) :
    Calls Try.prog 3 #[.agg #[.string S, .int .i64 P, .int .i64 N], .int .i64 n, .int .i64 v] w fun e w' => e = .returned (.bool true) ∧ Below w.heap.size w w' := by
  go_enter Try.func3, Try.ntmps3
  go_wp2_with (go_at_call 8; (with_reducible refine (awake_any _).mono ?_); rintro e w1 ⟨rfl, hb1⟩)
  go_ret
  exact ⟨rfl, below_call (below_box (Below.refl _ _) _) hb1⟩

set_option maxRecDepth 100000 in
set_option maxHeartbeats 1000000 in
theorem writes_inner (S : ByteArray) (P N n v c : Int) (s s2 : ByteArray) (q r e q2 r2 e2 : Int) (w : World) (h : (decide ((60 : Int) < (S.size : Int)) = false) ∨ (decide ((60 : Int) < (S.size : Int)) = true ∧ decide ((S.size : Int) < 1048574) = false)) (h3 : decide ((1048578 : Int) < (S.size : Int)) = false)
    (hC : ∀ u, Calls Try.prog 9 #[.agg #[.string S, .int .i64 P, .int .i64 N]] u fun e w' => e = .returned (.int .i64 c) ∧ Below u.heap.size u w')
    (hC' : ∀ u, Calls Try.prog 10 #[.agg #[.string S, .int .i64 P, .int .i64 N]] u fun e w' => e = .returned (.int .i64 c) ∧ Below u.heap.size u w')
    (hP : ∀ u, Calls Try.prog 11 #[.agg #[.string S, .int .i64 P, .int .i64 N], .int .i64 n, .int .i64 v] u fun x w' => x = .returned (.tuple #[.agg #[.string s, .int .i64 q, .int .i64 r], .int .i64 e]) ∧ Below u.heap.size u w')
    (hP' : ∀ u, Calls Try.prog 12 #[.agg #[.string S, .int .i64 P, .int .i64 N], .int .i64 n, .int .i64 v] u fun x w' => x = .returned (.tuple #[.agg #[.string s, .int .i64 q, .int .i64 r], .int .i64 e]) ∧ Below u.heap.size u w')
    (hA : ∀ u, Calls Try.prog 13 #[.agg #[.string S, .int .i64 P, .int .i64 N]] u fun x w' => x = .returned (.tuple #[.agg #[.string s2, .int .i64 q2, .int .i64 r2], .int .i64 e2]) ∧ Below u.heap.size u w')
    (hA' : ∀ u, Calls Try.prog 14 #[.agg #[.string S, .int .i64 P, .int .i64 N]] u fun x w' => x = .returned (.tuple #[.agg #[.string s2, .int .i64 q2, .int .i64 r2], .int .i64 e2]) ∧ Below u.heap.size u w')
    (hD : ∀ u, Calls Try.prog 15 #[.agg #[.string S, .int .i64 P, .int .i64 N]] u fun x w' => x = .returned (.tuple #[.string s2, .int .i64 e2]) ∧ Below u.heap.size u w')
    (hD' : ∀ u, Calls Try.prog 16 #[.agg #[.string S, .int .i64 P, .int .i64 N]] u fun x w' => x = .returned (.tuple #[.string s2, .int .i64 e2]) ∧ Below u.heap.size u w') :
    Calls Try.prog 3 #[.agg #[.string S, .int .i64 P, .int .i64 N], .int .i64 n, .int .i64 v] w fun e w' => e = .returned (.bool true) ∧ Below w.heap.size w w' := by
  rcases h with h1 | ⟨h1, h2⟩
  all_goals
    go_enter Try.func3, Try.ntmps3
    go_wp2_with fail
    go_region_held3 (fun w' => w'.cell? ⟨w.heap.size, 0, none⟩ = some (.string S) ∧ w'.cell? ⟨w.heap.size, 1, none⟩ = some (.int .i64 P) ∧ w'.cell? ⟨w.heap.size, 2, none⟩ = some (.int .i64 N)) (first | exact (blk3 (blk_drew (blk_new w 23 (at3 S P N)))).1 | exact (blk3 k1).1 | exact (blk3 k2).1)
      (first
        | (go_at_call 9; (with_reducible refine (hC _).mono ?_); rintro e w1 ⟨rfl, hb1⟩; have k1 := blk_next (blk_drew (blk_new w 23 (at3 S P N))) hb1)
        | (go_at_call 10; (with_reducible refine (hC' _).mono ?_); rintro e w2 ⟨rfl, hb2⟩; have k2 := blk_next k1 hb2))
  all_goals
    obtain ⟨⟨p0, p1, p2⟩, _⟩ := blk3 k2
    go_wp2_with (first
      | (go_at_call 11; (with_reducible refine (hP _).mono ?_); rintro x w3 ⟨rfl, hb3⟩; have k2 := blk_next k2 hb3; obtain ⟨⟨p0, p1, p2⟩, _⟩ := blk3 k2; have l2 := blk_lt k2)
      | (go_at_call 12; (with_reducible refine (hP' _).mono ?_); rintro x w4 ⟨rfl, hb4⟩; have k3 := blk_next (blk_new w3 23 (at3 s q r)) hb4; have k2 := blk_next (blk_alloc k2 _) hb4; obtain ⟨⟨p0, p1, p2⟩, _⟩ := blk3 k2; have l2 := blk_lt k2; obtain ⟨⟨a0, a1, a2⟩, _⟩ := blk3 k3; have l3 := blk_lt k3)
      | (go_at_call 13; (with_reducible refine (hA _).mono ?_); rintro x w5 ⟨rfl, hb5⟩; have k4 := blk_next (blk_new w4 23 (at3 s q r)) hb5; have k3 := blk_next (blk_alloc k3 _) hb5; have k2 := blk_next (blk_alloc k2 _) hb5; obtain ⟨⟨a0, a1, a2⟩, f0, f1, f2⟩ := blk3 k3; have k4 := blk3_far k4 (h := w3.heap.size) (by omega) (.string s2) (.int .i64 q2) (.int .i64 r2); have k2 := blk3_far k2 (h := w3.heap.size) (by omega) (.string s2) (.int .i64 q2) (.int .i64 r2); have k3 := blk3_set (s' := s2) (p' := q2) (n' := r2) k3; obtain ⟨⟨p0, p1, p2⟩, _⟩ := blk3 k2)
      | (go_at_call 14; (with_reducible refine (hA' _).mono ?_); rintro x w6 ⟨rfl, hb6⟩; have k4 := blk_next k4 hb6; have k3 := blk_next k3 hb6; have k2 := blk_next k2 hb6; obtain ⟨_, g0, g1, g2⟩ := blk3 k4; obtain ⟨⟨b0, b1, b2⟩, _⟩ := blk3 k4; have k3 := blk3_far k3 (h := w4.heap.size) (by omega) (.string s2) (.int .i64 q2) (.int .i64 r2); have k2 := blk3_far k2 (h := w4.heap.size) (by omega) (.string s2) (.int .i64 q2) (.int .i64 r2); have k4 := blk3_set (s' := s2) (p' := q2) (n' := r2) k4; obtain ⟨⟨p0, p1, p2⟩, _⟩ := blk3 k2; obtain ⟨⟨c0, c1, c2⟩, _⟩ := blk3 k3; obtain ⟨⟨d0, d1, d2⟩, _⟩ := blk3 k4)
      | (go_at_call 15; (with_reducible refine (hD _).mono ?_); rintro x w7 ⟨rfl, hb7⟩; have k2 := blk_next k2 hb7; obtain ⟨⟨p0, p1, p2⟩, _⟩ := blk3 k2)
      | (go_at_call 16; (with_reducible refine (hD' _).mono ?_); rintro x w8 ⟨rfl, hb8⟩)
      | (go_at_call 8; (with_reducible refine (awake_any _).mono ?_); rintro x w9 ⟨rfl, hb9⟩))
    go_ret
    have b2 := below_call (below_call ((below_box (Below.refl w.heap.size w) _).drew) hb1) hb2
    have b5 := below_call (below_box (below_call (below_box (below_call b2 hb3) _) hb4) _) hb5
    have b7 := below_call (below3 (below_call (below3 b5 (by omega) _ _ _) hb6) (by omega) _ _ _) hb7
    exact ⟨rfl, below_call (below_call b7 hb8) hb9⟩

theorem writes_any (S : ByteArray) (P N n v : Int) (hS : S.size ≤ maxLen) (w : World) :
    Calls Try.prog 3 #[.agg #[.string S, .int .i64 P, .int .i64 N], .int .i64 n, .int .i64 v] w fun e w' => e = .returned (.bool true) ∧ Below w.heap.size w w' := by
  unfold maxLen at hS
  obtain ⟨t1, t2, t3, t4, t5, t6⟩ := size_tests S.size
  by_cases h1 : 60 < S.size
  · by_cases h2 : S.size < 1048574
    · exact writes_long1 S P N n v w (t1 h1) (t3 h2)
    · by_cases h3 : 1048578 < S.size
      · exact writes_long2 S P N n v w (t1 h1) (t4 (by omega)) (t5 h3)
      · exact writes_inner S P N n v _ _ _ _ _ _ _ _ _ w (.inr ⟨t1 h1, t4 (by omega)⟩) (t6 (by omega)) (ownCheck_any S P N hS) (check_any S P N hS) (ownPut_any S P N n v hS) (refPut_any S P N n v hS) (ownAlign_any S P N hS) (refAlign_any S P N hS) (ownDone_any S P N hS) (refDone_any S P N hS)
  · exact writes_inner S P N n v _ _ _ _ _ _ _ _ _ w (.inl (t2 (by omega))) (t6 (by omega)) (ownCheck_any S P N hS) (check_any S P N hS) (ownPut_any S P N n v hS) (refPut_any S P N n v hS) (ownAlign_any S P N hS) (refAlign_any S P N hS) (ownDone_any S P N hS) (refDone_any S P N hS)

end Go.Proofs.Ytoaiaaecnmcnoaa
