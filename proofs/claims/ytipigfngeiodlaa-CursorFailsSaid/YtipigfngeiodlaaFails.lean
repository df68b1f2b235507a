/-
  CursorFails: the law's walk, for every cursor, every error and all offsets.
-/
import Derived.Test.YtipigfngeiodlaaReads
namespace Go.Proofs.Ytipigfngeiodlaa
open Go.ChangeShapes Go.WideShapes Go.ChangeAt Go.RowKit
set_option linter.unusedVariables false

theorem long4 (S : ByteArray) (A E F x p : Int) (w : World) (h1 : decide ((300 : Int) < (S.size : Int)) = true) :
    Calls Try.prog 4 #[.agg #[.string S, .int .i64 A, .int .i64 E, .int .i64 F], .int .i64 x, .int .i64 p] w fun e w' => e = .returned (.bool true) ∧ Below w.heap.size w w' := by
  go_enter Try.func4, Try.ntmps4
  go_wp2_with (go_at_call 9; (with_reducible refine (awake_any _).mono ?_); rintro e w1 ⟨rfl, hb1⟩)
  go_ret
  exact ⟨rfl, below_call (below_box (Below.refl _ _) _) hb1⟩

set_option maxRecDepth 100000 in
set_option maxHeartbeats 2000000 in
theorem fails_inner (S s : ByteArray) (A E F x p P Q a e1 f1 e2 f2 : Int) (w : World) (h1 : decide ((300 : Int) < (S.size : Int)) = false)
    (h24 : ∀ u, Calls Try.prog 24 #[.string S, .int .i64 p] u fun r w' => r = .returned (.agg #[.string S, .int .i64 P, .int .i64 Q, .int .i64 0]) ∧ Below u.heap.size u w')
    (h25 : ∀ u, Calls Try.prog 25 #[.string S, .int .i64 p] u fun r w' => r = .returned (.agg #[.string S, .int .i64 P, .int .i64 Q, .int .i64 0]) ∧ Below u.heap.size u w')
    (h26 : ∀ u, Calls Try.prog 26 #[.agg #[.string S, .int .i64 A, .int .i64 E, .int .i64 F], .int .i64 x, .int .i64 p] u fun r w' => r = .returned (.agg #[.string s, .int .i64 a, .int .i64 e1, .int .i64 f1]) ∧ Below u.heap.size u w')
    (h27 : ∀ u, Calls Try.prog 27 #[.agg #[.string S, .int .i64 A, .int .i64 E, .int .i64 F], .int .i64 x, .int .i64 p] u fun r w' => r = .returned (.agg #[.string s, .int .i64 a, .int .i64 e1, .int .i64 f1]) ∧ Below u.heap.size u w')
    (h28 : ∀ u, Calls Try.prog 28 #[.agg #[.string S, .int .i64 A, .int .i64 E, .int .i64 F]] u fun r w' => r = .returned (.agg #[.int .i64 e2, .int .i64 f2]) ∧ Below u.heap.size u w')
    (h29 : ∀ u, Calls Try.prog 29 #[.agg #[.string S, .int .i64 A, .int .i64 E, .int .i64 F]] u fun r w' => r = .returned (.agg #[.int .i64 e2, .int .i64 f2]) ∧ Below u.heap.size u w') :
    Calls Try.prog 4 #[.agg #[.string S, .int .i64 A, .int .i64 E, .int .i64 F], .int .i64 x, .int .i64 p] w fun e w' => e = .returned (.bool true) ∧ Below w.heap.size w w' := by
  go_enter Try.func4, Try.ntmps4
  go_upto_region 3 with fail
  have k0 := Lib.hid (blk_drew (blk_new w 26 #[.string S, .int .i64 A, .int .i64 E, .int .i64 F]))
  go_region_held3 (fun w' => w'.cell? ⟨w.heap.size, 0, none⟩ = some (.string S) ∧ w'.cell? ⟨w.heap.size, 1, none⟩ = some (.int .i64 A) ∧ w'.cell? ⟨w.heap.size, 2, none⟩ = some (.int .i64 E) ∧ w'.cell? ⟨w.heap.size, 3, none⟩ = some (.int .i64 F))
      (first | (with_reducible exact c4 k0.out) | (with_reducible exact c4 k1) | (with_reducible exact c4 k2) | (with_reducible exact c4 k3) | (with_reducible exact c4 k4) | (with_reducible exact c4 k5) | (with_reducible exact c4 k6) | (with_reducible exact c4 k7))
      (first
        | (go_at_call 24; (with_reducible refine (h24 _).mono ?_); rintro r w1 ⟨rfl, hb1⟩; have k1 := blk_next k0.out hb1)
        | (go_at_call 25; (with_reducible refine (h25 _).mono ?_); rintro r w2 ⟨rfl, hb2⟩; have k2 := blk_next k1 hb2)
        | (go_at_call 26; (with_reducible refine (h26 _).mono ?_); rintro r w3 ⟨rfl, hb3⟩; have k3 := blk_next k2 hb3)
        | (go_at_call 27; (with_reducible refine (h27 _).mono ?_); rintro r w4 ⟨rfl, hb4⟩; have k4 := blk_next k3 hb4)
        | (go_at_call 28; (with_reducible refine (h28 _).mono ?_); rintro r w5 ⟨rfl, hb5⟩; have k5 := blk_next k4 hb5)
        | (go_at_call 29; (with_reducible refine (h29 _).mono ?_); rintro r w6 ⟨rfl, hb6⟩; have k6 := blk_next k5 hb6)
        | (go_at_call 9; (with_reducible refine (awake_any _).mono ?_); rintro r w7 ⟨rfl, hb7⟩; have k7 := blk_next k6 hb7))
  all_goals
    go_wp2_with fail
    go_ret
    exact ⟨rfl, below_call (below_call (below_call (below_call (below_call (below_call (below_call (below_box (Below.refl _ _) _).drew hb1) hb2) hb3) hb4) hb5) hb6) hb7⟩

theorem fails_any (S : ByteArray) (A E F x p : Int) (hS : S.size ≤ 9223372036854775807) (w : World) :
    Calls Try.prog 4 #[.agg #[.string S, .int .i64 A, .int .i64 E, .int .i64 F], .int .i64 x, .int .i64 p] w fun e w' => e = .returned (.bool true) ∧ Below w.heap.size w w' := by
  by_cases h : 300 < S.size
  · exact long4 S A E F x p w (decide_eq_true (by omega))
  · have h1 : decide ((300 : Int) < (S.size : Int)) = false := decide_eq_false (by omega)
    by_cases hp : p < 0 ∨ (S.size : Int) < p
    · exact fails_inner S _ A E F x p _ _ _ _ _ _ _ w h1 (fun u => onew_bad S p hS hp u) (fun u => cnew_bad S p hS hp u) (fun u => ofail_any S A E F x p hS u) (fun u => cfailR_any S A E F x p hS u) (fun u => oend_any S A E F hS u) (fun u => cend_any S A E F hS u)
    · exact fails_inner S _ A E F x p _ _ _ _ _ _ _ w h1 (fun u => onew_ok S p hS (by omega) (by omega) u) (fun u => cnew_ok S p hS (by omega) (by omega) u) (fun u => ofail_any S A E F x p hS u) (fun u => cfailR_any S A E F x p hS u) (fun u => oend_any S A E F hS u) (fun u => cend_any S A E F hS u)
end Go.Proofs.Ytipigfngeiodlaa
