/-
  The chapter's examples in awake.
-/
import Derived.Test.YtipigfngeiodlaaO4I
namespace Go.Proofs.Ytipigfngeiodlaa
open Go.ChangeShapes Go.WideShapes Go.ChangeAt Go.RowKit
set_option linter.unusedVariables false

theorem n123 (u : World) : Calls Try.prog 24 #[.string ⟨#[1, 2, 3]⟩, .int .i64 0] u fun e w' => e = .returned (.agg #[.string ⟨#[1, 2, 3]⟩, .int .i64 0, .int .i64 0, .int .i64 0]) ∧ Below u.heap.size u w' := onew_ok ⟨#[1, 2, 3]⟩ 0 (by decide) (by decide) (by decide) u
theorem b123 (u : World) : Calls Try.prog 14 #[.agg #[.string ⟨#[1, 2, 3]⟩, .int .i64 0, .int .i64 0, .int .i64 0]] u fun e w' => e = .returned (.tuple #[.agg #[.string ⟨#[1, 2, 3]⟩, .int .i64 1, .int .i64 0, .int .i64 0], .int .i64 1]) ∧ Below u.heap.size u w' := by
  have h := obyte_all ⟨#[1, 2, 3]⟩ 0 0 0 (by decide) u
  rw [show crS ⟨#[1, 2, 3]⟩ 0 0 0 = ⟨#[1, 2, 3]⟩ by decide +kernel, show crA ⟨#[1, 2, 3]⟩ 0 0 0 = 0 by decide +kernel, show crE ⟨#[1, 2, 3]⟩ 0 0 0 = 0 by decide +kernel, show crF ⟨#[1, 2, 3]⟩ 0 0 0 = 0 by decide +kernel, show ybA ⟨#[1, 2, 3]⟩ 0 0 1 = 1 by decide +kernel, show ybE ⟨#[1, 2, 3]⟩ 0 0 1 = 0 by decide +kernel, show ybF ⟨#[1, 2, 3]⟩ 0 0 0 1 = 0 by decide +kernel, show hdB (ybT ⟨#[1, 2, 3]⟩ 0 0 1) = 1 by decide +kernel] at h
  exact h
theorem l2 (u : World) : Calls Try.prog 16 #[.agg #[.string ⟨#[1, 2, 3]⟩, .int .i64 1, .int .i64 0, .int .i64 0], .int .i64 2] u fun e w' => e = .returned (.tuple #[.agg #[.string ⟨#[1, 2, 3]⟩, .int .i64 3, .int .i64 0, .int .i64 0], .int .u64 770]) ∧ Below u.heap.size u w' := by
  have h := olittle_any ⟨#[1, 2, 3]⟩ 1 0 0 2 (by decide) u
  rw [show crS ⟨#[1, 2, 3]⟩ 1 0 0 = ⟨#[1, 2, 3]⟩ by decide +kernel, show crA ⟨#[1, 2, 3]⟩ 1 0 0 = 1 by decide +kernel, show crE ⟨#[1, 2, 3]⟩ 1 0 0 = 0 by decide +kernel, show crF ⟨#[1, 2, 3]⟩ 1 0 0 = 0 by decide +kernel, show lA ⟨#[1, 2, 3]⟩ 1 0 2 = 3 by decide +kernel, show lE ⟨#[1, 2, 3]⟩ 1 0 2 = 0 by decide +kernel, show lF ⟨#[1, 2, 3]⟩ 1 0 0 2 = 0 by decide +kernel, show ((lV ⟨#[1, 2, 3]⟩ 1 0 2 : Nat) : Int) = 770 by decide +kernel] at h
  exact h

set_option maxHeartbeats 1000000 in
theorem awake_any (w : World) : Calls Try.prog 9 #[] w fun e w' => e = .returned (.bool true) ∧ Below w.heap.size w w' := by
  go_enter Try.func9, Try.ntmps9
  go_upto_region 1 with fail
  go_cut [1, 2] from 5 to 30 (fun p y wx => ∃ g, p = .pointer (some ⟨g, 0, none⟩) ∧ y = .int .i64 1 ∧ Blk wx g 26 (at4 ⟨#[1, 2, 3]⟩ 1 0 0) ∧ Below w.heap.size w wx)
  case first =>
    go_wp2_with (first
      | (go_at_call 24; (with_reducible refine (n123 _).mono ?_); rintro e w1 ⟨rfl, hb1⟩)
      | (go_at_call 14; (with_reducible refine (b123 _).mono ?_); rintro e w2 ⟨rfl, hb2⟩))
    go_meet
    exact ⟨_, rfl, rfl, blk_new _ _ _, below_box (below_call (below_call (Below.refl _ _) hb1) hb2) _⟩
  case rest =>
    obtain ⟨g, rfl, rfl, k0, hbw⟩ := hcut
    obtain ⟨⟨b0, b1, b2, b3⟩, _⟩ := blk4 k0
    go_wp2_with (first
      | (go_at_call 16; (with_reducible refine (l2 _).mono ?_); rintro e w1 ⟨rfl, hb1⟩; obtain ⟨⟨p0, p1, p2, p3⟩, _⟩ := blk4 (blk_next k0 hb1); have lk := blk_lt (blk_next k0 hb1)))
    go_ret
    exact ⟨rfl, below_box (below_call hbw hb1) _⟩
end Go.Proofs.Ytipigfngeiodlaa
