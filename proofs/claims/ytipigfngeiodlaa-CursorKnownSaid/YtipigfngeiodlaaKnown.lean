/-
  The chapter's examples in CursorKnown.
-/
import Derived.Test.YtipigfngeiodlaaAwake
namespace Go.Proofs.Ytipigfngeiodlaa
open Go.ChangeShapes Go.WideShapes Go.ChangeAt Go.RowKit
set_option linter.unusedVariables false

theorem l1 (u : World) : Calls Try.prog 16 #[.agg #[.string ⟨#[1, 2, 3]⟩, .int .i64 3, .int .i64 0, .int .i64 0], .int .i64 1] u fun e w' => e = .returned (.tuple #[.agg #[.string ⟨#[1, 2, 3]⟩, .int .i64 3, .int .i64 5, .int .i64 3], .int .u64 0]) ∧ Below u.heap.size u w' := by
  have h := olittle_any ⟨#[1, 2, 3]⟩ 3 0 0 1 (by decide) u
  rw [show crS ⟨#[1, 2, 3]⟩ 3 0 0 = ⟨#[1, 2, 3]⟩ by decide +kernel, show crA ⟨#[1, 2, 3]⟩ 3 0 0 = 3 by decide +kernel, show crE ⟨#[1, 2, 3]⟩ 3 0 0 = 0 by decide +kernel, show crF ⟨#[1, 2, 3]⟩ 3 0 0 = 0 by decide +kernel, show lA ⟨#[1, 2, 3]⟩ 3 0 1 = 3 by decide +kernel, show lE ⟨#[1, 2, 3]⟩ 3 0 1 = 5 by decide +kernel, show lF ⟨#[1, 2, 3]⟩ 3 0 0 1 = 3 by decide +kernel, show ((lV ⟨#[1, 2, 3]⟩ 3 0 1 : Nat) : Int) = 0 by decide +kernel] at h
  exact h
theorem nab (u : World) : Calls Try.prog 24 #[.string ⟨#[97, 98]⟩, .int .i64 1] u fun e w' => e = .returned (.agg #[.string ⟨#[97, 98]⟩, .int .i64 1, .int .i64 0, .int .i64 0]) ∧ Below u.heap.size u w' := onew_ok ⟨#[97, 98]⟩ 1 (by decide) (by decide) (by decide) u
theorem by1 (u : World) : Calls Try.prog 18 #[.agg #[.string ⟨#[97, 98]⟩, .int .i64 1, .int .i64 0, .int .i64 0], .int .i64 1] u fun e w' => e = .returned (.tuple #[.agg #[.string ⟨#[97, 98]⟩, .int .i64 2, .int .i64 0, .int .i64 0], .string ⟨#[98]⟩]) ∧ Below u.heap.size u w' := by
  have h := obytes_any ⟨#[97, 98]⟩ 1 0 0 1 (by decide) u
  rw [show crS ⟨#[97, 98]⟩ 1 0 0 = ⟨#[97, 98]⟩ by decide +kernel, show crA ⟨#[97, 98]⟩ 1 0 0 = 1 by decide +kernel, show crE ⟨#[97, 98]⟩ 1 0 0 = 0 by decide +kernel, show crF ⟨#[97, 98]⟩ 1 0 0 = 0 by decide +kernel, show ybA ⟨#[97, 98]⟩ 1 0 1 = 2 by decide +kernel, show ybE ⟨#[97, 98]⟩ 1 0 1 = 0 by decide +kernel, show ybF ⟨#[97, 98]⟩ 1 0 0 1 = 0 by decide +kernel, show ybT ⟨#[97, 98]⟩ 1 0 1 = ⟨#[98]⟩ by decide +kernel] at h
  exact h
theorem by2 (u : World) : Calls Try.prog 18 #[.agg #[.string ⟨#[97, 98]⟩, .int .i64 1, .int .i64 0, .int .i64 0], .int .i64 2] u fun e w' => e = .returned (.tuple #[.agg #[.string ⟨#[97, 98]⟩, .int .i64 1, .int .i64 5, .int .i64 2], .string ⟨#[]⟩]) ∧ Below u.heap.size u w' := by
  have h := obytes_any ⟨#[97, 98]⟩ 1 0 0 2 (by decide) u
  rw [show crS ⟨#[97, 98]⟩ 1 0 0 = ⟨#[97, 98]⟩ by decide +kernel, show crA ⟨#[97, 98]⟩ 1 0 0 = 1 by decide +kernel, show crE ⟨#[97, 98]⟩ 1 0 0 = 0 by decide +kernel, show crF ⟨#[97, 98]⟩ 1 0 0 = 0 by decide +kernel, show ybA ⟨#[97, 98]⟩ 1 0 2 = 1 by decide +kernel, show ybE ⟨#[97, 98]⟩ 1 0 2 = 5 by decide +kernel, show ybF ⟨#[97, 98]⟩ 1 0 0 2 = 2 by decide +kernel, show ybT ⟨#[97, 98]⟩ 1 0 2 = ⟨#[]⟩ by decide +kernel] at h
  exact h
theorem sk1_ (u : World) : Calls Try.prog 18 #[.agg #[.string ⟨#[97, 98]⟩, .int .i64 1, .int .i64 0, .int .i64 0], .int .i64 (-1)] u fun e w' => e = .returned (.tuple #[.agg #[.string ⟨#[97, 98]⟩, .int .i64 1, .int .i64 2, .int .i64 1], .string ⟨#[]⟩]) ∧ Below u.heap.size u w' := by
  have h := obytes_any ⟨#[97, 98]⟩ 1 0 0 (-1) (by decide) u
  rw [show crS ⟨#[97, 98]⟩ 1 0 0 = ⟨#[97, 98]⟩ by decide +kernel, show crA ⟨#[97, 98]⟩ 1 0 0 = 1 by decide +kernel, show crE ⟨#[97, 98]⟩ 1 0 0 = 0 by decide +kernel, show crF ⟨#[97, 98]⟩ 1 0 0 = 0 by decide +kernel, show ybA ⟨#[97, 98]⟩ 1 0 (-1) = 1 by decide +kernel, show ybE ⟨#[97, 98]⟩ 1 0 (-1) = 2 by decide +kernel, show ybF ⟨#[97, 98]⟩ 1 0 0 (-1) = 1 by decide +kernel, show ybT ⟨#[97, 98]⟩ 1 0 (-1) = ⟨#[]⟩ by decide +kernel] at h
  exact h
theorem sk1 (u : World) : Calls Try.prog 20 #[.agg #[.string ⟨#[97, 98]⟩, .int .i64 1, .int .i64 0, .int .i64 0], .int .i64 (-1)] u fun e w' => e = .returned (.agg #[.string ⟨#[97, 98]⟩, .int .i64 1, .int .i64 2, .int .i64 1]) ∧ Below u.heap.size u w' := oskip_any _ _ _ _ _ _ _ _ _ _ sk1_ u
theorem n1231 (u : World) : Calls Try.prog 24 #[.string ⟨#[1, 2, 3]⟩, .int .i64 1] u fun e w' => e = .returned (.agg #[.string ⟨#[1, 2, 3]⟩, .int .i64 1, .int .i64 0, .int .i64 0]) ∧ Below u.heap.size u w' := onew_ok ⟨#[1, 2, 3]⟩ 1 (by decide) (by decide) (by decide) u
theorem in1 (u : World) : Calls Try.prog 22 #[.agg #[.string ⟨#[1, 2, 3]⟩, .int .i64 1, .int .i64 0, .int .i64 0], .int .i64 1] u fun e w' => e = .returned (.tuple #[.agg #[.string ⟨#[1, 2]⟩, .int .i64 1, .int .i64 0, .int .i64 0], .agg #[.string ⟨#[1, 2, 3]⟩, .int .i64 2, .int .i64 0, .int .i64 0]]) ∧ Below u.heap.size u w' := by
  have h := oinner_any ⟨#[1, 2, 3]⟩ 1 0 0 1 (by decide) u
  rw [show crS ⟨#[1, 2, 3]⟩ 1 0 0 = ⟨#[1, 2, 3]⟩ by decide +kernel, show crA ⟨#[1, 2, 3]⟩ 1 0 0 = 1 by decide +kernel, show crE ⟨#[1, 2, 3]⟩ 1 0 0 = 0 by decide +kernel, show crF ⟨#[1, 2, 3]⟩ 1 0 0 = 0 by decide +kernel, show ybA ⟨#[1, 2, 3]⟩ 1 0 1 = 2 by decide +kernel, show ybE ⟨#[1, 2, 3]⟩ 1 0 1 = 0 by decide +kernel, show ybF ⟨#[1, 2, 3]⟩ 1 0 0 1 = 0 by decide +kernel, show iS ⟨#[1, 2, 3]⟩ 1 0 1 = ⟨#[1, 2]⟩ by decide +kernel, show iA ⟨#[1, 2, 3]⟩ 1 0 1 = 1 by decide +kernel, show iF ⟨#[1, 2, 3]⟩ 1 0 0 1 = 0 by decide +kernel] at h
  exact h
theorem na0 (u : World) : Calls Try.prog 24 #[.string ⟨#[97]⟩, .int .i64 0] u fun e w' => e = .returned (.agg #[.string ⟨#[97]⟩, .int .i64 0, .int .i64 0, .int .i64 0]) ∧ Below u.heap.size u w' := onew_ok ⟨#[97]⟩ 0 (by decide) (by decide) (by decide) u
theorem la0 (u : World) : Calls Try.prog 16 #[.agg #[.string ⟨#[97]⟩, .int .i64 0, .int .i64 0, .int .i64 0], .int .i64 0] u fun e w' => e = .returned (.tuple #[.agg #[.string ⟨#[97]⟩, .int .i64 0, .int .i64 2, .int .i64 0], .int .u64 0]) ∧ Below u.heap.size u w' := by
  have h := olittle_any ⟨#[97]⟩ 0 0 0 0 (by decide) u
  rw [show crS ⟨#[97]⟩ 0 0 0 = ⟨#[97]⟩ by decide +kernel, show crA ⟨#[97]⟩ 0 0 0 = 0 by decide +kernel, show crE ⟨#[97]⟩ 0 0 0 = 0 by decide +kernel, show crF ⟨#[97]⟩ 0 0 0 = 0 by decide +kernel, show lA ⟨#[97]⟩ 0 0 0 = 0 by decide +kernel, show lE ⟨#[97]⟩ 0 0 0 = 2 by decide +kernel, show lF ⟨#[97]⟩ 0 0 0 0 = 0 by decide +kernel, show ((lV ⟨#[97]⟩ 0 0 0 : Nat) : Int) = 0 by decide +kernel] at h
  exact h
theorem la9 (u : World) : Calls Try.prog 16 #[.agg #[.string ⟨#[97]⟩, .int .i64 0, .int .i64 0, .int .i64 0], .int .i64 9] u fun e w' => e = .returned (.tuple #[.agg #[.string ⟨#[97]⟩, .int .i64 0, .int .i64 2, .int .i64 0], .int .u64 0]) ∧ Below u.heap.size u w' := by
  have h := olittle_any ⟨#[97]⟩ 0 0 0 9 (by decide) u
  rw [show crS ⟨#[97]⟩ 0 0 0 = ⟨#[97]⟩ by decide +kernel, show crA ⟨#[97]⟩ 0 0 0 = 0 by decide +kernel, show crE ⟨#[97]⟩ 0 0 0 = 0 by decide +kernel, show crF ⟨#[97]⟩ 0 0 0 = 0 by decide +kernel, show lA ⟨#[97]⟩ 0 0 9 = 0 by decide +kernel, show lE ⟨#[97]⟩ 0 0 9 = 2 by decide +kernel, show lF ⟨#[97]⟩ 0 0 0 9 = 0 by decide +kernel, show ((lV ⟨#[97]⟩ 0 0 9 : Nat) : Int) = 0 by decide +kernel] at h
  exact h
theorem na2 (u : World) : Calls Try.prog 24 #[.string ⟨#[97]⟩, .int .i64 2] u fun e w' => e = .returned (.agg #[.string ⟨#[97]⟩, .int .i64 0, .int .i64 2, .int .i64 0]) ∧ Below u.heap.size u w' := onew_bad ⟨#[97]⟩ 2 (by decide) (by decide) u
theorem nE (u : World) : Calls Try.prog 24 #[.string ⟨#[]⟩, .int .i64 0] u fun e w' => e = .returned (.agg #[.string ⟨#[]⟩, .int .i64 0, .int .i64 0, .int .i64 0]) ∧ Below u.heap.size u w' := onew_ok ⟨#[]⟩ 0 (by decide) (by decide) (by decide) u
theorem lf1 (u : World) : Calls Try.prog 12 #[.agg #[.string ⟨#[97, 98]⟩, .int .i64 1, .int .i64 0, .int .i64 0]] u fun e w' => e = .returned (.int .i64 1) ∧ Below u.heap.size u w' := by
  have h := oleft_any ⟨#[97, 98]⟩ 1 0 0 (by decide) u
  rw [show crS ⟨#[97, 98]⟩ 1 0 0 = ⟨#[97, 98]⟩ by decide +kernel, show crA ⟨#[97, 98]⟩ 1 0 0 = 1 by decide +kernel, show crE ⟨#[97, 98]⟩ 1 0 0 = 0 by decide +kernel, show ylX ⟨#[97, 98]⟩ 1 0 = 1 by decide +kernel] at h
  exact h
theorem en0 (u : World) : Calls Try.prog 28 #[.agg #[.string ⟨#[97]⟩, .int .i64 0, .int .i64 0, .int .i64 0]] u fun e w' => e = .returned (.agg #[.int .i64 4, .int .i64 0]) ∧ Below u.heap.size u w' := by
  have h := oend_any ⟨#[97]⟩ 0 0 0 (by decide) u
  rw [show crS ⟨#[97]⟩ 0 0 0 = ⟨#[97]⟩ by decide +kernel, show crA ⟨#[97]⟩ 0 0 0 = 0 by decide +kernel, show crE ⟨#[97]⟩ 0 0 0 = 0 by decide +kernel, show crF ⟨#[97]⟩ 0 0 0 = 0 by decide +kernel, show yeE ⟨#[97]⟩ 0 0 = 4 by decide +kernel, show yeF ⟨#[97]⟩ 0 0 0 = 0 by decide +kernel] at h
  exact h
theorem na1 (u : World) : Calls Try.prog 24 #[.string ⟨#[97]⟩, .int .i64 1] u fun e w' => e = .returned (.agg #[.string ⟨#[97]⟩, .int .i64 1, .int .i64 0, .int .i64 0]) ∧ Below u.heap.size u w' := onew_ok ⟨#[97]⟩ 1 (by decide) (by decide) (by decide) u
theorem en1 (u : World) : Calls Try.prog 28 #[.agg #[.string ⟨#[97]⟩, .int .i64 1, .int .i64 0, .int .i64 0]] u fun e w' => e = .returned (.agg #[.int .i64 0, .int .i64 0]) ∧ Below u.heap.size u w' := by
  have h := oend_any ⟨#[97]⟩ 1 0 0 (by decide) u
  rw [show crS ⟨#[97]⟩ 1 0 0 = ⟨#[97]⟩ by decide +kernel, show crA ⟨#[97]⟩ 1 0 0 = 1 by decide +kernel, show crE ⟨#[97]⟩ 1 0 0 = 0 by decide +kernel, show crF ⟨#[97]⟩ 1 0 0 = 0 by decide +kernel, show yeE ⟨#[97]⟩ 1 0 = 0 by decide +kernel, show yeF ⟨#[97]⟩ 1 0 0 = 0 by decide +kernel] at h
  exact h
theorem fl1 (u : World) : Calls Try.prog 26 #[.agg #[.string ⟨#[97]⟩, .int .i64 0, .int .i64 0, .int .i64 0], .int .i64 13, .int .i64 9] u fun e w' => e = .returned (.agg #[.string ⟨#[97]⟩, .int .i64 0, .int .i64 13, .int .i64 1]) ∧ Below u.heap.size u w' := by
  have h := ofail_any ⟨#[97]⟩ 0 0 0 13 9 (by decide) u
  rw [show crS ⟨#[97]⟩ 0 0 0 = ⟨#[97]⟩ by decide +kernel, show crA ⟨#[97]⟩ 0 0 0 = 0 by decide +kernel, show crE ⟨#[97]⟩ 0 0 0 = 0 by decide +kernel, show crF ⟨#[97]⟩ 0 0 0 = 0 by decide +kernel, show (if (0 : Int) = 0 then yfE 13 else 0) = 13 by decide +kernel, show (if (0 : Int) = 0 then yfP ⟨#[97]⟩ 9 else 0) = 1 by decide +kernel] at h
  exact h
theorem en2 (u : World) : Calls Try.prog 28 #[.agg #[.string ⟨#[97]⟩, .int .i64 0, .int .i64 13, .int .i64 1]] u fun e w' => e = .returned (.agg #[.int .i64 13, .int .i64 1]) ∧ Below u.heap.size u w' := by
  have h := oend_any ⟨#[97]⟩ 0 13 1 (by decide) u
  rw [show crS ⟨#[97]⟩ 0 13 1 = ⟨#[97]⟩ by decide +kernel, show crA ⟨#[97]⟩ 0 13 1 = 0 by decide +kernel, show crE ⟨#[97]⟩ 0 13 1 = 13 by decide +kernel, show crF ⟨#[97]⟩ 0 13 1 = 1 by decide +kernel, show yeE ⟨#[97]⟩ 0 13 = 13 by decide +kernel, show yeF ⟨#[97]⟩ 0 13 1 = 1 by decide +kernel] at h
  exact h

set_option maxRecDepth 100000 in
set_option maxHeartbeats 2000000 in
theorem known_any (w : World) : Calls Try.prog 5 #[] w fun e w' => e = .returned (.bool true) ∧ Below w.heap.size w w' := by
  have hfl : ∀ (s : ByteArray) (a e f : Int) (u : World), (Instr.field 26 (.agg #[.string s, .int .i64 a, .int .i64 e, .int .i64 f]) 2).run Try.prog u = .ok (.agg #[.int .i64 e, .int .i64 f]) u := fun _ _ _ _ _ => by kernel_rfl
  go_enter Try.func5, Try.ntmps5
  go_upto_region 1 with fail
  go_cut [1, 2] from 15 to 140 (fun p y wx => ∃ g, p = .pointer (some ⟨g, 0, none⟩) ∧ y = .int .i64 1 ∧ w.heap.size ≤ g ∧ Blk wx g 26 (at4 ⟨#[1, 2, 3]⟩ 1 0 0) ∧ Below w.heap.size w wx)
  case first =>
    go_wp2_with (first
      | (go_at_call 24; (with_reducible refine (n123 _).mono ?_); rintro e w1 ⟨rfl, hb1⟩)
      | (go_at_call 14; (with_reducible refine (b123 _).mono ?_); rintro e w2 ⟨rfl, hb2⟩))
    go_meet
    exact ⟨_, rfl, rfl, (below_call (below_call (Below.refl _ _) hb1) hb2).size, blk_new _ _ _, below_box (below_call (below_call (Below.refl _ _) hb1) hb2) _⟩
  case rest =>
    obtain ⟨g, rfl, rfl, hg, k0, hbw⟩ := hcut
    obtain ⟨⟨b0, b1, b2, b3⟩, _⟩ := blk4 k0
    have K0 := Lib.hid k0
    clear k0
    go_upto_region 2 with fail
    go_cut [] from 15 to 140 (fun wx => Blk wx g 26 (at4 ⟨#[1, 2, 3]⟩ 3 0 0) ∧ Below w.heap.size w wx)
    case first =>
      go_wp2_with ((go_at_call 16; (with_reducible refine (l2 _).mono ?_); rintro e w1 ⟨rfl, hb1⟩; have k1 := Lib.hid (blk_next K0.out hb1); obtain ⟨_, q0, q1, q2, q3⟩ := blk4 k1.out))
      go_meet
      exact ⟨blk4_set k1.out, below4 (below_call hbw hb1) hg _ _ _ _⟩
    case rest =>
      obtain ⟨k0, hbw⟩ := hcut
      obtain ⟨⟨b0, b1, b2, b3⟩, _⟩ := blk4 k0
      have K0 := Lib.hid k0
      clear k0
      go_upto_region 3 with fail
      go_cut [3] from 15 to 140 (fun y wx => y = .int .u64 0 ∧ Blk wx g 26 (at4 ⟨#[1, 2, 3]⟩ 3 5 3) ∧ Below w.heap.size w wx)
      case first =>
        go_wp2_with ((go_at_call 16; (with_reducible refine (l1 _).mono ?_); rintro e w1 ⟨rfl, hb1⟩; have k1 := Lib.hid (blk_next K0.out hb1); obtain ⟨_, q0, q1, q2, q3⟩ := blk4 k1.out))
        go_meet
        exact ⟨rfl, blk4_set k1.out, below4 (below_call hbw hb1) hg _ _ _ _⟩
      case rest =>
        obtain ⟨rfl, k0, hbw⟩ := hcut
        obtain ⟨⟨b0, b1, b2, b3⟩, _⟩ := blk4 k0
        clear k0
        go_upto_region 6 with fail
        go_cut [4, 5] from 15 to 140 (fun p y wx => ∃ g, p = .pointer (some ⟨g, 0, none⟩) ∧ y = .string ⟨#[98]⟩ ∧ Blk wx g 26 (at4 ⟨#[97, 98]⟩ 2 0 0) ∧ Below w.heap.size w wx)
        case first =>
          go_wp2_with (first
            | (go_at_call 24; (with_reducible refine (nab _).mono ?_); rintro e w1 ⟨rfl, hb1⟩)
            | (go_at_call 18; (with_reducible refine (by1 _).mono ?_); rintro e w2 ⟨rfl, hb2⟩))
          go_meet
          exact ⟨_, rfl, rfl, blk_new _ _ _, below_box (below_call (below_call hbw hb1) hb2) _⟩
        case rest =>
          clear b0 b1 b2 b3
          obtain ⟨g4, rfl, rfl, k4, hbw⟩ := hcut
          have K4 := Lib.hid k4
          clear k4
          go_upto_region 7 with fail
          go_cut [6, 7] from 15 to 140 (fun p y wx => ∃ g, p = .pointer (some ⟨g, 0, none⟩) ∧ y = .string ⟨#[]⟩ ∧ Blk wx g 26 (at4 ⟨#[97, 98]⟩ 1 5 2) ∧ Blk wx g4 26 (at4 ⟨#[97, 98]⟩ 2 0 0) ∧ Below w.heap.size w wx)
          case first =>
            go_wp2_with (first
              | (go_at_call 24; (with_reducible refine (nab _).mono ?_); rintro e w1 ⟨rfl, hb1⟩)
              | (go_at_call 18; (with_reducible refine (by2 _).mono ?_); rintro e w2 ⟨rfl, hb2⟩))
            go_meet
            exact ⟨_, rfl, rfl, blk_new _ _ _, blk_alloc (blk_next (blk_next K4.out hb1) hb2) _, below_box (below_call (below_call hbw hb1) hb2) _⟩
          case rest =>
            obtain ⟨g6, rfl, rfl, k6, k4, hbw⟩ := hcut
            have K6 := Lib.hid k6
            have K4 := Lib.hid k4
            clear k4 k6
            go_upto_region 8 with fail
            go_cut [8] from 15 to 140 (fun p wx => ∃ g, p = .pointer (some ⟨g, 0, none⟩) ∧ Blk wx g 26 (at4 ⟨#[97, 98]⟩ 1 2 1) ∧ Blk wx g6 26 (at4 ⟨#[97, 98]⟩ 1 5 2) ∧ Blk wx g4 26 (at4 ⟨#[97, 98]⟩ 2 0 0) ∧ Below w.heap.size w wx)
            case first =>
              go_wp2_with (first
                | (go_at_call 24; (with_reducible refine (nab _).mono ?_); rintro e w1 ⟨rfl, hb1⟩)
                | (go_at_call 20; (with_reducible refine (sk1 _).mono ?_); rintro e w2 ⟨rfl, hb2⟩))
              go_meet
              exact ⟨_, rfl, blk_new _ _ _, blk_alloc (blk_next (blk_next K6.out hb1) hb2) _, blk_alloc (blk_next (blk_next K4.out hb1) hb2) _, below_box (below_call (below_call hbw hb1) hb2) _⟩
            case rest =>
              obtain ⟨g8, rfl, k8, k6, k4, hbw⟩ := hcut
              obtain ⟨⟨a0, a1, a2, a3⟩, _⟩ := blk4 k4
              obtain ⟨⟨b0, b1, b2, b3⟩, _⟩ := blk4 k6
              obtain ⟨⟨c0, c1, c2, c3⟩, _⟩ := blk4 k8
              clear k4 k6 k8
              go_upto_region 11 with fail
              go_cut [9, 10] from 15 to 140 (fun p y wx => ∃ g h, p = .pointer (some ⟨g, 0, none⟩) ∧ y = .pointer (some ⟨h, 0, none⟩) ∧ Blk wx g 26 (at4 ⟨#[1, 2]⟩ 1 0 0) ∧ Blk wx h 26 (at4 ⟨#[1, 2, 3]⟩ 2 0 0) ∧ Below w.heap.size w wx)
              case first =>
                go_wp2_with (first
                  | (go_at_call 24; (with_reducible refine (n1231 _).mono ?_); rintro e w1 ⟨rfl, hb1⟩)
                  | (go_at_call 22; (with_reducible refine (in1 _).mono ?_); rintro e w2 ⟨rfl, hb2⟩))
                go_meet
                exact ⟨_, _, rfl, rfl, blk_alloc (blk_new _ _ _) _, blk_new2 _ _ _ _, below_box (below_box (below_call (below_call hbw hb1) hb2) _) _⟩
              case rest =>
                clear a0 a1 a2 a3 b0 b1 b2 b3 c0 c1 c2 c3
                obtain ⟨g9, g10, rfl, rfl, k9, k10, hbw⟩ := hcut
                obtain ⟨⟨a0, a1, a2, a3⟩, _⟩ := blk4 k9
                obtain ⟨⟨b0, b1, b2, b3⟩, _⟩ := blk4 k10
                clear k9 k10
                go_upto_region 14 with fail
                go_cut [11, 12] from 15 to 140 (fun p y wx => ∃ g, p = .pointer (some ⟨g, 0, none⟩) ∧ y = .int .u64 0 ∧ Blk wx g 26 (at4 ⟨#[97]⟩ 0 2 0) ∧ Below w.heap.size w wx)
                case first =>
                  go_wp2_with (first
                    | (go_at_call 24; (with_reducible refine (na0 _).mono ?_); rintro e w1 ⟨rfl, hb1⟩)
                    | (go_at_call 16; (with_reducible refine (la0 _).mono ?_); rintro e w2 ⟨rfl, hb2⟩))
                  go_meet
                  exact ⟨_, rfl, rfl, blk_new _ _ _, below_box (below_call (below_call hbw hb1) hb2) _⟩
                case rest =>
                  clear a0 a1 a2 a3 b0 b1 b2 b3
                  obtain ⟨g11, rfl, rfl, k11, hbw⟩ := hcut
                  have K11 := Lib.hid k11
                  clear k11
                  go_upto_region 15 with fail
                  go_cut [13, 14] from 15 to 140 (fun p y wx => ∃ g, p = .pointer (some ⟨g, 0, none⟩) ∧ y = .int .u64 0 ∧ Blk wx g 26 (at4 ⟨#[97]⟩ 0 2 0) ∧ Blk wx g11 26 (at4 ⟨#[97]⟩ 0 2 0) ∧ Below w.heap.size w wx)
                  case first =>
                    go_wp2_with (first
                      | (go_at_call 24; (with_reducible refine (na0 _).mono ?_); rintro e w1 ⟨rfl, hb1⟩)
                      | (go_at_call 16; (with_reducible refine (la9 _).mono ?_); rintro e w2 ⟨rfl, hb2⟩))
                    go_meet
                    exact ⟨_, rfl, rfl, blk_new _ _ _, blk_alloc (blk_next (blk_next K11.out hb1) hb2) _, below_box (below_call (below_call hbw hb1) hb2) _⟩
                  case rest =>
                    obtain ⟨g13, rfl, rfl, k13, k11, hbw⟩ := hcut
                    go_wp2_with (first
                      | (go_at_call 24; (with_reducible refine (na2 _).mono ?_); rintro e w2 ⟨rfl, hb⟩; replace hbw := below_call hbw hb; replace k11 := blk_next k11 hb; replace k13 := blk_next k13 hb; clear hb)
                      | (go_at_call 24; (with_reducible refine (nE _).mono ?_); rintro e w2 ⟨rfl, hb⟩; replace hbw := below_call hbw hb; replace k11 := blk_next k11 hb; replace k13 := blk_next k13 hb; clear hb)
                      | (go_at_call 24; (with_reducible refine (nab _).mono ?_); rintro e w2 ⟨rfl, hb⟩; replace hbw := below_call hbw hb; replace k11 := blk_next k11 hb; replace k13 := blk_next k13 hb; clear hb)
                      | (go_at_call 12; (with_reducible refine (lf1 _).mono ?_); rintro e w2 ⟨rfl, hb⟩; replace hbw := below_call hbw hb; replace k11 := blk_next k11 hb; replace k13 := blk_next k13 hb; clear hb)
                      | (go_at_call 24; (with_reducible refine (na0 _).mono ?_); rintro e w2 ⟨rfl, hb⟩; replace hbw := below_call hbw hb; replace k11 := blk_next k11 hb; replace k13 := blk_next k13 hb; clear hb)
                      | (go_at_call 28; (with_reducible refine (en0 _).mono ?_); rintro e w2 ⟨rfl, hb⟩; replace hbw := below_call hbw hb; replace k11 := blk_next k11 hb; replace k13 := blk_next k13 hb; clear hb)
                      | (go_at_call 24; (with_reducible refine (na1 _).mono ?_); rintro e w2 ⟨rfl, hb⟩; replace hbw := below_call hbw hb; replace k11 := blk_next k11 hb; replace k13 := blk_next k13 hb; clear hb)
                      | (go_at_call 28; (with_reducible refine (en1 _).mono ?_); rintro e w2 ⟨rfl, hb⟩; replace hbw := below_call hbw hb; replace k11 := blk_next k11 hb; replace k13 := blk_next k13 hb; clear hb)
                      | (go_at_call 26; (with_reducible refine (fl1 _).mono ?_); rintro e w2 ⟨rfl, hb⟩; replace hbw := below_call hbw hb; replace k11 := blk_next k11 hb; replace k13 := blk_next k13 hb; clear hb)
                      | (go_at_call 28; (with_reducible refine (en2 _).mono ?_); rintro e w2 ⟨rfl, hb⟩; replace hbw := below_call hbw hb; replace k11 := blk_next k11 hb; replace k13 := blk_next k13 hb; clear hb; obtain ⟨⟨a0, a1, a2, a3⟩, _⟩ := blk4 k11; obtain ⟨⟨b0, b1, b2, b3⟩, _⟩ := blk4 k13)
                      | (go_at_call 9; (with_reducible refine (awake_any _).mono ?_); rintro e w2 ⟨rfl, hb⟩; replace hbw := below_call hbw hb))
                    go_ret
                    exact ⟨rfl, hbw⟩
end Go.Proofs.Ytipigfngeiodlaa
