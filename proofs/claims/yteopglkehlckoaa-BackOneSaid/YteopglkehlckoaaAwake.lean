/-
  The words of package back's laws, and the examples in the law's own function awake.
-/
import Derived.Test.YteopglkehlckoaaT9
namespace Go.Proofs.Yteopglkehlckoaa
open Go.ChangeShapes Go.WideShapes Go.ChangeAt Go.RowKit
set_option linter.unusedVariables false

/-- the law's own put, where Put succeeds -/
theorem put11 (S : ByteArray) (P N n v : Int) (s : ByteArray) (p m : Int) (hP : ∀ u, Calls Try.prog 9 #[.agg #[.string S, .int .i64 P, .int .i64 N], .int .i64 n, .int .u64 v] u fun e w' =>
      e = .returned (.tuple #[.agg #[.string s, .int .i64 p, .int .i64 m], .int .i64 0]) ∧ Below u.heap.size u w') (w : World) :
    Calls Try.prog 11 #[.agg #[.string S, .int .i64 P, .int .i64 N], .int .i64 n, .int .u64 v] w fun e w' => e = .returned (.agg #[.string s, .int .i64 p, .int .i64 m]) ∧ Below w.heap.size w w' := by
  go_enter Try.func11, Try.ntmps11
  go_wp2_with ((go_at_call 9; (with_reducible refine (hP _).mono ?_); rintro e w1 ⟨rfl, hb1⟩; have hk := blk_alloc (blk_next (blk_new2 w (.cells #[.string S, .int .i64 P, .int .i64 N] 23) 23 (at3 ⟨#[]⟩ 0 0)) hb1) (.cells #[.string s, .int .i64 p, .int .i64 m] 23); obtain ⟨⟨d0, d1, d2⟩, z0, z1, z2⟩ := blk3 hk))
  obtain ⟨⟨y0, y1, y2⟩, _⟩ := blk3 (blk3_set (s' := s) (p' := p) (n' := m) hk)
  have hbw : Below w.heap.size w w1 := below_call (below_box (below_box (Below.refl _ _) _) _) hb1
  exact bodyPost_ret (v := .agg #[.string s, .int .i64 p, .int .i64 m]) (by simp [results, Try.results11, go_sem, y0, y1, y2]) rfl ⟨rfl, below3 (below_box hbw _) (by simp) _ _ _⟩

theorem ends10 (S : ByteArray) (P N : Int) (T : ByteArray) (hD : ∀ u, Calls Try.prog 22 #[.agg #[.string S, .int .i64 P, .int .i64 N]] u fun e w' => e = .returned (.tuple #[.string T, .int .i64 0]) ∧ Below u.heap.size u w') (w : World) :
    Calls Try.prog 10 #[.agg #[.string S, .int .i64 P, .int .i64 N], .string T] w fun e w' => e = .returned (.bool true) ∧ Below w.heap.size w w' := by
  go_enter Try.func10, Try.ntmps10
  go_wp2_with ((go_at_call 22; (with_reducible refine (hD _).mono ?_); rintro e w1 ⟨rfl, hb1⟩))
  go_ret
  exact ⟨rfl, below_call (below_box (Below.refl _ _) _) hb1⟩

theorem bits12 (S : ByteArray) (n c : Int) (hB : ∀ u, Calls Try.prog 24 #[.string S] u fun e w' => e = .returned (.tuple #[.int .i64 n, .int .i64 c]) ∧ u = w') (w : World) :
    Calls Try.prog 12 #[.string S, .int .i64 n, .int .i64 c] w fun e w' => e = .returned (.bool true) ∧ w = w' := by
  go_enter Try.func12, Try.ntmps12
  go_wp2_with ((go_at_call 24; (with_reducible refine (hB _).mono ?_); rintro e w1 ⟨rfl, rfl⟩))
  go_ret
  exact ⟨rfl, rfl⟩

theorem peeks15 (S : ByteArray) (L n v : Int) (hR : ∀ u, Calls Try.prog 13 #[.string S] u fun e w' => e = .returned (.tuple #[.agg #[.string S, .int .i64 L], .int .i64 0]) ∧ Below u.heap.size u w')
    (hP : ∀ u, Calls Try.prog 29 #[.agg #[.string S, .int .i64 L], .int .i64 n] u fun e w' => e = .returned (.tuple #[.int .u64 v, .int .i64 0]) ∧ Below u.heap.size u w') (w : World) :
    Calls Try.prog 15 #[.string S, .int .i64 n, .int .u64 v] w fun e w' => e = .returned (.bool true) ∧ Below w.heap.size w w' := by
  go_enter Try.func15, Try.ntmps15
  go_wp2_with (first
    | (go_at_call 13; (with_reducible refine (hR _).mono ?_); rintro e w1 ⟨rfl, hb1⟩)
    | (go_at_call 29; (with_reducible refine (hP _).mono ?_); rintro e w2 ⟨rfl, hb2⟩))
  go_ret
  exact ⟨rfl, below_call (below_box hb1 _) hb2⟩

theorem a24 (u : World) : Calls Try.prog 24 #[.string ⟨#[13]⟩] u fun e w' => e = .returned (.tuple #[.int .i64 3, .int .i64 0]) ∧ u = w' := by
  have h := ownBits_any ⟨#[13]⟩ (by decide) u
  rw [show strN ⟨#[13]⟩ = 3 by decide +kernel, show strE ⟨#[13]⟩ = 0 by decide +kernel] at h
  exact h
theorem a11_ (u : World) : Calls Try.prog 9 #[.agg #[.string ⟨#[]⟩, .int .i64 0, .int .i64 0], .int .i64 3, .int .u64 5] u fun e w' => e = .returned (.tuple #[.agg #[.string ⟨#[]⟩, .int .i64 5, .int .i64 3], .int .i64 0]) ∧ Below u.heap.size u w' := by
  have h := ownPut_any ⟨#[]⟩ 0 0 3 5 (by decide) (by decide) (by decide) (by decide) u
  rw [show bpS ⟨#[]⟩ 0 0 3 5 = ⟨#[]⟩ by decide +kernel, show bpQ ⟨#[]⟩ 0 0 3 5 = 5 by decide +kernel, show bpN ⟨#[]⟩ 0 0 3 5 = 3 by decide +kernel, show bpE ⟨#[]⟩ 0 0 3 5 = 0 by decide +kernel] at h
  exact h
theorem a11 (u : World) : Calls Try.prog 11 #[.agg #[.string ⟨#[]⟩, .int .i64 0, .int .i64 0], .int .i64 3, .int .u64 5] u fun e w' => e = .returned (.agg #[.string ⟨#[]⟩, .int .i64 5, .int .i64 3]) ∧ Below u.heap.size u w' := put11 _ _ _ _ _ _ _ _ a11_ u
theorem a10_ (u : World) : Calls Try.prog 22 #[.agg #[.string ⟨#[]⟩, .int .i64 5, .int .i64 3]] u fun e w' => e = .returned (.tuple #[.string ⟨#[13]⟩, .int .i64 0]) ∧ Below u.heap.size u w' := by
  have h := ownDone_any ⟨#[]⟩ 5 3 (by decide) (by decide) (by decide) u
  rw [show bdS ⟨#[]⟩ 5 3 = ⟨#[13]⟩ by decide +kernel, show bdE ⟨#[]⟩ 5 3 = 0 by decide +kernel] at h
  exact h
theorem a10 (u : World) : Calls Try.prog 10 #[.agg #[.string ⟨#[]⟩, .int .i64 5, .int .i64 3], .string ⟨#[13]⟩] u fun e w' => e = .returned (.bool true) ∧ Below u.heap.size u w' := ends10 _ _ _ _ a10_ u
theorem b11_ (u : World) : Calls Try.prog 9 #[.agg #[.string ⟨#[]⟩, .int .i64 0, .int .i64 0], .int .i64 4, .int .u64 1] u fun e w' => e = .returned (.tuple #[.agg #[.string ⟨#[]⟩, .int .i64 1, .int .i64 4], .int .i64 0]) ∧ Below u.heap.size u w' := by
  have h := ownPut_any ⟨#[]⟩ 0 0 4 1 (by decide) (by decide) (by decide) (by decide) u
  rw [show bpS ⟨#[]⟩ 0 0 4 1 = ⟨#[]⟩ by decide +kernel, show bpQ ⟨#[]⟩ 0 0 4 1 = 1 by decide +kernel, show bpN ⟨#[]⟩ 0 0 4 1 = 4 by decide +kernel, show bpE ⟨#[]⟩ 0 0 4 1 = 0 by decide +kernel] at h
  exact h
theorem b11 (u : World) : Calls Try.prog 11 #[.agg #[.string ⟨#[]⟩, .int .i64 0, .int .i64 0], .int .i64 4, .int .u64 1] u fun e w' => e = .returned (.agg #[.string ⟨#[]⟩, .int .i64 1, .int .i64 4]) ∧ Below u.heap.size u w' := put11 _ _ _ _ _ _ _ _ b11_ u
theorem c11_ (u : World) : Calls Try.prog 9 #[.agg #[.string ⟨#[]⟩, .int .i64 1, .int .i64 4], .int .i64 6, .int .u64 33] u fun e w' => e = .returned (.tuple #[.agg #[.string ⟨#[17]⟩, .int .i64 2, .int .i64 2], .int .i64 0]) ∧ Below u.heap.size u w' := by
  have h := ownPut_any ⟨#[]⟩ 1 4 6 33 (by decide) (by decide) (by decide) (by decide) u
  rw [show bpS ⟨#[]⟩ 1 4 6 33 = ⟨#[17]⟩ by decide +kernel, show bpQ ⟨#[]⟩ 1 4 6 33 = 2 by decide +kernel, show bpN ⟨#[]⟩ 1 4 6 33 = 2 by decide +kernel, show bpE ⟨#[]⟩ 1 4 6 33 = 0 by decide +kernel] at h
  exact h
theorem c11 (u : World) : Calls Try.prog 11 #[.agg #[.string ⟨#[]⟩, .int .i64 1, .int .i64 4], .int .i64 6, .int .u64 33] u fun e w' => e = .returned (.agg #[.string ⟨#[17]⟩, .int .i64 2, .int .i64 2]) ∧ Below u.heap.size u w' := put11 _ _ _ _ _ _ _ _ c11_ u
theorem b10_ (u : World) : Calls Try.prog 22 #[.agg #[.string ⟨#[17]⟩, .int .i64 2, .int .i64 2]] u fun e w' => e = .returned (.tuple #[.string ⟨#[17, 6]⟩, .int .i64 0]) ∧ Below u.heap.size u w' := by
  have h := ownDone_any ⟨#[17]⟩ 2 2 (by decide) (by decide) (by decide) u
  rw [show bdS ⟨#[17]⟩ 2 2 = ⟨#[17, 6]⟩ by decide +kernel, show bdE ⟨#[17]⟩ 2 2 = 0 by decide +kernel] at h
  exact h
theorem b10 (u : World) : Calls Try.prog 10 #[.agg #[.string ⟨#[17]⟩, .int .i64 2, .int .i64 2], .string ⟨#[17, 6]⟩] u fun e w' => e = .returned (.bool true) ∧ Below u.heap.size u w' := ends10 _ _ _ _ b10_ u

set_option maxRecDepth 100000 in
set_option maxHeartbeats 1000000 in
theorem awake_any (w : World) : Calls Try.prog 19 #[] w fun e w' => e = .returned (.bool true) ∧ Below w.heap.size w w' := by
  go_enter Try.func19, Try.ntmps19
  go_wp2_with (first
    | (go_at_call 24; (with_reducible refine (a24 _).mono ?_); rintro e w0 ⟨rfl, rfl⟩)
    | (go_at_call 11; (with_reducible refine (a11 _).mono ?_); rintro e w1 ⟨rfl, hb1⟩; have k1 := blk_next (blk_new w 23 (at3 ⟨#[]⟩ 0 0)) hb1; obtain ⟨⟨p0, p1, p2⟩, _⟩ := blk3 k1)
    | (go_at_call 10; (with_reducible refine (a10 _).mono ?_); rintro e w2 ⟨rfl, hb2⟩; have k1 := blk_next k1 hb2; obtain ⟨⟨p0, p1, p2⟩, _⟩ := blk3 k1)
    | (go_at_call 11; (with_reducible refine (b11 _).mono ?_); rintro e w3 ⟨rfl, hb3⟩)
    | (go_at_call 11; (with_reducible refine (c11 _).mono ?_); rintro e w4 ⟨rfl, hb4⟩)
    | (go_at_call 10; (with_reducible refine (b10 _).mono ?_); rintro e w5 ⟨rfl, hb5⟩))
  go_ret
  exact ⟨rfl, below_call (below_call (below_call (below_call (below_call (below_box (Below.refl _ _) _) hb1) hb2) hb3) hb4) hb5⟩
end Go.Proofs.Yteopglkehlckoaa
