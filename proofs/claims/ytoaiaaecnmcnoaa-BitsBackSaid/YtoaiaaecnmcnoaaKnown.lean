/-
  The chapter's examples in BitsKnown; words for laws.
-/
import Derived.Test.YtoaiaaecnmcnoaaAwake
namespace Go.Proofs.Ytoaiaaecnmcnoaa
open Go.ChangeShapes Go.WideShapes Go.ChangeAt Go.RowKit
set_option linter.unusedVariables false

theorem blk_next {u w' : World} {g : Nat} {t : TypeId} {cs : Array Value} (h : Blk u g t cs) (hb : Below u.heap.size u w') : Blk w' g t cs := blk_below h hb (blk_lt h)
theorem below_next {B : Nat} {a u w' : World} (h : Below B a u) (hb : Below u.heap.size u w') (hB : B ≤ u.heap.size) : Below B a w' := h.trans (hb.mono hB)
theorem below_new {B : Nat} {a w : World} (h : Below B a w) (ha : a.heap.size = B) (o : Obj) : Below B a (w.alloc o) := h.alloc (by have := h.size; omega) o
theorem below_call {a u w' : World} (h : Below a.heap.size a u) (hb : Below u.heap.size u w') : Below a.heap.size a w' := h.trans (hb.mono h.size)
theorem below_box {a w : World} (h : Below a.heap.size a w) (o : Obj) : Below a.heap.size a (w.alloc o) := h.alloc h.size o

theorem rd0 (u : World) : Calls Try.prog 19 #[.string ⟨#[37, 3]⟩, .int .i64 0] u fun e w' => e = .returned (.tuple #[.agg #[.string ⟨#[37, 3]⟩, .int .i64 0], .int .i64 0]) ∧ Below u.heap.size u w' := by
  have h := ownRead_any ⟨#[37, 3]⟩ 0 (by decide) u
  rw [show reaS ⟨#[37, 3]⟩ 0 = ⟨#[37, 3]⟩ by decide +kernel, show reaB ⟨#[37, 3]⟩ 0 = 0 by decide +kernel, show reaE ⟨#[37, 3]⟩ 0 = 0 by decide +kernel] at h
  exact h
theorem tk3 (u : World) : Calls Try.prog 21 #[.agg #[.string ⟨#[37, 3]⟩, .int .i64 3], .int .i64 7] u fun e w' => e = .returned (.tuple #[.agg #[.string ⟨#[37, 3]⟩, .int .i64 10], .int .i64 100, .int .i64 0]) ∧ Below u.heap.size u w' := by
  have h := ownTake_any ⟨#[37, 3]⟩ 3 7 (by decide) u
  rw [show takS ⟨#[37, 3]⟩ 3 7 = ⟨#[37, 3]⟩ by decide +kernel, show takB ⟨#[37, 3]⟩ 3 7 = 10 by decide +kernel, show takX ⟨#[37, 3]⟩ 3 7 = 100 by decide +kernel, show takE ⟨#[37, 3]⟩ 3 7 = 0 by decide +kernel] at h
  exact h
theorem tk10 (u : World) : Calls Try.prog 21 #[.agg #[.string ⟨#[37, 3]⟩, .int .i64 10], .int .i64 7] u fun e w' => e = .returned (.tuple #[.agg #[.string ⟨#[]⟩, .int .i64 0], .int .i64 0, .int .i64 5]) ∧ Below u.heap.size u w' := by
  have h := ownTake_any ⟨#[37, 3]⟩ 10 7 (by decide) u
  rw [show takS ⟨#[37, 3]⟩ 10 7 = ⟨#[]⟩ by decide +kernel, show takB ⟨#[37, 3]⟩ 10 7 = 0 by decide +kernel, show takX ⟨#[37, 3]⟩ 10 7 = 0 by decide +kernel, show takE ⟨#[37, 3]⟩ 10 7 = 5 by decide +kernel] at h
  exact h
theorem pk32 (u : World) : Calls Try.prog 23 #[.agg #[.string ⟨#[37, 3]⟩, .int .i64 0], .int .i64 32] u fun e w' => e = .returned (.tuple #[.int .i64 805, .int .i64 0]) ∧ Below u.heap.size u w' := by
  have h := ownPeek_any ⟨#[37, 3]⟩ 0 32 (by decide) u
  rw [show pekX ⟨#[37, 3]⟩ 0 32 = 805 by decide +kernel, show pekE ⟨#[37, 3]⟩ 0 32 = 0 by decide +kernel] at h
  exact h
theorem lf0 (u : World) : Calls Try.prog 25 #[.agg #[.string ⟨#[37, 3]⟩, .int .i64 0]] u fun e w' => e = .returned (.tuple #[.int .i64 16, .int .i64 0]) ∧ Below u.heap.size u w' := by
  have h := ownLeft_any ⟨#[37, 3]⟩ 0 (by decide) u
  rw [show lefX ⟨#[37, 3]⟩ 0 = 16 by decide +kernel, show rgt ⟨#[37, 3]⟩ 0 = 0 by decide +kernel] at h
  exact h
theorem nx3 (u : World) : Calls Try.prog 27 #[.agg #[.string ⟨#[37, 3]⟩, .int .i64 3]] u fun e w' => e = .returned (.tuple #[.int .i64 1, .int .i64 0]) ∧ Below u.heap.size u w' := by
  have h := ownNext_any ⟨#[37, 3]⟩ 3 (by decide) u
  rw [show nexX ⟨#[37, 3]⟩ 3 = 1 by decide +kernel, show rgt ⟨#[37, 3]⟩ 3 = 0 by decide +kernel] at h
  exact h
theorem nx8 (u : World) : Calls Try.prog 27 #[.agg #[.string ⟨#[37, 3]⟩, .int .i64 8]] u fun e w' => e = .returned (.tuple #[.int .i64 1, .int .i64 0]) ∧ Below u.heap.size u w' := by
  have h := ownNext_any ⟨#[37, 3]⟩ 8 (by decide) u
  rw [show nexX ⟨#[37, 3]⟩ 8 = 1 by decide +kernel, show rgt ⟨#[37, 3]⟩ 8 = 0 by decide +kernel] at h
  exact h
theorem pt38 (u : World) : Calls Try.prog 11 #[.agg #[.string ⟨#[]⟩, .int .i64 0, .int .i64 0], .int .i64 3, .int .i64 8] u fun e w' => e = .returned (.tuple #[.agg #[.string ⟨#[]⟩, .int .i64 0, .int .i64 0], .int .i64 2]) ∧ Below u.heap.size u w' := by
  have h := ownPut_any ⟨#[]⟩ 0 0 3 8 (by decide) u
  rw [show putS ⟨#[]⟩ 0 0 3 8 = ⟨#[]⟩ by decide +kernel, show putQ ⟨#[]⟩ 0 0 3 8 = 0 by decide +kernel, show putN ⟨#[]⟩ 0 0 3 8 = 0 by decide +kernel, show putE ⟨#[]⟩ 0 0 3 8 = 2 by decide +kernel] at h
  exact h
theorem pt33 (u : World) : Calls Try.prog 11 #[.agg #[.string ⟨#[]⟩, .int .i64 0, .int .i64 0], .int .i64 33, .int .i64 0] u fun e w' => e = .returned (.tuple #[.agg #[.string ⟨#[]⟩, .int .i64 0, .int .i64 0], .int .i64 2]) ∧ Below u.heap.size u w' := by
  have h := ownPut_any ⟨#[]⟩ 0 0 33 0 (by decide) u
  rw [show putS ⟨#[]⟩ 0 0 33 0 = ⟨#[]⟩ by decide +kernel, show putQ ⟨#[]⟩ 0 0 33 0 = 0 by decide +kernel, show putN ⟨#[]⟩ 0 0 33 0 = 0 by decide +kernel, show putE ⟨#[]⟩ 0 0 33 0 = 2 by decide +kernel] at h
  exact h
theorem tk33 (u : World) : Calls Try.prog 21 #[.agg #[.string ⟨#[37, 3]⟩, .int .i64 0], .int .i64 33] u fun e w' => e = .returned (.tuple #[.agg #[.string ⟨#[]⟩, .int .i64 0], .int .i64 0, .int .i64 2]) ∧ Below u.heap.size u w' := by
  have h := ownTake_any ⟨#[37, 3]⟩ 0 33 (by decide) u
  rw [show takS ⟨#[37, 3]⟩ 0 33 = ⟨#[]⟩ by decide +kernel, show takB ⟨#[37, 3]⟩ 0 33 = 0 by decide +kernel, show takX ⟨#[37, 3]⟩ 0 33 = 0 by decide +kernel, show takE ⟨#[37, 3]⟩ 0 33 = 2 by decide +kernel] at h
  exact h
theorem rda (u : World) : Calls Try.prog 19 #[.string ⟨#[97]⟩, .int .i64 2] u fun e w' => e = .returned (.tuple #[.agg #[.string ⟨#[]⟩, .int .i64 0], .int .i64 2]) ∧ Below u.heap.size u w' := by
  have h := ownRead_any ⟨#[97]⟩ 2 (by decide) u
  rw [show reaS ⟨#[97]⟩ 2 = ⟨#[]⟩ by decide +kernel, show reaB ⟨#[97]⟩ 2 = 0 by decide +kernel, show reaE ⟨#[97]⟩ 2 = 2 by decide +kernel] at h
  exact h
theorem al5 (u : World) : Calls Try.prog 13 #[.agg #[.string ⟨#[]⟩, .int .i64 5, .int .i64 3]] u fun e w' => e = .returned (.tuple #[.agg #[.string ⟨#[5]⟩, .int .i64 0, .int .i64 0], .int .i64 0]) ∧ Below u.heap.size u w' := by
  have h := ownAlign_any ⟨#[]⟩ 5 3 (by decide) u
  rw [show aliS ⟨#[]⟩ 5 3 = ⟨#[5]⟩ by decide +kernel, show aliQ ⟨#[]⟩ 5 3 = 0 by decide +kernel, show aliN ⟨#[]⟩ 5 3 = 0 by decide +kernel, show aliE ⟨#[]⟩ 5 3 = 0 by decide +kernel] at h
  exact h

set_option maxRecDepth 100000 in
set_option maxHeartbeats 1000000 in
theorem known_any (w : World) : Calls Try.prog 5 #[] w fun e w' => e = .returned (.bool true) ∧ Below w.heap.size w w' := by
  go_enter Try.func5, Try.ntmps5
  go_wp2_with (first
    | (go_at_call 19; (with_reducible refine (rd0 _).mono ?_); rintro e w1 ⟨rfl, hb1⟩)
    | (go_at_call 21; (with_reducible refine (take0 _).mono ?_); rintro e w2 ⟨rfl, hb2⟩; have k2 := blk_next (blk_new w1 34 #[.string ⟨#[37, 3]⟩, .int .i64 0]) hb2)
    | (go_at_call 21; (with_reducible refine (tk3 _).mono ?_); rintro e w3 ⟨rfl, hb3⟩; have k4 := blk_next (blk_new w2 34 #[.string ⟨#[37, 3]⟩, .int .i64 3]) hb3; have k2 := blk_next (blk_alloc k2 _) hb3)
    | (go_at_call 21; (with_reducible refine (tk10 _).mono ?_); rintro e w4 ⟨rfl, hb4⟩; have k2 := blk_next (blk_alloc k2 _) hb4; obtain ⟨p0, p1, _, _⟩ := blk2 k2; have l2 := blk_lt k2; have k4 := blk_next (blk_alloc k4 _) hb4; obtain ⟨q0, q1, _, _⟩ := blk2 k4; have l4 := blk_lt k4)
    | (go_at_call 23; (with_reducible refine (pk32 _).mono ?_); rintro e w5 ⟨rfl, hb5⟩; have k2 := blk_next (blk_alloc k2 _) hb5; obtain ⟨p0, p1, _, _⟩ := blk2 k2; have l2 := blk_lt k2; have k4 := blk_next (blk_alloc k4 _) hb5; obtain ⟨q0, q1, _, _⟩ := blk2 k4; have l4 := blk_lt k4)
    | (go_at_call 25; (with_reducible refine (lf0 _).mono ?_); rintro e w6 ⟨rfl, hb6⟩; have k2 := blk_next k2 hb6; obtain ⟨p0, p1, _, _⟩ := blk2 k2; have l2 := blk_lt k2; have k4 := blk_next k4 hb6; obtain ⟨q0, q1, _, _⟩ := blk2 k4; have l4 := blk_lt k4)
    | (go_at_call 27; (with_reducible refine (nx3 _).mono ?_); rintro e w7 ⟨rfl, hb7⟩; have k2 := blk_next k2 hb7; obtain ⟨p0, p1, _, _⟩ := blk2 k2; have l2 := blk_lt k2)
    | (go_at_call 27; (with_reducible refine (nx8 _).mono ?_); rintro e w8 ⟨rfl, hb8⟩; have k2 := blk_next k2 hb8; obtain ⟨p0, p1, _, _⟩ := blk2 k2; have l2 := blk_lt k2)
    | (go_at_call 11; (with_reducible refine (pt38 _).mono ?_); rintro e w9 ⟨rfl, hb9⟩; have k2 := blk_next k2 hb9; obtain ⟨p0, p1, _, _⟩ := blk2 k2; have l2 := blk_lt k2)
    | (go_at_call 11; (with_reducible refine (pt33 _).mono ?_); rintro e w10 ⟨rfl, hb10⟩; have k2 := blk_next (blk_alloc k2 _) hb10; obtain ⟨p0, p1, _, _⟩ := blk2 k2; have l2 := blk_lt k2)
    | (go_at_call 21; (with_reducible refine (tk33 _).mono ?_); rintro e w11 ⟨rfl, hb11⟩)
    | (go_at_call 19; (with_reducible refine (rda _).mono ?_); rintro e w12 ⟨rfl, hb12⟩)
    | (go_at_call 13; (with_reducible refine (al5 _).mono ?_); rintro e w13 ⟨rfl, hb13⟩)
    | (go_at_call 8; (with_reducible refine (awake_any _).mono ?_); rintro e w14 ⟨rfl, hb14⟩; have k9 := blk_next (blk_new w13 23 (at3 ⟨#[5]⟩ 0 0)) hb14; obtain ⟨⟨r0, r1, r2⟩, _⟩ := blk3 k9))
  go_ret
  have b2 := below_call (below_box hb1 _) hb2
  have b3 := below_call (below_box b2 _) hb3
  have b4 := below_call (below_box b3 _) hb4
  have b5 := below_call (below_box b4 _) hb5
  have b8 := below_call (below_call (below_call b5 hb6) hb7) hb8
  have b10 := below_call (below_box (below_call b8 hb9) _) hb10
  have b12 := below_call (below_box (below_call (below_box b10 _) hb11) _) hb12
  exact ⟨rfl, below_call (below_box (below_call (below_box b12 _) hb13) _) hb14⟩
end Go.Proofs.Ytoaiaaecnmcnoaa
