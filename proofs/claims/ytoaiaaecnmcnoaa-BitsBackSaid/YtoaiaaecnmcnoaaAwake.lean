/-
  The chapter's examples in the law's own function awake.
-/
import Derived.Test.YtoaiaaecnmcnoaaT8
namespace Go.Proofs.Ytoaiaaecnmcnoaa
open Go.ChangeShapes Go.WideShapes Go.ChangeAt Go.RowKit
set_option linter.unusedVariables false

theorem put35 (u : World) : Calls Try.prog 11 #[.agg #[.string ⟨#[]⟩, .int .i64 0, .int .i64 0], .int .i64 3, .int .i64 5] u fun e w' => e = .returned (.tuple #[.agg #[.string ⟨#[]⟩, .int .i64 5, .int .i64 3], .int .i64 0]) ∧ Below u.heap.size u w' := by
  have h := ownPut_any ⟨#[]⟩ 0 0 3 5 (by decide) u
  rw [show putS ⟨#[]⟩ 0 0 3 5 = ⟨#[]⟩ by decide +kernel, show putQ ⟨#[]⟩ 0 0 3 5 = 5 by decide +kernel, show putN ⟨#[]⟩ 0 0 3 5 = 3 by decide +kernel, show putE ⟨#[]⟩ 0 0 3 5 = 0 by decide +kernel] at h
  exact h
theorem put7 (u : World) : Calls Try.prog 11 #[.agg #[.string ⟨#[]⟩, .int .i64 5, .int .i64 3], .int .i64 7, .int .i64 100] u fun e w' => e = .returned (.tuple #[.agg #[.string ⟨#[37]⟩, .int .i64 3, .int .i64 2], .int .i64 0]) ∧ Below u.heap.size u w' := by
  have h := ownPut_any ⟨#[]⟩ 5 3 7 100 (by decide) u
  rw [show putS ⟨#[]⟩ 5 3 7 100 = ⟨#[37]⟩ by decide +kernel, show putQ ⟨#[]⟩ 5 3 7 100 = 3 by decide +kernel, show putN ⟨#[]⟩ 5 3 7 100 = 2 by decide +kernel, show putE ⟨#[]⟩ 5 3 7 100 = 0 by decide +kernel] at h
  exact h
theorem done37 (u : World) : Calls Try.prog 15 #[.agg #[.string ⟨#[37]⟩, .int .i64 3, .int .i64 2]] u fun e w' => e = .returned (.tuple #[.string ⟨#[37, 3]⟩, .int .i64 0]) ∧ Below u.heap.size u w' := by
  have h := ownDone_any ⟨#[37]⟩ 3 2 (by decide) u
  rw [show aliS ⟨#[37]⟩ 3 2 = ⟨#[37, 3]⟩ by decide +kernel, show aliE ⟨#[37]⟩ 3 2 = 0 by decide +kernel] at h
  exact h
theorem take0 (u : World) : Calls Try.prog 21 #[.agg #[.string ⟨#[37, 3]⟩, .int .i64 0], .int .i64 3] u fun e w' => e = .returned (.tuple #[.agg #[.string ⟨#[37, 3]⟩, .int .i64 3], .int .i64 5, .int .i64 0]) ∧ Below u.heap.size u w' := by
  have h := ownTake_any ⟨#[37, 3]⟩ 0 3 (by decide) u
  rw [show takS ⟨#[37, 3]⟩ 0 3 = ⟨#[37, 3]⟩ by decide +kernel, show takB ⟨#[37, 3]⟩ 0 3 = 3 by decide +kernel, show takX ⟨#[37, 3]⟩ 0 3 = 5 by decide +kernel, show takE ⟨#[37, 3]⟩ 0 3 = 0 by decide +kernel] at h
  exact h

theorem shown_any (w : World) : Calls Try.prog 32 #[] w fun e w' => e = .returned (.tuple #[.agg #[.string ⟨#[37]⟩, .int .i64 3, .int .i64 2], .bool true]) ∧ Below w.heap.size w w' := by
  go_enter Try.func32, Try.ntmps32
  go_wp2_with (first
    | (go_at_call 11; (with_reducible refine (put35 _).mono ?_); rintro e w1 ⟨rfl, hb1⟩; obtain ⟨hc1, hf1⟩ := bcell hb1; have hz1 : w.heap.size < w1.heap.size := (by have := hb1.size; simp at this; omega))
    | (go_at_call 11; (with_reducible refine (put7 _).mono ?_); rintro e w2 ⟨rfl, hb2⟩; obtain ⟨hc2, hf2⟩ := bcell hb2; have hz2 : w1.heap.size < w2.heap.size := (by have := hb2.size; simp at this; omega); have hz3 : w.heap.size < w2.heap.size := (by omega)))
  have hbw : Below w.heap.size w w2 := ((((Below.refl _ _).alloc (Nat.le_refl _) _).trans (hb1.mono (by simp))).alloc (by omega) _).trans (hb2.mono (by simp; omega))
  have k0 := blk_below (blk_alloc (blk_below (blk_new w 23 (at3 ⟨#[]⟩ 0 0)) hb1 (by simp)) _) hb2 (by simp; omega)
  obtain ⟨⟨y0, y1, y2⟩, _⟩ := blk3 (blk3_set (s' := ⟨#[37]⟩) (p' := 3) (n' := 2) (blk3_far k0 (h := w1.heap.size) (by omega) (.string ⟨#[37]⟩) (.int .i64 3) (.int .i64 2)))
  exact bodyPost_ret (v := .tuple #[.agg #[.string ⟨#[37]⟩, .int .i64 3, .int .i64 2], .bool true]) (by simp [results, Try.results32, go_sem, y0, y1, y2]) rfl ⟨rfl, below3 (below3 hbw (by omega) _ _ _) (Nat.le_refl _) _ _ _⟩

theorem taken_any (w : World) : Calls Try.prog 33 #[.agg #[.string ⟨#[37, 3]⟩, .int .i64 0], .int .i64 3, .int .i64 5] w fun e w' => e = .returned (.bool true) ∧ Below w.heap.size w w' := by
  go_enter Try.func33, Try.ntmps33
  go_wp2_with (go_at_call 21; (with_reducible refine (take0 _).mono ?_); rintro e w1 ⟨rfl, hb1⟩)
  go_ret
  exact ⟨rfl, (((Below.refl _ _).alloc (Nat.le_refl _) _).trans (hb1.mono (by simp))).alloc (by have := hb1.size; simp at this; omega) _⟩
theorem awake_any (w : World) : Calls Try.prog 8 #[] w fun e w' => e = .returned (.bool true) ∧ Below w.heap.size w w' := by
  go_enter Try.func8, Try.ntmps8
  go_wp2_with (first
    | (go_at_call 32; (with_reducible refine (shown_any _).mono ?_); rintro e w1 ⟨rfl, hb1⟩)
    | (go_at_call 15; (with_reducible refine (done37 _).mono ?_); rintro e w2 ⟨rfl, hb2⟩; obtain ⟨hc2, hf2⟩ := bcell hb2)
    | (go_at_call 33; (with_reducible refine (taken_any _).mono ?_); rintro e w3 ⟨rfl, hb3⟩))
  go_ret
  have h1 := hb1.size
  have h2 := hb2.size
  simp at h2
  exact ⟨rfl, ((hb1.alloc h1 _).trans (hb2.mono (by simp; omega))).trans (hb3.mono (by omega))⟩

end Go.Proofs.Ytoaiaaecnmcnoaa
