/-
  The reference's Align and Done.
-/
import Derived.Test.YtaohhijjalcbiaaB2Put2

namespace Go.Proofs.Ytaohhijjalcbiaa
open Go.ChangeShapes Go.WideShapes Go.ChangeAt Go.RowKit
set_option linter.unusedVariables false

/-- Align's error and writer -/
def aliE (S : ByteArray) (P N : Int) : Int := if chk S P N = 0 then (if N = 0 then 0 else putE S P N (8 - N) 0) else chk S P N
def aliS (S : ByteArray) (P N : Int) : ByteArray := if chk S P N = 0 then (if N = 0 then S else putS S P N (8 - N) 0) else ⟨#[]⟩
def aliQ (S : ByteArray) (P N : Int) : Int := if chk S P N = 0 then (if N = 0 then P else putQ S P N (8 - N) 0) else 0
def aliN (S : ByteArray) (P N : Int) : Int := if chk S P N = 0 then (if N = 0 then N else putN S P N (8 - N) 0) else 0

theorem refAlign_any (S : ByteArray) (P N : Int) (hS : S.size ≤ 9223372036854775807) (w : World) :
    Calls Try.prog 55 #[.agg #[.string S, .int .i64 P, .int .i64 N]] w fun e w' =>
      e = .returned (.tuple #[.agg #[.string (aliS S P N), .int .i64 (aliQ S P N), .int .i64 (aliN S P N)], .int .i64 (aliE S P N)]) ∧ Below w.heap.size w w' := by
  have hC := fun u => check_any S P N hS u
  by_cases hc : chk S P N = 0
  · rw [hc] at hC
    obtain ⟨c1, c2, _⟩ := chk_zero hc
    by_cases hn : N = 0
    · unfold aliE aliS aliQ aliN
      rw [if_pos hc, if_pos hc, if_pos hc, if_pos hc, if_pos hn, if_pos hn, if_pos hn, if_pos hn]
      subst hn
      clear hc
      go_enter Try.func55, Try.ntmps55
      go_wp2_with ((go_at_call 77; (with_reducible refine (hC _).mono ?_); rintro e w1 ⟨rfl, hb1⟩; obtain ⟨hc1, hf1⟩ := bcell hb1; have hz1 : w.heap.size + 1 < w1.heap.size := (by have := hb1.size; simp at this; omega)))
      exact bodyPost_ret (v := .tuple #[.agg #[.string S, .int .i64 P, .int .i64 0], .int .i64 0]) (by simp [results, Try.results55, go_sem, hc1]) rfl
        ⟨rfl, ((((((Below.refl _ _).alloc (Nat.le_refl _) _).alloc (by simp) _).trans (hb1.mono (by simp; omega))).setCell (by simp) _).setCell (by simp) _).setCell (by simp) _⟩
    · have hP := fun u => refPut_any S P N (8 - N) 0 hS u
      unfold aliE aliS aliQ aliN
      rw [if_pos hc, if_pos hc, if_pos hc, if_pos hc, if_neg hn, if_neg hn, if_neg hn, if_neg hn]
      generalize putS S P N (8 - N) 0 = s at *
      generalize putQ S P N (8 - N) 0 = q at *
      generalize putN S P N (8 - N) 0 = r at *
      generalize putE S P N (8 - N) 0 = e at *
      have hn' : (N == 0) = false := by simp [hn]
      clear hc
      go_enter Try.func55, Try.ntmps55
      go_wp2_with (first
        | (go_at_call 77; (with_reducible refine (hC _).mono ?_); rintro e w1 ⟨rfl, hb1⟩; obtain ⟨hc1, hf1⟩ := bcell hb1; have hz1 : w.heap.size + 1 < w1.heap.size := (by have := hb1.size; simp at this; omega))
        | (go_at_call 53; (with_reducible refine (hP _).mono ?_); rintro e w2 ⟨rfl, hb2⟩; obtain ⟨hc2, hf2⟩ := bcell hb2; have hz2 : w.heap.size + 1 < w2.heap.size := (by have := hb2.size; omega)))
      exact bodyPost_ret (v := .tuple #[.agg #[.string s, .int .i64 q, .int .i64 r], .int .i64 e]) (by simp [results, Try.results55, go_sem, hc1, hc2, hz1]) rfl
        ⟨rfl, (((((((Below.refl _ _).alloc (Nat.le_refl _) _).alloc (by simp) _).trans (hb1.mono (by simp; omega))).trans (hb2.mono (by omega))).setCell (by simp) _).setCell (by simp) _).setCell (by simp) _⟩
  · have hv := chk_vals S P N
    have t2 : (chk S P N != 0) = true := by simp [hc]
    unfold aliE aliS aliQ aliN
    rw [if_neg hc, if_neg hc, if_neg hc, if_neg hc]
    generalize chk S P N = c at *
    clear hc hv
    go_enter Try.func55, Try.ntmps55
    go_wp2_with ((go_at_call 77; (with_reducible refine (hC _).mono ?_); rintro e w1 ⟨rfl, hb1⟩; obtain ⟨hc1, hf1⟩ := bcell hb1; have hz1 : w.heap.size + 1 < w1.heap.size := (by have := hb1.size; simp at this; omega)))
    exact bodyPost_ret (v := .tuple #[.agg #[.string ⟨#[]⟩, .int .i64 0, .int .i64 0], .int .i64 c]) (by simp [results, Try.results55, go_sem, hc1]) rfl
      ⟨rfl, ((((((Below.refl _ _).alloc (Nat.le_refl _) _).alloc (by simp) _).trans (hb1.mono (by simp; omega))).setCell (by simp) _).setCell (by simp) _).setCell (by simp) _⟩

theorem refDone_any (S : ByteArray) (P N : Int) (hS : S.size ≤ 9223372036854775807) (w : World) :
    Calls Try.prog 35 #[.agg #[.string S, .int .i64 P, .int .i64 N]] w fun e w' =>
      e = .returned (.tuple #[.string (aliS S P N), .int .i64 (aliE S P N)]) ∧ Below w.heap.size w w' := by
  have hA := fun u => refAlign_any S P N hS u
  generalize aliS S P N = s at *
  generalize aliQ S P N = q at *
  generalize aliN S P N = r at *
  generalize aliE S P N = c at *
  go_enter Try.func35, Try.ntmps35
  go_wp2_with ((go_at_call 55; (with_reducible refine (hA _).mono ?_); rintro e w1 ⟨rfl, hb1⟩))
  go_ret2
  exact ⟨rfl, (((Below.refl _ _).alloc (Nat.le_refl _) _).trans (hb1.mono (by simp))).alloc (by have := hb1.size; simp at this; omega) _⟩

end Go.Proofs.Ytaohhijjalcbiaa
