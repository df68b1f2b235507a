/-
  The chapter's examples have the results given there: what the call of IntsKnown does.
-/
import Derived.Test.YtjflkjkkamapdaaAwake
import Derived.Test.YtjflkjkkamapdaaSums2

namespace Go.Proofs.Ytjflkjkkamapdaa
open Go.ChangeShapes Go.WideShapes Go.ChangeAt Go.RowKit
set_option linter.unusedVariables false

theorem triple_at (w : World) (a b c : Int) (T : TypeId) : IntsAt (w.alloc (.cells #[.int .i64 a, .int .i64 b, .int .i64 c] T)) (w.heap.size + 1) (some ⟨w.heap.size, 0, none⟩) [a, b, c] := fun _ =>
  ⟨w.heap.size, 0, rfl, by omega, fun k hk => by
    have hk2 : k < 3 := hk
    rcases k with _ | _ | _ | k
    · simp [go_sem]
    · simp [go_sem]
    · simp [go_sem]
    · omega⟩

theorem sum3 (w : World) : Calls Try.prog 28 #[.slice (some ⟨w.heap.size, 0, none⟩) 3 3] (w.alloc (.cells #[.int .i64 1, .int .i64 2, .int .i64 3] 3)) fun e w' => e = .returned (.tuple #[.int .i64 6, .int .i64 0]) ∧ (w.alloc (.cells #[.int .i64 1, .int .i64 2, .int .i64 3] 3)) = w' := by
  have h := sum_any (some ⟨w.heap.size, 0, none⟩) 3 3 _ [1, 2, 3] _ rfl (by omega) (triple_at w 1 2 3 3)
  have e : sumUp 0 [1, 2, 3] = some 6 := by decide
  rw [e] at h
  exact h
theorem sum2 (w : World) : Calls Try.prog 28 #[.slice (some ⟨w.heap.size, 0, none⟩) 2 2] (w.alloc (.cells #[.int .i64 1099511627776, .int .i64 1] 3)) fun e w' => e = .returned (.tuple #[.int .i64 0, .int .i64 2]) ∧ (w.alloc (.cells #[.int .i64 1099511627776, .int .i64 1] 3)) = w' := by
  have h := sum_any (some ⟨w.heap.size, 0, none⟩) 2 2 _ [1099511627776, 1] _ rfl (by omega) (pair_at w 1099511627776 1 3)
  have e : sumUp 0 [1099511627776, 1] = none := by decide
  rw [e] at h
  exact h
theorem sum2b (w : World) (o : Obj) : Calls Try.prog 28 #[.slice (some ⟨w.heap.size + 1, 0, none⟩) 2 2] ((w.alloc o).alloc (.cells #[.int .i64 1099511627776, .int .i64 1] 3)) fun e w' => e = .returned (.tuple #[.int .i64 0, .int .i64 2]) ∧ ((w.alloc o).alloc (.cells #[.int .i64 1099511627776, .int .i64 1] 3)) = w' := by
  have h := sum2 (w.alloc o)
  have e : (w.alloc o).heap.size = w.heap.size + 1 := by simp
  rw [e] at h
  exact h
theorem sum0 (w : World) : Calls Try.prog 28 #[.slice none 0 0] w fun e w' => e = .returned (.tuple #[.int .i64 0, .int .i64 0]) ∧ w = w' := by
  have h := sum_any none 0 0 0 [] w rfl (by omega) (fun h => absurd h (by decide))
  have e : sumUp 0 [] = some 0 := by decide
  rw [e] at h
  exact h

theorem low8 (u : World) : Calls Try.prog 10 #[.int .u64 300, .int .i64 8] u fun e w' => e = .returned (.tuple #[.int .u64 44, .int .i64 0]) ∧ u = w' := low_any 300 8 (by decide) (by decide) u
theorem low0 (u : World) : Calls Try.prog 10 #[.int .u64 300, .int .i64 0] u fun e w' => e = .returned (.tuple #[.int .u64 0, .int .i64 0]) ∧ u = w' := low_any 300 0 (by decide) (by decide) u
theorem low65 (u : World) : Calls Try.prog 10 #[.int .u64 300, .int .i64 65] u fun e w' => e = .returned (.tuple #[.int .u64 0, .int .i64 2]) ∧ u = w' := low_bad 300 65 (by decide) u
theorem little256 (u : World) : Calls Try.prog 19 #[.int .u64 256, .int .i64 1] u fun e w' => e = .returned (.tuple #[.string ⟨#[]⟩, .int .i64 2]) ∧ u = w' := little_big 256 1 (by decide) (by decide) (by decide) (by decide) u
theorem little0 (u : World) : Calls Try.prog 19 #[.int .u64 0, .int .i64 0] u fun e w' => e = .returned (.tuple #[.string ⟨#[]⟩, .int .i64 2]) ∧ u = w' := little_bad 0 0 (by decide) u
theorem read5 (u : World) : Calls Try.prog 21 #[.string ⟨#[2, 1, 5]⟩, .int .i64 2, .int .i64 1] u fun e w' => e = .returned (.tuple #[.int .u64 5, .int .i64 3, .agg #[.int .i64 0, .int .i64 0]]) ∧ Below u.heap.size u w' :=
  read_ok ⟨#[2, 1, 5]⟩ 2 1 (by decide) (by decide) (by decide) (by decide) u

set_option maxRecDepth 100000 in
set_option maxHeartbeats 1000000 in
theorem known_any (w : World) : Calls Try.prog 6 #[] w fun e w' => e = .returned (.bool true) ∧ Below w.heap.size w w' := by
  have hP1 := fun u => plus_any (-1) 1 u
  have p1 : addR (-1) 1 = none := by decide
  rw [p1] at hP1
  have hT1 := fun u => times_any 1048576 1048576 u
  have hT2 := fun u => times_any 1048576 1048577 u
  have t1 : mulR 1048576 1048576 = some 1099511627776 := by decide
  have t2 : mulR 1048576 1048577 = none := by decide
  rw [t1] at hT1
  rw [t2] at hT2
  simp only [resOf] at hP1 hT1 hT2
  have hB := fun u => bits_any (-5) (by omega) (by omega) u
  have hU1 := fun u => up_any 1 (by omega) (by omega) u
  have hU2 := fun u => up_any 8 (by omega) (by omega) u
  have n5 : (nb (-5) : Int) = 0 := by decide +kernel
  have n6 : (up 1 : Int) = 0 := by decide +kernel
  have n7 : (up 8 : Int) = 3 := by decide +kernel
  rw [n5] at hB
  rw [n6] at hU1
  rw [n7] at hU2
  have hF1 := fun u => faultLaw_short ⟨#[2, 1, 5]⟩ 2 2 (by decide) (by decide) 3 (by decide) u
  have hF2 := fun u => faultLaw_bad ⟨#[2, 1, 5]⟩ 4 1 (by decide) (by decide) u
  have hF3 := fun u => faultLaw_bad ⟨#[2, 1, 5]⟩ 0 9 (by decide) (by decide) u
  clear p1 t1 t2 n5 n6 n7
  go_enter Try.func6, Try.ntmps6
  go_wp2_with (first
    | (go_at_call 10; (with_reducible refine (low8 _).mono ?_); rintro e w' ⟨rfl, rfl⟩)
    | (go_at_call 10; (with_reducible refine (low0 _).mono ?_); rintro e w' ⟨rfl, rfl⟩)
    | (go_at_call 10; (with_reducible refine (low65 _).mono ?_); rintro e w' ⟨rfl, rfl⟩)
    | (go_at_call 19; (with_reducible refine (little256 _).mono ?_); rintro e w' ⟨rfl, rfl⟩)
    | (go_at_call 19; (with_reducible refine (little0 _).mono ?_); rintro e w' ⟨rfl, rfl⟩)
    | (go_at_call 21; (with_reducible refine (read5 _).mono ?_); rintro e w1 ⟨rfl, hb1⟩)
    | (go_at_call 24; (with_reducible refine (hP1 _).mono ?_); rintro e w2 ⟨rfl, hb2⟩; have hz2 : w1.heap.size < w2.heap.size := (by have := hb2.size; simp at this; omega); have k0 : w2.cell? ⟨w1.heap.size, 0, none⟩ = some (.int .i64 0) := (by rw [hb2.cell (by simp)]; simp [go_sem]); have k1 : w2.cell? ⟨w1.heap.size, 1, none⟩ = some (.int .i64 0) := (by rw [hb2.cell (by simp)]; simp [go_sem]))
    | (go_at_call 26; (with_reducible refine (hT1 _).mono ?_); rintro e w' ⟨rfl, rfl⟩)
    | (go_at_call 26; (with_reducible refine (hT2 _).mono ?_); rintro e w' ⟨rfl, rfl⟩)
    | (go_at_call 28; (with_reducible refine (sum3 _).mono ?_); rintro e w' ⟨rfl, rfl⟩)
    | (go_at_call 28; (with_reducible refine (sum0 _).mono ?_); rintro e w' ⟨rfl, rfl⟩)
    | (go_at_call 28; (with_reducible refine (sum2b _ _).mono ?_); rintro e w' ⟨rfl, rfl⟩)
    | (go_at_call 14; (with_reducible refine (hB _).mono ?_); rintro e w' ⟨rfl, rfl⟩)
    | (go_at_call 16; (with_reducible refine (hU1 _).mono ?_); rintro e w' ⟨rfl, rfl⟩)
    | (go_at_call 16; (with_reducible refine (hU2 _).mono ?_); rintro e w' ⟨rfl, rfl⟩)
    | (go_at_call 31; (with_reducible refine (fieldMax _).mono ?_); rintro e w3 ⟨rfl, hb3⟩; have m0 : w3.cell? ⟨w1.heap.size, 0, none⟩ = some (.int .i64 0) := (by rw [hb3.cell (by simp; omega)]; exact (World.cell?_alloc_past _ _ _ (by simp; omega)).trans ((World.cell?_alloc_past _ _ _ hz2).trans k0)); have m1 : w3.cell? ⟨w1.heap.size, 1, none⟩ = some (.int .i64 0) := (by rw [hb3.cell (by simp; omega)]; exact (World.cell?_alloc_past _ _ _ (by simp; omega)).trans ((World.cell?_alloc_past _ _ _ hz2).trans k1)))
    | (go_at_call 32; (with_reducible refine (hF1 _).mono ?_); rintro e w4 ⟨rfl, hb4⟩)
    | (go_at_call 32; (with_reducible refine (hF2 _).mono ?_); rintro e w5 ⟨rfl, hb5⟩)
    | (go_at_call 32; (with_reducible refine (hF3 _).mono ?_); rintro e w6 ⟨rfl, hb6⟩)
    | (go_at_call 18; (with_reducible refine (awake_any _).mono ?_); rintro e w7 ⟨rfl, hb7⟩))
  go_ret
  refine ⟨rfl, ?_⟩
  have h1 := hb1.size
  have h2 := hb2.size
  have h3 := hb3.size
  have h4 := hb4.size
  have h5 := hb5.size
  have h6 := hb6.size
  simp at h2 h3
  have g2 := (hb1.alloc hb1.size _).trans (hb2.mono (by simp; omega))
  have g3 := ((g2.alloc (by omega) _).alloc (by simp; omega) _).trans (hb3.mono (by simp; omega))
  exact (((g3.trans (hb4.mono (by omega))).trans (hb5.mono (by omega))).trans (hb6.mono (by omega))).trans (hb7.mono (by omega))
end Go.Proofs.Ytjflkjkkamapdaa
