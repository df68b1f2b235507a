/-
  The reference's Peek, Take, Left and Next.
-/
import Derived.Test.YtaohhijjalcbiaaB2Read

namespace Go.Proofs.Ytaohhijjalcbiaa
open Go.ChangeShapes Go.WideShapes Go.ChangeAt Go.RowKit
set_option linter.unusedVariables false

theorem rgt_vals (S : ByteArray) (B : Int) : rgt S B = 0 ∨ rgt S B = 2 ∨ rgt S B = 4 := by
  unfold rgt
  split
  · exact .inr (.inr rfl)
  · split
    · exact .inr (.inl rfl)
    · exact .inl rfl
theorem rgt_zero {S : ByteArray} {B : Int} (h : rgt S B = 0) : 0 ≤ B ∧ B ≤ 8 * (S.size : Int) ∧ S.size ≤ 1048576 := by
  unfold rgt at h
  by_cases h1 : 1048576 < S.size
  · rw [if_pos h1] at h; omega
  · rw [if_neg h1] at h
    by_cases h2 : B < 0 ∨ 8 * (S.size : Int) < B
    · rw [if_pos h2] at h; omega
    · exact ⟨by omega, by omega, by omega⟩

/-- Peek's error and number -/
def pekE (S : ByteArray) (B n : Int) : Int := if rgt S B = 0 then (if n < 0 ∨ 32 < n then 2 else 0) else rgt S B
def pekX (S : ByteArray) (B n : Int) : Int := if pekE S B n = 0 then (numB S B.toNat n.toNat : Nat) else 0

theorem refPeek_any (S : ByteArray) (B n : Int) (hS : S.size ≤ maxLen) (w : World) :
    Calls Try.prog 86 #[.agg #[.string S, .int .i64 B], .int .i64 n] w fun e w' => e = .returned (.tuple #[.int .i64 (pekX S B n), .int .i64 (pekE S B n)]) ∧ Below w.heap.size w w' := by
  have hR := fun u => refRight_any S B hS u
  by_cases hc : rgt S B = 0
  · obtain ⟨c1, c2, c3⟩ := rgt_zero hc
    rw [hc] at hR
    by_cases hr : n < 0 ∨ 32 < n
    · have e : pekE S B n = 2 := by unfold pekE; rw [if_pos hc, if_pos hr]
      unfold pekX
      rw [e, if_neg (by decide)]
      clear e hc
      rcases hr with hr | hr
      all_goals
        go_enter Try.func86, Try.ntmps86
        go_wp2_with ((go_at_call 66; (with_reducible refine (hR _).mono ?_); rintro e w1 ⟨rfl, hb1⟩; obtain ⟨hc1, hf1⟩ := bcell hb1; have hz1 : w.heap.size < w1.heap.size := (by have := hb1.size; simp at this; omega)))
        go_ret2
        exact ⟨rfl, ((Below.refl _ _).alloc (Nat.le_refl _) _).trans (hb1.mono (by simp))⟩
    · have e : pekE S B n = 0 := by unfold pekE; rw [if_pos hc, if_neg hr]
      unfold pekX
      rw [e, if_pos rfl]
      clear e hc
      obtain ⟨b, rfl⟩ := Int.eq_ofNat_of_zero_le c1
      obtain ⟨m, rfl⟩ := Int.eq_ofNat_of_zero_le (show 0 ≤ n by omega)
      have eb : ((b : Int)).toNat = b := by omega
      have em : ((m : Int)).toNat = m := by omega
      rw [eb, em]
      clear eb em
      have hN := fun u => refNumber_any S b m c3 (by omega) (by omega) u
      generalize numB S b m = x at hN
      go_enter Try.func86, Try.ntmps86
      go_wp2_with (first
        | (go_at_call 66; (with_reducible refine (hR _).mono ?_); rintro e w1 ⟨rfl, hb1⟩; obtain ⟨hc1, hf1⟩ := bcell hb1; have hz1 : w.heap.size < w1.heap.size := (by have := hb1.size; simp at this; omega))
        | (go_at_call 96; (with_reducible refine (hN _).mono ?_); rintro e w2 ⟨rfl, hb2⟩))
      go_ret2
      exact ⟨rfl, (((Below.refl _ _).alloc (Nat.le_refl _) _).trans (hb1.mono (by simp))).trans (hb2.mono (by omega))⟩
  · have e : pekE S B n = rgt S B := by unfold pekE; rw [if_neg hc]
    unfold pekX
    rw [e, if_neg hc]
    clear e
    have t1 : (rgt S B == 0) = false := by simp [hc]
    have t2 : (rgt S B != 0) = true := by simp [hc]
    generalize rgt S B = c at *
    clear hc
    go_enter Try.func86, Try.ntmps86
    go_wp2_with ((go_at_call 66; (with_reducible refine (hR _).mono ?_); rintro e w1 ⟨rfl, hb1⟩; obtain ⟨hc1, hf1⟩ := bcell hb1; have hz1 : w.heap.size < w1.heap.size := (by have := hb1.size; simp at this; omega)))
    go_ret2
    exact ⟨rfl, ((Below.refl _ _).alloc (Nat.le_refl _) _).trans (hb1.mono (by simp))⟩

/-- Take's error, reader and number -/
def takE (S : ByteArray) (B n : Int) : Int := if pekE S B n = 0 then (if 8 * (S.size : Int) < B + n then 5 else 0) else pekE S B n
def takS (S : ByteArray) (B n : Int) : ByteArray := if takE S B n = 0 then S else ⟨#[]⟩
def takB (S : ByteArray) (B n : Int) : Int := if takE S B n = 0 then B + n else 0
def takX (S : ByteArray) (B n : Int) : Int := if takE S B n = 0 then pekX S B n else 0

theorem pek_zero {S : ByteArray} {B n : Int} (h : pekE S B n = 0) : rgt S B = 0 ∧ 0 ≤ n ∧ n ≤ 32 := by
  unfold pekE at h
  by_cases hc : rgt S B = 0
  · rw [if_pos hc] at h
    by_cases hr : n < 0 ∨ 32 < n
    · rw [if_pos hr] at h; omega
    · exact ⟨hc, by omega, by omega⟩
  · rw [if_neg hc] at h; exact absurd h hc

/-- what the cells of Take's two structs hold behind the call of Peek, and behind the store of the new bit -/
theorem take_cells {w w1 : World} (S : ByteArray) (B n : Int) (hb1 : Below ((w.alloc (.cells #[.string S, .int .i64 B] 67)).alloc (.cells #[.string ⟨#[]⟩, .int .i64 0] 67)).heap.size ((w.alloc (.cells #[.string S, .int .i64 B] 67)).alloc (.cells #[.string ⟨#[]⟩, .int .i64 0] 67)) w1) :
    (w1.cell? ⟨w.heap.size, 0, none⟩ = some (.string S) ∧ w1.cell? ⟨w.heap.size, 1, none⟩ = some (.int .i64 B) ∧ w1.frozen? ⟨w.heap.size, 0, none⟩ = false ∧ w1.frozen? ⟨w.heap.size, 1, none⟩ = false) ∧
    ((w1.setCell ⟨w.heap.size, 1, none⟩ (.int .i64 (B + n))).cell? ⟨w.heap.size, 0, none⟩ = some (.string S) ∧ (w1.setCell ⟨w.heap.size, 1, none⟩ (.int .i64 (B + n))).cell? ⟨w.heap.size, 1, none⟩ = some (.int .i64 (B + n))) ∧
    ((w1.setCell ⟨w.heap.size, 1, none⟩ (.int .i64 (B + n))).cell? ⟨w.heap.size + 1, 0, none⟩ = some (.string ⟨#[]⟩) ∧ (w1.setCell ⟨w.heap.size, 1, none⟩ (.int .i64 (B + n))).cell? ⟨w.heap.size + 1, 1, none⟩ = some (.int .i64 0) ∧
      (w1.setCell ⟨w.heap.size, 1, none⟩ (.int .i64 (B + n))).frozen? ⟨w.heap.size + 1, 0, none⟩ = false ∧ (w1.setCell ⟨w.heap.size, 1, none⟩ (.int .i64 (B + n))).frozen? ⟨w.heap.size + 1, 1, none⟩ = false) ∧
    ((((w1.setCell ⟨w.heap.size, 1, none⟩ (.int .i64 (B + n))).setCell ⟨w.heap.size + 1, 0, none⟩ (.string S)).setCell ⟨w.heap.size + 1, 1, none⟩ (.int .i64 (B + n))).cell? ⟨w.heap.size + 1, 0, none⟩ = some (.string S) ∧
      (((w1.setCell ⟨w.heap.size, 1, none⟩ (.int .i64 (B + n))).setCell ⟨w.heap.size + 1, 0, none⟩ (.string S)).setCell ⟨w.heap.size + 1, 1, none⟩ (.int .i64 (B + n))).cell? ⟨w.heap.size + 1, 1, none⟩ = some (.int .i64 (B + n))) := by
  have k0 := blk_alloc (blk_new w 67 #[.string S, .int .i64 B]) (.cells #[.string ⟨#[]⟩, .int .i64 0] 67)
  have k1 := blk_new (w.alloc (.cells #[.string S, .int .i64 B] 67)) 67 #[.string ⟨#[]⟩, .int .i64 0]
  have e : (w.alloc (.cells #[.string S, .int .i64 B] 67)).heap.size = w.heap.size + 1 := by simp
  rw [e] at k1
  have j0 := blk_below k0 hb1 (by simp; omega)
  have j1 := blk_below k1 hb1 (by simp)
  have m0 := blk_set j0 1 (.int .i64 (B + n))
  have m1 := blk_far j1 (p := ⟨w.heap.size, 1, none⟩) (by simp) (.int .i64 (B + n))
  have m2 := blk_set (blk_set m1 0 (.string S)) 1 (.int .i64 (B + n))
  exact ⟨⟨blk_cell j0 0, blk_cell j0 1, blk_frozen j0 0, blk_frozen j0 1⟩, ⟨blk_cell m0 0, blk_cell m0 1⟩, ⟨blk_cell m1 0, blk_cell m1 1, blk_frozen m1 0, blk_frozen m1 1⟩, blk_cell m2 0, blk_cell m2 1⟩

theorem refTake_any (S : ByteArray) (B n : Int) (hS : S.size ≤ maxLen) (w : World) :
    Calls Try.prog 64 #[.agg #[.string S, .int .i64 B], .int .i64 n] w fun e w' => e = .returned (.tuple #[.agg #[.string (takS S B n), .int .i64 (takB S B n)], .int .i64 (takX S B n), .int .i64 (takE S B n)]) ∧ Below w.heap.size w w' := by
  have hP := fun u => refPeek_any S B n hS u
  by_cases hc : pekE S B n = 0
  · obtain ⟨hg, n0, n1⟩ := pek_zero hc
    obtain ⟨c1, c2, c3⟩ := rgt_zero hg
    rw [hc] at hP
    by_cases hs : 8 * (S.size : Int) < B + n
    · have e : takE S B n = 5 := by unfold takE; rw [if_pos hc, if_pos hs]
      unfold takS takB takX
      rw [e, if_neg (by decide), if_neg (by decide), if_neg (by decide)]
      clear e hc hg
      generalize pekX S B n = x at hP
      go_enter Try.func64, Try.ntmps64
      go_wp2_with ((go_at_call 86; (with_reducible refine (hP _).mono ?_); rintro e w1 ⟨rfl, hb1⟩; obtain ⟨hc1, hf1⟩ := bcell hb1; have hz1 : w.heap.size + 1 < w1.heap.size := (by have := hb1.size; simp at this; omega)))
      exact bodyPost_ret (v := .tuple #[.agg #[.string ⟨#[]⟩, .int .i64 0], .int .i64 0, .int .i64 5]) (by simp [results, Try.results64, go_sem, hc1]) rfl
        ⟨rfl, (((((Below.refl _ _).alloc (Nat.le_refl _) _).alloc (by simp) _).trans (hb1.mono (by simp; omega))).setCell (by simp) _).setCell (by simp) _⟩
    · have e : takE S B n = 0 := by unfold takE; rw [if_pos hc, if_neg hs]
      unfold takS takB takX
      rw [e, if_pos rfl, if_pos rfl, if_pos rfl]
      clear e hc hg
      generalize pekX S B n = x at hP
      go_enter Try.func64, Try.ntmps64
      go_wp2_with ((go_at_call 86; (with_reducible refine (hP _).mono ?_); rintro e w1 ⟨rfl, hb1⟩; obtain ⟨⟨j0, j1, f0, f1⟩, ⟨y0, y1⟩, ⟨r0, r1, g0, g1⟩, ⟨v0, v1⟩⟩ := take_cells S B n hb1))
      exact bodyPost_ret (v := .tuple #[.agg #[.string S, .int .i64 (B + n)], .int .i64 x, .int .i64 0]) (by simp [results, Try.results64, go_sem, v0, v1]) rfl
        ⟨rfl, ((((((Below.refl _ _).alloc (Nat.le_refl _) _).alloc (by simp) _).trans (hb1.mono (by simp; omega))).setCell (by simp) _).setCell (by simp) _).setCell (by simp) _⟩
  · have e : takE S B n = pekE S B n := by unfold takE; rw [if_neg hc]
    unfold takS takB takX
    rw [e, if_neg hc, if_neg hc, if_neg hc]
    clear e
    have t1 : (pekE S B n == 0) = false := by simp [hc]
    have t2 : (pekE S B n != 0) = true := by simp [hc]
    generalize pekE S B n = c at *
    generalize pekX S B n = x at *
    clear hc
    go_enter Try.func64, Try.ntmps64
    go_wp2_with ((go_at_call 86; (with_reducible refine (hP _).mono ?_); rintro e w1 ⟨rfl, hb1⟩; obtain ⟨hc1, hf1⟩ := bcell hb1; have hz1 : w.heap.size + 1 < w1.heap.size := (by have := hb1.size; simp at this; omega)))
    exact bodyPost_ret (v := .tuple #[.agg #[.string ⟨#[]⟩, .int .i64 0], .int .i64 0, .int .i64 c]) (by simp [results, Try.results64, go_sem, hc1]) rfl
      ⟨rfl, (((((Below.refl _ _).alloc (Nat.le_refl _) _).alloc (by simp) _).trans (hb1.mono (by simp; omega))).setCell (by simp) _).setCell (by simp) _⟩

/-- Left's and Next's numbers -/
def lefX (S : ByteArray) (B : Int) : Int := if rgt S B = 0 then 8 * (S.size : Int) - B else 0
def nexX (S : ByteArray) (B : Int) : Int := if rgt S B = 0 then (B + 7) / 8 else 0

theorem refNext_any (S : ByteArray) (B : Int) (hS : S.size ≤ maxLen) (w : World) :
    Calls Try.prog 46 #[.agg #[.string S, .int .i64 B]] w fun e w' => e = .returned (.tuple #[.int .i64 (nexX S B), .int .i64 (rgt S B)]) ∧ Below w.heap.size w w' := by
  have hR := fun u => refRight_any S B hS u
  unfold nexX
  by_cases hc : rgt S B = 0
  · obtain ⟨c1, c2, c3⟩ := rgt_zero hc
    rw [if_pos hc, hc]
    rw [hc] at hR
    clear hc
    go_enter Try.func46, Try.ntmps46
    go_wp2_with ((go_at_call 66; (with_reducible refine (hR _).mono ?_); rintro e w1 ⟨rfl, hb1⟩; obtain ⟨hc1, hf1⟩ := bcell hb1; have hz1 : w.heap.size < w1.heap.size := (by have := hb1.size; simp at this; omega)))
    go_ret2
    exact ⟨rfl, ((Below.refl _ _).alloc (Nat.le_refl _) _).trans (hb1.mono (by simp))⟩
  · rw [if_neg hc]
    have t2 : (rgt S B != 0) = true := by simp [hc]
    generalize rgt S B = c at *
    clear hc
    go_enter Try.func46, Try.ntmps46
    go_wp2_with ((go_at_call 66; (with_reducible refine (hR _).mono ?_); rintro e w1 ⟨rfl, hb1⟩; obtain ⟨hc1, hf1⟩ := bcell hb1; have hz1 : w.heap.size < w1.heap.size := (by have := hb1.size; simp at this; omega)))
    go_ret2
    exact ⟨rfl, ((Below.refl _ _).alloc (Nat.le_refl _) _).trans (hb1.mono (by simp))⟩
end Go.Proofs.Ytaohhijjalcbiaa
