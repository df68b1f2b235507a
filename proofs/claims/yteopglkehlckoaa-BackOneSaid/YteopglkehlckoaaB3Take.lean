/-
  The reference's Peek, Skip and Take of streams that are read from behind, for every reader and all numbers.
-/
import Derived.Test.YteopglkehlckoaaB3Peek
namespace Go.Proofs.Yteopglkehlckoaa
open Go.ChangeShapes Go.WideShapes Go.ChangeAt Go.RowKit
set_option linter.unusedVariables false

theorem bak_zero {S : ByteArray} {L n : Int} (h : bakE S L n = 0) : strE S = 0 ∧ 0 ≤ L ∧ L ≤ strN S ∧ 0 ≤ n ∧ n ≤ 32 := by
  unfold bakE at h
  by_cases hc : brtE S L = 0
  · rw [if_pos hc] at h
    by_cases hr : n < 0 ∨ 32 < n
    · rw [if_pos hr] at h; omega
    · unfold brtE at hc
      by_cases h1 : strE S = 0 ∧ 0 ≤ L ∧ L ≤ strN S
      · exact ⟨h1.1, h1.2.1, h1.2.2, by omega, by omega⟩
      · rw [if_neg h1] at hc; omega
  · rw [if_neg hc] at h; exact absurd h hc

theorem bpeek_any (S : ByteArray) (L n : Int) (hS : S.size ≤ 9223372036854775807) (w : World) :
    Calls Try.prog 30 #[.agg #[.string S, .int .i64 L], .int .i64 n] w fun e w' => e = .returned (.tuple #[.int .u64 (bpkX S L n), .int .i64 (bakE S L n)]) ∧ Below w.heap.size w w' := by
  have hA := fun u => basked_any S L n hS u
  unfold bpkX
  by_cases hc : bakE S L n = 0
  · obtain ⟨z1, z2, z3, z4, z5⟩ := bak_zero hc
    obtain ⟨y1, y2, y3, y4, y5⟩ := strE_zero z1
    rw [if_pos hc, hc]
    rw [hc] at hA
    obtain ⟨l, rfl⟩ := Int.eq_ofNat_of_zero_le z2
    obtain ⟨m, rfl⟩ := Int.eq_ofNat_of_zero_le z4
    have el : ((l : Int)).toNat = l := by omega
    have em : ((m : Int)).toNat = m := by omega
    rw [el, em]
    exact bpeek_loop S l m (by omega) y2 (by omega) w hA
  · rw [if_neg hc]
    have t2 : (bakE S L n != 0) = true := by simp [hc]
    generalize bakE S L n = c at *
    clear hc
    go_enter Try.func30, Try.ntmps30
    go_wp2_with ((go_at_call 43; (with_reducible refine (hA _).mono ?_); rintro e w1 ⟨rfl, hb1⟩))
    go_ret2
    exact ⟨rfl, ((Below.refl _ _).alloc (Nat.le_refl _) _).trans (hb1.mono (by simp))⟩

/-- Skip's error and reader -/
def bskE (S : ByteArray) (L n : Int) : Int := if bakE S L n = 0 then (if L < n then 5 else 0) else bakE S L n
def bskS (S : ByteArray) (L n : Int) : ByteArray := if bskE S L n = 0 then S else ⟨#[]⟩
def bskL (S : ByteArray) (L n : Int) : Int := if bskE S L n = 0 then L - n else 0

/-- the cells of two structs behind a call, and behind the store of a new number -/
theorem skip_cells {w w1 : World} (S : ByteArray) (B M : Int) (hb1 : Below ((w.alloc (.cells #[.string S, .int .i64 B] 32)).alloc (.cells #[.string ⟨#[]⟩, .int .i64 0] 32)).heap.size ((w.alloc (.cells #[.string S, .int .i64 B] 32)).alloc (.cells #[.string ⟨#[]⟩, .int .i64 0] 32)) w1) :
    (w1.cell? ⟨w.heap.size, 0, none⟩ = some (.string S) ∧ w1.cell? ⟨w.heap.size, 1, none⟩ = some (.int .i64 B) ∧ w1.frozen? ⟨w.heap.size, 0, none⟩ = false ∧ w1.frozen? ⟨w.heap.size, 1, none⟩ = false) ∧
    ((w1.setCell ⟨w.heap.size, 1, none⟩ (.int .i64 M)).cell? ⟨w.heap.size, 0, none⟩ = some (.string S) ∧ (w1.setCell ⟨w.heap.size, 1, none⟩ (.int .i64 M)).cell? ⟨w.heap.size, 1, none⟩ = some (.int .i64 M)) ∧
    ((w1.setCell ⟨w.heap.size, 1, none⟩ (.int .i64 M)).cell? ⟨w.heap.size + 1, 0, none⟩ = some (.string ⟨#[]⟩) ∧ (w1.setCell ⟨w.heap.size, 1, none⟩ (.int .i64 M)).cell? ⟨w.heap.size + 1, 1, none⟩ = some (.int .i64 0) ∧
      (w1.setCell ⟨w.heap.size, 1, none⟩ (.int .i64 M)).frozen? ⟨w.heap.size + 1, 0, none⟩ = false ∧ (w1.setCell ⟨w.heap.size, 1, none⟩ (.int .i64 M)).frozen? ⟨w.heap.size + 1, 1, none⟩ = false) ∧
    ((((w1.setCell ⟨w.heap.size, 1, none⟩ (.int .i64 M)).setCell ⟨w.heap.size + 1, 0, none⟩ (.string S)).setCell ⟨w.heap.size + 1, 1, none⟩ (.int .i64 M)).cell? ⟨w.heap.size + 1, 0, none⟩ = some (.string S) ∧
      (((w1.setCell ⟨w.heap.size, 1, none⟩ (.int .i64 M)).setCell ⟨w.heap.size + 1, 0, none⟩ (.string S)).setCell ⟨w.heap.size + 1, 1, none⟩ (.int .i64 M)).cell? ⟨w.heap.size + 1, 1, none⟩ = some (.int .i64 M)) := by
  have k0 := blk_alloc (blk_new w 32 #[.string S, .int .i64 B]) (.cells #[.string ⟨#[]⟩, .int .i64 0] 32)
  have k1 := blk_new2 w (.cells #[.string S, .int .i64 B] 32) 32 #[.string ⟨#[]⟩, .int .i64 0]
  have j0 := blk_below k0 hb1 (by simp; omega)
  have j1 := blk_below k1 hb1 (by simp)
  have m0 := blk_set j0 1 (.int .i64 M)
  have m1 := blk_far j1 (p := ⟨w.heap.size, 1, none⟩) (by simp) (.int .i64 M)
  have m2 := blk_set (blk_set m1 0 (.string S)) 1 (.int .i64 M)
  exact ⟨⟨blk_cell j0 0, blk_cell j0 1, blk_frozen j0 0, blk_frozen j0 1⟩, ⟨blk_cell m0 0, blk_cell m0 1⟩, ⟨blk_cell m1 0, blk_cell m1 1, blk_frozen m1 0, blk_frozen m1 1⟩, blk_cell m2 0, blk_cell m2 1⟩

theorem bskip_any (S : ByteArray) (L n : Int) (hS : S.size ≤ 9223372036854775807) (w : World) :
    Calls Try.prog 31 #[.agg #[.string S, .int .i64 L], .int .i64 n] w fun e w' => e = .returned (.tuple #[.agg #[.string (bskS S L n), .int .i64 (bskL S L n)], .int .i64 (bskE S L n)]) ∧ Below w.heap.size w w' := by
  have hA := fun u => basked_any S L n hS u
  by_cases hc : bakE S L n = 0
  · obtain ⟨z1, z2, z3, z4, z5⟩ := bak_zero hc
    obtain ⟨y1, y2, y3, y4, y5⟩ := strE_zero z1
    rw [hc] at hA
    have hL : L ≤ 8388608 := by omega
    by_cases hs : L < n
    · have e : bskE S L n = 5 := by unfold bskE; rw [if_pos hc, if_pos hs]
      unfold bskS bskL
      rw [e, if_neg (by decide), if_neg (by decide)]
      clear e hc z1 z3 y3 y4 y5
      go_enter Try.func31, Try.ntmps31
      go_wp2_with ((go_at_call 43; (with_reducible refine (hA _).mono ?_); rintro e w1 ⟨rfl, hb1⟩; obtain ⟨hc1, hf1⟩ := bcell hb1; have hz1 : w.heap.size + 1 < w1.heap.size := (by have := hb1.size; simp at this; omega)))
      exact bodyPost_ret (v := .tuple #[.agg #[.string ⟨#[]⟩, .int .i64 0], .int .i64 5]) (by simp [results, Try.results31, go_sem, hc1]) rfl
        ⟨rfl, (((((Below.refl _ _).alloc (Nat.le_refl _) _).alloc (by simp) _).trans (hb1.mono (by simp; omega))).setCell (by simp) _).setCell (by simp) _⟩
    · have e : bskE S L n = 0 := by unfold bskE; rw [if_pos hc, if_neg hs]
      unfold bskS bskL
      rw [e, if_pos rfl, if_pos rfl]
      have hs' : n ≤ L := by omega
      clear e hc z1 z3 y3 y4 y5 hs
      go_enter Try.func31, Try.ntmps31
      go_wp2_with ((go_at_call 43; (with_reducible refine (hA _).mono ?_); rintro e w1 ⟨rfl, hb1⟩; obtain ⟨⟨j0, j1, f0, f1⟩, ⟨y0, y1⟩, ⟨r0, r1, g0, g1⟩, ⟨v0, v1⟩⟩ := skip_cells S L (L - n) hb1))
      exact bodyPost_ret (v := .tuple #[.agg #[.string S, .int .i64 (L - n)], .int .i64 0]) (by simp [results, Try.results31, go_sem, v0, v1]) rfl
        ⟨rfl, ((((((Below.refl _ _).alloc (Nat.le_refl _) _).alloc (by simp) _).trans (hb1.mono (by simp; omega))).setCell (by simp) _).setCell (by simp) _).setCell (by simp) _⟩
  · have e : bskE S L n = bakE S L n := by unfold bskE; rw [if_neg hc]
    unfold bskS bskL
    rw [e, if_neg hc, if_neg hc]
    have t1 : (bakE S L n == 0) = false := by simp [hc]
    have t2 : (bakE S L n != 0) = true := by simp [hc]
    generalize bakE S L n = c at *
    clear hc e
    go_enter Try.func31, Try.ntmps31
    go_wp2_with ((go_at_call 43; (with_reducible refine (hA _).mono ?_); rintro e w1 ⟨rfl, hb1⟩; obtain ⟨hc1, hf1⟩ := bcell hb1; have hz1 : w.heap.size + 1 < w1.heap.size := (by have := hb1.size; simp at this; omega)))
    exact bodyPost_ret (v := .tuple #[.agg #[.string ⟨#[]⟩, .int .i64 0], .int .i64 c]) (by simp [results, Try.results31, go_sem, hc1]) rfl
      ⟨rfl, (((((Below.refl _ _).alloc (Nat.le_refl _) _).alloc (by simp) _).trans (hb1.mono (by simp; omega))).setCell (by simp) _).setCell (by simp) _⟩

/-- Take's number -/
def btkX (S : ByteArray) (L n : Int) : Int := if bskE S L n = 0 then bpkX S L n else 0

theorem btake_any (S : ByteArray) (L n : Int) (hS : S.size ≤ 9223372036854775807) (w : World) :
    Calls Try.prog 28 #[.agg #[.string S, .int .i64 L], .int .i64 n] w fun e w' => e = .returned (.tuple #[.agg #[.string (bskS S L n), .int .i64 (bskL S L n)], .int .u64 (btkX S L n), .int .i64 (bskE S L n)]) ∧ Below w.heap.size w w' := by
  have hK := fun u => bskip_any S L n hS u
  have hP := fun u => bpeek_any S L n hS u
  unfold btkX
  by_cases hc : bskE S L n = 0
  · rw [if_pos hc, hc]
    rw [hc] at hK
    clear hc
    generalize bskS S L n = s at *
    generalize bskL S L n = l at *
    generalize bpkX S L n = x at *
    generalize bakE S L n = c at *
    have k0 := Lib.hid (blk_alloc (blk_new w 32 #[.string S, .int .i64 L]) (.cells #[.string ⟨#[]⟩, .int .i64 0] 32))
    have k1 := Lib.hid (blk_new2 w (.cells #[.string S, .int .i64 L] 32) 32 #[.string ⟨#[]⟩, .int .i64 0])
    go_enter Try.func28, Try.ntmps28
    go_wp2_with (first
      | (go_at_call 31; (with_reducible refine (hK _).mono ?_); rintro e w1 ⟨rfl, hb1⟩; have hz1 : w.heap.size + 1 < w1.heap.size := (by have := hb1.size; simp at this; omega); have J0 := Lib.hid (blk_alloc (blk_below k0.out hb1 (by simp; omega)) (.cells #[.string s, .int .i64 l] 32)); have J1 := Lib.hid (blk_alloc (blk_below k1.out hb1 (by simp)) (.cells #[.string s, .int .i64 l] 32)); have J7 := Lib.hid (blk_new w1 32 #[.string s, .int .i64 l]); have a0 := blk_cell J0.out 0; have a1 := blk_cell J0.out 1; simp at a0 a1)
      | (go_at_call 30; (with_reducible refine (hP _).mono ?_); rintro e w2 ⟨rfl, hb2⟩; have M1 := Lib.hid (blk_below J1.out hb2 (by simp; omega)); have M7 := Lib.hid (blk_below J7.out hb2 (by simp)); have b0 := blk_cell M7.out 0; have b1 := blk_cell M7.out 1; have d0 := blk_cell M1.out 0; have d1 := blk_cell M1.out 1; have f0 := blk_frozen M1.out 0; have f1 := blk_frozen M1.out 1; simp at b0 b1 d0 d1))
    obtain ⟨v0, v1⟩ := (show _ ∧ _ from ⟨blk_cell (blk_set (blk_set M1.out 0 (.string s)) 1 (.int .i64 l)) 0, blk_cell (blk_set (blk_set M1.out 0 (.string s)) 1 (.int .i64 l)) 1⟩)
    simp at v0 v1
    have hz2 := hb2.size
    simp at hz2
    exact bodyPost_ret (v := .tuple #[.agg #[.string s, .int .i64 l], .int .u64 x, .int .i64 0]) (by simp [results, Try.results28, go_sem, v0, v1]) rfl
      ⟨rfl, (((((((Below.refl _ _).alloc (Nat.le_refl _) _).alloc (by simp) _).trans (hb1.mono (by simp; omega))).alloc (by omega) _).trans (hb2.mono (by simp; omega))).setCell (by simp) _).setCell (by simp) _⟩
  · have e0 : bskS S L n = ⟨#[]⟩ := by unfold bskS; rw [if_neg hc]
    have e1 : bskL S L n = 0 := by unfold bskL; rw [if_neg hc]
    rw [if_neg hc, e0, e1]
    rw [e0, e1] at hK
    have t2 : (bskE S L n != 0) = true := by simp [hc]
    generalize bskE S L n = c at *
    clear hc e0 e1
    have k1 := Lib.hid (blk_new2 w (.cells #[.string S, .int .i64 L] 32) 32 #[.string ⟨#[]⟩, .int .i64 0])
    go_enter Try.func28, Try.ntmps28
    go_wp2_with (first
      | (go_at_call 31; (with_reducible refine (hK _).mono ?_); rintro e w1 ⟨rfl, hb1⟩; have hz1 : w.heap.size + 1 < w1.heap.size := (by have := hb1.size; simp at this; omega); have J1 := Lib.hid (blk_alloc (blk_below k1.out hb1 (by simp)) (.cells #[.string ⟨#[]⟩, .int .i64 0] 32)); have I1 := Lib.hid (blk_below k1.out hb1 (by simp)); have d0 := blk_cell I1.out 0; have d1 := blk_cell I1.out 1; have f0 := blk_frozen I1.out 0; have f1 := blk_frozen I1.out 1; have d2 := blk_cell J1.out 0; have d3 := blk_cell J1.out 1; have f2 := blk_frozen J1.out 0; have f3 := blk_frozen J1.out 1; simp at d0 d1 d2 d3))
    obtain ⟨v0, v1⟩ := (show _ ∧ _ from ⟨blk_cell (blk_alloc (blk_set (blk_set I1.out 0 (.string ⟨#[]⟩)) 1 (.int .i64 0)) (.cells #[.string ⟨#[]⟩, .int .i64 0] 32)) 0, blk_cell (blk_alloc (blk_set (blk_set I1.out 0 (.string ⟨#[]⟩)) 1 (.int .i64 0)) (.cells #[.string ⟨#[]⟩, .int .i64 0] 32)) 1⟩)
    simp at v0 v1
    exact bodyPost_ret (v := .tuple #[.agg #[.string ⟨#[]⟩, .int .i64 0], .int .u64 0, .int .i64 c]) (by simp [results, Try.results28, go_sem, v0, v1]) rfl
      ⟨rfl, ((((((Below.refl _ _).alloc (Nat.le_refl _) _).alloc (by simp) _).trans (hb1.mono (by simp; omega))).setCell (by simp) _).setCell (by simp) _).alloc (by simp; omega) _⟩
end Go.Proofs.Yteopglkehlckoaa
