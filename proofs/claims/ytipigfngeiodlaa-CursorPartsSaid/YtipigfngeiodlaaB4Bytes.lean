/-
  The reference's cursors: Bytes.
-/
import Derived.Test.YtipigfngeiodlaaB4Cur
namespace Go.Proofs.Ytipigfngeiodlaa
open Go.ChangeShapes Go.WideShapes Go.ChangeAt Go.RowKit
set_option linter.unusedVariables false

/-- the cells of a boxed cursor and of the result's behind the call of right and the store of what it gave -/
theorem box_cells {w w1 : World} {t : TypeId} {S s : ByteArray} {A E F a e f : Int} (hb1 : Below ((w.alloc (.cells (at4 S A E F) t)).alloc (.cells (at4 ⟨#[]⟩ 0 0 0) t)).heap.size ((w.alloc (.cells (at4 S A E F) t)).alloc (.cells (at4 ⟨#[]⟩ 0 0 0) t)) w1) :
    Blk w1 w.heap.size t (at4 S A E F) ∧ Blk w1 (w.heap.size + 1) t (at4 ⟨#[]⟩ 0 0 0) ∧
    Blk ((((w1.setCell ⟨w.heap.size, 0, none⟩ (.string s)).setCell ⟨w.heap.size, 1, none⟩ (.int .i64 a)).setCell ⟨w.heap.size, 2, none⟩ (.int .i64 e)).setCell ⟨w.heap.size, 3, none⟩ (.int .i64 f)) w.heap.size t (at4 s a e f) ∧
    Blk ((((w1.setCell ⟨w.heap.size, 0, none⟩ (.string s)).setCell ⟨w.heap.size, 1, none⟩ (.int .i64 a)).setCell ⟨w.heap.size, 2, none⟩ (.int .i64 e)).setCell ⟨w.heap.size, 3, none⟩ (.int .i64 f)) (w.heap.size + 1) t (at4 ⟨#[]⟩ 0 0 0) := by
  have k0 := blk_alloc (blk_new w t (at4 S A E F)) (.cells (at4 ⟨#[]⟩ 0 0 0) t)
  have k1 := blk_new2 w (.cells (at4 S A E F) t) t (at4 ⟨#[]⟩ 0 0 0)
  have j0 := blk_below k0 hb1 (by simp; omega)
  have j1 := blk_below k1 hb1 (by simp)
  exact ⟨j0, j1, blk4_set j0, blk_far (blk_far (blk_far (blk_far j1 (by simp) _) (by simp) _) (by simp) _) (by simp) _⟩

theorem cbytes_err (S s : ByteArray) (A E F a e f n : Int) (he : e ≠ 0) (w : World)
    (hR : ∀ u, Calls Try.prog 34 #[.agg #[.string S, .int .i64 A, .int .i64 E, .int .i64 F]] u fun e0 w' => e0 = .returned (.agg #[.string s, .int .i64 a, .int .i64 e, .int .i64 f]) ∧ Below u.heap.size u w') :
    Calls Try.prog 19 #[.agg #[.string S, .int .i64 A, .int .i64 E, .int .i64 F], .int .i64 n] w fun e0 w' =>
      e0 = .returned (.tuple #[.agg #[.string s, .int .i64 a, .int .i64 e, .int .i64 f], .string ⟨#[]⟩]) ∧ Below w.heap.size w w' := by
  have t2 : (e != 0) = true := by simp [he]
  clear he
  go_enter Try.func19, Try.ntmps19
  go_wp2_with ((go_at_call 34; (with_reducible refine (hR _).mono ?_); rintro e0 w1 ⟨rfl, hb1⟩; have hz1 : w.heap.size + 1 < w1.heap.size := (by have := hb1.size; simp at this; omega); obtain ⟨i0, i1, i2, i3⟩ := box_cells (s := s) (a := a) (e := e) (f := f) hb1; have I2 := Lib.hid i2; have I3 := Lib.hid i3; obtain ⟨⟨p0, p1, p2, p3⟩, q0, q1, q2, q3⟩ := blk4 i0; obtain ⟨⟨b0, b1, b2, b3⟩, _⟩ := blk4 i2; obtain ⟨⟨d0, d1, d2, d3⟩, f0, f1, f2, f3⟩ := blk4 i3; clear i0 i1 i2 i3))
  obtain ⟨⟨v0, v1, v2, v3⟩, _⟩ := blk4 (blk4_set (s' := s) (a' := a) (e' := e) (f' := f) I3.out)
  have hbw := (((Below.refl w.heap.size w).alloc (Nat.le_refl _) (.cells (at4 S A E F) 26)).alloc (by simp) (.cells (at4 ⟨#[]⟩ 0 0 0) 26)).trans (hb1.mono (by simp; omega))
  exact bodyPost_ret (v := .tuple #[.agg #[.string s, .int .i64 a, .int .i64 e, .int .i64 f], .string ⟨#[]⟩]) (by simp [results, Try.results19, go_sem, v0, v1, v2, v3]) rfl
    ⟨rfl, (((((((hbw.setCell (by simp) _).setCell (by simp) _).setCell (by simp) _).setCell (by simp) _).setCell (by simp) _).setCell (by simp) _).setCell (by simp) _).setCell (by simp) _⟩

set_option maxHeartbeats 1000000 in
/-- what Bytes makes of a right cursor without a fault where it fails -/
theorem cbytes_neg (S s : ByteArray) (A E F a n : Int) (hn : n < 0) (w : World)
    (hR : ∀ u, Calls Try.prog 34 #[.agg #[.string S, .int .i64 A, .int .i64 E, .int .i64 F]] u fun e0 w' => e0 = .returned (.agg #[.string s, .int .i64 a, .int .i64 0, .int .i64 0]) ∧ Below u.heap.size u w') :
    Calls Try.prog 19 #[.agg #[.string S, .int .i64 A, .int .i64 E, .int .i64 F], .int .i64 n] w fun e0 w' =>
      e0 = .returned (.tuple #[.agg #[.string s, .int .i64 a, .int .i64 2, .int .i64 a], .string ⟨#[]⟩]) ∧ Below w.heap.size w w' := by
  have hF := fun u => cfail_any s a 0 0 2 a u
  rw [if_pos rfl, if_pos rfl] at hF
  go_enter Try.func19, Try.ntmps19
  go_wp2_with (first
    | (go_at_call 34; (with_reducible refine (hR _).mono ?_); rintro e0 w1 ⟨rfl, hb1⟩; have hz1 : w.heap.size + 1 < w1.heap.size := (by have := hb1.size; simp at this; omega); obtain ⟨i0, i1, i2, i3⟩ := box_cells (s := s) (a := a) (e := 0) (f := 0) hb1; have I2 := Lib.hid i2; have I3 := Lib.hid i3; obtain ⟨⟨p0, p1, p2, p3⟩, q0, q1, q2, q3⟩ := blk4 i0; obtain ⟨⟨b0, b1, b2, b3⟩, g0, g1, g2, g3⟩ := blk4 i2; obtain ⟨⟨d0, d1, d2, d3⟩, f0, f1, f2, f3⟩ := blk4 i3; clear i0 i1 i2 i3)
    | (go_at_call 36; (with_reducible refine (hF _).mono ?_); rintro e0 w2 ⟨rfl, hb2⟩; have K3 := Lib.hid (blk_below I3.out hb2 (by simp; omega)); obtain ⟨⟨x0, x1, x2, x3⟩, y0, y1, y2, y3⟩ := blk4 K3.out))
  obtain ⟨⟨v0, v1, v2, v3⟩, _⟩ := blk4 (blk4_set (s' := s) (a' := a) (e' := 2) (f' := a) K3.out)
  have hbw := (((Below.refl w.heap.size w).alloc (Nat.le_refl _) (.cells (at4 S A E F) 26)).alloc (by simp) (.cells (at4 ⟨#[]⟩ 0 0 0) 26)).trans (hb1.mono (by simp; omega))
  have hbw2 := ((((hbw.setCell (by simp) _).setCell (by simp) _).setCell (by simp) _).setCell (by simp) _).trans (hb2.mono (by simp; omega))
  exact bodyPost_ret (v := .tuple #[.agg #[.string s, .int .i64 a, .int .i64 2, .int .i64 a], .string ⟨#[]⟩]) (by simp [results, Try.results19, go_sem, v0, v1, v2, v3]) rfl
    ⟨rfl, (((hbw2.setCell (by simp) _).setCell (by simp) _).setCell (by simp) _).setCell (by simp) _⟩

set_option maxHeartbeats 1000000 in
theorem cbytes_short (S s : ByteArray) (A E F a n : Int) (hs : s.size ≤ 9223372036854775807) (a0 : 0 ≤ a) (a1 : a ≤ s.size) (hn0 : 0 ≤ n) (hn : (s.size : Int) - a < n) (w : World)
    (hR : ∀ u, Calls Try.prog 34 #[.agg #[.string S, .int .i64 A, .int .i64 E, .int .i64 F]] u fun e0 w' => e0 = .returned (.agg #[.string s, .int .i64 a, .int .i64 0, .int .i64 0]) ∧ Below u.heap.size u w') :
    Calls Try.prog 19 #[.agg #[.string S, .int .i64 A, .int .i64 E, .int .i64 F], .int .i64 n] w fun e0 w' =>
      e0 = .returned (.tuple #[.agg #[.string s, .int .i64 a, .int .i64 5, .int .i64 s.size], .string ⟨#[]⟩]) ∧ Below w.heap.size w w' := by
  have hF := fun u => cfail_any s a 0 0 5 s.size u
  rw [if_pos rfl, if_pos rfl] at hF
  go_enter Try.func19, Try.ntmps19
  go_wp2_with (first
    | (go_at_call 34; (with_reducible refine (hR _).mono ?_); rintro e0 w1 ⟨rfl, hb1⟩; have hz1 : w.heap.size + 1 < w1.heap.size := (by have := hb1.size; simp at this; omega); obtain ⟨i0, i1, i2, i3⟩ := box_cells (s := s) (a := a) (e := 0) (f := 0) hb1; have I2 := Lib.hid i2; have I3 := Lib.hid i3; obtain ⟨⟨p0, p1, p2, p3⟩, q0, q1, q2, q3⟩ := blk4 i0; obtain ⟨⟨b0, b1, b2, b3⟩, g0, g1, g2, g3⟩ := blk4 i2; obtain ⟨⟨d0, d1, d2, d3⟩, f0, f1, f2, f3⟩ := blk4 i3; clear i0 i1 i2 i3)
    | (go_at_call 36; (with_reducible refine (hF _).mono ?_); rintro e0 w2 ⟨rfl, hb2⟩; have K3 := Lib.hid (blk_below I3.out hb2 (by simp; omega)); obtain ⟨⟨x0, x1, x2, x3⟩, y0, y1, y2, y3⟩ := blk4 K3.out))
  obtain ⟨⟨v0, v1, v2, v3⟩, _⟩ := blk4 (blk4_set (s' := s) (a' := a) (e' := 5) (f' := s.size) K3.out)
  have hbw := (((Below.refl w.heap.size w).alloc (Nat.le_refl _) (.cells (at4 S A E F) 26)).alloc (by simp) (.cells (at4 ⟨#[]⟩ 0 0 0) 26)).trans (hb1.mono (by simp; omega))
  have hbw2 := ((((hbw.setCell (by simp) _).setCell (by simp) _).setCell (by simp) _).setCell (by simp) _).trans (hb2.mono (by simp; omega))
  exact bodyPost_ret (v := .tuple #[.agg #[.string s, .int .i64 a, .int .i64 5, .int .i64 s.size], .string ⟨#[]⟩]) (by simp [results, Try.results19, go_sem, v0, v1, v2, v3]) rfl
    ⟨rfl, (((hbw2.setCell (by simp) _).setCell (by simp) _).setCell (by simp) _).setCell (by simp) _⟩

theorem str_cut (u : World) (s : ByteArray) (a z : Nat) (h : a + z ≤ s.size) :
    (Instr.slice 9 (.string s) (some (.int .i64 (a : Int))) (some (.int .i64 ((a : Int) + (z : Int)))) none).run Try.prog u = .ok (.string (s.extract a (a + z))) u := by
  have h1 : (0 : Int) ≤ (a : Int) := by omega
  have h2 : (a : Int) ≤ (a : Int) + (z : Int) := by omega
  have h3 : (a : Int) + (z : Int) ≤ (s.size : Int) := by omega
  have e2 : ((a : Int) + (z : Int)).toNat = a + z := by omega
  have e1 : ((a : Int)).toNat = a := by omega
  have := run_slice_string (P := Try.prog) u 9 s .i64 .i64 (a : Int) ((a : Int) + (z : Int)) Try.underlying9 h1 h2 h3
  rw [e1, e2] at this
  exact this

end Go.Proofs.Ytipigfngeiodlaa
