/-
  The project's cursors: keep and open, for every cursor.
-/
import Derived.Test.YtipigfngeiodlaaO4A
namespace Go.Proofs.Ytipigfngeiodlaa
open Go.ChangeShapes Go.WideShapes Go.ChangeAt Go.RowKit
set_option linter.unusedVariables false

theorem grown_below {w w' : World} (h : Below w.heap.size w w') (row : Option Nat) : w.grownBy w' row := ⟨h.os, h.tape, h.output, h.size, fun k hk _ => h.block k hk⟩
theorem grown_drew {w u : World} {row : Option Nat} (h : w.grownBy u row) : w.grownBy u.drew row := ⟨h.os, h.tape, h.output, h.size, h.block⟩
theorem grown_drewN {w u : World} {row : Option Nat} (h : w.grownBy u row) (n : Nat) : w.grownBy (u.drewN n) row := ⟨h.os, h.tape, h.output, h.size, h.block⟩
theorem grown_set {w u : World} {g : Nat} (h : w.grownBy u (some g)) (i : Nat) (v : Value) : w.grownBy (u.setCell ⟨g, i, none⟩ v) (some g) :=
  ⟨h.os, h.tape, h.output, by simpa [World.setCell] using h.size, fun k hk hne => (Below.heap_setCell u ⟨g, i, none⟩ v k (fun e => hne (by rw [e]))).trans (h.block k hk hne)⟩
theorem grown_alloc {w u : World} {row : Option Nat} (h : w.grownBy u row) (o : Obj) : w.grownBy (u.alloc o) row :=
  ⟨h.os, h.tape, h.output, by simp; have := h.size; omega, fun k hk hne => (Below.heap_alloc u o k (by have := h.size; omega)).trans (h.block k hk hne)⟩
theorem grown_refl (w : World) (row : Option Nat) : w.grownBy w row := ⟨rfl, rfl, rfl, Nat.le_refl _, fun _ _ _ => rfl⟩
theorem grown_trans {a b c : World} {row : Option Nat} (h : a.grownBy b row) (k : b.grownBy c row) : a.grownBy c row :=
  ⟨k.os.trans h.os, k.tape.trans h.tape, k.output.trans h.output, Nat.le_trans h.size k.size, fun i hi hne => (k.block i (Nat.lt_of_lt_of_le hi h.size) hne).trans (h.block i hi hne)⟩
theorem blk_grown {w w' : World} {g : Nat} {t : TypeId} {cs : Array Value} {r : Nat} (h : Blk w g t cs) (hg : w.grownBy w' (some r)) (hne : g ≠ r) : Blk w' g t cs :=
  (hg.block g (blk_lt h) (fun e => hne (by simpa using e))).trans h
theorem below_grown {B : Nat} {a w w' : World} {g : Nat} (h : Below B a w) (hg : w.grownBy w' (some g)) (hB : B ≤ w.heap.size) (hr : B ≤ g) : Below B a w' :=
  h.grown hg hB (fun k e => by have : g = k := by simpa using e
                               omega)

theorem blk_drew {w : World} {g : Nat} {t : TypeId} {cs : Array Value} (h : Blk w g t cs) : Blk w.drew g t cs := h
theorem blk_drewN {w : World} {g : Nat} {t : TypeId} {cs : Array Value} (h : Blk w g t cs) (n : Nat) : Blk (w.drewN n) g t cs := h


theorem keep_free (g : Nat) (S : ByteArray) (A e f F : Int) (w : World) (hb : Blk w g 53 (at4 S A 0 F)) :
    Calls Try.prog 40 #[.pointer (some ⟨g, 0, none⟩), .agg #[.int .i64 e, .int .i64 f]] w fun x w' => x = .returned (.tuple #[]) ∧ Blk w' g 53 (at4 S A e f) ∧ w.grownBy w' (some g) := by
  have hC := fun u => failed_any S A 0 F u
  have hl := blk_lt hb
  have HB := Lib.hid hb
  obtain ⟨⟨c0, c1, c2, c3⟩, _⟩ := blk4 hb
  clear hb
  go_enter Try.func40, Try.ntmps40
  go_wp2_with ((go_at_call 38; (with_reducible refine (hC _).mono ?_); rintro x w1 ⟨rfl, hb1⟩; have k := blk_next (blk_alloc HB.out _) hb1; have j := blk_next (blk_new w 24 #[.int .i64 e, .int .i64 f]) hb1; have K := Lib.hid k; obtain ⟨⟨p0, p1, p2, p3⟩, q0, q1, q2, q3⟩ := blk4 k; have j0 := blk_cell j 0; have j1 := blk_cell j 1))
  go_end0
  exact ⟨rfl, blk_set (blk_set K.out 2 _) 3 _, grown_set (grown_set (grown_trans (grown_alloc (grown_refl _ _) _) (grown_below hb1 _)) _ _) _ _⟩
theorem keep_had (g : Nat) (S : ByteArray) (A E F e f : Int) (hE : E ≠ 0) (w : World) (hb : Blk w g 53 (at4 S A E F)) :
    Calls Try.prog 40 #[.pointer (some ⟨g, 0, none⟩), .agg #[.int .i64 e, .int .i64 f]] w fun x w' => x = .returned (.tuple #[]) ∧ Blk w' g 53 (at4 S A E F) ∧ w.grownBy w' (some g) := by
  have hC := fun u => failed_any S A E F u
  have t : (E != 0) = true := by simp [hE]
  rw [t] at hC
  have hl := blk_lt hb
  have HB := Lib.hid hb
  obtain ⟨⟨c0, c1, c2, c3⟩, _⟩ := blk4 hb
  clear hb hE t
  go_enter Try.func40, Try.ntmps40
  go_wp2_with ((go_at_call 38; (with_reducible refine (hC _).mono ?_); rintro x w1 ⟨rfl, hb1⟩))
  go_end0
  exact ⟨rfl, blk_next (blk_alloc HB.out _) hb1, grown_trans (grown_alloc (grown_refl _ _) _) (grown_below hb1 _)⟩

theorem open_ok (S : ByteArray) (A E F : Int) (hV : ∀ u, Calls Try.prog 31 #[.agg #[.string S, .int .i64 A, .int .i64 E, .int .i64 F]] u fun e w' => e = .returned (.bool true) ∧ Below u.heap.size u w') (w : World) :
    Calls Try.prog 32 #[.agg #[.string S, .int .i64 A, .int .i64 E, .int .i64 F]] w fun e w' => e = .returned (.pointer (some ⟨w.heap.size + 1, 0, none⟩)) ∧ Blk w' (w.heap.size + 1) 53 (at4 S A E F) ∧ Below w.heap.size w w' := by
  go_enter Try.func32, Try.ntmps32
  go_wp2_with ((go_at_call 31; (with_reducible refine (hV _).mono ?_); rintro e w1 ⟨rfl, hb1⟩; have k := blk_next (blk_new2 w (.cells #[.string S, .int .i64 A, .int .i64 E, .int .i64 F] 26) 53 (at4 S A E F)) hb1))
  go_ret
  exact ⟨rfl, k, below_call (below_box (below_box (Below.refl _ _) _) _) hb1⟩
theorem open_bad (S : ByteArray) (A E F : Int) (hV : ∀ u, Calls Try.prog 31 #[.agg #[.string S, .int .i64 A, .int .i64 E, .int .i64 F]] u fun e w' => e = .returned (.bool false) ∧ Below u.heap.size u w') (w : World) :
    Calls Try.prog 32 #[.agg #[.string S, .int .i64 A, .int .i64 E, .int .i64 F]] w fun e w' => e = .returned (.pointer (some ⟨w.heap.size + 1, 0, none⟩)) ∧ Blk w' (w.heap.size + 1) 53 (at4 ⟨#[]⟩ 0 10 0) ∧ Below w.heap.size w w' := by
  go_enter Try.func32, Try.ntmps32
  go_wp2_with ((go_at_call 31; (with_reducible refine (hV _).mono ?_); rintro e w1 ⟨rfl, hb1⟩; have k := blk_next (blk_new2 w (.cells #[.string S, .int .i64 A, .int .i64 E, .int .i64 F] 26) 53 (at4 S A E F)) hb1; have K := Lib.hid k; obtain ⟨⟨p0, p1, p2, p3⟩, q0, q1, q2, q3⟩ := blk4 k))
  go_ret
  exact ⟨rfl, blk4_set K.out, below4 (below_call (below_box (below_box (Below.refl _ _) _) _) hb1) (by omega) _ _ _ _⟩
/-- open's object -/
theorem open_any (S : ByteArray) (A E F : Int) (hS : S.size ≤ 9223372036854775807) (w : World) :
    Calls Try.prog 32 #[.agg #[.string S, .int .i64 A, .int .i64 E, .int .i64 F]] w fun e w' => e = .returned (.pointer (some ⟨w.heap.size + 1, 0, none⟩)) ∧ Blk w' (w.heap.size + 1) 53 (at4 (crS S A E F) (crA S A E F) (crE S A E F) (crF S A E F)) ∧ Below w.heap.size w w' := by
  have hV := fun u => valid_any S A E F hS u
  unfold crS crA crE crF
  by_cases h : curOk S A E F
  · rw [if_pos h, if_pos h, if_pos h, if_pos h]
    rw [decide_eq_true h] at hV
    exact open_ok S A E F hV w
  · rw [if_neg h, if_neg h, if_neg h, if_neg h]
    rw [decide_eq_false h] at hV
    exact open_bad S A E F hV w
end Go.Proofs.Ytipigfngeiodlaa
