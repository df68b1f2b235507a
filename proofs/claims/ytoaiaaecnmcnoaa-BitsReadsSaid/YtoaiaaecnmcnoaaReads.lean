/-
  BitsReads: the law's walk, for every string and all numbers.
-/
import Derived.Test.YtoaiaaecnmcnoaaKnown
import Derived.Test.YtoaiaaecnmcnoaaB2Take
namespace Go.Proofs.Ytoaiaaecnmcnoaa
open Go.ChangeShapes Go.WideShapes Go.ChangeAt Go.RowKit
set_option linter.unusedVariables false

theorem blk2c {w : World} {g : Nat} {t : TypeId} {s : ByteArray} {b : Int} (h : Blk w g t #[.string s, .int .i64 b]) : w.cell? ⟨g, 0, none⟩ = some (.string s) ∧ w.cell? ⟨g, 1, none⟩ = some (.int .i64 b) := ⟨blk_cell h 0, blk_cell h 1⟩
theorem blk2_set {w : World} {g : Nat} {t : TypeId} {s : ByteArray} {b : Int} (s' : ByteArray) (b' : Int) (h : Blk w g t #[.string s, .int .i64 b]) : Blk ((w.setCell ⟨g, 0, none⟩ (.string s')).setCell ⟨g, 1, none⟩ (.int .i64 b')) g t #[.string s', .int .i64 b'] := blk_set (blk_set h 0 _) 1 _

theorem reads_long (S : ByteArray) (B n a : Int) (w : World) (h1 : decide ((60 : Int) < (S.size : Int)) = true) :
    Calls Try.prog 4 #[.string S, .int .i64 B, .int .i64 n, .int .i64 a] w fun e w' => e = .returned (.bool true) ∧ Below w.heap.size w w' := by
  go_enter Try.func4, Try.ntmps4
  go_wp2_with (go_at_call 8; (with_reducible refine (awake_any _).mono ?_); rintro e w1 ⟨rfl, hb1⟩)
  go_ret
  exact ⟨rfl, hb1⟩

set_option maxRecDepth 100000 in
set_option maxHeartbeats 2000000 in
theorem reads_inner (S : ByteArray) (B n a c : Int) (s s2 : ByteArray) (b e b2 x2 e2 x3 e3 x4 x5 : Int) (w : World) (h1 : decide ((60 : Int) < (S.size : Int)) = false)
    (hC : ∀ u, Calls Try.prog 17 #[.agg #[.string S, .int .i64 B]] u fun x w' => x = .returned (.int .i64 c) ∧ Below u.heap.size u w')
    (hC' : ∀ u, Calls Try.prog 18 #[.agg #[.string S, .int .i64 B]] u fun x w' => x = .returned (.int .i64 c) ∧ Below u.heap.size u w')
    (hR : ∀ u, Calls Try.prog 19 #[.string S, .int .i64 a] u fun x w' => x = .returned (.tuple #[.agg #[.string s, .int .i64 b], .int .i64 e]) ∧ Below u.heap.size u w')
    (hR' : ∀ u, Calls Try.prog 20 #[.string S, .int .i64 a] u fun x w' => x = .returned (.tuple #[.agg #[.string s, .int .i64 b], .int .i64 e]) ∧ Below u.heap.size u w')
    (hT : ∀ u, Calls Try.prog 21 #[.agg #[.string S, .int .i64 B], .int .i64 n] u fun x w' => x = .returned (.tuple #[.agg #[.string s2, .int .i64 b2], .int .i64 x2, .int .i64 e2]) ∧ Below u.heap.size u w')
    (hT' : ∀ u, Calls Try.prog 22 #[.agg #[.string S, .int .i64 B], .int .i64 n] u fun x w' => x = .returned (.tuple #[.agg #[.string s2, .int .i64 b2], .int .i64 x2, .int .i64 e2]) ∧ Below u.heap.size u w')
    (hP : ∀ u, Calls Try.prog 23 #[.agg #[.string S, .int .i64 B], .int .i64 n] u fun x w' => x = .returned (.tuple #[.int .i64 x3, .int .i64 e3]) ∧ Below u.heap.size u w')
    (hP' : ∀ u, Calls Try.prog 24 #[.agg #[.string S, .int .i64 B], .int .i64 n] u fun x w' => x = .returned (.tuple #[.int .i64 x3, .int .i64 e3]) ∧ Below u.heap.size u w')
    (hL : ∀ u, Calls Try.prog 25 #[.agg #[.string S, .int .i64 B]] u fun x w' => x = .returned (.tuple #[.int .i64 x4, .int .i64 c]) ∧ Below u.heap.size u w')
    (hL' : ∀ u, Calls Try.prog 26 #[.agg #[.string S, .int .i64 B]] u fun x w' => x = .returned (.tuple #[.int .i64 x4, .int .i64 c]) ∧ Below u.heap.size u w')
    (hN : ∀ u, Calls Try.prog 27 #[.agg #[.string S, .int .i64 B]] u fun x w' => x = .returned (.tuple #[.int .i64 x5, .int .i64 c]) ∧ Below u.heap.size u w')
    (hN' : ∀ u, Calls Try.prog 28 #[.agg #[.string S, .int .i64 B]] u fun x w' => x = .returned (.tuple #[.int .i64 x5, .int .i64 c]) ∧ Below u.heap.size u w') :
    Calls Try.prog 4 #[.string S, .int .i64 B, .int .i64 n, .int .i64 a] w fun e w' => e = .returned (.bool true) ∧ Below w.heap.size w w' := by
  go_enter Try.func4, Try.ntmps4
  go_wp2_with fail
  go_region_held3 (fun w' => w'.cell? ⟨w.heap.size, 0, none⟩ = some (.string S) ∧ w'.cell? ⟨w.heap.size, 1, none⟩ = some (.int .i64 B)) (first | exact blk2c (blk_drew (blk_new w 34 #[.string S, .int .i64 B])) | exact blk2c k1 | exact blk2c k2)
    (first
      | (go_at_call 17; (with_reducible refine (hC _).mono ?_); rintro x w1 ⟨rfl, hb1⟩; have k1 := blk_next (blk_drew (blk_new w 34 #[.string S, .int .i64 B])) hb1)
      | (go_at_call 18; (with_reducible refine (hC' _).mono ?_); rintro x w2 ⟨rfl, hb2⟩; have k2 := blk_next k1 hb2))
  obtain ⟨p0, p1, _⟩ := blk2 k2
  go_wp2_with (first
    | (go_at_call 19; (with_reducible refine (hR _).mono ?_); rintro x w3 ⟨rfl, hb3⟩; have k2 := blk_next k2 hb3; obtain ⟨p0, p1, _⟩ := blk2 k2; have l2 := blk_lt k2)
    | (go_at_call 20; (with_reducible refine (hR' _).mono ?_); rintro x w4 ⟨rfl, hb4⟩; have k3 := blk_next (blk_new w3 34 #[.string s, .int .i64 b]) hb4; have k2 := blk_next (blk_alloc k2 _) hb4; obtain ⟨p0, p1, _⟩ := blk2 k2; have l2 := blk_lt k2; obtain ⟨a0, a1, _⟩ := blk2 k3; have l3 := blk_lt k3)
    | (go_at_call 21; (with_reducible refine (hT _).mono ?_); rintro x w5 ⟨rfl, hb5⟩; have k4 := blk_next (blk_new w4 34 #[.string s, .int .i64 b]) hb5; have k3 := blk_next (blk_alloc k3 _) hb5; have k2 := blk_next (blk_alloc k2 _) hb5; obtain ⟨a0, a1, f0, f1⟩ := blk2 k3; have k4 := blk2_far k4 (h := w3.heap.size) (by omega) (.string s2) (.int .i64 b2); have k2 := blk2_far k2 (h := w3.heap.size) (by omega) (.string s2) (.int .i64 b2); have k3 := blk2_set s2 b2 k3; obtain ⟨p0, p1, _⟩ := blk2 k2)
    | (go_at_call 22; (with_reducible refine (hT' _).mono ?_); rintro x w6 ⟨rfl, hb6⟩; have k4 := blk_next k4 hb6; have k3 := blk_next k3 hb6; have k2 := blk_next k2 hb6; obtain ⟨b0, b1, g0, g1⟩ := blk2 k4; have k3 := blk2_far k3 (h := w4.heap.size) (by omega) (.string s2) (.int .i64 b2); have k2 := blk2_far k2 (h := w4.heap.size) (by omega) (.string s2) (.int .i64 b2); have k4 := blk2_set s2 b2 k4; obtain ⟨p0, p1, _⟩ := blk2 k2; obtain ⟨c0, c1, _⟩ := blk2 k3; obtain ⟨d0, d1, _⟩ := blk2 k4)
    | (go_at_call 23; (with_reducible refine (hP _).mono ?_); rintro x w7 ⟨rfl, hb7⟩; have k2 := blk_next k2 hb7; obtain ⟨p0, p1, _⟩ := blk2 k2)
    | (go_at_call 24; (with_reducible refine (hP' _).mono ?_); rintro x w8 ⟨rfl, hb8⟩; have k2 := blk_next k2 hb8; obtain ⟨p0, p1, _⟩ := blk2 k2)
    | (go_at_call 25; (with_reducible refine (hL _).mono ?_); rintro x w9 ⟨rfl, hb9⟩; have k2 := blk_next k2 hb9; obtain ⟨p0, p1, _⟩ := blk2 k2)
    | (go_at_call 26; (with_reducible refine (hL' _).mono ?_); rintro x w10 ⟨rfl, hb10⟩; have k2 := blk_next k2 hb10; obtain ⟨p0, p1, _⟩ := blk2 k2)
    | (go_at_call 27; (with_reducible refine (hN _).mono ?_); rintro x w11 ⟨rfl, hb11⟩; have k2 := blk_next k2 hb11; obtain ⟨p0, p1, _⟩ := blk2 k2)
    | (go_at_call 28; (with_reducible refine (hN' _).mono ?_); rintro x w12 ⟨rfl, hb12⟩)
    | (go_at_call 8; (with_reducible refine (awake_any _).mono ?_); rintro x w13 ⟨rfl, hb13⟩))
  go_ret
  have b2' := below_call (below_call ((below_box (Below.refl w.heap.size w) _).drew) hb1) hb2
  have b5 := below_call (below_box (below_call (below_box (below_call b2' hb3) _) hb4) _) hb5
  have b7 := below_call (below2 (below_call (below2 b5 (by omega) _ _) hb6) (by omega) _ _) hb7
  exact ⟨rfl, below_call (below_call (below_call (below_call (below_call (below_call b7 hb8) hb9) hb10) hb11) hb12) hb13⟩

theorem reads_any (S : ByteArray) (B n a : Int) (hS : S.size ≤ maxLen) (w : World) :
    Calls Try.prog 4 #[.string S, .int .i64 B, .int .i64 n, .int .i64 a] w fun e w' => e = .returned (.bool true) ∧ Below w.heap.size w w' := by
  by_cases h1 : 60 < S.size
  · exact reads_long S B n a w (decide_eq_true (by omega))
  · exact reads_inner S B n a _ _ _ _ _ _ _ _ _ _ _ _ w (decide_eq_false (by omega)) (ownRRight_any S B hS) (refRight_any S B hS) (ownRead_any S a hS) (refRead_any S a hS) (ownTake_any S B n hS) (refTake_any S B n hS) (ownPeek_any S B n hS) (refPeek_any S B n hS) (ownLeft_any S B hS) (refLeft_any S B hS) (ownNext_any S B hS) (refNext_any S B hS)
end Go.Proofs.Ytoaiaaecnmcnoaa
