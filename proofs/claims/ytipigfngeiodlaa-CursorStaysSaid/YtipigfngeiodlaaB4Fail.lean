/-
  The reference's cursors: Fail.
-/
import Derived.Test.YtipigfngeiodlaaB4Byte
namespace Go.Proofs.Ytipigfngeiodlaa
open Go.ChangeShapes Go.WideShapes Go.ChangeAt Go.RowKit
set_option linter.unusedVariables false

/-- the error and the place that Fail gives -/
def yfE (x : Int) : Int := if x < 1 ∨ 31 < x then 3 else x
def yfP (s : ByteArray) (p : Int) : Int := if p < 0 then 0 else if (s.size : Int) < p then s.size else p

theorem cfailR_walk (S s : ByteArray) (A E F a e f x p x' m q P Q : Int) (w : World) (hs : s.size ≤ 9223372036854775807)
    (hx : (x < 1 ∧ x' = 3) ∨ (31 < x ∧ x' = 3) ∨ (1 ≤ x ∧ x ≤ 31 ∧ x' = x))
    (hmax : ∀ ts t w, (Builtin.max_ ts t #[.int .i64 p, .int .i64 0]).run Try.prog w = .ok (.int .i64 m) w)
    (hmin : ∀ ts t w, (Builtin.min_ ts t #[.int .i64 m, .int .i64 (s.size : Int)]).run Try.prog w = .ok (.int .i64 q) w)
    (hR : ∀ u, Calls Try.prog 34 #[.agg #[.string S, .int .i64 A, .int .i64 E, .int .i64 F]] u fun e0 w' => e0 = .returned (.agg #[.string s, .int .i64 a, .int .i64 e, .int .i64 f]) ∧ Below u.heap.size u w')
    (hF : ∀ u, Calls Try.prog 36 #[.agg #[.string s, .int .i64 a, .int .i64 e, .int .i64 f], .int .i64 x', .int .i64 q] u fun e0 w' => e0 = .returned (.agg #[.string s, .int .i64 a, .int .i64 P, .int .i64 Q]) ∧ Below u.heap.size u w') :
    Calls Try.prog 27 #[.agg #[.string S, .int .i64 A, .int .i64 E, .int .i64 F], .int .i64 x, .int .i64 p] w fun e0 w' => e0 = .returned (.agg #[.string s, .int .i64 a, .int .i64 P, .int .i64 Q]) ∧ Below w.heap.size w w' := by
  rcases hx with ⟨h1, rfl⟩ | ⟨h1, rfl⟩ | ⟨h1, h2, rfl⟩
  all_goals
    go_enter Try.func27, Try.ntmps27
    go_upto_region 1 with fail
    go_cut [] from 7 to 23 (fun wx => Blk wx w.heap.size 26 (at4 s a e f) ∧ Blk wx (w.heap.size + 1) 26 (at4 ⟨#[]⟩ 0 0 0) ∧ Below w.heap.size w wx)
    case first =>
      go_wp2_with ((go_at_call 34; (with_reducible refine (hR _).mono ?_); rintro e0 w1 ⟨rfl, hb1⟩; obtain ⟨i0, i1, i2, i3⟩ := box_store (s := s) (a := a) (e := e) (f := f) hb1; have I1 := Lib.hid i1; have I2 := Lib.hid i2; have I3 := Lib.hid i3; obtain ⟨⟨p0, p1, p2, p3⟩, q0, q1, q2, q3⟩ := blk4 i0; clear i0 i1 i2 i3))
      go_meet
      exact ⟨I1.out, I2.out, I3.out⟩
    case rest =>
      obtain ⟨k0, k1, hbw⟩ := hcut
      obtain ⟨⟨b0, b1, b2, b3⟩, _⟩ := blk4 k0
      have K1 := Lib.hid k1
      clear k0 k1
      go_wp2_with ((go_at_call 36; (with_reducible refine (hF _).mono ?_); rintro e0 w2 ⟨rfl, hb2⟩; have k1 := blk_next K1.out hb2; obtain ⟨⟨d0, d1, d2, d3⟩, f0, f1, f2, f3⟩ := blk4 k1))
      obtain ⟨⟨v0, v1, v2, v3⟩, _⟩ := blk4 (blk4_set (s' := s) (a' := a) (e' := P) (f' := Q) k1)
      exact bodyPost_ret (v := .agg #[.string s, .int .i64 a, .int .i64 P, .int .i64 Q]) (by simp [results, Try.results27, go_sem, v0, v1, v2, v3]) rfl ⟨rfl, below4 (below_call hbw hb2) (by simp) _ _ _ _⟩

theorem cfailR_any (S : ByteArray) (A E F x p : Int) (hS : S.size ≤ 9223372036854775807) (w : World) :
    Calls Try.prog 27 #[.agg #[.string S, .int .i64 A, .int .i64 E, .int .i64 F], .int .i64 x, .int .i64 p] w fun e0 w' =>
      e0 = .returned (.agg #[.string (crS S A E F), .int .i64 (crA S A E F), .int .i64 (if crE S A E F = 0 then yfE x else crE S A E F), .int .i64 (if crE S A E F = 0 then yfP (crS S A E F) p else crF S A E F)]) ∧ Below w.heap.size w w' := by
  have hsz := cr_size S A E F
  refine cfailR_walk S _ A E F _ _ _ x p (yfE x) (if p < 0 then 0 else p) (yfP (crS S A E F) p) _ _ w (by omega) ?_ (fun ts t w => ?_) (fun ts t w => ?_) (fun u => cright_any S A E F hS u) (fun u => cfail_any _ _ _ _ _ _ u)
  · unfold yfE
    by_cases h1 : x < 1
    · exact .inl ⟨h1, by rw [if_pos (.inl h1)]⟩
    · by_cases h2 : 31 < x
      · exact .inr (.inl ⟨h2, by rw [if_pos (.inr h2)]⟩)
      · exact .inr (.inr ⟨by omega, by omega, by rw [if_neg (by omega)]⟩)
  · rw [run_max_int2]
  · rw [run_min_int2]
    congr 2
    unfold yfP
    all_goals (split <;> split <;> (try split) <;> omega)
end Go.Proofs.Ytipigfngeiodlaa
