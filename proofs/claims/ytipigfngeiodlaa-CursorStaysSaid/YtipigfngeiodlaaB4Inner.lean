/-
  The reference's cursors: Inner.
-/
import Derived.Test.YtipigfngeiodlaaB4Byte
import Derived.Laws.DeepStrings4
namespace Go.Proofs.Ytipigfngeiodlaa
open Go.ChangeShapes Go.WideShapes Go.ChangeAt Go.RowKit
set_option linter.unusedVariables false

/-- Inner's blocks behind the call of Bytes -/
def InSt (w wx : World) (S s : ByteArray) (A E F a e f : Int) (g : Nat) : Prop :=
  w.heap.size + 2 < g ∧ Blk wx w.heap.size 26 (at4 S A E F) ∧ Blk wx (w.heap.size + 1) 26 (at4 ⟨#[]⟩ 0 0 0) ∧ Blk wx (w.heap.size + 2) 26 (at4 ⟨#[]⟩ 0 0 0) ∧ Blk wx g 26 (at4 s a e f) ∧ Below w.heap.size w wx

theorem inner_first {w w1 : World} {S s : ByteArray} {A E F a e f : Int} (hb1 : Below (((w.alloc (.cells (at4 S A E F) 26)).alloc (.cells (at4 ⟨#[]⟩ 0 0 0) 26)).alloc (.cells (at4 ⟨#[]⟩ 0 0 0) 26)).heap.size (((w.alloc (.cells (at4 S A E F) 26)).alloc (.cells (at4 ⟨#[]⟩ 0 0 0) 26)).alloc (.cells (at4 ⟨#[]⟩ 0 0 0) 26)) w1) :
    InSt w (w1.alloc (.cells (at4 s a e f) 26)) S s A E F a e f w1.heap.size := by
  have hz := hb1.size
  simp at hz
  have k0 := blk_alloc (blk_alloc (blk_new w 26 (at4 S A E F)) (.cells (at4 ⟨#[]⟩ 0 0 0) 26)) (.cells (at4 ⟨#[]⟩ 0 0 0) 26)
  have k1 := blk_alloc (blk_new2 w (.cells (at4 S A E F) 26) 26 (at4 ⟨#[]⟩ 0 0 0)) (.cells (at4 ⟨#[]⟩ 0 0 0) 26)
  have k2 := blk_new2 (w.alloc (.cells (at4 S A E F) 26)) (.cells (at4 ⟨#[]⟩ 0 0 0) 26) 26 (at4 ⟨#[]⟩ 0 0 0)
  have e1 : (w.alloc (.cells (at4 S A E F) 26)).heap.size + 1 = w.heap.size + 2 := by simp
  rw [e1] at k2
  exact ⟨by omega, blk_alloc (blk_next k0 hb1) _, blk_alloc (blk_next k1 hb1) _, blk_alloc (blk_next k2 hb1) _, blk_new _ _ _, below_box (below_call (below_box (below_box (below_box (Below.refl _ _) _) _) _) hb1) _⟩

theorem cinner_walk (S s : ByteArray) (A E F a e f n : Int) (t s1 s2 : ByteArray) (a1 e1 f1 a2 e2 f2 : Int) (w : World) (hS : S.size ≤ 9223372036854775807)
    (hB : ∀ u, Calls Try.prog 19 #[.agg #[.string S, .int .i64 A, .int .i64 E, .int .i64 F], .int .i64 n] u fun e0 w' => e0 = .returned (.tuple #[.agg #[.string s, .int .i64 a, .int .i64 e, .int .i64 f], .string t]) ∧ Below u.heap.size u w')
    (h : ((e != 0) = true ∧ s = s1 ∧ a = a1 ∧ e = e1 ∧ f = f1) ∨ ((e != 0) = false ∧ 0 ≤ a ∧ a ≤ S.size ∧ S.extract 0 a.toNat = s1 ∧ A = a1 ∧ 0 = e1 ∧ 0 = f1)) :
    Calls Try.prog 23 #[.agg #[.string S, .int .i64 A, .int .i64 E, .int .i64 F], .int .i64 n] w fun e0 w' => e0 = .returned (.tuple #[.agg #[.string s1, .int .i64 a1, .int .i64 e1, .int .i64 f1], .agg #[.string s, .int .i64 a, .int .i64 e, .int .i64 f]]) ∧ Below w.heap.size w w' := by
  rcases h with ⟨h1, h2, h3, h4, h5⟩ | ⟨h1, h6, h7, h2, h3, h4, h5⟩
  all_goals
    subst h2 h3 h4 h5
    go_enter Try.func23, Try.ntmps23
    go_upto_region 1 with fail
    go_cut [6] from 8 to 28 (fun y wx => ∃ g, y = .pointer (some ⟨g, 0, none⟩) ∧ InSt w wx S s A E F a e f g)
    case first =>
      go_wp2_with ((go_at_call 19; (with_reducible refine (hB _).mono ?_); rintro e0 w1 ⟨rfl, hb1⟩; have I1 := Lib.hid (inner_first (s := s) (a := a) (e := e) (f := f) hb1)))
      go_meet
      exact ⟨_, rfl, I1.out⟩
    case rest =>
      obtain ⟨g, rfl, hg, k0, k1, k2, kg, hbw⟩ := hcut
      obtain ⟨⟨b0, b1, b2, b3⟩, _⟩ := blk4 k0
      obtain ⟨⟨d0, d1, d2, d3⟩, q0, q1, q2, q3⟩ := blk4 k1
      obtain ⟨⟨u0, u1, u2, u3⟩, r0, r1, r2, r3⟩ := blk4 k2
      obtain ⟨⟨x0, x1, x2, x3⟩, _⟩ := blk4 kg
      have ne1 : ¬ g = w.heap.size + 1 := by omega
      have ne2 : ¬ g = w.heap.size + 2 := by omega
      have ne3 : ¬ w.heap.size + 1 = g := by omega
      have ne4 : ¬ w.heap.size + 2 = g := by omega
      have K1 := Lib.hid k1
      have K2 := Lib.hid k2
      clear k0 k1 k2 kg
      go_wp2_with fail
      go_region
      go_wp2
      first
        | (have z1 := blk4_far (h := w.heap.size + 2) (blk4_set (s' := s) (a' := a) (e' := e) (f' := f) K1.out) (by omega) (.string s) (.int .i64 a) (.int .i64 e) (.int .i64 f)
           have z2 := blk4_set (s' := s) (a' := a) (e' := e) (f' := f) (blk4_far (h := w.heap.size + 1) K2.out (by omega) (.string s) (.int .i64 a) (.int .i64 e) (.int .i64 f))
           obtain ⟨⟨v0, v1, v2, v3⟩, _⟩ := blk4 z1
           obtain ⟨⟨y0, y1, y2, y3⟩, _⟩ := blk4 z2
           exact bodyPost_ret (v := .tuple #[.agg #[.string s, .int .i64 a, .int .i64 e, .int .i64 f], .agg #[.string s, .int .i64 a, .int .i64 e, .int .i64 f]]) (by simp [results, Try.results23, go_sem, v0, v1, v2, v3, y0, y1, y2, y3]) rfl ⟨rfl, (below4 (below4 hbw (by omega) _ _ _ _) (by omega) _ _ _ _).drew⟩)
        | (have z1 := blk4_far (h := w.heap.size + 2) (blk4_set (s' := S.extract 0 a.toNat) (a' := A) (e' := 0) (f' := 0) K1.out) (by omega) (.string s) (.int .i64 a) (.int .i64 e) (.int .i64 f)
           have z2 := blk4_set (s' := s) (a' := a) (e' := e) (f' := f) (blk4_far (h := w.heap.size + 1) K2.out (by omega) (.string (S.extract 0 a.toNat)) (.int .i64 A) (.int .i64 0) (.int .i64 0))
           obtain ⟨⟨v0, v1, v2, v3⟩, _⟩ := blk4 z1
           obtain ⟨⟨y0, y1, y2, y3⟩, _⟩ := blk4 z2
           exact bodyPost_ret (v := .tuple #[.agg #[.string (S.extract 0 a.toNat), .int .i64 A, .int .i64 0, .int .i64 0], .agg #[.string s, .int .i64 a, .int .i64 e, .int .i64 f]]) (by simp [results, Try.results23, go_sem, v0, v1, v2, v3, y0, y1, y2, y3]) rfl ⟨rfl, (below4 (below4 hbw (by omega) _ _ _ _) (by omega) _ _ _ _).drew⟩)
end Go.Proofs.Ytipigfngeiodlaa
