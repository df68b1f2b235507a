/-
  The reference's cursors: Byte, End.
-/
import Derived.Test.YtipigfngeiodlaaB4Read
import Derived.BigRegion
namespace Go.Proofs.Ytipigfngeiodlaa
open Go.ChangeShapes Go.WideShapes Go.ChangeAt Go.RowKit
set_option linter.unusedVariables false

/-- the first byte of a string as a number, or 0 -/
def hdB (t : ByteArray) : Int := if h : 0 < t.size then ((t[0]'h).toNat : Int) else 0

theorem cbyte_any (S s : ByteArray) (A E F a e f : Int) (t : ByteArray) (ht : t.size ≤ 1) (hB : ∀ u, Calls Try.prog 19 #[.agg #[.string S, .int .i64 A, .int .i64 E, .int .i64 F], .int .i64 1] u fun e0 w' => e0 = .returned (.tuple #[.agg #[.string s, .int .i64 a, .int .i64 e, .int .i64 f], .string t]) ∧ Below u.heap.size u w') (w : World) :
    Calls Try.prog 15 #[.agg #[.string S, .int .i64 A, .int .i64 E, .int .i64 F]] w fun e0 w' => e0 = .returned (.tuple #[.agg #[.string s, .int .i64 a, .int .i64 e, .int .i64 f], .int .i64 (hdB t)]) ∧ Below w.heap.size w w' := by
  by_cases h0 : 0 < t.size
  · have e1 : hdB t = ((t[0]'h0).toNat : Int) := by unfold hdB; rw [dif_pos h0]
    have hb := (t[0]'h0).toNat_lt
    have hwr : wrap64 ((t[0]'h0).toNat : Int) = ((t[0]'h0).toNat : Int) := IntWalk.wrap64_in _ ⟨by omega, by omega⟩
    have e2 : t.toList.isEmpty = false := by
      rw [ByteArray.toList_eq]
      cases hl : t.data.toList with
      | nil => exact absurd h0 (by have : t.data.toList.length = t.size := rfl; rw [hl] at this; simp at this; omega)
      | cons _ _ => rfl
    rw [e1]
    clear e1
    go_enter Try.func15, Try.ntmps15
    go_upto_region 1 with fail
    go_cut [4] from 5 to 16 (fun y wx => y = .string t ∧ Blk wx w.heap.size 26 (at4 s a e f) ∧ Blk wx (w.heap.size + 1) 26 (at4 ⟨#[]⟩ 0 0 0) ∧ Below w.heap.size w wx)
    case first =>
      go_wp2_with ((go_at_call 19; (with_reducible refine (hB _).mono ?_); rintro e0 w1 ⟨rfl, hb1⟩; obtain ⟨i0, i1, i2, i3⟩ := box_store (s := s) (a := a) (e := e) (f := f) hb1; have I1 := Lib.hid i1; have I2 := Lib.hid i2; have I3 := Lib.hid i3; obtain ⟨⟨p0, p1, p2, p3⟩, q0, q1, q2, q3⟩ := blk4 i0; clear i0 i1 i2 i3))
      go_meet
      exact ⟨rfl, I1.out, I2.out, I3.out⟩
    case rest =>
      obtain ⟨rfl, k0, k1, hbw⟩ := hcut
      obtain ⟨⟨b0, b1, b2, b3⟩, _⟩ := blk4 k0
      obtain ⟨⟨d0, d1, d2, d3⟩, f0, f1, f2, f3⟩ := blk4 k1
      obtain ⟨⟨v0, v1, v2, v3⟩, _⟩ := blk4 (blk4_set (s' := s) (a' := a) (e' := e) (f' := f) k1)
      have h0' : (0 : Int) < (t.size : Int) := by omega
      clear k0 k1
      go_wp2
      go_region
      go_wp2
      exact bodyPost_ret (v := .tuple #[.agg #[.string s, .int .i64 a, .int .i64 e, .int .i64 f], .int .i64 ((t[0]'h0).toNat : Int)]) (by simp [results, Try.results15, go_sem, v0, v1, v2, v3]) rfl ⟨rfl, (below4 hbw (by simp) _ _ _ _).drew⟩
  · have ht0 : t = ⟨#[]⟩ := ByteArray.ext (Array.eq_empty_of_size_eq_zero (show t.data.size = 0 by have : t.data.size = t.size := rfl; omega))
    have e1 : hdB t = 0 := by unfold hdB; rw [dif_neg h0]
    rw [e1]
    subst ht0
    clear e1 h0 ht
    go_enter Try.func15, Try.ntmps15
    go_upto_region 1 with fail
    go_cut [4] from 5 to 16 (fun y wx => y = .string ⟨#[]⟩ ∧ Blk wx w.heap.size 26 (at4 s a e f) ∧ Blk wx (w.heap.size + 1) 26 (at4 ⟨#[]⟩ 0 0 0) ∧ Below w.heap.size w wx)
    case first =>
      go_wp2_with ((go_at_call 19; (with_reducible refine (hB _).mono ?_); rintro e0 w1 ⟨rfl, hb1⟩; obtain ⟨i0, i1, i2, i3⟩ := box_store (s := s) (a := a) (e := e) (f := f) hb1; have I1 := Lib.hid i1; have I2 := Lib.hid i2; have I3 := Lib.hid i3; obtain ⟨⟨p0, p1, p2, p3⟩, q0, q1, q2, q3⟩ := blk4 i0; clear i0 i1 i2 i3))
      go_meet
      exact ⟨rfl, I1.out, I2.out, I3.out⟩
    case rest =>
      obtain ⟨rfl, k0, k1, hbw⟩ := hcut
      obtain ⟨⟨b0, b1, b2, b3⟩, _⟩ := blk4 k0
      obtain ⟨⟨d0, d1, d2, d3⟩, f0, f1, f2, f3⟩ := blk4 k1
      obtain ⟨⟨v0, v1, v2, v3⟩, _⟩ := blk4 (blk4_set (s' := s) (a' := a) (e' := e) (f' := f) k1)
      clear k0 k1
      go_wp2
      exact bodyPost_ret (v := .tuple #[.agg #[.string s, .int .i64 a, .int .i64 e, .int .i64 f], .int .i64 0]) (by simp [results, Try.results15, go_sem, v0, v1, v2, v3]) rfl ⟨rfl, below4 hbw (by simp) _ _ _ _⟩

/-- End's fault, of a right cursor -/
def yeE (s : ByteArray) (a e : Int) : Int := if e = 0 ∧ a < s.size then 4 else e
def yeF (s : ByteArray) (a e f : Int) : Int := if e = 0 ∧ a < s.size then a else f
theorem cend_walk (S s : ByteArray) (A E F a e f P Q : Int) (w : World)
    (hpq : ((e == 0) = true ∧ decide (a < (s.size : Int)) = true ∧ 4 = P ∧ a = Q) ∨ ((e == 0) = true ∧ decide (a < (s.size : Int)) = false ∧ e = P ∧ f = Q) ∨ ((e == 0) = false ∧ e = P ∧ f = Q))
    (hR : ∀ u, Calls Try.prog 34 #[.agg #[.string S, .int .i64 A, .int .i64 E, .int .i64 F]] u fun e0 w' => e0 = .returned (.agg #[.string s, .int .i64 a, .int .i64 e, .int .i64 f]) ∧ Below u.heap.size u w') :
    Calls Try.prog 29 #[.agg #[.string S, .int .i64 A, .int .i64 E, .int .i64 F]] w fun e0 w' => e0 = .returned (.agg #[.int .i64 P, .int .i64 Q]) ∧ Below w.heap.size w w' := by
  rcases hpq with ⟨h1, h2, h3, h4⟩ | ⟨h1, h2, h3, h4⟩ | ⟨h1, h3, h4⟩
  all_goals
    subst h3 h4
    go_enter Try.func29, Try.ntmps29
    go_upto_region 1 with fail
    go_cut [] from 3 to 21 (fun wx => Blk wx w.heap.size 26 (at4 s a e f) ∧ Blk wx (w.heap.size + 1) 24 #[.int .i64 0, .int .i64 0] ∧ Below w.heap.size w wx)
    case first =>
      go_wp2_with ((go_at_call 34; (with_reducible refine (hR _).mono ?_); rintro e0 w1 ⟨rfl, hb1⟩; obtain ⟨i0, i1, i2, i3⟩ := box_store (s := s) (a := a) (e := e) (f := f) hb1; have I1 := Lib.hid i1; have I2 := Lib.hid i2; have I3 := Lib.hid i3; obtain ⟨⟨p0, p1, p2, p3⟩, q0, q1, q2, q3⟩ := blk4 i0; clear i0 i1 i2 i3))
      go_meet
      exact ⟨I1.out, I2.out, I3.out⟩
    case rest =>
      obtain ⟨k0, k1, hbw⟩ := hcut
      obtain ⟨⟨b0, b1, b2, b3⟩, _⟩ := blk4 k0
      have d0 := blk_cell k1 0
      have d1 := blk_cell k1 1
      have f0 := blk_frozen k1 0
      have f1 := blk_frozen k1 1
      clear k0 k1
      go_wp2
      exact bodyPost_ret (v := .agg #[_, _]) (by simp [results, Try.results29, go_sem, d0, d1]) rfl ⟨rfl, (hbw.setCell (by simp) _).setCell (by simp) _⟩
end Go.Proofs.Ytipigfngeiodlaa
