/-
  The reference's cursors: Bytes whole, Skip, Left. A store of what a callee gave is cut off (go_cut): behind it the world is opaque.
-/
import Derived.Test.YtipigfngeiodlaaB4Bytes
import Derived.Laws.DeepStrings4
import Derived.Deep.Cut
import Derived.Deep.CutRange
namespace Go.Proofs.Ytipigfngeiodlaa
open Go.ChangeShapes Go.WideShapes Go.ChangeAt Go.RowKit
set_option linter.unusedVariables false

theorem below4 {B : Nat} {a w : World} {h : Nat} (hb : Below B a w) (hB : B ≤ h) (x y z v : Value) : Below B a ((((w.setCell ⟨h, 0, none⟩ x).setCell ⟨h, 1, none⟩ y).setCell ⟨h, 2, none⟩ z).setCell ⟨h, 3, none⟩ v) :=
  (((hb.setCell hB _).setCell hB _).setCell hB _).setCell hB _
theorem below_call {a u w' : World} (h : Below a.heap.size a u) (hb : Below u.heap.size u w') : Below a.heap.size a w' := h.trans (hb.mono h.size)
theorem below_box {a w : World} (h : Below a.heap.size a w) (o : Obj) : Below a.heap.size a (w.alloc o) := h.alloc h.size o
theorem blk_next {u w' : World} {g : Nat} {t : TypeId} {cs : Array Value} (h : Blk u g t cs) (hb : Below u.heap.size u w') : Blk w' g t cs := blk_below h hb (blk_lt h)
theorem blk4_far {w : World} {g h : Nat} {t : TypeId} {cs : Array Value} (hb : Blk w g t cs) (hne : g ≠ h) (a b c d : Value) : Blk ((((w.setCell ⟨h, 0, none⟩ a).setCell ⟨h, 1, none⟩ b).setCell ⟨h, 2, none⟩ c).setCell ⟨h, 3, none⟩ d) g t cs :=
  blk_far (blk_far (blk_far (blk_far hb hne _) hne _) hne _) hne _
theorem blk4_a {w : World} {g : Nat} {t : TypeId} {s : ByteArray} {a e f a' : Int} (h : Blk w g t (at4 s a e f)) : Blk (w.setCell ⟨g, 1, none⟩ (.int .i64 a')) g t (at4 s a' e f) := blk_set h 1 _

theorem cbytes_ok (S s : ByteArray) (A E F : Int) (a z : Nat) (hs : s.size ≤ 9223372036854775807) (h : a + z ≤ s.size) (w : World)
    (hR : ∀ u, Calls Try.prog 34 #[.agg #[.string S, .int .i64 A, .int .i64 E, .int .i64 F]] u fun e0 w' => e0 = .returned (.agg #[.string s, .int .i64 (a : Int), .int .i64 0, .int .i64 0]) ∧ Below u.heap.size u w') :
    Calls Try.prog 19 #[.agg #[.string S, .int .i64 A, .int .i64 E, .int .i64 F], .int .i64 (z : Int)] w fun e0 w' =>
      e0 = .returned (.tuple #[.agg #[.string s, .int .i64 ((a : Int) + z), .int .i64 0, .int .i64 0], .string (s.extract a (a + z))]) ∧ Below w.heap.size w w' := by
  have h2 : (z : Int) ≤ (s.size : Int) - a := by omega
  have h3 : (a : Int) ≤ s.size := by omega
  have h4 : (a : Int) + z ≤ s.size := by omega
  clear h
  go_enter Try.func19, Try.ntmps19
  go_upto_region 1 with fail
  go_cut [] from 7 to 51 (fun wx => Blk wx w.heap.size 26 (at4 s (a : Int) 0 0) ∧ Blk wx (w.heap.size + 1) 26 (at4 ⟨#[]⟩ 0 0 0) ∧ Below w.heap.size w wx)
  case first =>
    go_wp2_with ((go_at_call 34; (with_reducible refine (hR _).mono ?_); rintro e0 w1 ⟨rfl, hb1⟩; have hz1 : w.heap.size + 1 < w1.heap.size := (by have := hb1.size; simp at this; omega); obtain ⟨i0, i1, i2, i3⟩ := box_cells (s := s) (a := a) (e := 0) (f := 0) hb1; have I2 := Lib.hid i2; have I3 := Lib.hid i3; obtain ⟨⟨p0, p1, p2, p3⟩, q0, q1, q2, q3⟩ := blk4 i0; clear i0 i1 i2 i3))
    go_meet
    exact ⟨I2.out, I3.out, below4 (below_call (below_box (below_box (Below.refl w.heap.size w) _) _) hb1) (Nat.le_refl _) _ _ _ _⟩
  case rest =>
    obtain ⟨k0, k1, hbw⟩ := hcut
    have m2 := blk4_a (a' := (a : Int) + z) k0
    have m3 := blk_far k1 (p := ⟨w.heap.size, 1, none⟩) (by simp) (.int .i64 ((a : Int) + z))
    have M3 := Lib.hid m3
    obtain ⟨⟨b0, b1, b2, b3⟩, g0, g1, g2, g3⟩ := blk4 k0
    obtain ⟨⟨u0, u1, u2, u3⟩, _⟩ := blk4 m2
    obtain ⟨⟨d0, d1, d2, d3⟩, f0, f1, f2, f3⟩ := blk4 m3
    clear k0 k1 m2 m3
    go_wp2
    obtain ⟨⟨v0, v1, v2, v3⟩, _⟩ := blk4 (blk4_set (s' := s) (a' := (a : Int) + z) (e' := 0) (f' := 0) M3.out)
    exact bodyPost_ret (v := .tuple #[.agg #[.string s, .int .i64 ((a : Int) + z), .int .i64 0, .int .i64 0], .string (s.extract a (a + z))]) (by simp [results, Try.results19, go_sem, v0, v1, v2, v3]) rfl
      ⟨rfl, below4 (hbw.setCell (Nat.le_refl _) _) (by simp) _ _ _ _⟩

theorem cr_ok (S : ByteArray) (A E F : Int) : curOk (crS S A E F) (crA S A E F) (crE S A E F) (crF S A E F) := by
  unfold crS crA crE crF
  by_cases h : curOk S A E F
  · rw [if_pos h, if_pos h, if_pos h, if_pos h]; exact h
  · rw [if_neg h, if_neg h, if_neg h, if_neg h]; exact ⟨by omega, by simp, by omega, by omega, by omega, by simp, fun h => by omega⟩
theorem cr_size (S : ByteArray) (A E F : Int) : (crS S A E F).size ≤ S.size := by
  unfold crS
  split
  · exact Nat.le_refl _
  · exact Nat.zero_le _

/-- what reading n bytes makes of a right cursor -/
def ybOk (s : ByteArray) (a e n : Int) : Prop := e = 0 ∧ 0 ≤ n ∧ n ≤ (s.size : Int) - a
instance (s : ByteArray) (a e n : Int) : Decidable (ybOk s a e n) := by unfold ybOk; infer_instance
def ybA (s : ByteArray) (a e n : Int) : Int := if ybOk s a e n then a + n else a
def ybE (s : ByteArray) (a e n : Int) : Int := if e = 0 then (if n < 0 then 2 else if (s.size : Int) - a < n then 5 else 0) else e
def ybF (s : ByteArray) (a e f n : Int) : Int := if e = 0 then (if n < 0 then a else if (s.size : Int) - a < n then s.size else 0) else f
def ybT (s : ByteArray) (a e n : Int) : ByteArray := if ybOk s a e n then s.extract a.toNat (a + n).toNat else ⟨#[]⟩

theorem cbytes_right (S s : ByteArray) (A E F a e f n : Int) (hs : s.size ≤ 9223372036854775807) (hc : curOk s a e f) (w : World)
    (hR : ∀ u, Calls Try.prog 34 #[.agg #[.string S, .int .i64 A, .int .i64 E, .int .i64 F]] u fun e0 w' => e0 = .returned (.agg #[.string s, .int .i64 a, .int .i64 e, .int .i64 f]) ∧ Below u.heap.size u w') :
    Calls Try.prog 19 #[.agg #[.string S, .int .i64 A, .int .i64 E, .int .i64 F], .int .i64 n] w fun e0 w' =>
      e0 = .returned (.tuple #[.agg #[.string s, .int .i64 (ybA s a e n), .int .i64 (ybE s a e n), .int .i64 (ybF s a e f n)], .string (ybT s a e n)]) ∧ Below w.heap.size w w' := by
  obtain ⟨c1, c2, c3, c4, c5, c6, c7⟩ := hc
  by_cases he : e = 0
  · obtain rfl := c7 he
    subst he
    by_cases hn : n < 0
    · have x1 : ybA s a 0 n = a := by unfold ybA; rw [if_neg (by unfold ybOk; omega)]
      have x2 : ybE s a 0 n = 2 := by unfold ybE; rw [if_pos rfl, if_pos hn]
      have x3 : ybF s a 0 0 n = a := by unfold ybF; rw [if_pos rfl, if_pos hn]
      have x4 : ybT s a 0 n = ⟨#[]⟩ := by unfold ybT; rw [if_neg (by unfold ybOk; omega)]
      rw [x1, x2, x3, x4]
      exact cbytes_neg S s A E F a n hn w hR
    · by_cases hl : (s.size : Int) - a < n
      · have x1 : ybA s a 0 n = a := by unfold ybA; rw [if_neg (by unfold ybOk; omega)]
        have x2 : ybE s a 0 n = 5 := by unfold ybE; rw [if_pos rfl, if_neg hn, if_pos hl]
        have x3 : ybF s a 0 0 n = s.size := by unfold ybF; rw [if_pos rfl, if_neg hn, if_pos hl]
        have x4 : ybT s a 0 n = ⟨#[]⟩ := by unfold ybT; rw [if_neg (by unfold ybOk; omega)]
        rw [x1, x2, x3, x4]
        exact cbytes_short S s A E F a n hs c1 c2 (by omega) hl w hR
      · have hok : ybOk s a 0 n := ⟨rfl, by omega, by omega⟩
        have x1 : ybA s a 0 n = a + n := by unfold ybA; rw [if_pos hok]
        have x2 : ybE s a 0 n = 0 := by unfold ybE; rw [if_pos rfl, if_neg hn, if_neg hl]
        have x3 : ybF s a 0 0 n = 0 := by unfold ybF; rw [if_pos rfl, if_neg hn, if_neg hl]
        have x4 : ybT s a 0 n = s.extract a.toNat (a + n).toNat := by unfold ybT; rw [if_pos hok]
        rw [x1, x2, x3, x4]
        obtain ⟨b, rfl⟩ := Int.eq_ofNat_of_zero_le c1
        obtain ⟨m, rfl⟩ := Int.eq_ofNat_of_zero_le (show 0 ≤ n by omega)
        have e1 : ((b : Int)).toNat = b := by omega
        have e2 : ((b : Int) + m).toNat = b + m := by omega
        rw [e1, e2]
        exact cbytes_ok S s A E F b m hs (by omega) w hR
  · have x1 : ybA s a e n = a := by unfold ybA; rw [if_neg (fun h => he h.1)]
    have x2 : ybE s a e n = e := by unfold ybE; rw [if_neg he]
    have x3 : ybF s a e f n = f := by unfold ybF; rw [if_neg he]
    have x4 : ybT s a e n = ⟨#[]⟩ := by unfold ybT; rw [if_neg (fun h => he h.1)]
    rw [x1, x2, x3, x4]
    exact cbytes_err S s A E F a e f n he w hR
theorem cbytes_any (S : ByteArray) (A E F n : Int) (hS : S.size ≤ 9223372036854775807) (w : World) :
    Calls Try.prog 19 #[.agg #[.string S, .int .i64 A, .int .i64 E, .int .i64 F], .int .i64 n] w fun e0 w' =>
      e0 = .returned (.tuple #[.agg #[.string (crS S A E F), .int .i64 (ybA (crS S A E F) (crA S A E F) (crE S A E F) n), .int .i64 (ybE (crS S A E F) (crA S A E F) (crE S A E F) n), .int .i64 (ybF (crS S A E F) (crA S A E F) (crE S A E F) (crF S A E F) n)], .string (ybT (crS S A E F) (crA S A E F) (crE S A E F) n)]) ∧ Below w.heap.size w w' :=
  cbytes_right S _ A E F _ _ _ n (Nat.le_trans (cr_size S A E F) hS) (cr_ok S A E F) w (fun u => cright_any S A E F hS u)

/-- a function of a boxed cursor that stores what a callee gives into the box -/
theorem box_store {w w1 : World} {t : TypeId} {S s : ByteArray} {A E F a e f : Int} {r : Array Value} {t2 : TypeId} (hb1 : Below ((w.alloc (.cells (at4 S A E F) t)).alloc (.cells r t2)).heap.size ((w.alloc (.cells (at4 S A E F) t)).alloc (.cells r t2)) w1) :
    Blk w1 w.heap.size t (at4 S A E F) ∧
    Blk ((((w1.setCell ⟨w.heap.size, 0, none⟩ (.string s)).setCell ⟨w.heap.size, 1, none⟩ (.int .i64 a)).setCell ⟨w.heap.size, 2, none⟩ (.int .i64 e)).setCell ⟨w.heap.size, 3, none⟩ (.int .i64 f)) w.heap.size t (at4 s a e f) ∧
    Blk ((((w1.setCell ⟨w.heap.size, 0, none⟩ (.string s)).setCell ⟨w.heap.size, 1, none⟩ (.int .i64 a)).setCell ⟨w.heap.size, 2, none⟩ (.int .i64 e)).setCell ⟨w.heap.size, 3, none⟩ (.int .i64 f)) (w.heap.size + 1) t2 r ∧
    Below w.heap.size w ((((w1.setCell ⟨w.heap.size, 0, none⟩ (.string s)).setCell ⟨w.heap.size, 1, none⟩ (.int .i64 a)).setCell ⟨w.heap.size, 2, none⟩ (.int .i64 e)).setCell ⟨w.heap.size, 3, none⟩ (.int .i64 f)) := by
  have j0 := blk_next (blk_alloc (blk_new w t (at4 S A E F)) (.cells r t2)) hb1
  have j1 := blk_next (blk_new2 w (.cells (at4 S A E F) t) t2 r) hb1
  exact ⟨j0, blk4_set j0, blk4_far j1 (by simp) _ _ _ _, below4 (below_call (below_box (below_box (Below.refl w.heap.size w) _) _) hb1) (Nat.le_refl _) _ _ _ _⟩

theorem cskip_any (S s : ByteArray) (A E F a e f n : Int) (t : ByteArray) (hB : ∀ u, Calls Try.prog 19 #[.agg #[.string S, .int .i64 A, .int .i64 E, .int .i64 F], .int .i64 n] u fun e0 w' => e0 = .returned (.tuple #[.agg #[.string s, .int .i64 a, .int .i64 e, .int .i64 f], .string t]) ∧ Below u.heap.size u w') (w : World) :
    Calls Try.prog 21 #[.agg #[.string S, .int .i64 A, .int .i64 E, .int .i64 F], .int .i64 n] w fun e0 w' => e0 = .returned (.agg #[.string s, .int .i64 a, .int .i64 e, .int .i64 f]) ∧ Below w.heap.size w w' := by
  go_enter Try.func21, Try.ntmps21
  go_upto_region 1 with fail
  go_cut [] from 5 to 11 (fun wx => Blk wx w.heap.size 26 (at4 s a e f) ∧ Blk wx (w.heap.size + 1) 26 (at4 ⟨#[]⟩ 0 0 0) ∧ Below w.heap.size w wx)
  case first =>
    go_wp2_with ((go_at_call 19; (with_reducible refine (hB _).mono ?_); rintro e0 w1 ⟨rfl, hb1⟩; obtain ⟨i0, i1, i2, i3⟩ := box_store (s := s) (a := a) (e := e) (f := f) hb1; have I1 := Lib.hid i1; have I2 := Lib.hid i2; have I3 := Lib.hid i3; obtain ⟨⟨p0, p1, p2, p3⟩, q0, q1, q2, q3⟩ := blk4 i0; clear i0 i1 i2 i3))
    go_meet
    exact ⟨I1.out, I2.out, I3.out⟩
  case rest =>
    obtain ⟨k0, k1, hbw⟩ := hcut
    obtain ⟨⟨b0, b1, b2, b3⟩, _⟩ := blk4 k0
    obtain ⟨⟨d0, d1, d2, d3⟩, f0, f1, f2, f3⟩ := blk4 k1
    obtain ⟨⟨v0, v1, v2, v3⟩, _⟩ := blk4 (blk4_set (s' := s) (a' := a) (e' := e) (f' := f) k1)
    clear k0 k1
    go_wp2
    exact bodyPost_ret (v := .agg #[.string s, .int .i64 a, .int .i64 e, .int .i64 f]) (by simp [results, Try.results21, go_sem, v0, v1, v2, v3]) rfl ⟨rfl, below4 hbw (by simp) _ _ _ _⟩

/-- Left's number, of a right cursor -/
def ylX (s : ByteArray) (a e : Int) : Int := if e = 0 then (s.size : Int) - a else 0
theorem cleft_right (S s : ByteArray) (A E F a e f : Int) (hs : s.size ≤ 9223372036854775807) (hc : curOk s a e f) (w : World)
    (hR : ∀ u, Calls Try.prog 34 #[.agg #[.string S, .int .i64 A, .int .i64 E, .int .i64 F]] u fun e0 w' => e0 = .returned (.agg #[.string s, .int .i64 a, .int .i64 e, .int .i64 f]) ∧ Below u.heap.size u w') :
    Calls Try.prog 13 #[.agg #[.string S, .int .i64 A, .int .i64 E, .int .i64 F]] w fun e0 w' => e0 = .returned (.int .i64 (ylX s a e)) ∧ Below w.heap.size w w' := by
  obtain ⟨c1, c2, c3, c4, c5, c6, c7⟩ := hc
  clear c7
  unfold ylX
  by_cases he : e = 0
  · subst he
    rw [if_pos rfl]
    go_enter Try.func13, Try.ntmps13
    go_wp2_with ((go_at_call 34; (with_reducible refine (hR _).mono ?_); rintro e0 w1 ⟨rfl, hb1⟩; have k0 := blk_next (blk_new w 26 (at4 S A E F)) hb1; have m0 := blk4_set (s' := s) (a' := a) (e' := 0) (f' := f) k0; obtain ⟨⟨p0, p1, p2, p3⟩, q0, q1, q2, q3⟩ := blk4 k0; obtain ⟨⟨b0, b1, b2, b3⟩, _⟩ := blk4 m0; clear k0 m0))
    go_ret
    exact ⟨rfl, below4 (below_call (below_box (Below.refl w.heap.size w) _) hb1) (Nat.le_refl _) _ _ _ _⟩
  · rw [if_neg he]
    have t : (e != 0) = true := by simp [he]
    clear he
    go_enter Try.func13, Try.ntmps13
    go_wp2_with ((go_at_call 34; (with_reducible refine (hR _).mono ?_); rintro e0 w1 ⟨rfl, hb1⟩; have k0 := blk_next (blk_new w 26 (at4 S A E F)) hb1; have m0 := blk4_set (s' := s) (a' := a) (e' := e) (f' := f) k0; obtain ⟨⟨p0, p1, p2, p3⟩, q0, q1, q2, q3⟩ := blk4 k0; obtain ⟨⟨b0, b1, b2, b3⟩, _⟩ := blk4 m0; clear k0 m0))
    go_ret
    exact ⟨rfl, below4 (below_call (below_box (Below.refl w.heap.size w) _) hb1) (Nat.le_refl _) _ _ _ _⟩
end Go.Proofs.Ytipigfngeiodlaa
