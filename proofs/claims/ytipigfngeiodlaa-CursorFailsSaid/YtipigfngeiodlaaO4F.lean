/-
  The project's cursors: Little, Bytes, Skip, for every cursor.
-/
import Derived.Test.YtipigfngeiodlaaO4E
import Derived.Deep.Cut
import Derived.Deep.CutRange
namespace Go.Proofs.Ytipigfngeiodlaa
open Go.ChangeShapes Go.WideShapes Go.ChangeAt Go.RowKit
set_option linter.unusedVariables false

/-- behind open: the argument's box, the result's, and the object -/
def OpSt (w wx : World) (B r : Array Value) (tr : TypeId) (S : ByteArray) (A E F : Int) (g : Nat) : Prop :=
  w.heap.size + 1 < g ∧ Blk wx w.heap.size 26 B ∧ Blk wx (w.heap.size + 1) tr r ∧ Blk wx g 53 (at4 S A E F) ∧ Below w.heap.size w wx

theorem op_first {w w1 : World} {B r : Array Value} {tr : TypeId} {S : ByteArray} {A E F : Int}
    (hk : Blk w1 (((w.alloc (.cells B 26)).alloc (.cells r tr)).heap.size + 1) 53 (at4 S A E F))
    (hb1 : Below ((w.alloc (.cells B 26)).alloc (.cells r tr)).heap.size ((w.alloc (.cells B 26)).alloc (.cells r tr)) w1) :
    OpSt w w1 B r tr S A E F (w.heap.size + 3) := by
  have e : ((w.alloc (.cells B 26)).alloc (.cells r tr)).heap.size + 1 = w.heap.size + 3 := by simp
  rw [e] at hk
  exact ⟨by omega, blk_next (blk_alloc (blk_new w 26 B) _) hb1, blk_next (blk_new2 w _ tr r) hb1, hk, below_call (below_box (below_box (Below.refl _ _) _) _) hb1⟩
theorem op_next {w w1 w2 : World} {B r : Array Value} {tr : TypeId} {S s : ByteArray} {A E F a e f : Int} {g : Nat} (h : OpSt w w1 B r tr S A E F g)
    (hk : Blk w2 g 53 (at4 s a e f)) (hg : w1.grownBy w2 (some g)) : OpSt w w2 B r tr s a e f g := by
  obtain ⟨h0, h1, h2, h3, h4⟩ := h
  exact ⟨h0, blk_grown h1 hg (by omega), blk_grown h2 hg (by omega), hk, below_grown h4 hg h4.size (by omega)⟩
theorem op_below {w w1 w2 : World} {B r : Array Value} {tr : TypeId} {S : ByteArray} {A E F : Int} {g : Nat} (h : OpSt w w1 B r tr S A E F g)
    (hb : Below w1.heap.size w1 w2) : OpSt w w2 B r tr S A E F g := by
  obtain ⟨h0, h1, h2, h3, h4⟩ := h
  exact ⟨h0, blk_next h1 hb, blk_next h2 hb, blk_next h3 hb, below_call h4 hb⟩

theorem little_walk (S s : ByteArray) (A E F a e f n s2a s2e s2f : Int) (s2 : ByteArray) (x : Int)
    (hO : ∀ u, Calls Try.prog 32 #[.agg #[.string S, .int .i64 A, .int .i64 E, .int .i64 F]] u fun e0 w' => e0 = .returned (.pointer (some ⟨u.heap.size + 1, 0, none⟩)) ∧ Blk w' (u.heap.size + 1) 53 (at4 s a e f) ∧ Below u.heap.size u w')
    (hP : ∀ g v, Blk v g 53 (at4 s a e f) → Calls Try.prog 35 #[.pointer (some ⟨g, 0, none⟩), .int .i64 n] v fun r w' => r = .returned (.int .u64 x) ∧ Blk w' g 53 (at4 s2 s2a s2e s2f) ∧ v.grownBy w' (some g)) (w : World) :
    Calls Try.prog 16 #[.agg #[.string S, .int .i64 A, .int .i64 E, .int .i64 F], .int .i64 n] w fun e0 w' => e0 = .returned (.tuple #[.agg #[.string s2, .int .i64 s2a, .int .i64 s2e, .int .i64 s2f], .int .u64 x]) ∧ Below w.heap.size w w' := by
  go_enter Try.func16, Try.ntmps16
  go_upto_region 1 with fail
  go_cut [6] from 8 to 18 (fun p wx => ∃ g, p = .pointer (some ⟨g, 0, none⟩) ∧ OpSt w wx (at4 S A E F) (at4 ⟨#[]⟩ 0 0 0) 26 s a e f g)
  case first =>
    go_wp2_with ((go_at_call 32; (with_reducible refine (hO _).mono ?_); rintro e0 w1 ⟨rfl, hk, hb1⟩))
    go_meet
    exact ⟨_, rfl, op_first hk hb1⟩
  case rest =>
    obtain ⟨g, rfl, ho⟩ := hcut
    have HO := Lib.hid ho
    have HK := Lib.hid ho.2.2.2.1
    clear ho
    go_upto_region 2 with fail
    go_cut [6, 7] from 8 to 18 (fun p y wx => p = .pointer (some ⟨g, 0, none⟩) ∧ y = .int .u64 x ∧ OpSt w wx (at4 S A E F) (at4 ⟨#[]⟩ 0 0 0) 26 s2 s2a s2e s2f g)
    case first =>
      go_wp2_with ((go_at_call 35; (with_reducible refine (hP _ _ HK.out).mono ?_); rintro e0 w1 ⟨rfl, hk, hg1⟩))
      go_meet
      exact ⟨rfl, rfl, op_next HO.out hk hg1⟩
    case rest =>
      obtain ⟨rfl, rfl, h0, h1, h2, h3, h4⟩ := hcut
      obtain ⟨⟨p0, p1, p2, p3⟩, _⟩ := blk4 h3
      obtain ⟨⟨d0, d1, d2, d3⟩, r0, r1, r2, r3⟩ := blk4 h2
      obtain ⟨⟨v0, v1, v2, v3⟩, _⟩ := blk4 (blk4_set (s' := s2) (a' := s2a) (e' := s2e) (f' := s2f) h2)
      have H := Lib.hid h4
      clear h1 h2 h3 h4 HO
      go_wp2_with fail
      refine bodyPost_ret (v := .tuple #[.agg #[.string s2, .int .i64 s2a, .int .i64 s2e, .int .i64 s2f], .int .u64 x]) (by simp [results, Try.results16, go_sem, v0, v1, v2, v3]) rfl ⟨rfl, below4 H.out (by omega) _ _ _ _⟩

theorem bytes_walk (S s : ByteArray) (A E F a e f n s2a s2e s2f : Int) (s2 : ByteArray) (t : ByteArray)
    (hO : ∀ u, Calls Try.prog 32 #[.agg #[.string S, .int .i64 A, .int .i64 E, .int .i64 F]] u fun e0 w' => e0 = .returned (.pointer (some ⟨u.heap.size + 1, 0, none⟩)) ∧ Blk w' (u.heap.size + 1) 53 (at4 s a e f) ∧ Below u.heap.size u w')
    (hP : ∀ g v, Blk v g 53 (at4 s a e f) → Calls Try.prog 37 #[.pointer (some ⟨g, 0, none⟩), .int .i64 1, .int .i64 n] v fun r w' => r = .returned (.string t) ∧ Blk w' g 53 (at4 s2 s2a s2e s2f) ∧ v.grownBy w' (some g)) (w : World) :
    Calls Try.prog 18 #[.agg #[.string S, .int .i64 A, .int .i64 E, .int .i64 F], .int .i64 n] w fun e0 w' => e0 = .returned (.tuple #[.agg #[.string s2, .int .i64 s2a, .int .i64 s2e, .int .i64 s2f], .string t]) ∧ Below w.heap.size w w' := by
  go_enter Try.func18, Try.ntmps18
  go_upto_region 1 with fail
  go_cut [6] from 8 to 18 (fun p wx => ∃ g, p = .pointer (some ⟨g, 0, none⟩) ∧ OpSt w wx (at4 S A E F) (at4 ⟨#[]⟩ 0 0 0) 26 s a e f g)
  case first =>
    go_wp2_with ((go_at_call 32; (with_reducible refine (hO _).mono ?_); rintro e0 w1 ⟨rfl, hk, hb1⟩))
    go_meet
    exact ⟨_, rfl, op_first hk hb1⟩
  case rest =>
    obtain ⟨g, rfl, ho⟩ := hcut
    have HO := Lib.hid ho
    have HK := Lib.hid ho.2.2.2.1
    clear ho
    go_upto_region 2 with fail
    go_cut [6, 7] from 8 to 18 (fun p y wx => p = .pointer (some ⟨g, 0, none⟩) ∧ y = .string t ∧ OpSt w wx (at4 S A E F) (at4 ⟨#[]⟩ 0 0 0) 26 s2 s2a s2e s2f g)
    case first =>
      go_wp2_with ((go_at_call 37; (with_reducible refine (hP _ _ HK.out).mono ?_); rintro e0 w1 ⟨rfl, hk, hg1⟩))
      go_meet
      exact ⟨rfl, rfl, op_next HO.out hk hg1⟩
    case rest =>
      obtain ⟨rfl, rfl, h0, h1, h2, h3, h4⟩ := hcut
      obtain ⟨⟨p0, p1, p2, p3⟩, _⟩ := blk4 h3
      obtain ⟨⟨d0, d1, d2, d3⟩, r0, r1, r2, r3⟩ := blk4 h2
      obtain ⟨⟨v0, v1, v2, v3⟩, _⟩ := blk4 (blk4_set (s' := s2) (a' := s2a) (e' := s2e) (f' := s2f) h2)
      have H := Lib.hid h4
      clear h1 h2 h3 h4 HO
      go_wp2_with fail
      refine bodyPost_ret (v := .tuple #[.agg #[.string s2, .int .i64 s2a, .int .i64 s2e, .int .i64 s2f], .string t]) (by simp [results, Try.results18, go_sem, v0, v1, v2, v3]) rfl ⟨rfl, below4 H.out (by omega) _ _ _ _⟩
end Go.Proofs.Ytipigfngeiodlaa
