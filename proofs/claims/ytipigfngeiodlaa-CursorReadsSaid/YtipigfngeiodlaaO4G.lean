/-
  The project's cursors: Check, Left, Skip, Byte, New, for every cursor.
-/
import Derived.Test.YtipigfngeiodlaaO4F
namespace Go.Proofs.Ytipigfngeiodlaa
open Go.ChangeShapes Go.WideShapes Go.ChangeAt Go.RowKit
set_option linter.unusedVariables false

theorem ocheck_walk (S : ByteArray) (A E F c : Int) (b : Bool) (hc : (if b then 0 else 10) = c) (hV : ∀ u, Calls Try.prog 31 #[.agg #[.string S, .int .i64 A, .int .i64 E, .int .i64 F]] u fun e w' => e = .returned (.bool b) ∧ Below u.heap.size u w') (w : World) :
    Calls Try.prog 10 #[.agg #[.string S, .int .i64 A, .int .i64 E, .int .i64 F]] w fun e w' => e = .returned (.int .i64 c) ∧ Below w.heap.size w w' := by
  subst hc
  have hnot : ∀ (x : Bool) (w : World), (Op.unary .not (.bool x)).run Try.prog w = .ok (.bool (!x)) w := fun _ _ => rfl
  cases b
  all_goals
    go_enter Try.func10, Try.ntmps10
    go_wp2_with ((go_at_call 31; (with_reducible refine (hV _).mono ?_); rintro e w1 ⟨rfl, hb1⟩))
    go_ret
    exact ⟨rfl, below_call (below_box (Below.refl _ _) _) hb1⟩
theorem ocheck_any (S : ByteArray) (A E F : Int) (hS : S.size ≤ 9223372036854775807) (w : World) :
    Calls Try.prog 10 #[.agg #[.string S, .int .i64 A, .int .i64 E, .int .i64 F]] w fun e w' => e = .returned (.int .i64 (if curOk S A E F then 0 else 10)) ∧ Below w.heap.size w w' :=
  ocheck_walk S A E F _ (decide (curOk S A E F)) (by simp) (fun u => valid_any S A E F hS u) w

theorem oleft_walk (S s : ByteArray) (A E F a e f L : Int)
    (hO : ∀ u, Calls Try.prog 32 #[.agg #[.string S, .int .i64 A, .int .i64 E, .int .i64 F]] u fun e0 w' => e0 = .returned (.pointer (some ⟨u.heap.size + 1, 0, none⟩)) ∧ Blk w' (u.heap.size + 1) 53 (at4 s a e f) ∧ Below u.heap.size u w')
    (hL : ∀ u, Calls Try.prog 33 #[.agg #[.string s, .int .i64 a, .int .i64 e, .int .i64 f]] u fun e w' => e = .returned (.int .i64 L) ∧ Below u.heap.size u w') (w : World) :
    Calls Try.prog 12 #[.agg #[.string S, .int .i64 A, .int .i64 E, .int .i64 F]] w fun e w' => e = .returned (.int .i64 L) ∧ Below w.heap.size w w' := by
  go_enter Try.func12, Try.ntmps12
  go_wp2_with (first
    | (go_at_call 32; (with_reducible refine (hO _).mono ?_); rintro e0 w1 ⟨rfl, hk, hb1⟩; rw [show (w.alloc (.cells #[.string S, .int .i64 A, .int .i64 E, .int .i64 F] 26)).heap.size + 1 = w.heap.size + 2 by simp] at hk; obtain ⟨⟨p0, p1, p2, p3⟩, _⟩ := blk4 hk; clear hk)
    | (go_at_call 33; (with_reducible refine (hL _).mono ?_); rintro e0 w2 ⟨rfl, hb2⟩))
  go_ret
  exact ⟨rfl, below_call (below_call (below_box (Below.refl _ _) _) hb1) hb2⟩

theorem oskip_any (S s : ByteArray) (A E F a e f n : Int) (t : ByteArray) (hB : ∀ u, Calls Try.prog 18 #[.agg #[.string S, .int .i64 A, .int .i64 E, .int .i64 F], .int .i64 n] u fun e0 w' => e0 = .returned (.tuple #[.agg #[.string s, .int .i64 a, .int .i64 e, .int .i64 f], .string t]) ∧ Below u.heap.size u w') (w : World) :
    Calls Try.prog 20 #[.agg #[.string S, .int .i64 A, .int .i64 E, .int .i64 F], .int .i64 n] w fun e0 w' => e0 = .returned (.agg #[.string s, .int .i64 a, .int .i64 e, .int .i64 f]) ∧ Below w.heap.size w w' := by
  go_enter Try.func20, Try.ntmps20
  go_upto_region 1 with fail
  go_cut [5] from 6 to 12 (fun p wx => ∃ g, p = .pointer (some ⟨g, 0, none⟩) ∧ w.heap.size + 1 < g ∧ Blk wx g 26 (at4 s a e f) ∧ Blk wx (w.heap.size + 1) 26 (at4 ⟨#[]⟩ 0 0 0) ∧ Below w.heap.size w wx)
  case first =>
    go_wp2_with ((go_at_call 18; (with_reducible refine (hB _).mono ?_); rintro e0 w1 ⟨rfl, hb1⟩; have i1 := Lib.hid (blk_next (blk_new2 w (.cells (at4 S A E F) 26) 26 (at4 ⟨#[]⟩ 0 0 0)) hb1)))
    go_meet
    exact ⟨_, rfl, by have := blk_lt i1.out; simpa using this, blk_new _ _ _, blk_alloc i1.out _, below_box (below_call (below_box (below_box (Below.refl _ _) _) _) hb1) _⟩
  case rest =>
    obtain ⟨g, rfl, h0, k0, k1, hbw⟩ := hcut
    obtain ⟨⟨b0, b1, b2, b3⟩, _⟩ := blk4 k0
    obtain ⟨⟨d0, d1, d2, d3⟩, r0, r1, r2, r3⟩ := blk4 k1
    obtain ⟨⟨v0, v1, v2, v3⟩, _⟩ := blk4 (blk4_set (s' := s) (a' := a) (e' := e) (f' := f) k1)
    clear k0 k1
    go_wp2
    exact bodyPost_ret (v := .agg #[.string s, .int .i64 a, .int .i64 e, .int .i64 f]) (by simp [results, Try.results20, go_sem, v0, v1, v2, v3]) rfl ⟨rfl, below4 hbw (by omega) _ _ _ _⟩

theorem obyte_any (S s : ByteArray) (A E F a e f x : Int) (hx : wrap64 x = x) (hB : ∀ u, Calls Try.prog 16 #[.agg #[.string S, .int .i64 A, .int .i64 E, .int .i64 F], .int .i64 1] u fun e0 w' => e0 = .returned (.tuple #[.agg #[.string s, .int .i64 a, .int .i64 e, .int .i64 f], .int .u64 x]) ∧ Below u.heap.size u w') (w : World) :
    Calls Try.prog 14 #[.agg #[.string S, .int .i64 A, .int .i64 E, .int .i64 F]] w fun e0 w' => e0 = .returned (.tuple #[.agg #[.string s, .int .i64 a, .int .i64 e, .int .i64 f], .int .i64 x]) ∧ Below w.heap.size w w' := by
  go_enter Try.func14, Try.ntmps14
  go_upto_region 1 with fail
  go_cut [4, 5] from 6 to 13 (fun p y wx => ∃ g, p = .pointer (some ⟨g, 0, none⟩) ∧ y = .int .u64 x ∧ w.heap.size + 1 < g ∧ Blk wx g 26 (at4 s a e f) ∧ Blk wx (w.heap.size + 1) 26 (at4 ⟨#[]⟩ 0 0 0) ∧ Below w.heap.size w wx)
  case first =>
    go_wp2_with ((go_at_call 16; (with_reducible refine (hB _).mono ?_); rintro e0 w1 ⟨rfl, hb1⟩; have i1 := Lib.hid (blk_next (blk_new2 w (.cells (at4 S A E F) 26) 26 (at4 ⟨#[]⟩ 0 0 0)) hb1)))
    go_meet
    exact ⟨_, rfl, rfl, by have := blk_lt i1.out; simpa using this, blk_new _ _ _, blk_alloc i1.out _, below_box (below_call (below_box (below_box (Below.refl _ _) _) _) hb1) _⟩
  case rest =>
    obtain ⟨g, rfl, rfl, h0, k0, k1, hbw⟩ := hcut
    obtain ⟨⟨b0, b1, b2, b3⟩, _⟩ := blk4 k0
    obtain ⟨⟨d0, d1, d2, d3⟩, r0, r1, r2, r3⟩ := blk4 k1
    obtain ⟨⟨v0, v1, v2, v3⟩, _⟩ := blk4 (blk4_set (s' := s) (a' := a) (e' := e) (f' := f) k1)
    clear k0 k1
    go_wp2
    exact bodyPost_ret (v := .tuple #[.agg #[.string s, .int .i64 a, .int .i64 e, .int .i64 f], .int .i64 x]) (by simp [results, Try.results14, go_sem, v0, v1, v2, v3, hx]) rfl ⟨rfl, below4 hbw (by omega) _ _ _ _⟩

theorem onew_walk (S : ByteArray) (p c P Q : Int) (h : ((c != 0) = true ∧ 0 = P ∧ 2 = Q) ∨ ((c != 0) = false ∧ p = P ∧ 0 = Q))
    (hC : ∀ u, Calls Try.prog 10 #[.agg #[.string S, .int .i64 p, .int .i64 0, .int .i64 0]] u fun e w' => e = .returned (.int .i64 c) ∧ Below u.heap.size u w') (w : World) :
    Calls Try.prog 24 #[.string S, .int .i64 p] w fun e w' => e = .returned (.agg #[.string S, .int .i64 P, .int .i64 Q, .int .i64 0]) ∧ Below w.heap.size w w' := by
  rcases h with ⟨h1, h2, h3⟩ | ⟨h1, h2, h3⟩
  all_goals
    subst h2 h3
    go_enter Try.func24, Try.ntmps24
    go_upto_region 2 with fail
    go_cut [11] from 6 to 15 (fun y wx => y = .bool (c != 0) ∧ Blk wx w.heap.size 26 (at4 ⟨#[]⟩ 0 0 0) ∧ Blk wx (w.heap.size + 1) 26 (at4 S p 0 0) ∧ Below w.heap.size w wx)
    case first =>
      go_wp2_with ((go_at_call 10; (with_reducible refine (hC _).mono ?_); rintro e0 w1 ⟨rfl, hb1⟩))
      go_meet
      exact ⟨by rw [h1], blk_next (blk_alloc (blk_new w 26 (at4 ⟨#[]⟩ 0 0 0)) (.cells (at4 S p 0 0) 26)) hb1, blk_next (blk_new2 w (.cells (at4 ⟨#[]⟩ 0 0 0) 26) 26 (at4 S p 0 0)) hb1, below_call (below_box (below_box (Below.refl _ _) _) _) hb1⟩
    case rest =>
      obtain ⟨rfl, k0, k1, hbw⟩ := hcut
      rw [h1]
      obtain ⟨⟨b0, b1, b2, b3⟩, _⟩ := blk4 k1
      obtain ⟨⟨d0, d1, d2, d3⟩, r0, r1, r2, r3⟩ := blk4 k0
      have V := fun a' e' => (blk4 (blk4_set (s' := S) (a' := a') (e' := e') (f' := 0) k0)).1
      clear k0 k1 h1
      go_wp2
      refine bodyPost_ret (v := .agg #[.string S, _, _, .int .i64 0]) (by simp [results, Try.results24, go_sem, V]) rfl ⟨rfl, below4 hbw (Nat.le_refl _) _ _ _ _⟩

theorem onew_bad (S : ByteArray) (a : Int) (hS : S.size ≤ 9223372036854775807) (h : a < 0 ∨ (S.size : Int) < a) (w : World) :
    Calls Try.prog 24 #[.string S, .int .i64 a] w fun e w' => e = .returned (.agg #[.string S, .int .i64 0, .int .i64 2, .int .i64 0]) ∧ Below w.heap.size w w' := by
  have hC := fun u => ocheck_any S a 0 0 hS u
  rw [if_neg (show ¬ curOk S a 0 0 by unfold curOk; omega)] at hC
  exact onew_walk S a 10 0 2 (.inl ⟨rfl, rfl, rfl⟩) hC w
theorem onew_ok (S : ByteArray) (a : Int) (hS : S.size ≤ 9223372036854775807) (h0 : 0 ≤ a) (h1 : a ≤ (S.size : Int)) (w : World) :
    Calls Try.prog 24 #[.string S, .int .i64 a] w fun e w' => e = .returned (.agg #[.string S, .int .i64 a, .int .i64 0, .int .i64 0]) ∧ Below w.heap.size w w' := by
  have hC := fun u => ocheck_any S a 0 0 hS u
  rw [if_pos (show curOk S a 0 0 from ⟨h0, h1, by omega, by omega, by omega, by omega, fun _ => rfl⟩)] at hC
  exact onew_walk S a 0 a 0 (.inr ⟨rfl, rfl, rfl⟩) hC w
end Go.Proofs.Ytipigfngeiodlaa
