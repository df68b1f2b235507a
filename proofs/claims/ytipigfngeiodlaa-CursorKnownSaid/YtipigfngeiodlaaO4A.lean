/-
  The project's cursors: has, isError, failed, valid, left.
-/
import Derived.Test.YtipigfngeiodlaaB4Little
import Derived.BigQuiet
import Derived.Deep.QuietTactic
namespace Go.Proofs.Ytipigfngeiodlaa
open Go.ChangeShapes Go.WideShapes Go.ChangeAt Go.RowKit
set_option linter.unusedVariables false

theorem has_in (S : ByteArray) (A E F x : Int) (hS : S.size ≤ 9223372036854775807) (h0 : 0 ≤ x) (h1 : x ≤ (S.size : Int)) (w : World) :
    Calls Try.prog 41 #[.agg #[.string S, .int .i64 A, .int .i64 E, .int .i64 F], .int .i64 x] w fun e w' => e = .returned (.bool true) ∧ Below w.heap.size w w' := by
  go_enter Try.func41, Try.ntmps41
  go_wp2
  go_ret
  exact ⟨rfl, below_box (Below.refl _ _) _⟩
theorem has_out (S : ByteArray) (A E F x : Int) (hS : S.size ≤ 9223372036854775807) (h : x < 0 ∨ (0 ≤ x ∧ (S.size : Int) < x)) (w : World) :
    Calls Try.prog 41 #[.agg #[.string S, .int .i64 A, .int .i64 E, .int .i64 F], .int .i64 x] w fun e w' => e = .returned (.bool false) ∧ Below w.heap.size w w' := by
  rcases h with h | ⟨h0, h⟩
  · go_enter Try.func41, Try.ntmps41
    go_wp2
    go_ret
    exact ⟨rfl, below_box (Below.refl _ _) _⟩
  · have hd : decide (x ≤ (S.size : Int)) = false := decide_eq_false (by omega)
    go_enter Try.func41, Try.ntmps41
    go_wp2
    go_ret
    exact ⟨by simp, below_box (Below.refl _ _) _⟩
theorem isErr_in (x : Int) (h0 : 0 < x) (h1 : x ≤ 31) (w : World) : Calls Try.prog 39 #[.int .i64 x] w fun e w' => e = .returned (.bool true) ∧ w = w' := by
  go_enter Try.func39, Try.ntmps39
  go_wp2
  go_ret
  exact ⟨rfl, rfl⟩
theorem isErr_out (x : Int) (h : x ≤ 0 ∨ (0 < x ∧ 31 < x)) (w : World) : Calls Try.prog 39 #[.int .i64 x] w fun e w' => e = .returned (.bool false) ∧ w = w' := by
  rcases h with h | ⟨h0, h⟩
  · go_enter Try.func39, Try.ntmps39
    go_wp2
    go_ret
    exact ⟨rfl, rfl⟩
  · have hd : decide (x ≤ (31 : Int)) = false := decide_eq_false (by omega)
    go_enter Try.func39, Try.ntmps39
    go_wp2
    go_ret
    exact ⟨by simp, rfl⟩
theorem failed_any (S : ByteArray) (A E F : Int) (w : World) :
    Calls Try.prog 38 #[.agg #[.string S, .int .i64 A, .int .i64 E, .int .i64 F]] w fun e w' => e = .returned (.bool (E != 0)) ∧ Below w.heap.size w w' := by
  go_enter Try.func38, Try.ntmps38
  go_wp2
  go_ret
  exact ⟨rfl, below_box (Below.refl _ _) _⟩

theorem valid_walk (S : ByteArray) (A E F : Int) (p q r : Bool) (b : Bool) (w : World)
    (hA : ∀ u, Calls Try.prog 41 #[.agg #[.string S, .int .i64 A, .int .i64 E, .int .i64 F], .int .i64 A] u fun e w' => e = .returned (.bool p) ∧ Below u.heap.size u w')
    (hF : ∀ u, Calls Try.prog 41 #[.agg #[.string S, .int .i64 A, .int .i64 E, .int .i64 F], .int .i64 F] u fun e w' => e = .returned (.bool q) ∧ Below u.heap.size u w')
    (hE : ∀ u, Calls Try.prog 39 #[.int .i64 E] u fun e w' => e = .returned (.bool r) ∧ u = w')
    (h : (p = false ∧ b = false) ∨ (p = true ∧ E = 0 ∧ F = 0 ∧ b = true) ∨ (p = true ∧ (E == 0) = false ∧ r = false ∧ b = false) ∨ (p = true ∧ (E == 0) = false ∧ r = true ∧ b = q) ∨ (p = true ∧ E = 0 ∧ (F == 0) = false ∧ r = false ∧ b = false)) :
    Calls Try.prog 31 #[.agg #[.string S, .int .i64 A, .int .i64 E, .int .i64 F]] w fun e w' => e = .returned (.bool b) ∧ Below w.heap.size w w' := by
  have b0 := below_box (Below.refl w.heap.size w) (.cells #[.string S, .int .i64 A, .int .i64 E, .int .i64 F] 48)
  rcases h with ⟨rfl, rfl⟩ | ⟨rfl, rfl, rfl, rfl⟩ | ⟨rfl, h1, rfl, rfl⟩ | ⟨rfl, h1, rfl, rfl⟩ | ⟨rfl, rfl, h2, rfl, rfl⟩
  · go_enter Try.func31, Try.ntmps31
    go_wp2_with ((go_at_call 41; (with_reducible refine (hA _).mono ?_); rintro e w1 ⟨rfl, hb1⟩))
    go_ret
    exact ⟨rfl, below_call b0 hb1⟩
  · go_enter Try.func31, Try.ntmps31
    go_wp2_with ((go_at_call 41; (with_reducible refine (hA _).mono ?_); rintro e w1 ⟨rfl, hb1⟩; have k := blk_next (blk_new w 48 (at4 S A 0 0)) hb1; obtain ⟨⟨p0, p1, p2, p3⟩, _⟩ := blk4 k))
    go_ret
    exact ⟨rfl, below_call b0 hb1⟩
  · go_enter Try.func31, Try.ntmps31
    go_wp2_with (first
      | (go_at_call 41; (with_reducible refine (hA _).mono ?_); rintro e w1 ⟨rfl, hb1⟩; have k := blk_next (blk_new w 48 (at4 S A E F)) hb1; obtain ⟨⟨p0, p1, p2, p3⟩, _⟩ := blk4 k)
      | (go_at_call 39; (with_reducible refine (hE _).mono ?_); rintro e w' ⟨rfl, rfl⟩))
    go_ret
    exact ⟨rfl, below_call b0 hb1⟩
  · go_enter Try.func31, Try.ntmps31
    go_wp2_with (first
      | (go_at_call 41; (with_reducible refine (hA _).mono ?_); rintro e w1 ⟨rfl, hb1⟩; have k := blk_next (blk_new w 48 (at4 S A E F)) hb1; obtain ⟨⟨p0, p1, p2, p3⟩, _⟩ := blk4 k)
      | (go_at_call 39; (with_reducible refine (hE _).mono ?_); rintro e w' ⟨rfl, rfl⟩)
      | (go_at_call 41; (with_reducible refine (hF _).mono ?_); rintro e w2 ⟨rfl, hb2⟩))
    go_ret
    exact ⟨rfl, below_call (below_call b0 hb1) hb2⟩
  · go_enter Try.func31, Try.ntmps31
    go_wp2_with (first
      | (go_at_call 41; (with_reducible refine (hA _).mono ?_); rintro e w1 ⟨rfl, hb1⟩; have k := blk_next (blk_new w 48 (at4 S A 0 F)) hb1; obtain ⟨⟨p0, p1, p2, p3⟩, _⟩ := blk4 k)
      | (go_at_call 39; (with_reducible refine (hE _).mono ?_); rintro e w' ⟨rfl, rfl⟩))
    go_ret
    exact ⟨rfl, below_call b0 hb1⟩

theorem valid_any (S : ByteArray) (A E F : Int) (hS : S.size ≤ 9223372036854775807) (w : World) :
    Calls Try.prog 31 #[.agg #[.string S, .int .i64 A, .int .i64 E, .int .i64 F]] w fun e w' => e = .returned (.bool (decide (curOk S A E F))) ∧ Below w.heap.size w w' := by
  by_cases hA : 0 ≤ A ∧ A ≤ (S.size : Int)
  · have cA := fun u => has_in S A E F A hS hA.1 hA.2 u
    by_cases hE : E = 0
    · subst hE
      by_cases hF : F = 0
      · subst hF
        have hd : decide (curOk S A 0 0) = true := decide_eq_true ⟨hA.1, hA.2, by omega, by omega, by omega, by omega, fun _ => rfl⟩
        rw [hd]
        exact valid_walk S A 0 0 true true false true w cA (fun u => has_in S A 0 0 0 hS (by omega) (by omega) u) (fun u => isErr_out 0 (.inl (by omega)) u) (.inr (.inl ⟨rfl, rfl, rfl, rfl⟩))
      · have hd : decide (curOk S A 0 F) = false := decide_eq_false (fun h => hF (h.2.2.2.2.2.2 rfl))
        have h2 : (F == 0) = false := by simp [hF]
        rw [hd]
        by_cases hq : 0 ≤ F ∧ F ≤ (S.size : Int)
        · exact valid_walk S A 0 F true true false false w cA (fun u => has_in S A 0 F F hS hq.1 hq.2 u) (fun u => isErr_out 0 (.inl (by omega)) u) (.inr (.inr (.inr (.inr ⟨rfl, rfl, h2, rfl, rfl⟩))))
        · exact valid_walk S A 0 F true false false false w cA (fun u => has_out S A 0 F F hS (by omega) u) (fun u => isErr_out 0 (.inl (by omega)) u) (.inr (.inr (.inr (.inr ⟨rfl, rfl, h2, rfl, rfl⟩))))
    · have h1 : (E == 0) = false := by simp [hE]
      by_cases hr : 0 < E ∧ E ≤ 31
      · have cE := fun u => isErr_in E hr.1 hr.2 u
        by_cases hq : 0 ≤ F ∧ F ≤ (S.size : Int)
        · have hd : decide (curOk S A E F) = true := decide_eq_true ⟨hA.1, hA.2, by omega, by omega, hq.1, hq.2, fun h => absurd h hE⟩
          rw [hd]
          exact valid_walk S A E F true true true true w cA (fun u => has_in S A E F F hS hq.1 hq.2 u) cE (.inr (.inr (.inr (.inl ⟨rfl, h1, rfl, rfl⟩))))
        · have hd : decide (curOk S A E F) = false := decide_eq_false (fun h => hq ⟨h.2.2.2.2.1, h.2.2.2.2.2.1⟩)
          rw [hd]
          exact valid_walk S A E F true false true false w cA (fun u => has_out S A E F F hS (by omega) u) cE (.inr (.inr (.inr (.inl ⟨rfl, h1, rfl, rfl⟩))))
      · have hd : decide (curOk S A E F) = false := decide_eq_false (fun h => hr ⟨by have := h.2.2.1; omega, h.2.2.2.1⟩)
        have cE := fun u => isErr_out E (by omega) u
        rw [hd]
        by_cases hq : 0 ≤ F ∧ F ≤ (S.size : Int)
        · exact valid_walk S A E F true true false false w cA (fun u => has_in S A E F F hS hq.1 hq.2 u) cE (.inr (.inr (.inl ⟨rfl, h1, rfl, rfl⟩)))
        · exact valid_walk S A E F true false false false w cA (fun u => has_out S A E F F hS (by omega) u) cE (.inr (.inr (.inl ⟨rfl, h1, rfl, rfl⟩)))
  · have hd : decide (curOk S A E F) = false := decide_eq_false (fun h => hA ⟨h.1, h.2.1⟩)
    have cA := fun u => has_out S A E F A hS (by omega) u
    rw [hd]
    have e0 : ∃ r, ∀ u, Calls Try.prog 39 #[.int .i64 E] u fun e w' => e = .returned (.bool r) ∧ u = w' := by
      by_cases hr : 0 < E ∧ E ≤ 31
      · exact ⟨true, fun u => isErr_in E hr.1 hr.2 u⟩
      · exact ⟨false, fun u => isErr_out E (by omega) u⟩
    obtain ⟨r, cE⟩ := e0
    by_cases hq : 0 ≤ F ∧ F ≤ (S.size : Int)
    · exact valid_walk S A E F false true r false w cA (fun u => has_in S A E F F hS hq.1 hq.2 u) cE (.inl ⟨rfl, rfl⟩)
    · exact valid_walk S A E F false false r false w cA (fun u => has_out S A E F F hS (by omega) u) cE (.inl ⟨rfl, rfl⟩)

theorem ownLeftK (S : ByteArray) (A E F : Int) (h : E = 0 → 0 ≤ A ∧ A ≤ (S.size : Int)) (hS : S.size ≤ 9223372036854775807) (w : World) :
    Calls Try.prog 33 #[.agg #[.string S, .int .i64 A, .int .i64 E, .int .i64 F]] w fun e w' => e = .returned (.int .i64 (ylX S A E)) ∧ Below w.heap.size w w' := by
  have hC := fun u => failed_any S A E F u
  have b0 := below_box (Below.refl w.heap.size w) (.cells #[.string S, .int .i64 A, .int .i64 E, .int .i64 F] 48)
  unfold ylX
  by_cases he : E = 0
  · obtain ⟨h0, h1⟩ := h he
    subst he
    rw [if_pos rfl]
    go_enter Try.func33, Try.ntmps33
    go_wp2_with ((go_at_call 38; (with_reducible refine (hC _).mono ?_); rintro e w1 ⟨rfl, hb1⟩; have k := blk_next (blk_new w 48 (at4 S A 0 F)) hb1; obtain ⟨⟨p0, p1, p2, p3⟩, _⟩ := blk4 k))
    go_ret
    exact ⟨rfl, below_call b0 hb1⟩
  · have t : (E != 0) = true := by simp [he]
    rw [if_neg he]
    rw [t] at hC
    clear h he t
    go_enter Try.func33, Try.ntmps33
    go_wp2_with ((go_at_call 38; (with_reducible refine (hC _).mono ?_); rintro e w1 ⟨rfl, hb1⟩))
    go_ret
    exact ⟨rfl, below_call b0 hb1⟩
end Go.Proofs.Ytipigfngeiodlaa
