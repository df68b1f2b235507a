/-
  For every number n of Go's int, IntsPowers(n) returns true and changes no argument: a number from 1 on is at least 2 to the power High and below 2 to the power Bits, and Up is High or one more. No condition.
-/
import Derived.Test.YtjflkjkkamapdaaRows
import Derived.Test.YtjflkjkkamapdaaKnown
import Derived.WalkKit
import Derived.ProofKit
import Derived.OpenShut
import Derived.ShutString
import Derived.ChangeOld
import Derived.Below
namespace Go.Proofs.Ytjflkjkkamapdaa.intsPowers
open Go.ChangeShapes Go.WideShapes Go.ChangeAt Go.RowKit
open Go.ChangeMaps (open_string shut_string)
set_option linter.unusedVariables false

theorem own : ownKnob Try.prog.godebug = none := by kernel_rfl

theorem i64_range {a : Int} (h : (Lit.int .i64 a).wf = true) : -9223372036854775808 ≤ a ∧ a ≤ 9223372036854775807 := by
  simpa [Lit.wf, IntKind.min, IntKind.max, IntKind.signed, IntKind.bits] using h

theorem low_side (n : Int) (w : World) (h0 : -9223372036854775808 ≤ n) (h1 : n < 1) :
    Calls Try.prog 7 #[.int .i64 n] w fun e w' => e = .returned (.bool true) ∧ Below w.heap.size w w' := by
  have hH := fun u => high_any n h0 (by omega) u
  have hB := fun u => bits_any n h0 (by omega) u
  have hU := fun u => up_any n h0 (by omega) u
  rw [nb_low h1] at hH hB
  rw [up_two (by omega)] at hU
  go_enter Try.func7, Try.ntmps7
  go_wp2_with (first
    | (go_at_call 6; (with_reducible refine (known_any _).mono ?_); rintro e w1 ⟨rfl, hb⟩)
    | (go_at_call 12; (with_reducible refine (hH _).mono ?_); rintro e w' ⟨rfl, rfl⟩)
    | (go_at_call 14; (with_reducible refine (hB _).mono ?_); rintro e w' ⟨rfl, rfl⟩)
    | (go_at_call 16; (with_reducible refine (hU _).mono ?_); rintro e w' ⟨rfl, rfl⟩))
  go_ret
  exact ⟨rfl, hb⟩

theorem high_side (n p : Int) (h : Nat) (u' : Int) (w : World) (h62 : h ≤ 62) (h1 : 1 ≤ n) (h2 : n ≤ 9223372036854775807) (hp : (2 : Int) ^ h = p) (hn : nb n = h + 1) (p0 : 1 ≤ p) (p1 : p ≤ 4611686018427387904) (p2 : p ≤ n) (p3 : n < 2 * p)
    (hu : (up n : Int) = u') (hg : p < n ∧ u' = h + 1 ∨ n ≤ p ∧ u' = h) :
    Calls Try.prog 7 #[.int .i64 n] w fun e w' => e = .returned (.bool true) ∧ Below w.heap.size w w' := by
  have hH := fun u => high_any n (by omega) (by omega) u
  have hB := fun u => bits_any n (by omega) (by omega) u
  have hU := fun u => up_any n (by omega) (by omega) u
  rw [hn] at hH hB
  rw [hu] at hU
  have e1 : ((h + 1 : Nat) : Int) - 1 = (h : Int) := by omega
  have e2 : ((h + 1 : Nat) : Int) = (h : Int) + 1 := by omega
  rw [e1] at hH
  rw [e2] at hB
  clear e1 e2 hu hn
  rcases hg with ⟨hg, rfl⟩ | ⟨hg, rfl⟩
  all_goals
    go_enter Try.func7, Try.ntmps7
    go_wp2_with (first
      | (go_at_call 6; (with_reducible refine (known_any _).mono ?_); rintro e w1 ⟨rfl, hb⟩)
      | (go_at_call 12; (with_reducible refine (hH _).mono ?_); rintro e w' ⟨rfl, rfl⟩)
      | (go_at_call 14; (with_reducible refine (hB _).mono ?_); rintro e w' ⟨rfl, rfl⟩)
      | (go_at_call 16; (with_reducible refine (hU _).mono ?_); rintro e w' ⟨rfl, rfl⟩))
    go_ret
    exact ⟨rfl, hb⟩

theorem walk (a0 : Int) (w0 : (Lit.int .i64 a0).wf = true) (w : World) :
    Calls Try.prog 7 #[.int .i64 a0] w fun e w' => e = .returned (.bool true) ∧ Below w.heap.size w w' := by
  obtain ⟨h0, h1⟩ := i64_range w0
  by_cases hl : a0 < 1
  · exact low_side a0 w h0 hl
  · have hb := nb_le h1
    obtain ⟨h, hh⟩ : ∃ h, nb a0 = h + 1 := by
      have := (nb_iff (n := a0) (by omega) 0).2 (by omega)
      exact ⟨nb a0 - 1, by omega⟩
    have q1 := (nb_iff (n := a0) (by omega) h).1 (by omega)
    have q2 : ¬ (2 : Int) ^ (h + 1) ≤ a0 := fun hc => by have := (nb_iff (n := a0) (by omega) (h + 1)).2 hc; omega
    have q3 : (2 : Int) ^ (h + 1) = 2 * 2 ^ h := by rw [Int.pow_succ, Int.mul_comm]
    have q4 := pow_pos' h
    have q5 : (2 : Int) ^ h ≤ 4611686018427387904 := by
      rw [← pow_cast]
      have : 2 ^ h ≤ 2 ^ 62 := Nat.pow_le_pow_right (by omega) (by omega)
      have e : (2 : Nat) ^ 62 = 4611686018427387904 := by decide
      omega
    refine high_side a0 (2 ^ h) h (up a0) w (by omega) (by omega) h1 rfl hh (by omega) q5 q1 (by omega) rfl ?_
    by_cases hg : (2 : Int) ^ h < a0
    · left
      refine ⟨hg, ?_⟩
      rw [up_more (by omega)]
      have r1 := (nb_iff (n := a0 - 1) (by omega) h).2 (by omega)
      have r2 : ¬ (h + 1) + 1 ≤ nb (a0 - 1) := fun hc => by have := (nb_iff (n := a0 - 1) (by omega) (h + 1)).1 hc; omega
      omega
    · right
      refine ⟨by omega, ?_⟩
      by_cases h0' : a0 = 1
      · rw [up_two (by omega)]
        rcases h with _ | h
        · rfl
        · exfalso
          rw [Int.pow_succ] at q1
          have := pow_pos' h
          omega
      · rw [up_more (by omega)]
        obtain ⟨j, rfl⟩ : ∃ j, h = j + 1 := by
          rcases h with _ | j
          · exfalso
            simp at q3 hg
            omega
          · exact ⟨j, rfl⟩
        have q6 : (2 : Int) ^ (j + 1) = 2 * 2 ^ j := by rw [Int.pow_succ, Int.mul_comm]
        have q7 := pow_pos' j
        have r1 := (nb_iff (n := a0 - 1) (by omega) j).2 (by omega)
        have r2 : ¬ (j + 1) + 1 ≤ nb (a0 - 1) := fun hc => by have := (nb_iff (n := a0 - 1) (by omega) (j + 1)).1 hc; omega
        omega

set_option maxRecDepth 100000 in
theorem lifted (os : Os) (started : os.Started) (H : Type) (enc : TypeId × Value → H) :
    ReturnsInHanded {} Try.checked os 7 .any (Rows.intsPowersSpec.pre6 enc Try.prog Try.f7 Rows.intsPowersRow.domain false) (Rows.intsPowersSpec.post enc Try.prog Try.f7 false true false false) := by
  refine returnsInHanded_of_change (C := Try.checked) own started (by kernel_rfl) Try.func7
    (ChangeSpec.witness6 (enc := enc) (C := Try.checked) false ⟨#[], #[.int .i64 0], []⟩ 8 (by kernel_rfl) (by kernel_rfl) (by kernel_rfl) (by kernel_rfl)) ?_
  intro W base args ds gs before hval0 hW hcnd _
  have hval : ∀ (j : Nat) t v, Try.f7.params[j]? = some t → args[j]? = some v → Value.okWide Try.prog W .any base t v := hval0
  have hW' := hW
  obtain ⟨p, q, hA0, hV, rfl, hfz, hnd⟩ := hW
  have hA : DataW.TrodAll enc Try.prog W 0 (fun _ => true) true Try.f7.params.toList args.toList ds p := hA0
  rw [Try.params7] at hA hval
  obtain ⟨v0, vs0, d0, ds0, p0, q0, hargs, rfl, rfl, h0, r0⟩ := trodAll_cons hA
  obtain ⟨rfl, rfl, rfl⟩ := trodAll_nil r0
  obtain rfl : args = #[v0] := by cases args; simp_all
  obtain ⟨rfl, rfl⟩ := trodVars_none hV
  obtain ⟨a0, rfl, rfl, rfl, w0⟩ := open_int Try.underlying3 (hval 0 3 v0 rfl rfl) h0
  clear hA0 hval0
  simp only [List.append_nil] at hW'
  refine (walk a0 w0 W).mono fun e W' ⟨he, hg⟩ => ?_
  subst he
  exact ⟨_, rfl, _, _, _, [], _, [], hW', (trodAll_cons_mk (shut_bool Try.underlying4 _) trodAll_mk0), (trodAll_cons_mk (shut_int Try.underlying3 w0) trodAll_mk0), rfl, hg.frame _, fun h => by cases h⟩

theorem over : Rows.intsPowersRow.holds Try.pinned (OpenSpec.ofChange Rows.intsPowersSpec) :=
  OpenClaim.holds_of_wide 7 Try.f7 rfl rfl rfl rfl rfl rfl rfl ⟨rfl, rfl, rfl, rfl, rfl⟩ rfl rfl rfl rfl rfl (by kernel_rfl) Try.func7 (by kernel_rfl)
    (of_decide_eq_true (by kernel_rfl)) (by unfold Func.isWrapper; first | (rw [if_pos (by decide +kernel)]; kernel_rfl) | (rw [if_neg (by decide +kernel)]; exact ⟨rfl, rfl⟩))
    (fun os started H enc _ => lifted os started H enc)

theorem proved : Rows.IntsPowersSaid :=
  over
end Go.Proofs.Ytjflkjkkamapdaa.intsPowers
