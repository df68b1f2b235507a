/-
  For every number n, string s, offset and size of their Go types, IntsFields(n, s, at, size) returns true and changes no argument: Little and Read of layer 1 answer as the reference does, errors and faults too. No condition.
-/
import Derived.Test.YtjflkjkkamapdaaRows
import Derived.Test.YtjflkjkkamapdaaAwake
import Derived.WalkKit
import Derived.ProofKit
import Derived.OpenShut
import Derived.ShutString
import Derived.ChangeOld
import Derived.Below
namespace Go.Proofs.Ytjflkjkkamapdaa.intsFields
open Go.ChangeShapes Go.WideShapes Go.ChangeAt Go.RowKit
open Go.ChangeMaps (open_string shut_string)
set_option linter.unusedVariables false

theorem own : ownKnob Try.prog.godebug = none := by kernel_rfl

theorem i64_range {a : Int} (h : (Lit.int .i64 a).wf = true) : -9223372036854775808 ≤ a ∧ a ≤ 9223372036854775807 := by
  simpa [Lit.wf, IntKind.min, IntKind.max, IntKind.signed, IntKind.bits] using h
theorem u64_range {a : Int} (h : (Lit.int .u64 a).wf = true) : 0 ≤ a ∧ a ≤ 18446744073709551615 := by
  simpa [Lit.wf, IntKind.min, IntKind.max, IntKind.signed, IntKind.bits] using h

theorem long_side (n a z : Int) (s : ByteArray) (w : World) (hs : s.size ≤ 9223372036854775807) (h : 60 < s.size) :
    Calls Try.prog 4 #[.int .u64 n, .string s, .int .i64 a, .int .i64 z] w fun e w' => e = .returned (.bool true) ∧ Below w.heap.size w w' := by
  go_enter Try.func4, Try.ntmps4
  go_wp2_with (go_at_call 18; (with_reducible refine (awake_any _).mono ?_); rintro e w1 ⟨rfl, hb⟩)
  go_ret
  exact ⟨rfl, hb⟩

theorem inner (n a z : Int) (s r : ByteArray) (t m x c d : Int) (w : World) (hs : s.size ≤ 60)
    (hL : ∀ u, Calls Try.prog 19 #[.int .u64 n, .int .i64 z] u fun e w' => e = .returned (.tuple #[.string r, .int .i64 t]) ∧ Below u.heap.size u w')
    (hM : ∀ u, Calls Try.prog 20 #[.int .u64 n, .int .i64 z] u fun e w' => e = .returned (.tuple #[.string r, .int .i64 t]) ∧ Below u.heap.size u w')
    (hR : ∀ u, Calls Try.prog 21 #[.string s, .int .i64 a, .int .i64 z] u fun e w' => e = .returned (.tuple #[.int .u64 m, .int .i64 x, .agg #[.int .i64 c, .int .i64 d]]) ∧ Below u.heap.size u w')
    (hQ : ∀ u, Calls Try.prog 22 #[.string s, .int .i64 a, .int .i64 z] u fun e w' => e = .returned (.tuple #[.int .u64 m, .int .i64 x, .agg #[.int .i64 c, .int .i64 d]]) ∧ Below u.heap.size u w') :
    Calls Try.prog 4 #[.int .u64 n, .string s, .int .i64 a, .int .i64 z] w fun e w' => e = .returned (.bool true) ∧ Below w.heap.size w w' := by
  go_enter Try.func4, Try.ntmps4
  go_wp2_with (first
    | (go_at_call 19; (with_reducible refine (hL _).mono ?_); rintro e w1 ⟨rfl, hb1⟩)
    | (go_at_call 20; (with_reducible refine (hM _).mono ?_); rintro e w2 ⟨rfl, hb2⟩)
    | (go_at_call 21; (with_reducible refine (hR _).mono ?_); rintro e w3 ⟨rfl, hb3⟩)
    | (go_at_call 22; (with_reducible refine (hQ _).mono ?_); rintro e w4 ⟨rfl, hb4⟩; have hz4 : w3.heap.size < w4.heap.size := (by have := hb4.size; simp at this; omega); have k0 : w4.cell? ⟨w3.heap.size, 0, none⟩ = some (.int .i64 c) := (by rw [hb4.cell (by simp)]; simp [go_sem]); have k1 : w4.cell? ⟨w3.heap.size, 1, none⟩ = some (.int .i64 d) := (by rw [hb4.cell (by simp)]; simp [go_sem]))
    | (go_at_call 18; (with_reducible refine (awake_any _).mono ?_); rintro e w5 ⟨rfl, hb5⟩))
  go_ret
  refine ⟨rfl, ?_⟩
  have h1 := hb1.size
  have h2 := hb2.size
  have h3 := hb3.size
  have h4 := hb4.size
  have h5 := hb5.size
  simp at h4 h5
  have g3 := (hb1.trans (hb2.mono (by omega))).trans (hb3.mono (by omega))
  have g4 := (g3.alloc (by omega) _).trans (hb4.mono (by simp; omega))
  exact (g4.alloc (by omega) _).trans (hb5.mono (by simp; omega))

theorem quiet {k : Nat} {args : Array Value} {v : Value} (h : ∀ u, Calls Try.prog k args u fun e w' => e = .returned v ∧ u = w') (u : World) : Calls Try.prog k args u fun e w' => e = .returned v ∧ Below u.heap.size u w' :=
  (h u).mono fun e w' ⟨he, hw⟩ => ⟨he, hw ▸ Below.refl _ _⟩

theorem walk (a0 : Int) (a1 : ByteArray) (a2 : Int) (a3 : Int) (w0 : (Lit.int .u64 a0).wf = true) (w1 : a1.size ≤ maxLen) (w2 : (Lit.int .i64 a2).wf = true) (w3 : (Lit.int .i64 a3).wf = true) (w : World) :
    Calls Try.prog 4 #[.int .u64 a0, .string a1, .int .i64 a2, .int .i64 a3] w fun e w' => e = .returned (.bool true) ∧ Below w.heap.size w w' := by
  obtain ⟨h0, h1⟩ := u64_range w0
  by_cases hl : 60 < a1.size
  · exact long_side a0 a2 a3 a1 w (by unfold maxLen at w1; omega) hl
  · obtain ⟨n, rfl⟩ := Int.eq_ofNat_of_zero_le h0
    obtain ⟨r, t, hL, hM⟩ : ∃ (r : ByteArray) (t : Int), (∀ u, Calls Try.prog 19 #[.int .u64 (n : Int), .int .i64 a3] u fun e w' => e = .returned (.tuple #[.string r, .int .i64 t]) ∧ Below u.heap.size u w') ∧
        (∀ u, Calls Try.prog 20 #[.int .u64 (n : Int), .int .i64 a3] u fun e w' => e = .returned (.tuple #[.string r, .int .i64 t]) ∧ Below u.heap.size u w') := by
      by_cases hz : a3 < 1 ∨ 8 < a3
      · exact ⟨_, _, quiet (little_bad n a3 hz), quiet (refLittle_bad n a3 hz)⟩
      · obtain ⟨z, rfl⟩ := Int.eq_ofNat_of_zero_le (show 0 ≤ a3 by omega)
        by_cases hb : n < 2 ^ (8 * z)
        · exact ⟨_, _, little_ok n z (by omega) (by omega) (by omega) hb, refLittle_ok n z (by omega) (by omega) (by omega) hb⟩
        · exact ⟨_, _, quiet (little_big n z (by omega) (by omega) (by omega) (by omega)), refLittle_big n z (by omega) (by omega) (by omega) (by omega)⟩
    by_cases hz : a3 < 1 ∨ 8 < a3 ∨ a2 < 0 ∨ a1.size < a2
    · exact inner n a2 a3 a1 r t _ _ _ _ w (by omega) hL hM (read_bad a1 a2 a3 w1 hz) (refRead_bad a1 a2 a3 w1 hz)
    · by_cases hy : a1.size - a2 < a3
      · exact inner n a2 a3 a1 r t _ _ _ _ w (by omega) hL hM (read_short a1 a2 a3 w1 (by omega)) (refRead_short a1 a2 a3 w1 (by omega))
      · obtain ⟨a, rfl⟩ := Int.eq_ofNat_of_zero_le (show 0 ≤ a2 by omega)
        obtain ⟨z, rfl⟩ := Int.eq_ofNat_of_zero_le (show 0 ≤ a3 by omega)
        exact inner n a z a1 r t _ _ _ _ w (by omega) hL hM (read_ok a1 a z w1 (by omega) (by omega) (by omega)) (refRead_ok a1 a z w1 (by omega) (by omega) (by omega))

set_option maxRecDepth 100000 in
theorem lifted (os : Os) (started : os.Started) (H : Type) (enc : TypeId × Value → H) :
    ReturnsInHanded {} Try.checked os 4 .any (Rows.intsFieldsSpec.pre6 enc Try.prog Try.f4 Rows.intsFieldsRow.domain false) (Rows.intsFieldsSpec.post enc Try.prog Try.f4 false true false false) := by
  refine returnsInHanded_of_change (C := Try.checked) own started (by kernel_rfl) Try.func4
    (ChangeSpec.witness6 (enc := enc) (C := Try.checked) false ⟨#[], #[.int .u64 0, .string ByteArray.empty, .int .i64 0, .int .i64 0], []⟩ 8 (by kernel_rfl) (by kernel_rfl) (by kernel_rfl) (by kernel_rfl)) ?_
  intro W base args ds gs before hval0 hW hcnd _
  have hval : ∀ (j : Nat) t v, Try.f4.params[j]? = some t → args[j]? = some v → Value.okWide Try.prog W .any base t v := hval0
  have hW' := hW
  obtain ⟨p, q, hA0, hV, rfl, hfz, hnd⟩ := hW
  have hA : DataW.TrodAll enc Try.prog W 0 (fun _ => true) true Try.f4.params.toList args.toList ds p := hA0
  rw [Try.params4] at hA hval
  obtain ⟨v0, vs0, d0, ds0, p0, q0, hargs, rfl, rfl, h0, r0⟩ := trodAll_cons hA
  obtain ⟨v1, vs1, d1, ds1, p1, q1, rfl, rfl, rfl, h1, r1⟩ := trodAll_cons r0
  obtain ⟨v2, vs2, d2, ds2, p2, q2, rfl, rfl, rfl, h2, r2⟩ := trodAll_cons r1
  obtain ⟨v3, vs3, d3, ds3, p3, q3, rfl, rfl, rfl, h3, r3⟩ := trodAll_cons r2
  obtain ⟨rfl, rfl, rfl⟩ := trodAll_nil r3
  obtain rfl : args = #[v0, v1, v2, v3] := by cases args; simp_all
  obtain ⟨rfl, rfl⟩ := trodVars_none hV
  obtain ⟨a0, rfl, rfl, rfl, w0⟩ := open_int Try.underlying22 (hval 0 22 v0 rfl rfl) h0
  obtain ⟨a1, rfl, rfl, rfl, w1⟩ := open_string Try.underlying9 (hval 1 9 v1 rfl rfl) h1
  obtain ⟨a2, rfl, rfl, rfl, w2⟩ := open_int Try.underlying3 (hval 2 3 v2 rfl rfl) h2
  obtain ⟨a3, rfl, rfl, rfl, w3⟩ := open_int Try.underlying3 (hval 3 3 v3 rfl rfl) h3
  clear hA0 hval0
  simp only [List.append_nil] at hW'
  refine (walk a0 a1 a2 a3 w0 w1 w2 w3 W).mono fun e W' ⟨he, hg⟩ => ?_
  subst he
  exact ⟨_, rfl, _, _, _, [], _, [], hW', (trodAll_cons_mk (shut_bool Try.underlying4 _) trodAll_mk0), (trodAll_cons_mk (shut_int Try.underlying22 w0) (trodAll_cons_mk (shut_string Try.underlying9 w1) (trodAll_cons_mk (shut_int Try.underlying3 w2) (trodAll_cons_mk (shut_int Try.underlying3 w3) trodAll_mk0)))), rfl, hg.frame _, fun h => by cases h⟩

theorem over : Rows.intsFieldsRow.holds Try.pinned (OpenSpec.ofChange Rows.intsFieldsSpec) :=
  OpenClaim.holds_of_wide 4 Try.f4 rfl rfl rfl rfl rfl rfl rfl ⟨rfl, rfl, rfl, rfl, rfl⟩ rfl rfl rfl rfl rfl (by kernel_rfl) Try.func4 (by kernel_rfl)
    (of_decide_eq_true (by kernel_rfl)) (by unfold Func.isWrapper; first | (rw [if_pos (by decide +kernel)]; kernel_rfl) | (rw [if_neg (by decide +kernel)]; exact ⟨rfl, rfl⟩))
    (fun os started H enc _ => lifted os started H enc)

theorem proved : Rows.IntsFieldsSaid :=
  over
end Go.Proofs.Ytjflkjkkamapdaa.intsFields
