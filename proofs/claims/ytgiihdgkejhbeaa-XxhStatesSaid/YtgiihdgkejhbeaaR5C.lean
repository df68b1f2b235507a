/-
  The reference's states: Check, New, Sum.
-/
import Derived.Test.YtgiihdgkejhbeaaSums
namespace Go.Proofs.Ytgiihdgkejhbeaa
open Go.ChangeShapes Go.WideShapes Go.ChangeAt Go.RowKit
set_option linter.unusedVariables false

theorem rcheck_neg (a b c d T : Int) (s : ByteArray) (e : Int) (h : T < 0 ∨ (0 ≤ T ∧ 1099511627776 < T)) (w : World) :
    Calls Try.prog 21 #[.agg #[.int .u64 a, .int .u64 b, .int .u64 c, .int .u64 d, .int .i64 T, .string s, .int .u64 e]] w fun r w' => r = .returned (.int .i64 10) ∧ Below w.heap.size w w' := by
  rcases h with h | ⟨h0, h⟩
  · have d0 : decide (T < 0) = true := decide_eq_true h
    go_enter Try.func21, Try.ntmps21
    go_wp2_with fail
    go_quiet (fail)
    go_wp2_with fail
    go_ret
    exact ⟨rfl, below_drewN (below_box (Below.refl _ _) _) _⟩
  · have d0 : decide (T < 0) = false := decide_eq_false (by omega)
    have d1 : decide (1099511627776 < T) = true := decide_eq_true h
    go_enter Try.func21, Try.ntmps21
    go_wp2_with fail
    go_quiet (fail)
    go_wp2_with fail
    go_ret
    exact ⟨rfl, below_drewN (below_box (Below.refl _ _) _) _⟩
theorem rcheck_tail (a b c d T : Int) (s : ByteArray) (e : Int) (h0 : 0 ≤ T) (h1 : T ≤ 1099511627776) (h : ((s.size : Int) != T % 32) = true) (w : World) :
    Calls Try.prog 21 #[.agg #[.int .u64 a, .int .u64 b, .int .u64 c, .int .u64 d, .int .i64 T, .string s, .int .u64 e]] w fun r w' => r = .returned (.int .i64 10) ∧ Below w.heap.size w w' := by
  have ht : T.tmod 32 = T % 32 := Int.tmod_eq_emod_of_nonneg h0
  have d0 : decide (T < 0) = false := decide_eq_false (by omega)
  have d1 : decide (1099511627776 < T) = false := decide_eq_false (by omega)
  go_enter Try.func21, Try.ntmps21
  go_wp2_with fail
  go_quiet (fail)
  go_wp2_with fail
  go_ret
  exact ⟨rfl, below_drewN (below_box (Below.refl _ _) _) _⟩
theorem rcheck_full (a b c d T : Int) (s : ByteArray) (e : Int) (h0 : 0 ≤ T) (h1 : T ≤ 1099511627776) (h : (s.size : Int) = T % 32) (h32 : 32 ≤ T) (w : World) :
    Calls Try.prog 21 #[.agg #[.int .u64 a, .int .u64 b, .int .u64 c, .int .u64 d, .int .i64 T, .string s, .int .u64 e]] w fun r w' => r = .returned (.int .i64 0) ∧ Below w.heap.size w w' := by
  have ht : T.tmod 32 = (s.size : Int) := by rw [h]; exact Int.tmod_eq_emod_of_nonneg h0
  have d0 : decide (T < 0) = false := decide_eq_false (by omega)
  have d1 : decide (1099511627776 < T) = false := decide_eq_false (by omega)
  have d2 : decide (T < 32) = false := decide_eq_false (by omega)
  clear h
  go_enter Try.func21, Try.ntmps21
  go_wp2_with fail
  go_quiet (fail)
  go_wp2_with fail
  go_ret
  exact ⟨rfl, below_drewN (below_box (Below.refl _ _) _) _⟩
set_option maxHeartbeats 1000000 in
theorem rcheck_first (a b c d T : Int) (s : ByteArray) (e : Int) (h0 : 0 ≤ T) (h1 : T ≤ 1099511627776) (h : (s.size : Int) = T % 32) (h32 : ¬ 32 ≤ T) (f0 f1 f2 f3 k : Int) (w : World)
    (hk : ((a == f0 && (b == f1 && (c == f2 && d == f3))) = true ∧ k = 0) ∨ ((a == f0 && (b == f1 && (c == f2 && d == f3))) = false ∧ k = 10))
    (hE : ∀ u, Calls Try.prog 28 #[.int .u64 e] u fun r w' => r = .returned (.agg #[.int .u64 f0, .int .u64 f1, .int .u64 f2, .int .u64 f3]) ∧ Below u.heap.size u w') :
    Calls Try.prog 21 #[.agg #[.int .u64 a, .int .u64 b, .int .u64 c, .int .u64 d, .int .i64 T, .string s, .int .u64 e]] w fun r w' => r = .returned (.int .i64 k) ∧ Below w.heap.size w w' := by
  have ht : T.tmod 32 = (s.size : Int) := by rw [h]; exact Int.tmod_eq_emod_of_nonneg h0
  have d0 : decide (T < 0) = false := decide_eq_false (by omega)
  have d1 : decide (1099511627776 < T) = false := decide_eq_false (by omega)
  have d2 : decide (T < 32) = true := decide_eq_true (by omega)
  have hq0 := fun u => eq_arr10000 a b c d f0 f1 f2 f3 u
  clear h
  rcases hk with ⟨hk, rfl⟩ | ⟨hk, rfl⟩
  all_goals
    rw [hk] at hq0
    clear hk
    go_enter Try.func21, Try.ntmps21
    go_wp2_with fail
    have K := Lib.hid (blk_drew (blk_new w 32 #[.int .u64 a, .int .u64 b, .int .u64 c, .int .u64 d, .int .i64 T, .string s, .int .u64 e]))
    go_region_held3 (fun w' => w'.cell? ⟨w.heap.size, 0, none⟩ = some (.int .u64 a) ∧ w'.cell? ⟨w.heap.size, 1, none⟩ = some (.int .u64 b) ∧ w'.cell? ⟨w.heap.size, 2, none⟩ = some (.int .u64 c) ∧ w'.cell? ⟨w.heap.size, 3, none⟩ = some (.int .u64 d) ∧ w'.cell? ⟨w.heap.size, 4, none⟩ = some (.int .i64 T) ∧ w'.cell? ⟨w.heap.size, 5, none⟩ = some (.string s) ∧ w'.cell? ⟨w.heap.size, 6, none⟩ = some (.int .u64 e))
      (first | (with_reducible exact c7 K.out) | (with_reducible exact c7 k1))
      (first | (go_at_call 28; (with_reducible refine (hE _).mono ?_); rintro r w1 ⟨rfl, hb1⟩; have k1 := blk_next K.out hb1))
    all_goals
      go_wp2_with fail
      go_ret
      exact ⟨rfl, below_call (below_box (Below.refl _ _) _).drew hb1⟩
theorem rcheck_any (a b c d T : Int) (s : ByteArray) (e : Int) (w : World) :
    Calls Try.prog 21 #[.agg #[.int .u64 a, .int .u64 b, .int .u64 c, .int .u64 d, .int .i64 T, .string s, .int .u64 e]] w fun r w' => r = .returned (.int .i64 (if vldOk a b c d T s e then 0 else 10)) ∧ Below w.heap.size w w' := by
  by_cases h0 : 0 ≤ T
  · by_cases h1 : T ≤ 1099511627776
    · by_cases h2 : (s.size : Int) = T % 32
      · by_cases h3 : 32 ≤ T
        · rw [if_pos (show vldOk a b c d T s e from ⟨h0, h1, h2, .inl h3⟩)]
          exact rcheck_full a b c d T s e h0 h1 h2 h3 w
        · refine rcheck_first a b c d T s e h0 h1 h2 h3 (fst e).a (fst e).b (fst e).c (fst e).d _ w ?_ (fun u => rlanes_any e u)
          by_cases hf : isFst a b c d e
          · rw [if_pos (show vldOk a b c d T s e from ⟨h0, h1, h2, .inr hf⟩)]
            refine .inl ⟨?_, rfl⟩
            simp only [Bool.and_eq_true, beq_iff_eq]
            exact hf
          · rw [if_neg (show ¬ vldOk a b c d T s e from fun hh => hf (hh.2.2.2.resolve_left h3))]
            refine .inr ⟨?_, rfl⟩
            rw [Bool.eq_false_iff]
            intro hh
            simp only [Bool.and_eq_true, beq_iff_eq] at hh
            exact hf hh
      · rw [if_neg (show ¬ vldOk a b c d T s e from fun hh => h2 hh.2.2.1)]
        exact rcheck_tail a b c d T s e h0 h1 (by simp [h2]) w
    · rw [if_neg (show ¬ vldOk a b c d T s e from fun hh => h1 hh.2.1)]
      exact rcheck_neg a b c d T s e (.inr ⟨h0, by omega⟩) w
  · rw [if_neg (show ¬ vldOk a b c d T s e from fun hh => h0 hh.1)]
    exact rcheck_neg a b c d T s e (.inl (by omega)) w
end Go.Proofs.Ytgiihdgkejhbeaa
