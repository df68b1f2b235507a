/-
  The project's states: which are valid.
-/
import Derived.Test.YtgiihdgkejhbeaaO5Q
import Derived.Test.YtgiihdgkejhbeaaGrow
namespace Go.Proofs.Ytgiihdgkejhbeaa
open Go.ChangeShapes Go.WideShapes Go.ChangeAt Go.RowKit
set_option linter.unusedVariables false

def isFst (a b c d e : Int) : Prop := a = (fst e).a ∧ b = (fst e).b ∧ c = (fst e).c ∧ d = (fst e).d
instance (a b c d e : Int) : Decidable (isFst a b c d e) := by unfold isFst; infer_instance
def vldOk (a b c d T : Int) (s : ByteArray) (e : Int) : Prop := 0 ≤ T ∧ T ≤ 1099511627776 ∧ (s.size : Int) = T % 32 ∧ (32 ≤ T ∨ isFst a b c d e)
instance (a b c d T : Int) (s : ByteArray) (e : Int) : Decidable (vldOk a b c d T s e) := by unfold vldOk; infer_instance

theorem valid_neg (a b c d T : Int) (s : ByteArray) (e : Int) (h : T < 0 ∨ (0 ≤ T ∧ 1099511627776 < T)) (w : World) :
    Calls Try.prog 31 #[.agg #[.int .u64 a, .int .u64 b, .int .u64 c, .int .u64 d, .int .i64 T, .string s, .int .u64 e]] w fun r w' => r = .returned (.bool false) ∧ Below w.heap.size w w' := by
  rcases h with h | ⟨h0, h⟩
  all_goals
    go_enter Try.func31, Try.ntmps31
    go_wp2
    go_ret
    exact ⟨rfl, below_box (Below.refl _ _) _⟩
theorem valid_tail (a b c d T : Int) (s : ByteArray) (e : Int) (h0 : 0 ≤ T) (h1 : T ≤ 1099511627776) (h : ((s.size : Int) != T % 32) = true) (w : World) :
    Calls Try.prog 31 #[.agg #[.int .u64 a, .int .u64 b, .int .u64 c, .int .u64 d, .int .i64 T, .string s, .int .u64 e]] w fun r w' => r = .returned (.bool false) ∧ Below w.heap.size w w' := by
  have ht : T.tmod 32 = T % 32 := Int.tmod_eq_emod_of_nonneg h0
  go_enter Try.func31, Try.ntmps31
  go_wp2
  go_ret
  exact ⟨rfl, below_box (Below.refl _ _) _⟩
set_option maxHeartbeats 1000000 in
theorem valid_full (a b c d T : Int) (s : ByteArray) (e : Int) (h0 : 0 ≤ T) (h1 : T ≤ 1099511627776) (h : (s.size : Int) = T % 32) (h32 : 32 ≤ T) (w : World) :
    Calls Try.prog 31 #[.agg #[.int .u64 a, .int .u64 b, .int .u64 c, .int .u64 d, .int .i64 T, .string s, .int .u64 e]] w fun r w' => r = .returned (.bool true) ∧ Below w.heap.size w w' := by
  have ht : T.tmod 32 = (s.size : Int) := by rw [h]; exact Int.tmod_eq_emod_of_nonneg h0
  have hF := fun u => filled_any a b c d T s e u
  rw [decide_eq_true h32] at hF
  clear h
  go_enter Try.func31, Try.ntmps31
  go_upto_region 3 with fail
  have K := Lib.hid (blk_drew (blk_new w 48 #[.int .u64 a, .int .u64 b, .int .u64 c, .int .u64 d, .int .i64 T, .string s, .int .u64 e]))
  refine wp_region_any (by kernel_rfl) ?_
  change wpAny _ _ _ _ _ _ _ (World.drew _)
  refine wpAny_ready (rs := [0]) (by kernel_rfl) (by simp) ?_
  refine AllReady.cons rfl (fun K hK => ?_) AllReady.nil
  go_simp
  refine hK _ _ ?_
  clear hK K
  refine wpAny_ready (rs := [1]) (by kernel_rfl) (by simp) ?_
  refine AllReady.cons rfl (fun K hK => ?_) AllReady.nil
  go_simp
  go_wp2_with (go_at_call 36; (with_reducible refine (hF _).mono ?_); rintro r w1 ⟨rfl, hb1⟩)
  refine wpAny_ready (rs := [2]) (by kernel_rfl) (by simp) ?_
  refine AllReady.cons rfl (fun K hK => ?_) AllReady.nil
  go_simp
  refine hK _ _ ?_
  clear hK K
  refine wpAny_take (i := 3) (v := undef) rfl (by kernel_rfl) (by kernel_rfl) (by kernel_rfl) (fun _ _ _ h => h) (Or.inr ⟨by kernel_rfl, rfl⟩) ?_
  refine wpAny_take (i := 4) (v := undef) rfl (by kernel_rfl) (by kernel_rfl) (by kernel_rfl) (fun _ _ _ h => h) (Or.inr ⟨by kernel_rfl, rfl⟩) ?_
  refine wpAny_take (i := 5) (v := undef) rfl (by kernel_rfl) (by kernel_rfl) (by kernel_rfl) (fun _ _ _ h => h) (Or.inr ⟨by kernel_rfl, rfl⟩) ?_
  refine wpAny_take (i := 6) (v := undef) rfl (by kernel_rfl) (by kernel_rfl) (by kernel_rfl) (fun _ _ _ h => h) (Or.inr ⟨by kernel_rfl, rfl⟩) ?_
  refine wpAny_take (i := 7) (v := undef) rfl (by kernel_rfl) (by kernel_rfl) (by kernel_rfl) (fun _ _ _ h => h) (Or.inr ⟨by kernel_rfl, rfl⟩) ?_
  refine wpAny_take (i := 8) (v := undef) rfl (by kernel_rfl) (by kernel_rfl) (by kernel_rfl) (fun _ _ _ h => h) (Or.inr ⟨by kernel_rfl, rfl⟩) ?_
  refine wpAny_take (i := 9) (v := undef) rfl (by kernel_rfl) (by kernel_rfl) (by kernel_rfl) (fun _ _ _ h => h) (Or.inr ⟨by kernel_rfl, rfl⟩) ?_
  refine wpAny_take (i := 10) (v := undef) rfl (by kernel_rfl) (by kernel_rfl) (by kernel_rfl) (fun _ _ _ h => h) (Or.inr ⟨by kernel_rfl, rfl⟩) ?_
  refine wpAny_ready (rs := [11]) (by kernel_rfl) (by simp) ?_
  refine AllReady.cons rfl (fun K hK => ?_) AllReady.nil
  go_simp
  refine hK _ _ ?_
  clear hK K
  refine wpAny_ready (rs := [12]) (by kernel_rfl) (by simp) ?_
  refine AllReady.cons rfl (fun K hK => ?_) AllReady.nil
  go_simp
  refine hK _ _ ?_
  clear hK K
  refine wpAny_done (by kernel_rfl) ?_ _
  go_wp2_with fail
  go_ret
  exact ⟨rfl, below_call (below_box (Below.refl _ _) _).drew hb1⟩

set_option maxHeartbeats 1000000 in
theorem valid_first (a b c d T : Int) (s : ByteArray) (e : Int) (h0 : 0 ≤ T) (h1 : T ≤ 1099511627776) (h : (s.size : Int) = T % 32) (h32 : ¬ 32 ≤ T) (f0 f1 f2 f3 : Int) (w : World)
    (hE : ∀ u, Calls Try.prog 33 #[.int .u64 e] u fun r w' => r = .returned (.agg #[.int .u64 f0, .int .u64 f1, .int .u64 f2, .int .u64 f3]) ∧ Below u.heap.size u w') :
    Calls Try.prog 31 #[.agg #[.int .u64 a, .int .u64 b, .int .u64 c, .int .u64 d, .int .i64 T, .string s, .int .u64 e]] w fun r w' => r = .returned (.bool (a == f0 && (b == f1 && (c == f2 && d == f3)))) ∧ Below w.heap.size w w' := by
  have ht : T.tmod 32 = (s.size : Int) := by rw [h]; exact Int.tmod_eq_emod_of_nonneg h0
  have hq := fun u => eq_arr10000 a b c d f0 f1 f2 f3 u
  have hF := fun u => filled_any a b c d T s e u
  rw [decide_eq_false h32] at hF
  clear h
  go_enter Try.func31, Try.ntmps31
  go_upto_region 3 with fail
  have K := Lib.hid (blk_drew (blk_new w 48 #[.int .u64 a, .int .u64 b, .int .u64 c, .int .u64 d, .int .i64 T, .string s, .int .u64 e]))
  go_region_held3 (fun w' => w'.cell? ⟨w.heap.size, 0, none⟩ = some (.int .u64 a) ∧ w'.cell? ⟨w.heap.size, 1, none⟩ = some (.int .u64 b) ∧ w'.cell? ⟨w.heap.size, 2, none⟩ = some (.int .u64 c) ∧ w'.cell? ⟨w.heap.size, 3, none⟩ = some (.int .u64 d) ∧ w'.cell? ⟨w.heap.size, 4, none⟩ = some (.int .i64 T) ∧ w'.cell? ⟨w.heap.size, 5, none⟩ = some (.string s) ∧ w'.cell? ⟨w.heap.size, 6, none⟩ = some (.int .u64 e))
    (first | (with_reducible exact c7 K.out) | (with_reducible exact c7 k1) | (with_reducible exact c7 k2))
    (first
      | (go_at_call 36; (with_reducible refine (hF _).mono ?_); rintro r w1 ⟨rfl, hb1⟩; have k1 := blk_next K.out hb1)
      | (go_at_call 33; (with_reducible refine (hE _).mono ?_); rintro r w2 ⟨rfl, hb2⟩; have k2 := blk_next k1 hb2))
  all_goals
    go_wp2_with fail
    go_ret
    refine ⟨?_, below_call (below_call (below_box (Below.refl _ _) _).drew hb1) hb2⟩
    rfl

theorem valid_any (a b c d T : Int) (s : ByteArray) (e : Int) (w : World) :
    Calls Try.prog 31 #[.agg #[.int .u64 a, .int .u64 b, .int .u64 c, .int .u64 d, .int .i64 T, .string s, .int .u64 e]] w fun r w' => r = .returned (.bool (decide (vldOk a b c d T s e))) ∧ Below w.heap.size w w' := by
  by_cases h0 : 0 ≤ T
  · by_cases h1 : T ≤ 1099511627776
    · by_cases h2 : (s.size : Int) = T % 32
      · by_cases h3 : 32 ≤ T
        · rw [decide_eq_true (show vldOk a b c d T s e from ⟨h0, h1, h2, .inl h3⟩)]
          exact valid_full a b c d T s e h0 h1 h2 h3 w
        · have h := valid_first a b c d T s e h0 h1 h2 h3 _ _ _ _ w (fun u => first_any e u)
          have hd : (a == (fst e).a && (b == (fst e).b && (c == (fst e).c && d == (fst e).d))) = decide (vldOk a b c d T s e) := by
            rw [Bool.eq_iff_iff]
            simp only [Bool.and_eq_true, beq_iff_eq, decide_eq_true_eq]
            exact ⟨fun hh => ⟨h0, h1, h2, .inr hh⟩, fun hh => hh.2.2.2.resolve_left h3⟩
          rw [hd] at h
          exact h
      · rw [decide_eq_false (show ¬ vldOk a b c d T s e from fun hh => h2 hh.2.2.1)]
        exact valid_tail a b c d T s e h0 h1 (by simp [h2]) w
    · rw [decide_eq_false (show ¬ vldOk a b c d T s e from fun hh => h1 hh.2.1)]
      exact valid_neg a b c d T s e (.inr ⟨h0, by omega⟩) w
  · rw [decide_eq_false (show ¬ vldOk a b c d T s e from fun hh => h0 hh.1)]
    exact valid_neg a b c d T s e (.inl (by omega)) w
end Go.Proofs.Ytgiihdgkejhbeaa
