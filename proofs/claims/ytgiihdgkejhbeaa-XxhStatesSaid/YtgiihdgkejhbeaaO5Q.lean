/-
  Comparing arrays of four numbers.
-/
import Derived.Test.YtgiihdgkejhbeaaO5F
import Derived.Laws.StructEq
namespace Go.Proofs.Ytgiihdgkejhbeaa
open Go.ChangeShapes Go.WideShapes Go.ChangeAt Go.RowKit
set_option linter.unusedVariables false

theorem size22 (w : World) : (sizeOf 22).run Try.prog w = .ok 1 w := by kernel_rfl
theorem eq_arr4 (n : Nat) (a b c d p q r s : Int) (w : World) :
    (Op.equalIn (n + 2) 30 (.agg #[.int .u64 a, .int .u64 b, .int .u64 c, .int .u64 d]) (.agg #[.int .u64 p, .int .u64 q, .int .u64 r, .int .u64 s])).run Try.prog w = .ok (a == p && (b == q && (c == r && d == s))) w := by
  have px : ∀ (x0 x1 x2 x3 : Int) (u : World), (part 22 #[.int .u64 x0, .int .u64 x1, .int .u64 x2, .int .u64 x3] (0 * 1)).run Try.prog u = .ok (.int .u64 x0) u ∧ (part 22 #[.int .u64 x0, .int .u64 x1, .int .u64 x2, .int .u64 x3] (1 * 1)).run Try.prog u = .ok (.int .u64 x1) u ∧
      (part 22 #[.int .u64 x0, .int .u64 x1, .int .u64 x2, .int .u64 x3] (2 * 1)).run Try.prog u = .ok (.int .u64 x2) u ∧ (part 22 #[.int .u64 x0, .int .u64 x1, .int .u64 x2, .int .u64 x3] (3 * 1)).run Try.prog u = .ok (.int .u64 x3) u := fun x0 x1 x2 x3 u => by
    refine ⟨?_, ?_, ?_, ?_⟩ <;> simp [part, isAgg, run_underlying Try.underlying22]
  have pe : ∀ (x y : Int) (u : World), (Op.equalIn (n + 1) 22 (.int .u64 x) (.int .u64 y)).run Try.prog u = .ok (x == y) u := fun x y u => run_equalIn_int u n 22 .u64 .u64 x y Try.underlying22
  rw [Op.equalIn]
  simp only [Sem.run_bind, run_underlying Try.underlying30, Result.andThen_ok, size22, Std.Legacy.Range.forIn_eq_forIn_range', Std.Legacy.Range.size, Nat.sub_zero, Nat.add_sub_cancel, Nat.div_one]
  rw [show List.range' 0 4 1 = [0, 1, 2, 3] from rfl]
  have f0 := fun u => (px a b c d u).1
  have f1 := fun u => (px a b c d u).2.1
  have f2 := fun u => (px a b c d u).2.2.1
  have f3 := fun u => (px a b c d u).2.2.2
  have g0 := fun u => (px p q r s u).1
  have g1 := fun u => (px p q r s u).2.1
  have g2 := fun u => (px p q r s u).2.2.1
  have g3 := fun u => (px p q r s u).2.2.2
  cases h0 : (a == p) <;> cases h1 : (b == q) <;> cases h2 : (c == r) <;> cases h3 : (d == s) <;>
    simp [List.forIn_cons, Sem.run_bind, f0, f1, f2, f3, g0, g1, g2, g3, pe, h0, h1, h2, h3, Result.andThen_ok, Sem.run_pure]
theorem eq_arr10000 (a b c d p q r s : Int) (w : World) :
    (Op.equalIn 10000 30 (.agg #[.int .u64 a, .int .u64 b, .int .u64 c, .int .u64 d]) (.agg #[.int .u64 p, .int .u64 q, .int .u64 r, .int .u64 s])).run Try.prog w = .ok (a == p && (b == q && (c == r && d == s))) w := eq_arr4 9998 a b c d p q r s w
theorem eq_arr9999 (a b c d p q r s : Int) (w : World) :
    (Op.equalIn 9999 30 (.agg #[.int .u64 a, .int .u64 b, .int .u64 c, .int .u64 d]) (.agg #[.int .u64 p, .int .u64 q, .int .u64 r, .int .u64 s])).run Try.prog w = .ok (a == p && (b == q && (c == r && d == s))) w := eq_arr4 9997 a b c d p q r s w
end Go.Proofs.Ytgiihdgkejhbeaa
