/-
  The kit's Mod: for every number, and every m from 1 on.
-/
import Derived.Test.YtaohhijjalcbiaaProg
import Derived.Test.YtaohhijjalcbiaaAid
namespace Go.Proofs.Ytaohhijjalcbiaa
open Go.ChangeShapes Go.WideShapes Go.ChangeAt Go.RowKit
set_option linter.unusedVariables false

theorem neg_rem (n m : Int) (hm : 0 < m) (hn : n < 0) : n % m = if (-n) % m = 0 then 0 else m - (-n) % m := by
  have h1 := Int.emod_nonneg (-n) (show m ≠ 0 by omega)
  have h2 := Int.emod_lt_of_pos (-n) hm
  have h3 := Int.mul_ediv_add_emod (-n) m
  by_cases h : (-n) % m = 0
  · rw [if_pos h]
    refine ((Int.ediv_emod_unique (a := n) (b := m) (r := 0) (q := -((-n) / m)) hm).2 ⟨?_, by omega, by omega⟩).2
    rw [Int.mul_neg]
    omega
  · rw [if_neg h]
    refine ((Int.ediv_emod_unique (a := n) (b := m) (r := m - (-n) % m) (q := -((-n) / m) - 1) hm).2 ⟨?_, by omega, by omega⟩).2
    rw [Int.mul_sub, Int.mul_neg, Int.mul_one]
    omega

theorem mod_any (n m : Int) (h0 : -9223372036854775808 ≤ n) (h1 : n ≤ 9223372036854775807) (hm : 1 ≤ m) (hm2 : m ≤ 9223372036854775807) (w : World) :
    Calls Try.prog 27 #[.int .i64 n, .int .i64 m] w fun e w' => e = .returned (.int .i64 (n % m)) ∧ w = w' := by
  by_cases hn : 0 ≤ n
  · have hr := Int.emod_nonneg n (show m ≠ 0 by omega)
    have hr2 := Int.emod_lt_of_pos n (show 0 < m by omega)
    go_enter Try.func27, Try.ntmps27
    go_wp2
    go_ret
    exact ⟨rfl, rfl⟩
  · have hr := Int.emod_nonneg (-n) (show m ≠ 0 by omega)
    have hr2 := Int.emod_lt_of_pos (-n) (show 0 < m by omega)
    have ht : n.tmod m = -((-n) % m) := by
      rw [← Int.tmod_eq_emod_of_nonneg (show 0 ≤ -n by omega), Int.neg_tmod, Int.neg_neg]
    have he := Lib.hid (neg_rem n m (by omega) (by omega))
    generalize (-n) % m = r at hr hr2 ht he
    go_enter Try.func27, Try.ntmps27
    go_wp2
    · have hp : 0 < r := by assumption
      go_ret
      exact ⟨ret_int (by rw [he.out, if_neg (by omega)]; omega), rfl⟩
    · have hp : r ≤ 0 := by assumption
      go_ret
      exact ⟨ret_int (by rw [he.out, if_pos (by omega)]; omega), rfl⟩

end Go.Proofs.Ytaohhijjalcbiaa
