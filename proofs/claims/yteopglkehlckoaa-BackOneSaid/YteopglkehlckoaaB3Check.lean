/-
  The reference's writers of streams that are read from behind: Check.
-/
import Derived.Test.YteopglkehlckoaaConv
import Derived.Test.YteopglkehlckoaaProg
import Derived.Test.YteopglkehlckoaaBytes
import Derived.WalkKit
import Derived.ProofKit
import Derived.OpenShut
import Derived.Lib.Hide
import Derived.Laws.IdiomStrings

namespace Go.Proofs.Yteopglkehlckoaa
open Go.ChangeShapes Go.WideShapes Go.ChangeAt Go.RowKit
set_option linter.unusedVariables false

/-- what Check answers -/
def bch (S : ByteArray) (P N : Int) : Int := if N < 0 ∨ 7 < N ∨ P < 0 ∨ (2 : Int) ^ N.toNat ≤ P ∨ 1048576 < S.size then 10 else 0

theorem bch_bad (S : ByteArray) (P N : Int) (h : N < 0 ∨ 7 < N ∨ P < 0) (w : World) :
    Calls Try.prog 21 #[.agg #[.string S, .int .i64 P, .int .i64 N]] w fun e w' => e = .returned (.int .i64 10) ∧ Below w.heap.size w w' := by
  by_cases h1 : N < 0
  · go_enter Try.func21, Try.ntmps21
    go_wp2
    go_ret
    exact ⟨rfl, (Below.refl _ _).alloc (Nat.le_refl _) _⟩
  · by_cases h2 : 7 < N
    · go_enter Try.func21, Try.ntmps21
      go_wp2
      go_ret
      exact ⟨rfl, (Below.refl _ _).alloc (Nat.le_refl _) _⟩
    · have h3 : P < 0 := by omega
      go_enter Try.func21, Try.ntmps21
      go_wp2
      go_ret
      exact ⟨rfl, (Below.refl _ _).alloc (Nat.le_refl _) _⟩

theorem bch_some (S : ByteArray) (P p : Int) (n : Nat) (r : Int) (hp : (2 : Int) ^ n = p) (h1 : n ≤ 7) (h2 : 0 ≤ P) (hp0 : 1 ≤ p) (hp1 : p ≤ 128) (hS : S.size ≤ 9223372036854775807)
    (h : (p ≤ P ∧ r = 10) ∨ (P < p ∧ 1048576 < S.size ∧ r = 10) ∨ (P < p ∧ S.size ≤ 1048576 ∧ r = 0)) (w : World) :
    Calls Try.prog 21 #[.agg #[.string S, .int .i64 P, .int .i64 (n : Int)]] w fun e w' => e = .returned (.int .i64 r) ∧ Below w.heap.size w w' := by
  have h7 : bits .and .i64 (n : Int) 7 = (n : Int) := by rw [i64_and7 _ (by omega) (by omega)]; omega
  rcases h with ⟨h3, rfl⟩ | ⟨h3, h4, rfl⟩ | ⟨h3, h4, rfl⟩
  all_goals
    go_enter Try.func21, Try.ntmps21
    go_wp2
    go_ret
    exact ⟨rfl, (Below.refl _ _).alloc (Nat.le_refl _) _⟩

theorem bch_any (S : ByteArray) (P N : Int) (hS : S.size ≤ 9223372036854775807) (w : World) :
    Calls Try.prog 21 #[.agg #[.string S, .int .i64 P, .int .i64 N]] w fun e w' => e = .returned (.int .i64 (bch S P N)) ∧ Below w.heap.size w w' := by
  by_cases h : N < 0 ∨ 7 < N ∨ P < 0
  · have e : bch S P N = 10 := by unfold bch; rw [if_pos (by omega)]
    rw [e]
    exact bch_bad S P N h w
  · obtain ⟨n, rfl⟩ := Int.eq_ofNat_of_zero_le (show 0 ≤ N by omega)
    have hp0 : 1 ≤ (2 : Int) ^ n := by rw [← pow_cast]; have := Nat.two_pow_pos n; omega
    have hp1 : (2 : Int) ^ n ≤ 128 := by
      rw [← pow_cast]
      have : 2 ^ n ≤ 2 ^ 7 := Nat.pow_le_pow_right (by omega) (by omega)
      omega
    refine bch_some S P _ n _ rfl (by omega) (by omega) hp0 hp1 hS ?_ w
    have et : ((n : Int)).toNat = n := by omega
    by_cases h2 : (2 : Int) ^ n ≤ P
    · exact .inl ⟨h2, by unfold bch; rw [et, if_pos (by omega)]⟩
    · by_cases h3 : 1048576 < S.size
      · exact .inr (.inl ⟨by omega, h3, by unfold bch; rw [et, if_pos (by omega)]⟩)
      · exact .inr (.inr ⟨by omega, by omega, by unfold bch; rw [et, if_neg (by omega)]⟩)
end Go.Proofs.Yteopglkehlckoaa
