/-
  Words of BackOne: every right writer is a number of bits and a number.
-/
import Derived.Test.YteopglkehlckoaaVal
import Derived.Test.YteopglkehlckoaaTurns
namespace Go.Proofs.Yteopglkehlckoaa
open Go.ChangeShapes Go.WideShapes Go.ChangeAt Go.RowKit
set_option linter.unusedVariables false

/-- every string is the bytes of a number -/
theorem str_num (S : ByteArray) : ∃ V, V < 2 ^ (8 * S.size) ∧ S = ⟨(leB V S.size).toArray⟩ := by
  refine ⟨leN S 0 S.size, leN_lt S 0 S.size, ?_⟩
  have hs : (⟨(leB (leN S 0 S.size) S.size).toArray⟩ : ByteArray).size = S.size := by show (leB _ _).toArray.size = _; simp [leB_length]
  apply ByteArray.ext_getElem hs.symm
  intro i h1 h2
  have e : ((⟨(leB (leN S 0 S.size) S.size).toArray⟩ : ByteArray)[i]'h2) = (leB (leN S 0 S.size) S.size)[i]'(by rw [leB_length]; exact h1) := by
    show (leB _ _).toArray[i]'_ = _
    simp
  rw [e, leB_get]
  have a1 := leN_bits S 0 S.size (8 * i) 8 (by omega)
  have a2 := leN_bits S i 1 0 8 (by omega)
  have a3 : leN S i 1 = byteAt S i := by simp [leN]
  have a4 := byteAt_lt S i
  rw [a3, Nat.pow_zero, Nat.div_one, Nat.add_zero] at a2
  rw [Nat.mul_zero, Nat.zero_add, ← a2] at a1
  rw [byteAt_of S i h1] at a1 a4
  apply UInt8.toNat_inj.mp
  have a5 : (UInt8.ofNat (leN S 0 S.size / 2 ^ (8 * i))).toNat = leN S 0 S.size / 2 ^ (8 * i) % 256 := by simp
  rw [a5]
  omega

/-- every right writer is a number of bits and a number -/
theorem wr_num (S : ByteArray) (P N : Nat) (hN : N ≤ 7) (hP : P < 2 ^ N) : ∃ V, V < 2 ^ (8 * S.size + N) ∧ WrS V (8 * S.size + N) = S ∧ WrP V (8 * S.size + N) = P := by
  obtain ⟨A, hA, hS⟩ := str_num S
  have h8 : (8 * S.size + N) / 8 = S.size := by omega
  refine ⟨A + P * 2 ^ (8 * S.size), ?_, ?_, ?_⟩
  · rw [Nat.pow_add]
    have h1 : 2 ^ (8 * S.size) * (P + 1) ≤ 2 ^ (8 * S.size) * 2 ^ N := Nat.mul_le_mul_left _ hP
    rw [Nat.mul_add, Nat.mul_one, Nat.mul_comm _ P] at h1
    omega
  · unfold WrS
    rw [h8, leB_high _ _ _ _ (Nat.le_refl _)]
    exact hS.symm
  · unfold WrP
    rw [h8, Nat.add_mul_div_right _ _ (Nat.two_pow_pos _), Nat.div_eq_of_lt hA, Nat.zero_add]

theorem more_num (V v t a n : Nat) (h : a + n ≤ t) : (V + v * 2 ^ t) / 2 ^ a % 2 ^ n = V / 2 ^ a % 2 ^ n := by
  have e : v * 2 ^ t = v * 2 ^ (t - a - n) * 2 ^ n * 2 ^ a := by
    rw [Nat.mul_assoc, Nat.mul_assoc, ← Nat.pow_add, ← Nat.pow_add, show t - a - n + (n + a) = t by omega]
  rw [e, Nat.add_mul_div_right _ _ (Nat.two_pow_pos _), Nat.add_mul_mod_self_right]
theorem more_lt (V v t n : Nat) (hV : V < 2 ^ t) (hv : v < 2 ^ n) : V + v * 2 ^ t < 2 ^ (t + n) := by
  have h1 : 2 ^ t * (v + 1) ≤ 2 ^ t * 2 ^ n := Nat.mul_le_mul_left _ hv
  rw [Nat.mul_add, Nat.mul_one, Nat.mul_comm _ v] at h1
  rw [Nat.pow_add]
  omega
theorem more_top (V v t n : Nat) (hV : V < 2 ^ t) (hv : v < 2 ^ n) : (V + v * 2 ^ t) / 2 ^ t % 2 ^ n = v := by
  rw [Nat.add_mul_div_right _ _ (Nat.two_pow_pos _), Nat.div_eq_of_lt hV, Nat.zero_add, Nat.mod_eq_of_lt hv]

/-- a round of the law's first loop -/
theorem part_round (m P N : Nat) (h1 : m * 2 ^ N ≤ 255) (hP : P < 2 ^ N) (hm : 2 ≤ m) : N ≤ 6 ∧ m / 2 * 2 ^ (N + 1) ≤ 255 ∧ P + m % 2 * 2 ^ N < 2 ^ (N + 1) := by
  have h2 : 2 * 2 ^ N ≤ m * 2 ^ N := Nat.mul_le_mul_right _ hm
  have h3 : N ≤ 6 := by
    rcases Nat.lt_or_ge N 7 with h | h
    · omega
    · have : 2 ^ 7 ≤ 2 ^ N := Nat.pow_le_pow_right (by omega) h
      omega
  have h4 : m / 2 * 2 * 2 ^ N ≤ m * 2 ^ N := Nat.mul_le_mul_right _ (by omega)
  have h5 : m % 2 * 2 ^ N ≤ 1 * 2 ^ N := Nat.mul_le_mul_right _ (by omega)
  refine ⟨h3, ?_, ?_⟩
  · rw [Nat.pow_succ, Nat.mul_comm (2 ^ N) 2, ← Nat.mul_assoc]; omega
  · rw [Nat.pow_succ]; omega

set_option maxRecDepth 100000 in
theorem one_long (S : ByteArray) (a b : Int) (w : World) (h1 : decide ((20 : Int) < (S.size : Int)) = true) :
    Calls Try.prog 8 #[.string S, .int .i64 a, .int .i64 b] w fun e w' => e = .returned (.bool true) ∧ Below w.heap.size w w' := by
  go_enter Try.func8, Try.ntmps8
  go_wp2_with (go_at_call 19; (with_reducible refine (awake_any _).mono ?_); rintro e w1 ⟨rfl, hb1⟩)
  go_ret
  exact ⟨rfl, hb1⟩
end Go.Proofs.Yteopglkehlckoaa
