/-
  Plain mathematics of the layer's numbers: how many bits a number has, lowest bits, bytes of a number and the number of bytes. Nothing here speaks of the program.
-/
import Derived.WalkKit
import Derived.Laws.BitsAllLaws
namespace Go.Proofs.Ytaohhijjalcbiaa
open Go.RowKit

/-- how many bits a number has; 0 below 1 -/
def nb (n : Int) : Nat := if n < 1 then 0 else n.toNat.log2 + 1

theorem nb_low {n : Int} (h : n < 1) : nb n = 0 := by unfold nb; rw [if_pos h]

theorem pow_cast (k : Nat) : ((2 ^ k : Nat) : Int) = (2 : Int) ^ k := by simp

theorem nb_iff {n : Int} (h : 1 ≤ n) (k : Nat) : k + 1 ≤ nb n ↔ (2 : Int) ^ k ≤ n := by
  have e := Nat.le_log2 (n := n.toNat) (k := k) (by omega)
  have hc := pow_cast k
  unfold nb
  rw [if_neg (by omega), ← hc]
  constructor
  · intro h1
    have := e.1 (by omega)
    omega
  · intro h1
    have := e.2 (by omega)
    omega

theorem pow_pos' (k : Nat) : 0 < (2 : Int) ^ k := by
  rw [← pow_cast]
  have := Nat.two_pow_pos k
  omega

theorem nb_go {n : Int} {k : Nat} (h : 1 ≤ n / 2 ^ k) : k + 1 ≤ nb n := by
  have hp := pow_pos' k
  have h2 : (2 : Int) ^ k ≤ n := by
    have := (Int.le_ediv_iff_mul_le hp).1 h
    omega
  exact (nb_iff (by omega) k).2 h2

theorem nb_stop {n : Int} {k : Nat} (hk : k ≤ nb n) (h : n / 2 ^ k < 1) : nb n = k := by
  have hp := pow_pos' k
  rcases Nat.lt_or_ge k (nb n) with hlt | hge
  · exfalso
    have h1 : 1 ≤ n := by
      rcases Int.lt_or_le n 1 with hn | hn
      · rw [nb_low hn] at hlt; omega
      · exact hn
    have h2 := (nb_iff h1 k).1 hlt
    have h3 : 1 ≤ n / 2 ^ k := (Int.le_ediv_iff_mul_le hp).2 (by omega)
    omega
  · omega

theorem nb_le {n : Int} (h : n ≤ 9223372036854775807) : nb n ≤ 63 := by
  rcases Nat.lt_or_ge 63 (nb n) with hlt | hge
  · exfalso
    have h1 : 1 ≤ n := by
      rcases Int.lt_or_le n 1 with hn | hn
      · rw [nb_low hn] at hlt; omega
      · exact hn
    have h2 := (nb_iff h1 63).1 hlt
    have e : (2 : Int) ^ 63 = 9223372036854775808 := by decide
    omega
  · exact hge

theorem nb_half {n : Int} (h : 1 ≤ n) : nb n = nb (n / 2) + 1 := by
  unfold nb
  rw [if_neg (by omega)]
  by_cases h2 : n / 2 < 1
  · rw [if_pos h2]
    have : n = 1 := by omega
    subst this
    decide
  · rw [if_neg h2]
    have e : (n / 2).toNat = n.toNat / 2 := by omega
    rw [e, Nat.log2_def n.toNat, if_pos (by omega)]

/-- the power of two that is not below n -/
def up (n : Int) : Nat := nb ((if n < 1 then 1 else n) - 1)
theorem up_two {n : Int} (h : n < 2) : up n = 0 := by
  unfold up
  split
  · exact nb_low (by omega)
  · exact nb_low (by omega)
theorem up_more {n : Int} (h : 2 ≤ n) : up n = nb (n - 1) := by
  unfold up
  rw [if_neg (by omega)]

theorem u64in {n : Int} (h0 : 0 ≤ n) (h1 : n < 18446744073709551616) : IntKind.u64.wrap n = n := IntWalk.u64_in n ⟨h0, by omega⟩

theorem pow63 : (2 : Nat) ^ 63 = 9223372036854775808 := by decide
theorem pow64 : (2 : Nat) ^ 64 = 18446744073709551616 := by decide
theorem pow_le64 {b : Nat} (h : b ≤ 64) : (2 : Nat) ^ b ≤ 18446744073709551616 := by
  rw [← pow64]; exact Nat.pow_le_pow_right (by omega) h
theorem pow_le63 {b : Nat} (h : b ≤ 63) : (2 : Nat) ^ b ≤ 9223372036854775808 := by
  rw [← pow63]; exact Nat.pow_le_pow_right (by omega) h

/-- lowest bits by a mask -/
theorem low_mask (n b : Nat) (hb : b ≤ 64) (hn : n < 18446744073709551616) :
    bits BinOp.and IntKind.u64 (n : Int) (IntKind.u64.wrap (IntKind.u64.wrap (2 ^ b) - 1)) = ((n % 2 ^ b : Nat) : Int) := by
  have hc := pow_cast b
  have hpos := Nat.two_pow_pos b
  have e : IntKind.u64.wrap (IntKind.u64.wrap (2 ^ b) - 1) = ((2 ^ b - 1 : Nat) : Int) := by
    by_cases h : b = 64
    · subst h; decide +kernel
    · have hl := pow_le63 (b := b) (by omega)
      have e1 : IntKind.u64.wrap ((2 ^ b : Nat) : Int) = ((2 ^ b : Nat) : Int) := u64in (by omega) (by omega)
      rw [← hc, e1, u64in (by omega) (by omega)]
      omega
  have hl := pow_le64 hb
  rw [e, u64_and_nat n (2 ^ b - 1) hn (by omega), Nat.and_two_pow_sub_one_eq_mod]

/-- what the reference's round makes of the sum -/
theorem low_step (n k : Nat) (hk : k < 64) :
    IntKind.u64.wrap (((n % 2 ^ k : Nat) : Int) + IntKind.u64.wrap (((n / 2 ^ k : Nat) : Int) % 2 * ((2 ^ k : Nat) : Int))) = ((n % 2 ^ (k + 1) : Nat) : Int) := by
  have hl := pow_le63 (b := k) (by omega)
  have hpos := Nat.two_pow_pos k
  have hm := Nat.mod_lt n hpos
  have hs := Nat.mod_pow_succ (b := 2) (k := k) (x := n)
  rcases Nat.mod_two_eq_zero_or_one (n / 2 ^ k) with h | h
  · have h' : ((n / 2 ^ k : Nat) : Int) % 2 = 0 := by omega
    rw [h', hs, h]
    rw [u64in (n := 0 * _) (by omega) (by omega), u64in (by omega) (by omega)]
    omega
  · have h' : ((n / 2 ^ k : Nat) : Int) % 2 = 1 := by omega
    rw [h', hs, h]
    rw [u64in (n := 1 * _) (by omega) (by omega), u64in (by omega) (by omega)]
    omega
theorem half_step (n k : Nat) : ((n / 2 ^ k : Nat) : Int) / 2 = ((n / 2 ^ (k + 1) : Nat) : Int) := by
  rw [Nat.pow_succ, ← Nat.div_div_eq_div_mul]; omega
theorem place_step (k : Nat) (hk : k < 63) : IntKind.u64.wrap (((2 ^ k : Nat) : Int) * 2) = ((2 ^ (k + 1) : Nat) : Int) := by
  have hl := pow_le63 (b := k + 1) (by omega)
  rw [Nat.pow_succ] at hl ⊢
  rw [u64in (by omega) (by omega)]
  omega
end Go.Proofs.Ytaohhijjalcbiaa
