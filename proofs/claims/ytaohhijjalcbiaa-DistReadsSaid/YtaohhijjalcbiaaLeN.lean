/-
  Plain mathematics: the number of some bytes of a string, and its bits. Nothing here speaks of the program.
-/
import Derived.Test.YtaohhijjalcbiaaBytes
namespace Go.Proofs.Ytaohhijjalcbiaa
/-- byte k of a string, 0 behind its end -/
def byteAt (S : ByteArray) (k : Nat) : Nat := if h : k < S.size then (S[k]'h).toNat else 0
/-- the number of c bytes from f on -/
def leN (S : ByteArray) (f : Nat) : Nat → Nat
  | 0 => 0
  | c + 1 => leN S f c + byteAt S (f + c) * 2 ^ (8 * c)

theorem byteAt_lt (S : ByteArray) (k : Nat) : byteAt S k < 256 := by
  unfold byteAt
  split
  · exact UInt8.toNat_lt _
  · omega
theorem byteAt_of (S : ByteArray) (k : Nat) (h : k < S.size) : byteAt S k = (S[k]'h).toNat := by unfold byteAt; rw [dif_pos h]
theorem bitAt_byte (S : ByteArray) (k : Nat) : bitAt S k = byteAt S (k / 8) / 2 ^ (k % 8) % 2 := by
  unfold bitAt byteAt
  split
  · rfl
  · simp

theorem leN_lt (S : ByteArray) (f c : Nat) : leN S f c < 2 ^ (8 * c) := by
  induction c with
  | zero => simp [leN]
  | succ c ih =>
    have h := byteAt_lt S (f + c)
    have hm : byteAt S (f + c) * 2 ^ (8 * c) ≤ 255 * 2 ^ (8 * c) := Nat.mul_le_mul_right _ (by omega)
    have e : 2 ^ (8 * (c + 1)) = 256 * 2 ^ (8 * c) := by rw [show 8 * (c + 1) = 8 + 8 * c by omega, Nat.pow_add]
    simp only [leN]
    omega

/-- a bit of the number of some bytes -/
theorem leN_bit (S : ByteArray) (f c k : Nat) (h : k < 8 * c) : leN S f c / 2 ^ k % 2 = bitAt S (8 * f + k) := by
  induction c with
  | zero => omega
  | succ c ih =>
    have hl := leN_lt S f c
    simp only [leN]
    by_cases hk : k < 8 * c
    · have e : 2 ^ (8 * c) = 2 ^ k * (2 * 2 ^ (8 * c - k - 1)) := by
        rw [← Nat.pow_succ', ← Nat.pow_add]
        congr 1
        omega
      rw [e, Nat.mul_left_comm, Nat.add_mul_div_left _ _ (Nat.two_pow_pos _), Nat.mul_left_comm, Nat.add_mul_mod_self_left]
      exact ih hk
    · have e : 2 ^ k = 2 ^ (8 * c) * 2 ^ (k - 8 * c) := by
        rw [← Nat.pow_add]
        congr 1
        omega
      rw [e, ← Nat.div_div_eq_div_mul, Nat.add_mul_div_right _ _ (Nat.two_pow_pos _), Nat.div_eq_of_lt hl, Nat.zero_add, bitAt_byte]
      have e1 : (8 * f + k) / 8 = f + c := by omega
      have e2 : (8 * f + k) % 8 = k - 8 * c := by omega
      rw [e1, e2]

theorem leN_bits (S : ByteArray) (f c r n : Nat) (h : r + n ≤ 8 * c ∨ S.size ≤ f + c) : leN S f c / 2 ^ r % 2 ^ n = numB S (8 * f + r) n := by
  induction n with
  | zero => simp [numB, Nat.mod_one]
  | succ n ih =>
    rw [Nat.mod_pow_succ, ih (by omega)]
    simp only [numB]
    rw [Nat.div_div_eq_div_mul, ← Nat.pow_add]
    by_cases hk : r + n < 8 * c
    · rw [leN_bit S f c (r + n) hk, Nat.add_assoc, Nat.mul_comm (2 ^ n)]
    · have hl := leN_lt S f c
      have h0 : leN S f c / 2 ^ (r + n) = 0 := by
        apply Nat.div_eq_of_lt
        exact Nat.lt_of_lt_of_le hl (Nat.pow_le_pow_right (by omega) (by omega))
      have h1 : bitAt S (8 * f + r + n) = 0 := by
        unfold bitAt
        rw [dif_neg (by omega)]
      rw [h0, h1]
      simp
end Go.Proofs.Ytaohhijjalcbiaa
