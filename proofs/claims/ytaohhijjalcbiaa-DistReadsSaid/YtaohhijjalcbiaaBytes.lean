/-
  Plain mathematics of bytes and bits: the bytes of a number, the number of bytes, and what a writer of bits becomes bit by bit. Nothing here speaks of the program.
-/
import Derived.Test.YtaohhijjalcbiaaNum
namespace Go.Proofs.Ytaohhijjalcbiaa


/-- the bytes of a number, the lowest first -/
def leB (n size : Nat) : List UInt8 := (List.range size).map fun i => UInt8.ofNat (n / 2 ^ (8 * i))
theorem leB_length (n size : Nat) : (leB n size).length = size := by simp [leB]
theorem leB_get (n size i : Nat) (h : i < (leB n size).length) : (leB n size)[i] = UInt8.ofNat (n / 2 ^ (8 * i)) := by simp [leB]
theorem leB_succ (n k : Nat) : leB n (k + 1) = leB n k ++ [UInt8.ofNat (n / 2 ^ (8 * k))] := by simp [leB, List.range_succ]
theorem leB_zero (n : Nat) : leB n 0 = [] := rfl

theorem ofNat_eq {a b : Nat} (h : a % 256 = b % 256) : UInt8.ofNat a = UInt8.ofNat b := by
  apply UInt8.toNat.inj
  simp [h]

/-- a bit that stands at 8 * k or higher does not change the first k bytes -/
theorem leB_high (n k e c : Nat) (he : 8 * k ≤ e) : leB (n + c * 2 ^ e) k = leB n k := by
  apply List.ext_getElem
  · simp [leB_length]
  · intro i h1 h2
    have hi : i < k := by rw [leB_length] at h2; exact h2
    rw [leB_get, leB_get]
    apply ofNat_eq
    have e1 : 2 ^ e = 2 ^ (8 * i) * (256 * 2 ^ (e - 8 * i - 8)) := by
      rw [show (256 : Nat) = 2 ^ 8 from rfl, ← Nat.pow_add, ← Nat.pow_add]
      congr 1
      omega
    rw [e1, show c * (2 ^ (8 * i) * (256 * 2 ^ (e - 8 * i - 8))) = 2 ^ (8 * i) * (256 * (c * 2 ^ (e - 8 * i - 8))) by
      rw [Nat.mul_left_comm c, Nat.mul_left_comm c 256]]
    rw [Nat.add_mul_div_left _ _ (Nat.two_pow_pos _), Nat.add_mul_mod_self_left]

/-- all bits of a writer with P (N bits) and the first i bits of v behind them -/
def putT (P N i v : Nat) : Nat := P + (v % 2 ^ i) * 2 ^ N
theorem putT_zero (P N v : Nat) : putT P N 0 v = P := by simp [putT, Nat.mod_one]
theorem putT_lt (P N i v : Nat) (h : P < 2 ^ N) : putT P N i v < 2 ^ (N + i) := by
  unfold putT
  have h1 := Nat.mod_lt v (Nat.two_pow_pos i)
  have h2 : (v % 2 ^ i + 1) * 2 ^ N ≤ 2 ^ i * 2 ^ N := Nat.mul_le_mul_right _ (by omega)
  rw [Nat.add_mul, Nat.one_mul] at h2
  rw [Nat.pow_add, Nat.mul_comm (2 ^ N)]
  omega
theorem putT_succ (P N i v : Nat) : putT P N (i + 1) v = putT P N i v + (v / 2 ^ i % 2) * 2 ^ (N + i) := by
  unfold putT
  rw [Nat.mod_pow_succ, Nat.add_mul, Nat.pow_add 2 N i, Nat.add_assoc]
  congr 2
  rw [Nat.mul_assoc, Nat.mul_left_comm, Nat.mul_comm (2 ^ N) (2 ^ i), Nat.mul_left_comm]

def putP (P N i v : Nat) : Nat := putT P N i v / 2 ^ (8 * ((N + i) / 8))
def putL (P N i v : Nat) : List UInt8 := leB (putT P N i v) ((N + i) / 8)

theorem putP_lt (P N i v : Nat) (h : P < 2 ^ N) : putP P N i v < 2 ^ ((N + i) % 8) := by
  unfold putP
  rw [Nat.div_lt_iff_lt_mul (Nat.two_pow_pos _), ← Nat.pow_add]
  have e : (N + i) % 8 + 8 * ((N + i) / 8) = N + i := by omega
  rw [e]
  exact putT_lt P N i v h

theorem put_sum (P N i v : Nat) : putT P N (i + 1) v / 2 ^ (8 * ((N + i) / 8)) = putP P N i v + (v / 2 ^ i % 2) * 2 ^ ((N + i) % 8) := by
  have e : 2 ^ (N + i) = 2 ^ (8 * ((N + i) / 8)) * 2 ^ ((N + i) % 8) := by
    rw [← Nat.pow_add]; congr 1; omega
  rw [putT_succ, e, Nat.mul_left_comm, Nat.add_mul_div_left _ _ (Nat.two_pow_pos _)]
  rfl

theorem put_less (P N i v : Nat) (hr : (N + i) % 8 < 7) :
    putL P N (i + 1) v = putL P N i v ∧ putP P N (i + 1) v = putP P N i v + (v / 2 ^ i % 2) * 2 ^ ((N + i) % 8) ∧ (N + (i + 1)) % 8 = (N + i) % 8 + 1 := by
  have e : (N + (i + 1)) / 8 = (N + i) / 8 := by omega
  refine ⟨?_, ?_, by omega⟩
  · unfold putL
    rw [e, putT_succ, leB_high _ _ _ _ (by omega)]
  · rw [← put_sum]
    unfold putP
    rw [e]

theorem put_full (P N i v : Nat) (h : P < 2 ^ N) (hr : (N + i) % 8 = 7) :
    putL P N (i + 1) v = putL P N i v ++ [UInt8.ofNat (putP P N i v + (v / 2 ^ i % 2) * 128)] ∧ putP P N (i + 1) v = 0 ∧ (N + (i + 1)) % 8 = 0 := by
  have e : (N + (i + 1)) / 8 = (N + i) / 8 + 1 := by omega
  refine ⟨?_, ?_, by omega⟩
  · unfold putL
    have hs := put_sum P N i v
    rw [hr] at hs
    rw [e, leB_succ, hs, putT_succ, leB_high _ _ _ _ (by omega)]
  · unfold putP
    rw [Nat.div_eq_of_lt]
    have := putT_lt P N (i + 1) v h
    have e2 : 8 * ((N + (i + 1)) / 8) = N + (i + 1) := by omega
    rw [e2]
    exact this

/-- bit k of a string, 0 behind its end -/
def bitAt (S : ByteArray) (k : Nat) : Nat := if h : k / 8 < S.size then (S[k / 8]'h).toNat / 2 ^ (k % 8) % 2 else 0

/-- the number of n bits from b on -/
def numB (S : ByteArray) (b : Nat) : Nat → Nat
  | 0 => 0
  | n + 1 => numB S b n + bitAt S (b + n) * 2 ^ n

theorem bitAt_lt (S : ByteArray) (k : Nat) : bitAt S k < 2 := by
  unfold bitAt
  split
  · exact Nat.mod_lt _ (by omega)
  · omega

theorem numB_lt (S : ByteArray) (b n : Nat) : numB S b n < 2 ^ n := by
  induction n with
  | zero => simp [numB]
  | succ n ih =>
    have h := bitAt_lt S (b + n)
    have hm : bitAt S (b + n) * 2 ^ n ≤ 1 * 2 ^ n := Nat.mul_le_mul_right _ (by omega)
    simp only [numB]
    rw [Nat.pow_succ]
    omega

theorem numB_le (S : ByteArray) (b n : Nat) (h : n ≤ 32) : numB S b n ≤ 4294967296 := by
  have h1 := numB_lt S b n
  have h2 : 2 ^ n ≤ 2 ^ 32 := Nat.pow_le_pow_right (by omega) h
  omega

theorem num_out (S : ByteArray) (b k : Nat) (h : 8 * S.size ≤ b + k) : numB S b (k + 1) = numB S b k := by
  have e : bitAt S (b + k) = 0 := by
    unfold bitAt
    rw [dif_neg (by omega)]
  simp only [numB]
  rw [e]
  omega

end Go.Proofs.Ytaohhijjalcbiaa
