/-
  Plain mathematics of written bits: a list of numbers, all their bits together, and what is read of them. Nothing here speaks of the program.
-/
import Derived.Test.YtaohhijjalcbiaaBytes
namespace Go.Proofs.Ytaohhijjalcbiaa

theorem leB_append (A a b : Nat) : leB A (a + b) = leB A a ++ leB (A / 2 ^ (8 * a)) b := by
  induction b with
  | zero => simp [leB_zero]
  | succ b ih =>
    rw [← Nat.add_assoc, leB_succ, ih, leB_succ, List.append_assoc, Nat.div_div_eq_div_mul, ← Nat.pow_add, show 8 * (a + b) = 8 * a + 8 * b by omega]

/-- a writer with t bits, all together V, and n bits more -/
theorem put_all (V t n v : Nat) (hv : v < 2 ^ n) :
    leB V (t / 8) ++ putL (V / 2 ^ (8 * (t / 8))) (t % 8) n v = leB (V + v * 2 ^ t) ((t + n) / 8) ∧
    putP (V / 2 ^ (8 * (t / 8))) (t % 8) n v = (V + v * 2 ^ t) / 2 ^ (8 * ((t + n) / 8)) ∧ (t % 8 + n) % 8 = (t + n) % 8 := by
  have e1 : (t + n) / 8 = t / 8 + (t % 8 + n) / 8 := by omega
  have e2 : 2 ^ t = 2 ^ (t % 8) * 2 ^ (8 * (t / 8)) := by
    rw [← Nat.pow_add]
    congr 1
    omega
  have e3 : (V + v * 2 ^ t) / 2 ^ (8 * (t / 8)) = putT (V / 2 ^ (8 * (t / 8))) (t % 8) n v := by
    unfold putT
    rw [Nat.mod_eq_of_lt hv, e2, ← Nat.mul_assoc, Nat.add_mul_div_right _ _ (Nat.two_pow_pos _)]
  refine ⟨?_, ?_, by omega⟩
  · rw [e1, leB_append, e3, leB_high _ _ _ _ (by omega)]
    rfl
  · unfold putP
    rw [← e3, e1, Nat.div_div_eq_div_mul, ← Nat.pow_add, ← Nat.mul_add]

theorem mod_bit (x j : Nat) (hj : j < 8) : x % 256 / 2 ^ j % 2 = x / 2 ^ j % 2 := by
  have e : (256 : Nat) = 2 ^ j * 2 ^ (8 - j) := by
    rw [← Nat.pow_add, show j + (8 - j) = 8 by omega]
  have e2 : 2 ^ (8 - j) = 2 * 2 ^ (7 - j) := by rw [show 8 - j = (7 - j) + 1 by omega, Nat.pow_succ']
  rw [e, Nat.mod_mul_right_div_self, e2, Nat.mod_mul_right_mod]

theorem leB_bit (V c k : Nat) (h : k < 8 * c) : bitAt ⟨(leB V c).toArray⟩ k = V / 2 ^ k % 2 := by
  have hs : (⟨(leB V c).toArray⟩ : ByteArray).size = c := by show (leB V c).toArray.size = c; simp [leB_length]
  unfold bitAt
  rw [dif_pos (by rw [hs]; omega)]
  have e : ((⟨(leB V c).toArray⟩ : ByteArray)[k / 8]'(by rw [hs]; omega)) = (leB V c)[k / 8]'(by rw [leB_length]; omega) := by
    show (leB V c).toArray[k / 8]'_ = _
    simp
  rw [e, leB_get]
  have e2 : (UInt8.ofNat (V / 2 ^ (8 * (k / 8)))).toNat = V / 2 ^ (8 * (k / 8)) % 256 := by simp
  rw [e2, mod_bit _ _ (by omega), Nat.div_div_eq_div_mul, ← Nat.pow_add, show 8 * (k / 8) + k % 8 = k by omega]

theorem leB_num (V c b n : Nat) (h : b + n ≤ 8 * c) : numB ⟨(leB V c).toArray⟩ b n = V / 2 ^ b % 2 ^ n := by
  induction n with
  | zero => simp [numB, Nat.mod_one]
  | succ n ih =>
    simp only [numB]
    rw [ih (by omega), leB_bit V c (b + n) (by omega), Nat.mod_pow_succ, Nat.div_div_eq_div_mul, ← Nat.pow_add, Nat.mul_comm (2 ^ n)]

/-- how many bits a number made of a number has, and the number; all of a list -/
def szN (x : Int) : Nat := (x % 33).toNat
def vlN (x : Int) : Nat := (x % 1099511627776 / 33 % (2 : Int) ^ szN x).toNat
def totL : List Int → Nat
  | [] => 0
  | x :: r => szN x + totL r
def valL : List Int → Nat
  | [] => 0
  | x :: r => vlN x + 2 ^ szN x * valL r

theorem szN_le (x : Int) : szN x ≤ 32 := by unfold szN; omega
theorem vlN_cast (x : Int) : (vlN x : Int) = x % 1099511627776 / 33 % (2 : Int) ^ szN x := by
  unfold vlN
  have h : (2 : Int) ^ szN x ≠ 0 := by
    rw [← pow_cast]
    have := Nat.two_pow_pos (szN x)
    omega
  have := Int.emod_nonneg (x % 1099511627776 / 33) h
  omega
theorem vlN_lt (x : Int) : vlN x < 2 ^ szN x := by
  have h := vlN_cast x
  have hp := pow_cast (szN x)
  have h2 := Nat.two_pow_pos (szN x)
  have h3 := Int.emod_lt_of_pos (x % 1099511627776 / 33) (show 0 < (2 : Int) ^ szN x by omega)
  omega
theorem totL_append (a b : List Int) : totL (a ++ b) = totL a + totL b := by
  induction a with
  | nil => simp [totL]
  | cons x r ih => simp only [List.cons_append, totL]; omega
theorem valL_append (a b : List Int) : valL (a ++ b) = valL a + valL b * 2 ^ totL a := by
  induction a with
  | nil => simp [totL, valL]
  | cons x r ih =>
    simp only [List.cons_append, totL, valL]
    rw [ih, Nat.mul_add, Nat.pow_add, Nat.add_assoc]
    congr 2
    rw [Nat.mul_left_comm]
theorem valL_lt (l : List Int) : valL l < 2 ^ totL l := by
  induction l with
  | nil => simp [totL, valL]
  | cons x r ih =>
    simp only [totL, valL]
    have h := vlN_lt x
    have h2 : 2 ^ szN x * (valL r + 1) ≤ 2 ^ szN x * 2 ^ totL r := Nat.mul_le_mul_left _ ih
    rw [Nat.mul_add, Nat.mul_one] at h2
    rw [Nat.pow_add]
    omega
theorem totL_le (l : List Int) : totL l ≤ 32 * l.length := by
  induction l with
  | nil => simp [totL]
  | cons x r ih =>
    have := szN_le x
    simp only [totL, List.length_cons]
    omega
theorem tot_take (l : List Int) (k : Nat) (h : k < l.length) : totL (l.take (k + 1)) = totL (l.take k) + szN l[k] := by
  rw [List.take_succ_eq_append_getElem h, totL_append]
  simp [totL]
theorem val_take (l : List Int) (k : Nat) (h : k < l.length) : valL (l.take (k + 1)) = valL (l.take k) + vlN l[k] * 2 ^ totL (l.take k) := by
  rw [List.take_succ_eq_append_getElem h, valL_append]
  simp [valL]
/-- what was written is read -/
theorem val_read (l : List Int) (k : Nat) (h : k < l.length) : valL l / 2 ^ totL (l.take k) % 2 ^ szN l[k] = vlN l[k] := by
  have e : l = l.take k ++ l[k] :: l.drop (k + 1) := by
    rw [← List.drop_eq_getElem_cons h, List.take_append_drop]
  have hv : valL l = valL (l.take k) + (vlN l[k] + 2 ^ szN l[k] * valL (l.drop (k + 1))) * 2 ^ totL (l.take k) := by
    have h2 := valL_append (l.take k) (l[k] :: l.drop (k + 1))
    rw [← e] at h2
    exact h2
  rw [hv, Nat.add_mul_div_right _ _ (Nat.two_pow_pos _), Nat.div_eq_of_lt (valL_lt _), Nat.zero_add, Nat.add_mul_mod_self_left]
  exact Nat.mod_eq_of_lt (vlN_lt _)
end Go.Proofs.Ytaohhijjalcbiaa
