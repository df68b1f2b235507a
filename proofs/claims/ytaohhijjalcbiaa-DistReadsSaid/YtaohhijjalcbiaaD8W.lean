/-
  What writers of bits are, as numbers: all bits together, and how many.
-/
import Derived.Test.YtaohhijjalcbiaaD8M
import Derived.Test.YtaohhijjalcbiaaO2T6
namespace Go.Proofs.Ytaohhijjalcbiaa
open Go.ChangeShapes Go.WideShapes Go.ChangeAt Go.RowKit
set_option linter.unusedVariables false

def wrS (V t : Nat) : ByteArray := ⟨(leB V (t / 8)).toArray⟩
def wrQ (V t : Nat) : Int := (V / 2 ^ (8 * (t / 8)) : Nat)
def wrN (t : Nat) : Int := (t % 8 : Nat)
theorem wrS_size (V t : Nat) : (wrS V t).size = t / 8 := by show (leB V (t / 8)).toArray.size = _; simp [leB_length]
theorem bytes_append (a b : List UInt8) : (⟨a.toArray⟩ : ByteArray) ++ ⟨b.toArray⟩ = ⟨(a ++ b).toArray⟩ := by
  apply ByteArray.ext
  simp
theorem wr_part {V t : Nat} (hV : V < 2 ^ t) : V / 2 ^ (8 * (t / 8)) < 2 ^ (t % 8) := by
  rw [Nat.div_lt_iff_lt_mul (Nat.two_pow_pos _), ← Nat.pow_add, show t % 8 + 8 * (t / 8) = t by omega]
  exact hV
theorem wr_chk {V t : Nat} (hV : V < 2 ^ t) (ht : t ≤ 8000000) : chk (wrS V t) (wrQ V t) (wrN t) = 0 := by
  have hp := wr_part hV
  have hc := pow_cast (t % 8)
  unfold chk
  rw [wrS_size]
  have e : (wrN t).toNat = t % 8 := by unfold wrN; omega
  have hq : 0 ≤ wrQ V t ∧ wrQ V t < (2 : Int) ^ (t % 8) := by
    unfold wrQ
    generalize V / 2 ^ (8 * (t / 8)) = q at *
    omega
  rw [e, if_neg ?_, if_neg (by omega)]
  unfold wrN
  omega
theorem wr_put {V t n v : Nat} (hV : V < 2 ^ t) (hn : n ≤ 32) (hv : v < 2 ^ n) (ht : t + n ≤ 8000000) :
    putE (wrS V t) (wrQ V t) (wrN t) n v = 0 ∧ putS (wrS V t) (wrQ V t) (wrN t) n v = wrS (V + v * 2 ^ t) (t + n) ∧ putQ (wrS V t) (wrQ V t) (wrN t) n v = wrQ (V + v * 2 ^ t) (t + n) ∧ putN (wrS V t) (wrQ V t) (wrN t) n v = wrN (t + n) := by
  have hcn := pow_cast n
  have e0 : putE (wrS V t) (wrQ V t) (wrN t) n v = 0 := by
    unfold putE
    rw [if_pos (wr_chk hV (by omega)), Int.toNat_natCast, if_neg (by omega), wrS_size, if_neg (by unfold wrN; omega)]
  obtain ⟨a, b, c⟩ := put_all V t n v hv
  have q1 : (wrQ V t).toNat = V / 2 ^ (8 * (t / 8)) := by unfold wrQ; rw [Int.toNat_natCast]
  have q2 : (wrN t).toNat = t % 8 := by unfold wrN; omega
  refine ⟨e0, ?_, ?_, ?_⟩
  · unfold putS
    rw [if_pos e0, q1, q2, Int.toNat_natCast, Int.toNat_natCast]
    unfold wrS
    rw [bytes_append, a]
  · unfold putQ
    rw [if_pos e0, q1, q2, Int.toNat_natCast, Int.toNat_natCast, b]
    rfl
  · unfold putN
    rw [if_pos e0]
    unfold wrN
    omega
theorem wr_next {V t n v : Nat} (hV : V < 2 ^ t) (hv : v < 2 ^ n) : V + v * 2 ^ t < 2 ^ (t + n) := by
  have h2 : (v + 1) * 2 ^ t ≤ 2 ^ n * 2 ^ t := Nat.mul_le_mul_right _ hv
  rw [Nat.add_mul, Nat.one_mul] at h2
  rw [Nat.pow_add, Nat.mul_comm (2 ^ t)]
  omega
/-- the string of a writer that is done -/
theorem wr_done {V t : Nat} (hV : V < 2 ^ t) (ht : t ≤ 7000000) : aliE (wrS V t) (wrQ V t) (wrN t) = 0 ∧ aliS (wrS V t) (wrQ V t) (wrN t) = ⟨(leB V ((t + 7) / 8)).toArray⟩ := by
  have hc := wr_chk hV (show t ≤ 8000000 by omega)
  unfold aliE aliS
  rw [if_pos hc, if_pos hc]
  by_cases h0 : wrN t = 0
  · rw [if_pos h0, if_pos h0]
    have e : (t + 7) / 8 = t / 8 := by unfold wrN at h0; omega
    exact ⟨rfl, by rw [e]; rfl⟩
  · rw [if_neg h0, if_neg h0]
    have hr : t % 8 ≠ 0 := by unfold wrN at h0; omega
    have e8 : 8 - wrN t = ((8 - t % 8 : Nat) : Int) := by unfold wrN; omega
    have hk := wr_put (V := V) (t := t) (n := 8 - t % 8) (v := 0) hV (by omega) (Nat.two_pow_pos _) (by omega)
    rw [e8]
    refine ⟨hk.1, hk.2.1.trans ?_⟩
    unfold wrS
    rw [Nat.zero_mul, Nat.add_zero, show (t + (8 - t % 8)) / 8 = (t + 7) / 8 by omega]
/-- lists of numbers behind a writer -/
def V2 (V t : Nat) (l : List (Nat × Nat)) : Nat := V + valP l * 2 ^ t
theorem V2_nil (V t : Nat) : V2 V t [] = V := by simp [V2, valP]
theorem V2_cons (V t : Nat) (x : Nat × Nat) (l : List (Nat × Nat)) : V2 V t (x :: l) = V2 (V + x.2 * 2 ^ t) (t + x.1) l := by
  unfold V2
  simp only [valP]
  rw [Nat.add_mul, Nat.pow_add, ← Nat.add_assoc, Nat.mul_right_comm, Nat.mul_comm (2 ^ x.1 * 2 ^ t), Nat.mul_comm (2 ^ x.1)]
theorem V2_append (V t : Nat) (a b : List (Nat × Nat)) : V2 V t (a ++ b) = V2 (V2 V t a) (t + totP a) b := by
  unfold V2
  rw [valP_append, Nat.add_mul, Nat.mul_assoc, ← Nat.pow_add, ← Nat.add_assoc, Nat.add_comm (totP a) t]
theorem V2_lt {V t : Nat} {l : List (Nat × Nat)} (hV : V < 2 ^ t) (h : fitsP l) : V2 V t l < 2 ^ (t + totP l) := wr_next hV (valP_lt h)
end Go.Proofs.Ytaohhijjalcbiaa
