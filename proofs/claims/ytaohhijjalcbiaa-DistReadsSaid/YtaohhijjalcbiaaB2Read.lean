/-
  The reference's readers of bits: Right, Read, and the number of some bits.
-/
import Derived.Test.YtaohhijjalcbiaaB2Put

namespace Go.Proofs.Ytaohhijjalcbiaa
open Go.ChangeShapes Go.WideShapes Go.ChangeAt Go.RowKit
set_option linter.unusedVariables false

/-- what Right answers -/
def rgt (S : ByteArray) (B : Int) : Int := if 1048576 < S.size then 4 else if B < 0 ∨ 8 * (S.size : Int) < B then 2 else 0

theorem refRight_any (S : ByteArray) (B : Int) (hS : S.size ≤ maxLen) (w : World) :
    Calls Try.prog 66 #[.agg #[.string S, .int .i64 B]] w fun e w' => e = .returned (.int .i64 (rgt S B)) ∧ Below w.heap.size w w' := by
  unfold maxLen at hS
  by_cases h1 : 1048576 < S.size
  · have e : rgt S B = 4 := by unfold rgt; rw [if_pos h1]
    rw [e]
    go_enter Try.func66, Try.ntmps66
    go_wp2
    go_ret
    exact ⟨rfl, (Below.refl _ _).alloc (Nat.le_refl _) _⟩
  · by_cases h2 : B < 0
    · have e : rgt S B = 2 := by unfold rgt; rw [if_neg h1, if_pos (.inl h2)]
      rw [e]
      go_enter Try.func66, Try.ntmps66
      go_wp2
      go_ret
      exact ⟨rfl, (Below.refl _ _).alloc (Nat.le_refl _) _⟩
    · by_cases h3 : 8 * (S.size : Int) < B
      · have e : rgt S B = 2 := by unfold rgt; rw [if_neg h1, if_pos (.inr h3)]
        rw [e]
        go_enter Try.func66, Try.ntmps66
        go_wp2
        go_ret
        exact ⟨rfl, (Below.refl _ _).alloc (Nat.le_refl _) _⟩
      · have e : rgt S B = 0 := by unfold rgt; rw [if_neg h1, if_neg (by omega)]
        rw [e]
        go_enter Try.func66, Try.ntmps66
        go_wp2
        go_ret
        exact ⟨rfl, (Below.refl _ _).alloc (Nat.le_refl _) _⟩

/-- Read's error -/
def reaE (S : ByteArray) (a : Int) : Int := if 1048576 < S.size then 4 else if a < 0 ∨ (S.size : Int) < a then 2 else 0
def reaS (S : ByteArray) (a : Int) : ByteArray := if reaE S a = 0 then S else ⟨#[]⟩
def reaB (S : ByteArray) (a : Int) : Int := if reaE S a = 0 then 8 * a else 0

theorem num_step (S : ByteArray) (b k : Nat) (x : Int) (hk : k < 32) (hx : x = (numB S b k : Nat)) (hq : (b + k) / 8 < S.size) :
    wrap64 (x + wrap64 (bits BinOp.and IntKind.i64 (wrap64 ((S[(b + k) / 8]'hq).toNat : Int) / 2 ^ ((b + k) % 8)) 1 * 2 ^ k)) = (numB S b (k + 1) : Nat) := by
  have hc := (S[(b + k) / 8]'hq).toNat_lt
  have e0 : wrap64 ((S[(b + k) / 8]'hq).toNat : Int) = ((S[(b + k) / 8]'hq).toNat : Int) := IntWalk.wrap64_in _ ⟨by omega, by omega⟩
  have e1 : bits BinOp.and IntKind.i64 (((S[(b + k) / 8]'hq).toNat : Int) / 2 ^ ((b + k) % 8)) 1 = ((bitAt S (b + k) : Nat) : Int) := by
    rw [bit_at _ _ (by omega)]
    unfold bitAt
    rw [dif_pos hq]
  have h2 := bitAt_lt S (b + k)
  have h3 : bitAt S (b + k) * 2 ^ k ≤ 1 * 2 ^ k := Nat.mul_le_mul_right _ (by omega)
  have h4 : 2 ^ k ≤ 2 ^ 32 := Nat.pow_le_pow_right (by omega) (by omega)
  have h5 := numB_le S b k (by omega)
  have e2 : ((bitAt S (b + k) : Nat) : Int) * 2 ^ k = ((bitAt S (b + k) * 2 ^ k : Nat) : Int) := by simp
  rw [e0, e1, e2, IntWalk.wrap64_in ((bitAt S (b + k) * 2 ^ k : Nat) : Int) ⟨by omega, by omega⟩, IntWalk.wrap64_in _ ⟨by omega, by omega⟩, hx]
  simp only [numB]
  omega
theorem refNumber_any (S : ByteArray) (b n : Nat) (hS : S.size ≤ 1048576) (hb : b ≤ 8 * S.size) (hn : n ≤ 32) (w : World) :
    Calls Try.prog 96 #[.agg #[.string S, .int .i64 (b : Int)], .int .i64 (n : Int)] w fun e w' => e = .returned (.int .i64 (numB S b n : Nat)) ∧ Below w.heap.size w w' := by
  go_enter Try.func96, Try.ntmps96
  go_wp2
  go_loop [5, 6, 7] (fun o i _ => ∃ (k : Nat) (x : Int), k ≤ n ∧ 0 ≤ x ∧ x ≤ 4294967296 ∧ Hid (x = (numB S b k : Nat)) ∧ o = .int .i64 x ∧ i = .int .i64 (k : Int)) (fun _ i _ => n - (intOf i).toNat)
  case atStart => exact ⟨0, 0, by omega, by omega, by omega, rfl, rfl, rfl⟩
  case round =>
    obtain ⟨k, x, hk, hx0, hx1, hx, rfl, rfl⟩ := hrel
    by_cases hlt : k < n
    · by_cases hin : b + k < 8 * S.size
      · have hq : (b + k) / 8 < S.size := by omega
        go_wp2
        go_round
        case rel =>
          have hle := numB_le S b (k + 1) (by omega)
          exact ⟨k + 1, _, by omega, by omega, by omega, rfl, by rw [num_step S b k x (by omega) hx.out hq], by go_num⟩
        case measure => simp [intOf]; omega
      · go_wp2
        go_round
        case rel => exact ⟨k + 1, x, by omega, hx0, hx1, by show _ = _; rw [num_out S b k (by omega)]; exact hx.out, rfl, by go_num⟩
        case measure => simp [intOf]; omega
    · obtain rfl : k = n := by omega
      go_wp2
      go_ret
      exact ⟨ret_int hx.out, (Below.refl _ _).alloc (Nat.le_refl _) _⟩
end Go.Proofs.Ytaohhijjalcbiaa
