/-
  The project's cursors: a number of n bytes.
-/
import Derived.Test.YtipigfngeiodlaaO4D
namespace Go.Proofs.Ytipigfngeiodlaa
open Go.ChangeShapes Go.WideShapes Go.ChangeAt Go.RowKit
set_option linter.unusedVariables false

/-- one byte more at the head of a number -/
theorem or_byte8 (S : ByteArray) (j : Nat) (x : Nat) (hx : x = leN S 0 j) (hj : j ≤ 7) (hs : j < S.size) (p : Int) (hp : (2 : Int) ^ (8 * j) = p) :
    bits BinOp.or IntKind.u64 (x : Int) (IntKind.u64.wrap (IntKind.u64.wrap ((S[j]'hs).toNat : Int) * p)) = (leN S 0 (j + 1) : Nat) := by
  have h1 := (S[j]'hs).toNat_lt
  have h2 : 2 ^ (8 * j) ≤ 2 ^ 56 := Nat.pow_le_pow_right (by omega) (by omega)
  have h3 : (S[j]'hs).toNat * 2 ^ (8 * j) ≤ 255 * 2 ^ (8 * j) := Nat.mul_le_mul_right _ (by omega)
  have e : ((S[j]'hs).toNat : Int) * p = (((S[j]'hs).toNat * 2 ^ (8 * j) : Nat) : Int) := by rw [← hp]; simp
  have h4 := leN_lt S 0 j
  rw [IntWalk.u64_in ((S[j]'hs).toNat : Int) ⟨by omega, by omega⟩, e, IntWalk.u64_in _ ⟨by omega, by omega⟩, u64_or_nat _ _ (by omega) (by omega)]
  congr 1
  rw [hx]
  simp only [leN]
  rw [byteAt_of S (0 + j) (by omega)]
  have e2 : S[0 + j]'(by omega) = S[j]'hs := by congr 1; omega
  rw [e2]
  generalize (S[j]'hs).toNat = q
  rw [Nat.or_comm, Nat.add_comm, Nat.mul_comm _ (2 ^ (8 * j)), Nat.two_pow_add_eq_or_of_lt h4]

theorem number_walk (g : Nat) (S s : ByteArray) (A E F n a e f : Int) (t : ByteArray) (ht : t.size ≤ 8)
    (hP : ∀ v, Blk v g 53 (at4 S A E F) → Calls Try.prog 37 #[.pointer (some ⟨g, 0, none⟩), .int .i64 0, .int .i64 n] v fun r w' => r = .returned (.string t) ∧ Blk w' g 53 (at4 s a e f) ∧ v.grownBy w' (some g))
    (w : World) (hb : Blk w g 53 (at4 S A E F)) :
    Calls Try.prog 35 #[.pointer (some ⟨g, 0, none⟩), .int .i64 n] w fun r w' => r = .returned (.int .u64 (leN t 0 t.size : Nat)) ∧ Blk w' g 53 (at4 s a e f) ∧ w.grownBy w' (some g) := by
  have HB := Lib.hid hb
  clear hb
  go_enter Try.func35, Try.ntmps35
  go_wp2_with ((go_at_call 37; (with_reducible refine (hP _ HB.out).mono ?_); rintro r w1 ⟨rfl, hb1, hg1⟩))
  have K := Lib.hid (And.intro hb1 hg1)
  clear hb1 hg1
  go_loop [4, 6, 12] (fun x _ i => ∃ (j y : Nat), j ≤ t.size ∧ Hid (y = leN t 0 j) ∧ x = .int .u64 (y : Int) ∧ i = .int .i64 (j : Int)) (fun _ _ i => t.size - (intOf i).toNat)
  case atStart => exact ⟨0, 0, by omega, rfl, rfl, rfl⟩
  case round =>
    obtain ⟨j, y, hj, hy, rfl, rfl⟩ := hrel
    by_cases hlt : j < t.size
    · obtain ⟨q, hqe⟩ : ∃ q : Int, (2 : Int) ^ (8 * j) = q := ⟨_, rfl⟩
      go_wp2
      go_round
      case rel => exact ⟨j + 1, leN t 0 (j + 1), by omega, rfl, by rw [or_byte8 t j y hy.out (by omega) hlt q hqe], by go_num⟩
      case measure => simp [intOf]; omega
    · obtain rfl : j = t.size := by omega
      have hfin : (y : Int) = (leN t 0 t.size : Nat) := by rw [hy.out]
      have HF := Lib.hid hfin
      clear hfin hy
      go_wp2
      go_ret
      exact ⟨by rw [← HF.out]; rfl, K.out.1, K.out.2⟩
end Go.Proofs.Ytipigfngeiodlaa
