/-
  What the functions of bits do, the project's own and the reference's: the highest bit, the number of bits, the next power of two, the lowest bits. None of them changes the world.
-/
import Derived.Test.YtjflkjkkamapdaaProg
import Derived.Test.YtjflkjkkamapdaaNum
import Derived.WalkKit
import Derived.ProofKit
import Derived.OpenShut
import Derived.Lib.Hide
namespace Go.Proofs.Ytjflkjkkamapdaa
open Go.ChangeShapes Go.WideShapes Go.ChangeAt Go.RowKit

theorem ret_int {k : IntKind} {a b : Int} (h : a = b) : Ending.returned (.int k a) = .returned (.int k b) := by rw [h]

theorem high_any (n : Int) (_h0 : -9223372036854775808 ≤ n) (h1 : n ≤ 9223372036854775807) (w : World) :
    Calls Try.prog 12 #[.int .i64 n] w fun e w' => e = .returned (.int .i64 ((nb n : Int) - 1)) ∧ w = w' := by
  have hl := nb_le h1
  go_enter Try.func12, Try.ntmps12
  go_wp2
  go_loop [3, 4] (fun _ i => ∃ k : Nat, k ≤ 63 ∧ k ≤ nb n ∧ i = .int .i64 k) (fun _ i => 63 - (intOf i).toNat)
  case atStart => exact ⟨0, by omega, by omega, rfl⟩
  case round =>
    obtain ⟨k, hk, hk2, rfl⟩ := hrel
    by_cases hlt : k < 63
    · go_wp2
      · have hs : n / 2 ^ k < 1 := by assumption
        have hn := nb_stop hk2 hs
        go_ret
        exact ⟨ret_int (by rw [hn]), rfl⟩
      · have hs : 1 ≤ n / 2 ^ k := by assumption
        have hn := nb_go hs
        go_round
        case rel => exact ⟨k + 1, by omega, hn, by go_num⟩
        case measure => simp [intOf]; omega
    · go_wp2
      go_ret
      exact ⟨ret_int (by omega), rfl⟩

theorem refHigh_any (n : Int) (_h0 : -9223372036854775808 ≤ n) (h1 : n ≤ 9223372036854775807) (w : World) :
    Calls Try.prog 13 #[.int .i64 n] w fun e w' => e = .returned (.int .i64 ((nb n : Int) - 1)) ∧ w = w' := by
  have hl := nb_le h1
  go_enter Try.func13, Try.ntmps13
  go_wp2
  go_loop [0, 3] (fun m h => ∃ (x : Int) (j : Nat), x ≤ 9223372036854775807 ∧ j + nb x = nb n ∧ m = .int .i64 x ∧ h = .int .i64 ((j : Int) - 1)) (fun m _ => nb (intOf m))
  case atStart => exact ⟨n, 0, h1, by omega, rfl, by go_num⟩
  case round =>
    obtain ⟨x, j, hx, hj, rfl, rfl⟩ := hrel
    by_cases hlt : 1 ≤ x
    · have hh := nb_half hlt
      go_wp2
      go_round
      case rel => exact ⟨x / 2, j + 1, by omega, by omega, rfl, by go_num⟩
      case measure => simp [intOf]; omega
    · have hz := nb_low (n := x) (by omega)
      go_wp2
      go_ret
      exact ⟨ret_int (by omega), rfl⟩

theorem bits_any (n : Int) (h0 : -9223372036854775808 ≤ n) (h1 : n ≤ 9223372036854775807) (w : World) :
    Calls Try.prog 14 #[.int .i64 n] w fun e w' => e = .returned (.int .i64 (nb n : Int)) ∧ w = w' := by
  have hl := nb_le h1
  go_enter Try.func14, Try.ntmps14
  go_wp2_with (go_at_call 12; refine (high_any _ h0 h1 _).mono ?_; rintro e w' ⟨rfl, rfl⟩)
  go_ret
  exact ⟨ret_int (by omega), rfl⟩

theorem refBits_any (n : Int) (h0 : -9223372036854775808 ≤ n) (h1 : n ≤ 9223372036854775807) (w : World) :
    Calls Try.prog 15 #[.int .i64 n] w fun e w' => e = .returned (.int .i64 (nb n : Int)) ∧ w = w' := by
  have hl := nb_le h1
  go_enter Try.func15, Try.ntmps15
  go_wp2_with (go_at_call 13; refine (refHigh_any _ h0 h1 _).mono ?_; rintro e w' ⟨rfl, rfl⟩)
  go_ret
  exact ⟨ret_int (by omega), rfl⟩

theorem up_any (n : Int) (h0 : -9223372036854775808 ≤ n) (h1 : n ≤ 9223372036854775807) (w : World) :
    Calls Try.prog 16 #[.int .i64 n] w fun e w' => e = .returned (.int .i64 (up n : Int)) ∧ w = w' := by
  by_cases h : n < 1
  · have e : up n = nb 0 := by rw [up_two (by omega), nb_low (by omega)]
    go_enter Try.func16, Try.ntmps16
    go_wp2_with (go_at_call 14; refine (bits_any _ (by omega) (by omega) _).mono ?_; rintro e w' ⟨rfl, rfl⟩)

    go_ret
    exact ⟨ret_int (by rw [e]), rfl⟩
  · go_enter Try.func16, Try.ntmps16
    go_wp2_with (go_at_call 14; refine (bits_any _ (by omega) (by omega) _).mono ?_; rintro e w' ⟨rfl, rfl⟩)

    go_ret
    exact ⟨ret_int (by unfold up; rw [if_neg (by omega)]), rfl⟩

theorem refUp_any (n : Int) (h0 : -9223372036854775808 ≤ n) (h1 : n ≤ 9223372036854775807) (w : World) :
    Calls Try.prog 17 #[.int .i64 n] w fun e w' => e = .returned (.int .i64 (up n : Int)) ∧ w = w' := by
  by_cases h : n < 2
  · have e : up n = 0 := up_two h
    go_enter Try.func17, Try.ntmps17
    go_wp2
    go_ret
    exact ⟨ret_int (by omega), rfl⟩
  · have e : up n = nb (n - 1) := up_more (by omega)
    have hl := nb_le (n := n - 1) (by omega)
    go_enter Try.func17, Try.ntmps17
    go_wp2_with (go_at_call 13; refine (refHigh_any _ (by omega) (by omega) _).mono ?_; rintro e w' ⟨rfl, rfl⟩)
    go_ret
    exact ⟨ret_int (by omega), rfl⟩

theorem low_bad (n b : Int) (hb : b < 0 ∨ 64 < b) (w : World) :
    Calls Try.prog 10 #[.int .u64 n, .int .i64 b] w fun e w' => e = .returned (.tuple #[.int .u64 0, .int .i64 2]) ∧ w = w' := by
  rcases hb with h | h
  · go_enter Try.func10, Try.ntmps10
    go_wp2
    go_ret2
    exact ⟨rfl, rfl⟩
  · go_enter Try.func10, Try.ntmps10
    go_wp2
    go_ret2
    exact ⟨rfl, rfl⟩

theorem refLow_bad (n b : Int) (hb : b < 0 ∨ 64 < b) (w : World) :
    Calls Try.prog 11 #[.int .u64 n, .int .i64 b] w fun e w' => e = .returned (.tuple #[.int .u64 0, .int .i64 2]) ∧ w = w' := by
  rcases hb with h | h
  · go_enter Try.func11, Try.ntmps11
    go_wp2
    go_ret2
    exact ⟨rfl, rfl⟩
  · go_enter Try.func11, Try.ntmps11
    go_wp2
    go_ret2
    exact ⟨rfl, rfl⟩

theorem ret_low {a b : Int} {k : Int} (h : a = b) : Ending.returned (.tuple #[.int .u64 a, .int .i64 k]) = .returned (.tuple #[.int .u64 b, .int .i64 k]) := by rw [h]

theorem low_any (n b : Nat) (hb : b ≤ 64) (h1 : n < 18446744073709551616) (w : World) :
    Calls Try.prog 10 #[.int .u64 (n : Int), .int .i64 (b : Int)] w fun e w' => e = .returned (.tuple #[.int .u64 ((n % 2 ^ b : Nat) : Int), .int .i64 0]) ∧ w = w' := by
  have hm := Lib.hid (low_mask n b hb h1)
  go_enter Try.func10, Try.ntmps10
  go_wp2
  go_ret2
  exact ⟨ret_low hm.out, rfl⟩

theorem refLow_any (n b : Nat) (hb : b ≤ 64) (h1 : n < 18446744073709551616) (w : World) :
    Calls Try.prog 11 #[.int .u64 (n : Int), .int .i64 (b : Int)] w fun e w' => e = .returned (.tuple #[.int .u64 ((n % 2 ^ b : Nat) : Int), .int .i64 0]) ∧ w = w' := by
  have hx1 : ((n / 2 ^ 0 : Nat) : Int) = n := by simp
  have ho1 : ((n % 2 ^ 0 : Nat) : Int) = 0 := by simp [Nat.mod_one]
  have hp1 : ((2 ^ 0 : Nat) : Int) = 1 := by simp
  have hx2 := Lib.hid hx1
  have ho2 := Lib.hid ho1
  have hp2 := Lib.hid hp1
  clear hx1 ho1 hp1
  go_enter Try.func11, Try.ntmps11
  go_wp2
  go_loop [0, 6, 7, 8] (fun m o p i => ∃ (x out pl : Int) (k : Nat), k ≤ b ∧ 0 ≤ x ∧ x ≤ n ∧ Hid (x = ((n / 2 ^ k : Nat) : Int)) ∧ Hid (out = ((n % 2 ^ k : Nat) : Int)) ∧ Hid (k < 64 → pl = ((2 ^ k : Nat) : Int)) ∧ m = .int .u64 x ∧ o = .int .u64 out ∧ p = .int .u64 pl ∧ i = .int .i64 (k : Int)) (fun _ _ _ i => b - (intOf i).toNat)
  case atStart => exact ⟨n, 0, 1, 0, by omega, by omega, by omega, hx2.out.symm, ho2.out.symm, fun _ => hp2.out.symm, rfl, rfl, rfl, rfl⟩
  case round =>
    obtain ⟨x, out, pl, k, hk, hx0, hx1, hx, ho, hp, rfl, rfl, rfl, rfl⟩ := hrel
    by_cases hlt : k < b
    · go_wp2
      go_round
      case rel =>
        have ex := hx.out
        have eo := ho.out
        have ep := hp.out (by omega)
        refine ⟨_, _, _, k + 1, by omega, ?_, ?_, ?_, ?_, ?_, rfl, rfl, rfl, by go_num⟩
        · omega
        · omega
        · show _ = _
          rw [ex, half_step]
        · show _ = _
          rw [ex, eo, ep, low_step n k (by omega)]
        · intro h64
          rw [ep, place_step k (by omega)]
      case measure => simp [intOf]; omega
    · obtain rfl : k = b := by omega
      go_wp2
      go_ret2
      exact ⟨ret_low ho.out, rfl⟩
end Go.Proofs.Ytjflkjkkamapdaa
