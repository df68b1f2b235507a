/-
  What the functions of bits do, the project's own and the reference's: the highest bit, the number of bits, the next power of two, the lowest bits. None of them changes the world.
-/
import Derived.Test.YtaohhijjalcbiaaAid
import Derived.Test.YtaohhijjalcbiaaProg
import Derived.Test.YtaohhijjalcbiaaNum
import Derived.WalkKit
import Derived.ProofKit
import Derived.OpenShut
import Derived.Lib.Hide
namespace Go.Proofs.Ytaohhijjalcbiaa
open Go.ChangeShapes Go.WideShapes Go.ChangeAt Go.RowKit

theorem high_any (n : Int) (_h0 : -9223372036854775808 ≤ n) (h1 : n ≤ 9223372036854775807) (w : World) :
    Calls Try.prog 97 #[.int .i64 n] w fun e w' => e = .returned (.int .i64 ((nb n : Int) - 1)) ∧ w = w' := by
  have hl := nb_le h1
  go_enter Try.func97, Try.ntmps97
  go_wp2
  go_loop [3, 4] (fun _ i => ∃ k : Nat, k ≤ 63 ∧ k ≤ nb n ∧ i = .int .i64 k) (fun _ i => 63 - (intOf i).toNat)
  case atStart => exact ⟨0, by omega, by omega, rfl⟩
  case round =>
    obtain ⟨k, hk, hk2, rfl⟩ := hrel
    by_cases hlt : k < 63
    · go_wp2
      · have hs : n / 2 ^ k < 1 := by assumption
        have hn := nb_stop hk2 hs
        go_ret
        exact ⟨ret_int (by rw [hn]), rfl⟩
      · have hs : 1 ≤ n / 2 ^ k := by assumption
        have hn := nb_go hs
        go_round
        case rel => exact ⟨k + 1, by omega, hn, by go_num⟩
        case measure => simp [intOf]; omega
    · go_wp2
      go_ret
      exact ⟨ret_int (by omega), rfl⟩

theorem refHigh_any (n : Int) (_h0 : -9223372036854775808 ≤ n) (h1 : n ≤ 9223372036854775807) (w : World) :
    Calls Try.prog 79 #[.int .i64 n] w fun e w' => e = .returned (.int .i64 ((nb n : Int) - 1)) ∧ w = w' := by
  have hl := nb_le h1
  go_enter Try.func79, Try.ntmps79
  go_wp2
  go_loop [0, 3] (fun m h => ∃ (x : Int) (j : Nat), x ≤ 9223372036854775807 ∧ j + nb x = nb n ∧ m = .int .i64 x ∧ h = .int .i64 ((j : Int) - 1)) (fun m _ => nb (intOf m))
  case atStart => exact ⟨n, 0, h1, by omega, rfl, by go_num⟩
  case round =>
    obtain ⟨x, j, hx, hj, rfl, rfl⟩ := hrel
    by_cases hlt : 1 ≤ x
    · have hh := nb_half hlt
      go_wp2
      go_round
      case rel => exact ⟨x / 2, j + 1, by omega, by omega, rfl, by go_num⟩
      case measure => simp [intOf]; omega
    · have hz := nb_low (n := x) (by omega)
      go_wp2
      go_ret
      exact ⟨ret_int (by omega), rfl⟩

theorem bits_any (n : Int) (h0 : -9223372036854775808 ≤ n) (h1 : n ≤ 9223372036854775807) (w : World) :
    Calls Try.prog 87 #[.int .i64 n] w fun e w' => e = .returned (.int .i64 (nb n : Int)) ∧ w = w' := by
  have hl := nb_le h1
  go_enter Try.func87, Try.ntmps87
  go_wp2_with (go_at_call 97; refine (high_any _ h0 h1 _).mono ?_; rintro e w' ⟨rfl, rfl⟩)
  go_ret
  exact ⟨ret_int (by omega), rfl⟩

theorem refBits_any (n : Int) (h0 : -9223372036854775808 ≤ n) (h1 : n ≤ 9223372036854775807) (w : World) :
    Calls Try.prog 54 #[.int .i64 n] w fun e w' => e = .returned (.int .i64 (nb n : Int)) ∧ w = w' := by
  have hl := nb_le h1
  go_enter Try.func54, Try.ntmps54
  go_wp2_with (go_at_call 79; refine (refHigh_any _ h0 h1 _).mono ?_; rintro e w' ⟨rfl, rfl⟩)
  go_ret
  exact ⟨ret_int (by omega), rfl⟩

theorem ret_low {a b : Int} {k : Int} (h : a = b) : Ending.returned (.tuple #[.int .u64 a, .int .i64 k]) = .returned (.tuple #[.int .u64 b, .int .i64 k]) := by rw [h]

end Go.Proofs.Ytaohhijjalcbiaa
