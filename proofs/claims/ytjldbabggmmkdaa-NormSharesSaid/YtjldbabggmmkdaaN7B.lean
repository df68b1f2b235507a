/-
  Package norm: shares of a size, by the program and by the reference; products of 128 bits.
-/
import Derived.Laws.Bits64b
import Derived.Lib.Mul64
import Derived.Test.YtjldbabggmmkdaaN7A
import Derived.Test.YtjldbabggmmkdaaBits
namespace Go.Proofs.Ytjldbabggmmkdaa
open Go.ChangeShapes Go.WideShapes Go.ChangeAt Go.RowKit Go.Shelf
set_option linter.unusedVariables false
set_option linter.unusedSimpArgs false

theorem twice_div {x n : Int} (hn : 0 < n) : (2 * x) / n = (if n ≤ 2 * (x % n) then 2 * (x / n) + 1 else 2 * (x / n)) ∧ (2 * x) % n = (if n ≤ 2 * (x % n) then 2 * (x % n) - n else 2 * (x % n)) := by
  have h1 := Int.mul_ediv_add_emod x n
  have h2 := Int.emod_nonneg x (show n ≠ 0 by omega)
  have h3 := Int.emod_lt_of_pos x hn
  generalize x / n = q at *
  generalize x % n = r at *
  by_cases h : n ≤ 2 * r
  · rw [if_pos h, if_pos h]
    refine (Int.ediv_emod_unique hn).2 ⟨?_, by omega, by omega⟩
    rw [Int.mul_add, Int.mul_one, ← Int.mul_assoc, Int.mul_comm n 2, Int.mul_assoc]; omega
  · rw [if_neg h, if_neg h]
    refine (Int.ediv_emod_unique hn).2 ⟨?_, by omega, by omega⟩
    rw [← Int.mul_assoc, Int.mul_comm n 2, Int.mul_assoc]; omega
theorem div_le_self' {x n b : Int} (hn : 1 ≤ n) (hx : 0 ≤ x) (hb : x ≤ b) : 0 ≤ x / n ∧ x / n ≤ b :=
  ⟨Int.ediv_nonneg hx (by omega), Int.le_trans (Int.ediv_le_self n hx) hb⟩

theorem share_c (z n : Int) (L : Nat) (hz0 : 0 ≤ z) (hz : z ≤ 1099511627776) (hn : 1 ≤ n) (hn2 : n ≤ 1099511627776) (hL : L ≤ 12) (w : World) :
    Calls Try.prog 38 #[.int .i64 z, .int .i64 n, .int .i64 (L : Int)] w fun e w' => e = .returned (.int .i64 (z * 2 ^ L / n)) ∧ Below w.heap.size w w' := by
  have hb1 := div_le_self' hn hz0 hz
  have hm1 := Int.emod_nonneg z (show n ≠ 0 by omega)
  have hm2 := Int.emod_lt_of_pos z (show 0 < n by omega)
  have e1 : z.tdiv n = z / n := Int.tdiv_eq_ediv_of_nonneg hz0
  have e2 : z.tmod n = z % n := Int.tmod_eq_emod_of_nonneg hz0
  go_enter Try.func38, Try.ntmps38
  go_wp2
  go_quiet (fail)
  go_wp2
  have hp0 : z * 2 ^ 0 = z := by omega
  go_loopw [7, 8, 9] (fun q r i wr => ∃ (k : Nat), k ≤ L ∧ Hid (q = .int .i64 (z * 2 ^ k / n)) ∧ Hid (r = .int .i64 (z * 2 ^ k % n)) ∧ i = .int .i64 (k : Int) ∧ Hid (Below w.heap.size w wr)) (fun _ _ i _ => L - (intOf i).toNat)
  case atStart => exact ⟨0, by omega, (show _ = _ by rw [hp0]), (show _ = _ by rw [hp0]), rfl, Below.drewN' (Below.refl _ _) _⟩
  case round =>
    obtain ⟨k, hk, hq, hr, rfl, hB⟩ := hrel
    obtain ⟨hx0, hx1⟩ : 0 ≤ z * 2 ^ k ∧ z * 2 ^ k ≤ 4503599627370496 := by
      have h1 : (2 : Int) ^ k ≤ 4096 := by
        have h2 : (2 : Nat) ^ k ≤ 2 ^ 12 := Nat.pow_le_pow_right (by omega) (by omega)
        have h3 : ((2 ^ k : Nat) : Int) ≤ ((2 ^ 12 : Nat) : Int) := by exact_mod_cast h2
        simpa using h3
      have h0 : (0 : Int) ≤ 2 ^ k := Int.pow_nonneg (by omega)
      have h4 := Int.mul_le_mul hz h1 h0 (by omega)
      exact ⟨Int.mul_nonneg hz0 h0, by omega⟩
    have hs := twice_div (x := z * 2 ^ k) (show 0 < n by omega)
    have hpw : 2 * (z * 2 ^ k) = z * 2 ^ (k + 1) := by rw [Int.pow_succ, Int.mul_left_comm, Int.mul_comm 2 (2 ^ k)]
    rw [hpw] at hs
    have hqb := div_le_self' hn hx0 hx1
    have hr0 := Int.emod_nonneg (z * 2 ^ k) (show n ≠ 0 by omega)
    have hr1 := Int.emod_lt_of_pos (z * 2 ^ k) (show 0 < n by omega)
    obtain rfl := hq.out
    obtain rfl := hr.out
    by_cases hlt : k < L
    · clear hp0 hpw hq hr
      generalize z * 2 ^ k / n = q at *
      generalize z * 2 ^ k % n = r at *
      by_cases h : n ≤ 2 * r
      · rw [if_pos h, if_pos h] at hs
        have HS := Lib.hid hs
        clear hs hb1 hm1 hm2 e1 e2 hx0 hx1
        go_wp2
        go_roundw
        case rel => exact ⟨k + 1, by omega, (show _ = _ by rw [HS.out.1]), (show _ = _ by rw [HS.out.2]), by go_num, hB⟩
        case measure => simp [intOf]; omega
      · rw [if_neg h, if_neg h] at hs
        have HS := Lib.hid hs
        clear hs hb1 hm1 hm2 e1 e2 hx0 hx1
        go_wp2
        go_roundw
        case rel => exact ⟨k + 1, by omega, (show _ = _ by rw [HS.out.1]), (show _ = _ by rw [HS.out.2]), by go_num, hB⟩
        case measure => simp [intOf]; omega
    · obtain rfl : k = L := by omega
      clear hp0 hpw hq hr hs
      go_wp2
      go_ret
      exact ⟨rfl, hB.out⟩

theorem maskN (a : Nat) (ha : a < 18446744073709551616) : bits .and .u64 (a : Int) 4294967295 = ((a % 4294967296 : Nat) : Int) := by
  have h := bits_and_u64_nat a 4294967295 ha (by omega)
  have e : a &&& 4294967295 = a % 4294967296 := Nat.and_two_pow_sub_one_eq_mod a 32
  rw [e] at h
  exact h
theorem divN (a : Nat) : (a : Int) / 4294967296 = ((a / 4294967296 : Nat) : Int) := by omega
theorem mulN (a b : Nat) : (a : Int) * (b : Int) = ((a * b : Nat) : Int) := (Int.natCast_mul a b).symm
theorem addN (a b : Nat) : (a : Int) + (b : Int) = ((a + b : Nat) : Int) := (Int.natCast_add a b).symm
theorem wrapN (a : Nat) (ha : a < 18446744073709551616) : IntKind.u64.wrap (a : Int) = (a : Int) := by rw [IntKind.wrap_u64]; omega
theorem wrapM (a : Nat) : IntKind.u64.wrap (a : Int) = ((a % 18446744073709551616 : Nat) : Int) := by rw [IntKind.wrap_u64]; omega
set_option maxHeartbeats 1000000 in
theorem mul64_c (x y : Nat) (hx : x < 18446744073709551616) (hy : y < 18446744073709551616) (w : World) :
    Calls Try.prog 58 #[.int .u64 x, .int .u64 y] w fun e w' => e = .returned (.tuple #[.int .u64 ((x * y / 18446744073709551616 : Nat) : Int), .int .u64 ((x * y % 18446744073709551616 : Nat) : Int)]) ∧ w' = w := by
  obtain ⟨bd, bt, bw, hhi⟩ := Lib.mul64_hi x y hx hy
  have ba := Lib.half_mul_le (a := x / 4294967296) (b := y / 4294967296) (by omega) (by omega)
  have bb := Lib.half_mul_le (a := x / 4294967296) (b := y % 4294967296) (by omega) (by omega)
  have bc := Lib.half_mul_le (a := x % 4294967296) (b := y / 4294967296) (by omega) (by omega)
  have ba' : x / 4294967296 * (y / 4294967296) < 18446744073709551616 := by omega
  have bb' : x / 4294967296 * (y % 4294967296) < 18446744073709551616 := by omega
  have bc' : x % 4294967296 * (y / 4294967296) < 18446744073709551616 := by omega
  have bh1 : x / 4294967296 * (y / 4294967296) + (x / 4294967296 * (y % 4294967296) + x % 4294967296 * (y % 4294967296) / 4294967296) / 4294967296 < 18446744073709551616 := by omega
  have bh : x / 4294967296 * (y / 4294967296) + (x / 4294967296 * (y % 4294967296) + x % 4294967296 * (y % 4294967296) / 4294967296) / 4294967296 + ((x / 4294967296 * (y % 4294967296) + x % 4294967296 * (y % 4294967296) / 4294967296) % 4294967296 + x % 4294967296 * (y / 4294967296)) / 4294967296 < 18446744073709551616 := by omega
  go_enter Try.func58, Try.ntmps58
  go_wp2
  simp only [maskN x hx, maskN y hy, divN, mulN, addN, wrapN _ bd, wrapN _ bb', wrapN _ bt, maskN _ bt, wrapN _ bc', wrapN _ bw, wrapN _ ba', wrapN _ bh1, wrapN _ bh, wrapM (x * y)]
  rw [hhi]
  go_ret2
  exact ⟨rfl, rfl⟩
theorem times_c (a b : Int) (ha : 0 ≤ a) (hb : 0 ≤ b) (hab : a * b ≤ 9223372036854775807) (ha2 : a ≤ 9223372036854775807) (hb2 : b ≤ 9223372036854775807) (w : World) :
    Calls Try.prog 44 #[.int .i64 a, .int .i64 b] w fun e w' => e = .returned (.tuple #[.int .i64 (a * b), .int .i64 0]) ∧ w' = w := by
  obtain ⟨x, rfl⟩ : ∃ x : Nat, a = x := ⟨a.toNat, by omega⟩
  obtain ⟨y, rfl⟩ : ∃ y : Nat, b = y := ⟨b.toNat, by omega⟩
  have hxy : x * y ≤ 9223372036854775807 := by
    rw [mulN] at hab
    omega
  have hm := mul64_c x y (by omega) (by omega)
  rw [Nat.div_eq_of_lt (by omega), Nat.mod_eq_of_lt (show x * y < 18446744073709551616 by omega)] at hm
  rw [mulN]
  generalize x * y = p at *
  clear hab
  go_enter Try.func44, Try.ntmps44
  go_wp2_with (go_at_call 58; (with_reducible refine (hm _).mono ?_); rintro e w2 ⟨rfl, rfl⟩)
  go_ret2
  exact ⟨rfl, rfl⟩
end Go.Proofs.Ytjldbabggmmkdaa
