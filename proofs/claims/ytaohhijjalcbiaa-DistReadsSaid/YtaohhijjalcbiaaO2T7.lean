/-
  The project's readers of bits: checks, the number of some bits, Right and Read.
-/
import Derived.Test.YtaohhijjalcbiaaO2T6
import Derived.Test.YtaohhijjalcbiaaB2Take
import Derived.Test.YtaohhijjalcbiaaLeN
namespace Go.Proofs.Ytaohhijjalcbiaa
open Go.ChangeShapes Go.WideShapes Go.ChangeAt Go.RowKit
set_option linter.unusedVariables false

theorem rCheck_any (S : ByteArray) (B : Int) (hS : S.size ≤ maxLen) (w : World) :
    Calls Try.prog 85 #[.agg #[.string S, .int .i64 B]] w fun e w' => e = .returned (.int .i64 (rgt S B)) ∧ Below w.heap.size w w' := by
  unfold maxLen at hS
  by_cases h1 : 1048576 < S.size
  · have e : rgt S B = 4 := by unfold rgt; rw [if_pos h1]
    rw [e]
    go_enter Try.func85, Try.ntmps85
    go_wp2
    go_ret
    exact ⟨rfl, (Below.refl _ _).alloc (Nat.le_refl _) _⟩
  · by_cases h2 : B < 0
    · have e : rgt S B = 2 := by unfold rgt; rw [if_neg h1, if_pos (.inl h2)]
      rw [e]
      go_enter Try.func85, Try.ntmps85
      go_wp2
      go_ret
      exact ⟨rfl, (Below.refl _ _).alloc (Nat.le_refl _) _⟩
    · by_cases h3 : 8 * (S.size : Int) < B
      · have e : rgt S B = 2 := by unfold rgt; rw [if_neg h1, if_pos (.inr h3)]
        rw [e]
        go_enter Try.func85, Try.ntmps85
        go_wp2
        go_ret
        exact ⟨rfl, (Below.refl _ _).alloc (Nat.le_refl _) _⟩
      · have e : rgt S B = 0 := by unfold rgt; rw [if_neg h1, if_neg (by omega)]
        rw [e]
        go_enter Try.func85, Try.ntmps85
        go_wp2
        go_ret
        exact ⟨rfl, (Below.refl _ _).alloc (Nat.le_refl _) _⟩

theorem ownRRight_any (S : ByteArray) (B : Int) (hS : S.size ≤ maxLen) (w : World) :
    Calls Try.prog 62 #[.agg #[.string S, .int .i64 B]] w fun e w' => e = .returned (.int .i64 (rgt S B)) ∧ Below w.heap.size w w' := by
  have hC := fun u => rCheck_any S B hS u
  generalize rgt S B = c at *
  go_enter Try.func62, Try.ntmps62
  go_wp2_with (go_at_call 85; (with_reducible refine (hC _).mono ?_); rintro e w1 ⟨rfl, hb1⟩)
  go_ret
  exact ⟨rfl, ((Below.refl _ _).alloc (Nat.le_refl _) _).trans (hb1.mono (by simp))⟩

/-- what refuse answers -/
theorem rRefuse_any (S : ByteArray) (B n : Int) (hS : S.size ≤ maxLen) (w : World) :
    Calls Try.prog 93 #[.agg #[.string S, .int .i64 B], .int .i64 n] w fun e w' => e = .returned (.int .i64 (pekE S B n)) ∧ Below w.heap.size w w' := by
  have hC := fun u => rCheck_any S B hS u
  have hW := fun u => ownWidth n u
  by_cases hc : rgt S B = 0
  · rw [hc] at hC
    by_cases hr : n < 0 ∨ 32 < n
    · have e : pekE S B n = 2 := by unfold pekE; rw [if_pos hc, if_pos hr]
      have e2 : isW n = false := by unfold isW; simp; omega
      rw [e]
      rw [e2] at hW
      clear e e2 hc
      go_enter Try.func93, Try.ntmps93
      go_wp2_with (first | (go_at_call 85; (with_reducible refine (hC _).mono ?_); rintro e w1 ⟨rfl, hb1⟩) | (go_at_call 99; (with_reducible refine (hW _).mono ?_); rintro e w2 ⟨rfl, rfl⟩))
      go_ret
      exact ⟨rfl, ((Below.refl _ _).alloc (Nat.le_refl _) _).trans (hb1.mono (by simp))⟩
    · have e : pekE S B n = 0 := by unfold pekE; rw [if_pos hc, if_neg hr]
      have e2 : isW n = true := by unfold isW; simp; omega
      rw [e]
      rw [e2] at hW
      clear e e2 hc
      go_enter Try.func93, Try.ntmps93
      go_wp2_with (first | (go_at_call 85; (with_reducible refine (hC _).mono ?_); rintro e w1 ⟨rfl, hb1⟩) | (go_at_call 99; (with_reducible refine (hW _).mono ?_); rintro e w2 ⟨rfl, rfl⟩))
      go_ret
      exact ⟨rfl, ((Below.refl _ _).alloc (Nat.le_refl _) _).trans (hb1.mono (by simp))⟩
  · have e : pekE S B n = rgt S B := by unfold pekE; rw [if_neg hc]
    have t2 : (rgt S B != 0) = true := by simp [hc]
    rw [e]
    generalize rgt S B = c at *
    clear hc e hW
    go_enter Try.func93, Try.ntmps93
    go_wp2_with (go_at_call 85; (with_reducible refine (hC _).mono ?_); rintro e w1 ⟨rfl, hb1⟩)
    go_ret
    exact ⟨rfl, ((Below.refl _ _).alloc (Nat.le_refl _) _).trans (hb1.mono (by simp))⟩

theorem rLeft_some (S : ByteArray) (B : Int) (hS : S.size ≤ 1048576) (hB0 : 0 ≤ B) (hB : B ≤ 8 * (S.size : Int)) (w : World) :
    Calls Try.prog 94 #[.agg #[.string S, .int .i64 B]] w fun e w' => e = .returned (.int .i64 (8 * (S.size : Int) - B)) ∧ Below w.heap.size w w' := by
  go_enter Try.func94, Try.ntmps94
  go_wp2
  go_ret
  exact ⟨rfl, (Below.refl _ _).alloc (Nat.le_refl _) _⟩

/-- one byte more at the head of a number -/
theorem or_byte (S : ByteArray) (f j : Nat) (x : Nat) (hx : x = leN S f j) (hj : j ≤ 4) (hs : f + j < S.size) (p : Int) (hp : (2 : Int) ^ (8 * j) = p) :
    bits BinOp.or IntKind.u64 (x : Int) (IntKind.u64.wrap (IntKind.u64.wrap ((S[f + j]'hs).toNat : Int) * p)) = (leN S f (j + 1) : Nat) := by
  have h1 := (S[f + j]'hs).toNat_lt
  have h2 : 2 ^ (8 * j) ≤ 2 ^ 32 := Nat.pow_le_pow_right (by omega) (by omega)
  have h3 : (S[f + j]'hs).toNat * 2 ^ (8 * j) ≤ 255 * 2 ^ (8 * j) := Nat.mul_le_mul_right _ (by omega)
  have e : ((S[f + j]'hs).toNat : Int) * p = (((S[f + j]'hs).toNat * 2 ^ (8 * j) : Nat) : Int) := by rw [← hp]; simp
  have h4 := leN_lt S f j
  rw [IntWalk.u64_in ((S[f + j]'hs).toNat : Int) ⟨by omega, by omega⟩, e, IntWalk.u64_in _ ⟨by omega, by omega⟩, u64_or_nat _ _ (by omega) (by omega)]
  congr 1
  rw [hx]
  simp only [leN]
  rw [byteAt_of S (f + j) hs]
  generalize (S[f + j]'hs).toNat = q
  rw [Nat.or_comm, Nat.add_comm, Nat.mul_comm _ (2 ^ (8 * j)), Nat.two_pow_add_eq_or_of_lt h4]

theorem peek_end (y r n : Nat) (p : Int) (hy : y < 1099511627776) (hn : n ≤ 32) (hp : (2 : Int) ^ n = p) :
    wrap64 (bits BinOp.and IntKind.u64 ((y : Int) / 2 ^ r) (IntKind.u64.wrap (IntKind.u64.wrap p - 1))) = ((y / 2 ^ r % 2 ^ n : Nat) : Int) := by
  have e : (y : Int) / 2 ^ r = ((y / 2 ^ r : Nat) : Int) := by simp
  have hle : y / 2 ^ r ≤ y := Nat.div_le_self _ _
  have h2 : 2 ^ n ≤ 2 ^ 32 := Nat.pow_le_pow_right (by omega) hn
  have h3 := Nat.two_pow_pos n
  have hq := pow_cast n
  have hm := Nat.mod_lt (y / 2 ^ r) h3
  rw [IntWalk.u64_in p ⟨by omega, by omega⟩, IntWalk.u64_in _ ⟨by omega, by omega⟩, e, show p - 1 = ((2 ^ n - 1 : Nat) : Int) by omega, u64_and_nat _ _ (by omega) (by omega), Nat.and_two_pow_sub_one_eq_mod]
  exact IntWalk.wrap64_in _ ⟨by omega, by omega⟩

theorem rPeek_walk (S : ByteArray) (b n : Nat) (p : Int) (hp : (2 : Int) ^ n = p) (hS : S.size ≤ 1048576) (hb : b ≤ 8 * S.size) (hn : n ≤ 32) (w : World) :
    Calls Try.prog 95 #[.agg #[.string S, .int .i64 (b : Int)], .int .i64 (n : Int)] w fun e w' => e = .returned (.int .i64 (numB S b n : Nat)) ∧ Below w.heap.size w w' := by
  have hW := fun u => ownWhole (b : Int) (by omega) (by omega) u
  obtain ⟨f, hf⟩ : ∃ f, f = b / 8 := ⟨_, rfl⟩
  rw [show (b : Int) / 8 = (f : Int) by omega] at hW
  have hf1 : f ≤ S.size := by omega
  obtain ⟨c, hc⟩ : ∃ c : Nat, c = min 5 (S.size - f) := ⟨_, rfl⟩
  have hc1 : c ≤ 5 := by omega
  have hc2 : f + c ≤ S.size := by omega
  have hmin : ∀ ts t w, (Builtin.min_ ts t #[.int .i64 5, .int .i64 ((S.size : Int) - f)]).run Try.prog w = .ok (.int .i64 (c : Int)) w := fun ts t w => by
    rw [run_min_int2]
    congr 2
    split <;> omega
  have HF := Lib.hid hf
  have HC := Lib.hid hc
  clear hf hc
  go_enter Try.func95, Try.ntmps95
  go_wp2_with (go_at_call 63; (with_reducible refine (hW _).mono ?_); rintro e w1 ⟨rfl, rfl⟩)
  go_loop [6, 19] (fun x i => ∃ (j y : Nat), j ≤ c ∧ Hid (y = leN S f j) ∧ x = .int .u64 (y : Int) ∧ i = .int .i64 (j : Int)) (fun _ i => c - (intOf i).toNat)
  case atStart => exact ⟨0, 0, by omega, rfl, rfl, rfl⟩
  case round =>
    obtain ⟨j, y, hj, hy, rfl, rfl⟩ := hrel
    by_cases hlt : j < c
    · have hq : f + j < S.size := by omega
      obtain ⟨q, hqe⟩ : ∃ q : Int, (2 : Int) ^ (8 * j) = q := ⟨_, rfl⟩
      go_wp2
      go_round
      case rel => exact ⟨j + 1, leN S f (j + 1), by omega, rfl, by rw [or_byte S f j y hy.out (by omega) hq q hqe], by go_num⟩
      case measure => simp [intOf]; omega
    · obtain rfl : j = c := by omega
      have hl := leN_lt S f j
      have h40 : 2 ^ (8 * j) ≤ 2 ^ 40 := Nat.pow_le_pow_right (by omega) (by omega)
      have hcc := HC.out
      have hff := HF.out
      have hfin : wrap64 (bits BinOp.and IntKind.u64 ((y : Int) / 2 ^ (b % 8)) (IntKind.u64.wrap (IntKind.u64.wrap p - 1))) = ((numB S b n : Nat) : Int) := by
        rw [peek_end y (b % 8) n p (by rw [hy.out]; omega) hn hp, hy.out, leN_bits S f j (b % 8) n (by omega), show 8 * f + b % 8 = b by omega]
      have HF2 := Lib.hid hfin
      clear hl h40 hcc hff hfin
      go_wp2
      go_ret
      exact ⟨ret_int HF2.out, (Below.refl _ _).alloc (Nat.le_refl _) _⟩
theorem rPeek_any (S : ByteArray) (b n : Nat) (hS : S.size ≤ 1048576) (hb : b ≤ 8 * S.size) (hn : n ≤ 32) (w : World) :
    Calls Try.prog 95 #[.agg #[.string S, .int .i64 (b : Int)], .int .i64 (n : Int)] w fun e w' => e = .returned (.int .i64 (numB S b n : Nat)) ∧ Below w.heap.size w w' :=
  rPeek_walk S b n _ rfl hS hb hn w

end Go.Proofs.Ytaohhijjalcbiaa
