/-
  The chapter's small checks (field, fault, awake) return true.
-/
import Derived.Test.YtjflkjkkamapdaaRead

namespace Go.Proofs.Ytjflkjkkamapdaa
open Go.ChangeShapes Go.WideShapes Go.ChangeAt Go.RowKit
set_option linter.unusedVariables false

theorem nuB_leB (n size : Nat) : nuB (leB n size) = n % 2 ^ (8 * size) := by
  induction size with
  | zero => simp [leB, nuB, Nat.mod_one]
  | succ k ih =>
    have e : 2 ^ (8 * (k + 1)) = 2 ^ (8 * k) * 256 := by rw [Nat.mul_add, Nat.pow_add]
    rw [leB_succ, nuB_snoc, ih, leB_length, e, Nat.mod_mul]
    have hb : (UInt8.ofNat (n / 2 ^ (8 * k))).toNat = n / 2 ^ (8 * k) % 256 := by simp
    rw [hb, Nat.mul_comm (n / 2 ^ (8 * k) % 256)]

theorem bcell {W w1 : World} (hb : Below W.heap.size W w1) : (∀ b o, b < W.heap.size → w1.cell? ⟨b, o, none⟩ = W.cell? ⟨b, o, none⟩) ∧ (∀ b o, b < W.heap.size → w1.frozen? ⟨b, o, none⟩ = W.frozen? ⟨b, o, none⟩) :=
  ⟨fun b o h => hb.cell (p := ⟨b, o, none⟩) h, fun b o h => hb.frozen (p := ⟨b, o, none⟩) h⟩

theorem read_x (n size : Nat) (h0 : 1 ≤ size) (h1 : size ≤ 8) (hb : n < 2 ^ (8 * size)) (w : World) :
    Calls Try.prog 21 #[.string (⟨#[120]⟩ ++ ⟨(leB n size).toArray⟩), .int .i64 1, .int .i64 (size : Int)] w fun e w' =>
      e = .returned (.tuple #[.int .u64 (n : Int), .int .i64 (1 + (size : Int)), .agg #[.int .i64 0, .int .i64 0]]) ∧ Below w.heap.size w w' := by
  have hz : (⟨#[120]⟩ ++ ⟨(leB n size).toArray⟩ : ByteArray).size = 1 + size := by
    rw [ByteArray.size_append]
    show 1 + (leB n size).toArray.size = 1 + size
    simp [leB_length]
  have h := read_ok (⟨#[120]⟩ ++ ⟨(leB n size).toArray⟩) 1 size (by rw [hz]; unfold maxLen; omega) h0 h1 (by rw [hz]; omega) w
  have hl : (((⟨#[120]⟩ ++ ⟨(leB n size).toArray⟩ : ByteArray).data.toList.drop 1).take size) = leB n size := by
    simp
    rw [List.take_of_length_le (by rw [leB_length]; omega)]
  rw [hl, nuB_leB, Nat.mod_eq_of_lt hb] at h
  exact h

theorem fieldLaw_any (n size : Nat) (h0 : 1 ≤ size) (h1 : size ≤ 8) (hn : n < 18446744073709551616) (hb : n < 2 ^ (8 * size)) (w : World) :
    Calls Try.prog 31 #[.int .u64 (n : Int), .int .i64 (size : Int), .string ⟨(leB n size).toArray⟩] w fun e w' => e = .returned (.bool true) ∧ Below w.heap.size w w' := by
  have hz : (⟨(leB n size).toArray⟩ : ByteArray).size = size := by
    show (leB n size).toArray.size = size
    simp [leB_length]
  have hL := fun u => little_ok n size h0 h1 hn hb u
  have hR := fun u => read_x n size h0 h1 hb u
  generalize (⟨(leB n size).toArray⟩ : ByteArray) = s at *
  clear hb
  go_enter Try.func31, Try.ntmps31
  go_wp2_with (first | (go_at_call 19; (with_reducible refine (hL _).mono ?_); rintro e w1 ⟨rfl, hb1⟩) | (go_at_call 21; (with_reducible refine (hR _).mono ?_); rintro e w2 ⟨rfl, hb2⟩))
  go_ret
  exact ⟨rfl, (hb1.trans (hb2.mono hb1.size)).alloc (Nat.le_trans hb1.size hb2.size) _⟩

theorem faultLaw_bad (s : ByteArray) (a z : Int) (hs : s.size ≤ maxLen) (h : z < 1 ∨ 8 < z ∨ a < 0 ∨ s.size < a) (w : World) :
    Calls Try.prog 32 #[.string s, .int .i64 a, .int .i64 z, .int .i64 2, .int .i64 0] w fun e w' => e = .returned (.bool true) ∧ Below w.heap.size w w' := by
  have hR := fun u => read_bad s a z hs h u
  go_enter Try.func32, Try.ntmps32
  go_wp2_with ((go_at_call 21; (with_reducible refine (hR _).mono ?_); rintro e w2 ⟨rfl, hb2⟩))
  go_ret
  exact ⟨rfl, hb2.alloc hb2.size _⟩

theorem faultLaw_short (s : ByteArray) (a z : Int) (hs : s.size ≤ maxLen) (h : 1 ≤ z ∧ z ≤ 8 ∧ 0 ≤ a ∧ a ≤ s.size ∧ s.size - a < z) (k : Int) (hk : (s.size : Int) = k) (w : World) :
    Calls Try.prog 32 #[.string s, .int .i64 a, .int .i64 z, .int .i64 5, .int .i64 k] w fun e w' => e = .returned (.bool true) ∧ Below w.heap.size w w' := by
  have hR := fun u => read_short s a z hs h u
  rw [hk] at hR
  clear hk h
  go_enter Try.func32, Try.ntmps32
  go_wp2_with ((go_at_call 21; (with_reducible refine (hR _).mono ?_); rintro e w2 ⟨rfl, hb2⟩))
  go_ret
  exact ⟨rfl, hb2.alloc hb2.size _⟩

theorem field258 (w : World) : Calls Try.prog 31 #[.int .u64 258, .int .i64 2, .string ⟨#[2, 1]⟩] w fun e w' => e = .returned (.bool true) ∧ Below w.heap.size w w' :=
  fieldLaw_any 258 2 (by decide) (by decide) (by decide) (by decide) w
theorem fieldMax (w : World) : Calls Try.prog 31 #[.int .u64 18446744073709551615, .int .i64 8, .string ⟨#[255, 255, 255, 255, 255, 255, 255, 255]⟩] w fun e w' => e = .returned (.bool true) ∧ Below w.heap.size w w' :=
  fieldLaw_any 18446744073709551615 8 (by decide) (by decide) (by decide) (by decide) w
theorem nb255 : nb 255 = 8 := by decide +kernel
theorem nb256 : nb 256 = 9 := by decide +kernel

theorem awake_any (w : World) : Calls Try.prog 18 #[] w fun e w' => e = .returned (.bool true) ∧ Below w.heap.size w w' := by
  have hP1 := fun u => plus_any 1099511627776 0 u
  have hP2 := fun u => plus_any 1099511627776 1 u
  have e1 : addR 1099511627776 0 = some 1099511627776 := by decide
  have e2 : addR 1099511627776 1 = none := by decide
  rw [e1] at hP1
  rw [e2] at hP2
  simp only [resOf] at hP1 hP2
  have hH1 := fun u => high_any 1 (by omega) (by omega) u
  have hH2 := fun u => high_any 255 (by omega) (by omega) u
  have hH3 := fun u => high_any 256 (by omega) (by omega) u
  have hH4 := fun u => high_any 0 (by omega) (by omega) u
  have hB := fun u => bits_any 255 (by omega) (by omega) u
  have hU := fun u => up_any 5 (by omega) (by omega) u
  have n1 : (nb 1 : Int) - 1 = 0 := by decide +kernel
  have n2 : (nb 255 : Int) - 1 = 7 := by decide +kernel
  have n3 : (nb 256 : Int) - 1 = 8 := by decide +kernel
  have n4 : (nb 0 : Int) - 1 = -1 := by decide +kernel
  have n5 : (nb 255 : Int) = 8 := by decide +kernel
  have n6 : (up 5 : Int) = 3 := by decide +kernel
  rw [n1] at hH1
  rw [n2] at hH2
  rw [n3] at hH3
  rw [n4] at hH4
  rw [n5] at hB
  rw [n6] at hU
  clear e1 e2 n1 n2 n3 n4 n5 n6
  go_enter Try.func18, Try.ntmps18
  go_wp2_with (first
    | (go_at_call 24; (with_reducible refine (hP1 _).mono ?_); rintro e w1 ⟨rfl, hb1⟩)
    | (go_at_call 24; (with_reducible refine (hP2 _).mono ?_); rintro e w2 ⟨rfl, hb2⟩)
    | (go_at_call 12; (with_reducible refine (hH1 _).mono ?_); rintro e w' ⟨rfl, rfl⟩)
    | (go_at_call 12; (with_reducible refine (hH2 _).mono ?_); rintro e w' ⟨rfl, rfl⟩)
    | (go_at_call 12; (with_reducible refine (hH3 _).mono ?_); rintro e w' ⟨rfl, rfl⟩)
    | (go_at_call 12; (with_reducible refine (hH4 _).mono ?_); rintro e w' ⟨rfl, rfl⟩)
    | (go_at_call 14; (with_reducible refine (hB _).mono ?_); rintro e w' ⟨rfl, rfl⟩)
    | (go_at_call 16; (with_reducible refine (hU _).mono ?_); rintro e w' ⟨rfl, rfl⟩)
    | (go_at_call 31; (with_reducible refine (field258 _).mono ?_); rintro e w3 ⟨rfl, hb3⟩))
  go_ret
  exact ⟨rfl, (hb1.trans (hb2.mono hb1.size)).trans (hb3.mono (Nat.le_trans hb1.size hb2.size))⟩
end Go.Proofs.Ytjflkjkkamapdaa
