/-
  The reference's Bits: how many bits a stream has that is read from behind.
-/
import Derived.Test.YteopglkehlckoaaB3Check
namespace Go.Proofs.Yteopglkehlckoaa
open Go.ChangeShapes Go.WideShapes Go.ChangeAt Go.RowKit
set_option linter.unusedVariables false

/-- the last bit below k that is 1 -/
def hiBit (S : ByteArray) : Nat → Nat
  | 0 => 0
  | k + 1 => if bitAt S k = 0 then hiBit S k else k
/-- the last byte, 0 if there is none -/
def lastB (S : ByteArray) : Nat := if h : S.size - 1 < S.size then (S[S.size - 1]'h).toNat else 0
/-- Bits' error and number -/
def strE (S : ByteArray) : Int := if 1048576 < S.size then 4 else if S.size = 0 ∨ lastB S = 0 then 22 else 0
def strN (S : ByteArray) : Int := if strE S = 0 then (hiBit S (8 * S.size) : Nat) else 0

theorem hi_some (S : ByteArray) (k : Nat) (h : ∃ j, j < k ∧ bitAt S j = 1) : hiBit S k < k ∧ bitAt S (hiBit S k) = 1 := by
  induction k with
  | zero => obtain ⟨j, hj, _⟩ := h; omega
  | succ k ih =>
    simp only [hiBit]
    by_cases h0 : bitAt S k = 0
    · rw [if_pos h0]
      obtain ⟨j, hj, hb⟩ := h
      have hjk : j < k := by
        rcases Nat.lt_or_ge j k with h1 | h1
        · exact h1
        · have : j = k := by omega
          subst this
          omega
      obtain ⟨h1, h2⟩ := ih ⟨j, hjk, hb⟩
      exact ⟨by omega, h2⟩
    · rw [if_neg h0]
      have := bitAt_lt S k
      exact ⟨by omega, by omega⟩

set_option maxRecDepth 100000 in
theorem byte_bit (c : Nat) (h : c < 256) (h0 : c ≠ 0) : ∃ i, i < 8 ∧ c / 2 ^ i % 2 = 1 := by
  have key : ∀ c : Fin 256, c.val ≠ 0 → ∃ i : Fin 8, c.val / 2 ^ i.val % 2 = 1 := by decide +kernel
  obtain ⟨i, hi⟩ := key ⟨c, h⟩ h0
  exact ⟨i.val, i.isLt, hi⟩

theorem last_bit (S : ByteArray) (hs : 0 < S.size) (h : lastB S ≠ 0) : ∃ j, j < 8 * S.size ∧ bitAt S j = 1 := by
  unfold lastB at h
  have hlt : S.size - 1 < S.size := by omega
  rw [dif_pos hlt] at h
  obtain ⟨i, hi, hb⟩ := byte_bit _ (S[S.size - 1]'hlt).toNat_lt h
  refine ⟨8 * (S.size - 1) + i, by omega, ?_⟩
  have e1 : (8 * (S.size - 1) + i) / 8 = S.size - 1 := by omega
  have e2 : (8 * (S.size - 1) + i) % 8 = i := by omega
  unfold bitAt
  rw [dif_pos (by omega)]
  simp only [e1, e2]
  exact hb

theorem u8_bit (c k : Nat) (hc : c < 256) : bits BinOp.and IntKind.u8 ((c : Int) / 2 ^ k) 1 = ((c / 2 ^ k % 2 : Nat) : Int) := by
  have e : (c : Int) / 2 ^ k = ((c / 2 ^ k : Nat) : Int) := by simp
  have hle : c / 2 ^ k ≤ c := Nat.div_le_self _ _
  rw [e]
  generalize c / 2 ^ k = x at hle
  rw [show (1 : Int) = ((1 : Nat) : Int) from rfl, u8_and_nat x 1 (by omega) (by omega), show (1 : Nat) = 2 ^ 1 - 1 from rfl, Nat.and_two_pow_sub_one_eq_mod]

theorem bits_long (S : ByteArray) (hS : S.size ≤ 9223372036854775807) (h : 1048576 < S.size) (w : World) :
    Calls Try.prog 25 #[.string S] w fun e w' => e = .returned (.tuple #[.int .i64 0, .int .i64 4]) ∧ w = w' := by
  go_enter Try.func25, Try.ntmps25
  go_wp2
  go_ret2
  exact ⟨rfl, rfl⟩

theorem bits_none (w : World) : Calls Try.prog 25 #[.string ⟨#[]⟩] w fun e w' => e = .returned (.tuple #[.int .i64 0, .int .i64 22]) ∧ w = w' := by
  go_enter Try.func25, Try.ntmps25
  go_wp2
  go_ret2
  exact ⟨rfl, rfl⟩

theorem not_empty (S : ByteArray) (h : 0 < S.size) : S.toList.isEmpty = false ∧ ¬ S.toList = [] := by
  have e : ¬ S.toList = [] := fun h0 => by
    rw [ByteArray.toList_eq] at h0
    have h1 : S.data.size = 0 := by rw [← Array.length_toList, h0]; rfl
    have h2 : S.size = S.data.size := rfl
    omega
  refine ⟨?_, e⟩
  cases hl : S.toList with
  | nil => exact absurd hl e
  | cons a r => rfl

theorem bits_last (S : ByteArray) (hS : S.size ≤ 1048576) (h0 : 0 < S.size) (hc : lastB S = 0) (w : World) :
    Calls Try.prog 25 #[.string S] w fun e w' => e = .returned (.tuple #[.int .i64 0, .int .i64 22]) ∧ w = w' := by
  obtain ⟨n1, n2⟩ := not_empty S h0
  have hlt : S.size - 1 < S.size := by omega
  have hz : ((S[S.size - 1]'hlt).toNat : Int) = 0 := by
    unfold lastB at hc
    rw [dif_pos hlt] at hc
    omega
  clear hc
  go_enter Try.func25, Try.ntmps25
  go_wp2
  go_ret2
  exact ⟨rfl, rfl⟩

theorem bits_find (S : ByteArray) (hS : S.size ≤ 1048576) (h0 : 0 < S.size) (hc : lastB S ≠ 0) (w : World) :
    Calls Try.prog 25 #[.string S] w fun e w' => e = .returned (.tuple #[.int .i64 (hiBit S (8 * S.size) : Nat), .int .i64 0]) ∧ w = w' := by
  obtain ⟨n1, n2⟩ := not_empty S h0
  have hlt : S.size - 1 < S.size := by omega
  have hz : (((S[S.size - 1]'hlt).toNat : Int) == 0) = false := by
    unfold lastB at hc
    rw [dif_pos hlt] at hc
    simp
    omega
  obtain ⟨m1, m2⟩ := hi_some S _ (last_bit S h0 hc)
  have HM := Lib.hid m2
  have hex := Lib.hid (last_bit S h0 hc)
  clear hc m2
  go_enter Try.func25, Try.ntmps25
  go_wp2
  go_loop [4] (fun o => ∃ k : Nat, k < 8 * S.size ∧ Hid (hiBit S (8 * S.size) = hiBit S (k + 1)) ∧ Hid (∃ j, j < k + 1 ∧ bitAt S j = 1) ∧ o = .int .i64 (k : Int)) (fun o => (intOf o).toNat)
  case atStart => exact ⟨8 * S.size - 1, by omega, by show _ = _; rw [show 8 * S.size - 1 + 1 = 8 * S.size by omega], by show ∃ j, _; rw [show 8 * S.size - 1 + 1 = 8 * S.size by omega]; exact hex.out, by go_num⟩
  case round =>
    obtain ⟨k, hk, hh, hj, rfl⟩ := hrel
    have hq : k / 8 < S.size := by omega
    have hbit : bits BinOp.and IntKind.u8 (((S[k / 8]'hq).toNat : Int) / 2 ^ (k % 8)) 1 = ((bitAt S k : Nat) : Int) := by
      rw [u8_bit _ _ (S[k / 8]'hq).toNat_lt]
      unfold bitAt
      rw [dif_pos hq]
    have hbl := bitAt_lt S k
    by_cases h0 : bitAt S k = 0
    · rw [h0] at hbit
      have hb2 : bits BinOp.and IntKind.u8 (((S[k / 8]'hq).toNat : Int) / 2 ^ (k % 8)) 1 = 0 := hbit
      have H0 := Lib.hid h0
      have hk1 : 1 ≤ k := by
        obtain ⟨j, hj1, hj2⟩ := hj.out
        rcases Nat.lt_or_ge j k with h1 | h1
        · omega
        · have : j = k := by omega
          subst this
          omega
      clear hbit h0
      go_wp2
      go_round
      case rel =>
        obtain ⟨m, rfl⟩ : ∃ m, k = m + 1 := ⟨k - 1, by omega⟩
        refine ⟨m, by omega, ?_, ?_, by go_num⟩
        · show _ = _
          rw [hh.out]
          show (if bitAt S (m + 1) = 0 then hiBit S (m + 1) else m + 1) = _
          rw [if_pos H0.out]
        · obtain ⟨j, hj1, hj2⟩ := hj.out
          refine ⟨j, ?_, hj2⟩
          rcases Nat.lt_or_ge j (m + 1) with h1 | h1
          · exact h1
          · have e : j = m + 1 := by omega
            subst e
            have := H0.out
            omega
      case measure => simp [intOf]; omega
    · have hb2 : (bits BinOp.and IntKind.u8 (((S[k / 8]'hq).toNat : Int) / 2 ^ (k % 8)) 1 == 0) = false := by
        rw [hbit]
        simp
        omega
      have H0 := Lib.hid h0
      clear hbit h0
      go_wp2
      go_ret2
      have e : hiBit S (8 * S.size) = k := by
        rw [hh.out]
        show (if bitAt S k = 0 then hiBit S k else k) = k
        rw [if_neg H0.out]
      exact ⟨by rw [e]; rfl, rfl⟩
theorem bbits_any (S : ByteArray) (hS : S.size ≤ 9223372036854775807) (w : World) :
    Calls Try.prog 25 #[.string S] w fun e w' => e = .returned (.tuple #[.int .i64 (strN S), .int .i64 (strE S)]) ∧ w = w' := by
  by_cases h1 : 1048576 < S.size
  · have e : strE S = 4 := by unfold strE; rw [if_pos h1]
    unfold strN
    rw [e, if_neg (by decide)]
    exact bits_long S hS h1 w
  · by_cases h2 : S.size = 0
    · have e : strE S = 22 := by unfold strE; rw [if_neg h1, if_pos (.inl h2)]
      have e0 : S = ⟨#[]⟩ := by
        apply ByteArray.ext
        have h3 : S.data.size = 0 := h2
        exact Array.eq_empty_of_size_eq_zero h3
      unfold strN
      rw [e, if_neg (by decide)]
      rw [e0]
      exact bits_none w
    · by_cases h3 : lastB S = 0
      · have e : strE S = 22 := by unfold strE; rw [if_neg h1, if_pos (.inr h3)]
        unfold strN
        rw [e, if_neg (by decide)]
        exact bits_last S (by omega) (by omega) h3 w
      · have e : strE S = 0 := by unfold strE; rw [if_neg h1, if_neg (by omega)]
        unfold strN
        rw [e, if_pos rfl]
        exact bits_find S (by omega) (by omega) h3 w

end Go.Proofs.Yteopglkehlckoaa
