/-
  The reference's Put, for every writer and all numbers.
-/
import Derived.Test.YtaohhijjalcbiaaB2Put

namespace Go.Proofs.Ytaohhijjalcbiaa
open Go.ChangeShapes Go.WideShapes Go.ChangeAt Go.RowKit
set_option linter.unusedVariables false

/-- Put's error -/
def putE (S : ByteArray) (P N n v : Int) : Int :=
  if chk S P N = 0 then
    if n < 0 ∨ 32 < n ∨ v < 0 ∨ (2 : Int) ^ n.toNat ≤ v then 2 else if 1048576 < S.size + (N + n) / 8 then 4 else 0
  else chk S P N
def putS (S : ByteArray) (P N n v : Int) : ByteArray := if putE S P N n v = 0 then S ++ ⟨(putL P.toNat N.toNat n.toNat v.toNat).toArray⟩ else ⟨#[]⟩
def putQ (S : ByteArray) (P N n v : Int) : Int := if putE S P N n v = 0 then (putP P.toNat N.toNat n.toNat v.toNat : Nat) else 0
def putN (S : ByteArray) (P N n v : Int) : Int := if putE S P N n v = 0 then (N + n) % 8 else 0

theorem chk_vals (S : ByteArray) (P N : Int) : chk S P N = 0 ∨ chk S P N = 2 ∨ chk S P N = 4 := by
  unfold chk
  split
  · exact .inr (.inl rfl)
  · split
    · exact .inr (.inr rfl)
    · exact .inl rfl
theorem chk_zero {S : ByteArray} {P N : Int} (h : chk S P N = 0) : 0 ≤ N ∧ N ≤ 7 ∧ 0 ≤ P ∧ P < 2 ^ N.toNat ∧ S.size ≤ 1048576 := by
  unfold chk at h
  by_cases h1 : N < 0 ∨ 7 < N ∨ P < 0 ∨ (2 : Int) ^ N.toNat ≤ P
  · rw [if_pos h1] at h; omega
  · rw [if_neg h1] at h
    by_cases h2 : 1048576 < S.size
    · rw [if_pos h2] at h; omega
    · exact ⟨by omega, by omega, by omega, by omega, by omega⟩

theorem refPut_any (S : ByteArray) (P N n v : Int) (hS : S.size ≤ 9223372036854775807) (w : World) :
    Calls Try.prog 53 #[.agg #[.string S, .int .i64 P, .int .i64 N], .int .i64 n, .int .i64 v] w fun e w' =>
      e = .returned (.tuple #[.agg #[.string (putS S P N n v), .int .i64 (putQ S P N n v), .int .i64 (putN S P N n v)], .int .i64 (putE S P N n v)]) ∧ Below w.heap.size w w' := by
  have hC := fun u => check_any S P N hS u
  by_cases hc : chk S P N = 0
  · rw [hc] at hC
    obtain ⟨c1, c2, c3, c4, c5⟩ := chk_zero hc
    by_cases hr : n < 0 ∨ 32 < n ∨ v < 0 ∨ (2 : Int) ^ n.toNat ≤ v
    · have e : putE S P N n v = 2 := by unfold putE; rw [if_pos hc, if_pos hr]
      have e1 : putS S P N n v = ⟨#[]⟩ := by unfold putS; rw [e, if_neg (by decide)]
      have e2 : putQ S P N n v = 0 := by unfold putQ; rw [e, if_neg (by decide)]
      have e3 : putN S P N n v = 0 := by unfold putN; rw [e, if_neg (by decide)]
      rw [e, e1, e2, e3]
      by_cases hr2 : n < 0 ∨ 32 < n ∨ v < 0
      · exact put_range S P N n v hr2 w hC
      · obtain ⟨m, rfl⟩ := Int.eq_ofNat_of_zero_le (show 0 ≤ n by omega)
        have hp0 : 1 ≤ (2 : Int) ^ m := by rw [← pow_cast]; have := Nat.two_pow_pos m; omega
        have hp1 : (2 : Int) ^ m ≤ 4294967296 := by
          rw [← pow_cast]
          have : 2 ^ m ≤ 2 ^ 32 := Nat.pow_le_pow_right (by omega) (by omega)
          omega
        have et : ((m : Int)).toNat = m := by omega
        rw [et] at hr
        exact put_great S P N v _ m (by omega) rfl hp0 hp1 (by omega) (by omega) w hC
    · obtain ⟨m, rfl⟩ := Int.eq_ofNat_of_zero_le (show 0 ≤ n by omega)
      have hp0 : 1 ≤ (2 : Int) ^ m := by rw [← pow_cast]; have := Nat.two_pow_pos m; omega
      have hp1 : (2 : Int) ^ m ≤ 4294967296 := by
        rw [← pow_cast]
        have : 2 ^ m ≤ 2 ^ 32 := Nat.pow_le_pow_right (by omega) (by omega)
        omega
      have et : ((m : Int)).toNat = m := by omega
      by_cases hl : 1048576 < S.size + (N + m) / 8
      · have e : putE S P N m v = 4 := by unfold putE; rw [if_pos hc, if_neg hr, if_pos hl]
        have e1 : putS S P N m v = ⟨#[]⟩ := by unfold putS; rw [e, if_neg (by decide)]
        have e2 : putQ S P N m v = 0 := by unfold putQ; rw [e, if_neg (by decide)]
        have e3 : putN S P N m v = 0 := by unfold putN; rw [e, if_neg (by decide)]
        rw [e, e1, e2, e3]
        rw [et] at hr
        exact put_long S P N v _ m (by omega) rfl hp0 hp1 (by omega) (by omega) c1 c2 c5 hl w hC
      · have e : putE S P N m v = 0 := by unfold putE; rw [if_pos hc, if_neg hr, if_neg hl]
        obtain ⟨v', rfl⟩ := Int.eq_ofNat_of_zero_le (show 0 ≤ v by omega)
        obtain ⟨N', rfl⟩ := Int.eq_ofNat_of_zero_le c1
        obtain ⟨P', rfl⟩ := Int.eq_ofNat_of_zero_le c3
        have ev : ((v' : Int)).toNat = v' := by omega
        have eN : ((N' : Int)).toNat = N' := by omega
        have eP : ((P' : Int)).toNat = P' := by omega
        have e1 : putS S P' N' m v' = S ++ ⟨(putL P' N' m v').toArray⟩ := by unfold putS; rw [e, if_pos rfl, et, ev, eN, eP]
        have e2 : putQ S P' N' m v' = (putP P' N' m v' : Nat) := by unfold putQ; rw [e, if_pos rfl, et, ev, eN, eP]
        have e3 : putN S P' N' m v' = ((N' + m) % 8 : Nat) := by unfold putN; rw [e, if_pos rfl]; omega
        rw [e, e1, e2, e3]
        rw [et] at hr
        rw [eN] at c4
        have hpc := pow_cast m
        have hpN := pow_cast N'
        exact put_loop S P' N' v' _ m (by omega) (by omega) rfl hp0 hp1 (by omega) (by omega) (by omega) c5 (by omega) w hC
  · have e : putE S P N n v = chk S P N := by unfold putE; rw [if_neg hc]
    have e1 : putS S P N n v = ⟨#[]⟩ := by unfold putS; rw [e, if_neg hc]
    have e2 : putQ S P N n v = 0 := by unfold putQ; rw [e, if_neg hc]
    have e3 : putN S P N n v = 0 := by unfold putN; rw [e, if_neg hc]
    rw [e, e1, e2, e3]
    have hv := chk_vals S P N
    exact put_bad S P N n v (chk S P N) (by omega) w hC

end Go.Proofs.Ytaohhijjalcbiaa
