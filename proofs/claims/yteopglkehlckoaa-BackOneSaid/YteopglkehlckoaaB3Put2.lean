/-
  The reference's Put and Done of streams that are read from behind, for every writer and all numbers.
-/
import Derived.Test.YteopglkehlckoaaB3Put
namespace Go.Proofs.Yteopglkehlckoaa
open Go.ChangeShapes Go.WideShapes Go.ChangeAt Go.RowKit
set_option linter.unusedVariables false

/-- Put's error and writer -/
def bpE (S : ByteArray) (P N n v : Int) : Int :=
  if bch S P N = 0 then
    if n < 0 ∨ 32 < n ∨ (2 : Int) ^ n.toNat ≤ v then 2 else if 1048576 < S.size + (N + n) / 8 then 4 else 0
  else bch S P N
def bpS (S : ByteArray) (P N n v : Int) : ByteArray := if bpE S P N n v = 0 then S ++ ⟨(putL P.toNat N.toNat n.toNat v.toNat).toArray⟩ else ⟨#[]⟩
def bpQ (S : ByteArray) (P N n v : Int) : Int := if bpE S P N n v = 0 then (putP P.toNat N.toNat n.toNat v.toNat : Nat) else 0
def bpN (S : ByteArray) (P N n v : Int) : Int := if bpE S P N n v = 0 then (N + n) % 8 else 0

theorem bch_vals (S : ByteArray) (P N : Int) : bch S P N = 0 ∨ bch S P N = 10 := by
  unfold bch
  split
  · exact .inr rfl
  · exact .inl rfl
theorem bch_zero {S : ByteArray} {P N : Int} (h : bch S P N = 0) : 0 ≤ N ∧ N ≤ 7 ∧ 0 ≤ P ∧ P < 2 ^ N.toNat ∧ S.size ≤ 1048576 := by
  unfold bch at h
  by_cases h1 : N < 0 ∨ 7 < N ∨ P < 0 ∨ (2 : Int) ^ N.toNat ≤ P ∨ 1048576 < S.size
  · rw [if_pos h1] at h; omega
  · exact ⟨by omega, by omega, by omega, by omega, by omega⟩

theorem bput_any (S : ByteArray) (P N n v : Int) (hS : S.size ≤ 9223372036854775807) (hv0 : 0 ≤ v) (w : World) :
    Calls Try.prog 20 #[.agg #[.string S, .int .i64 P, .int .i64 N], .int .i64 n, .int .u64 v] w fun e w' =>
      e = .returned (.tuple #[.agg #[.string (bpS S P N n v), .int .i64 (bpQ S P N n v), .int .i64 (bpN S P N n v)], .int .i64 (bpE S P N n v)]) ∧ Below w.heap.size w w' := by
  have hC := fun u => bch_any S P N hS u
  by_cases hc : bch S P N = 0
  · rw [hc] at hC
    obtain ⟨c1, c2, c3, c4, c5⟩ := bch_zero hc
    by_cases hr : n < 0 ∨ 32 < n ∨ (2 : Int) ^ n.toNat ≤ v
    · have e : bpE S P N n v = 2 := by unfold bpE; rw [if_pos hc, if_pos hr]
      have e1 : bpS S P N n v = ⟨#[]⟩ := by unfold bpS; rw [e, if_neg (by decide)]
      have e2 : bpQ S P N n v = 0 := by unfold bpQ; rw [e, if_neg (by decide)]
      have e3 : bpN S P N n v = 0 := by unfold bpN; rw [e, if_neg (by decide)]
      rw [e, e1, e2, e3]
      by_cases hr2 : n < 0 ∨ 32 < n
      · exact bput_range S P N n v hr2 w hC
      · obtain ⟨m, rfl⟩ := Int.eq_ofNat_of_zero_le (show 0 ≤ n by omega)
        have hp0 : 1 ≤ (2 : Int) ^ m := by rw [← pow_cast]; have := Nat.two_pow_pos m; omega
        have hp1 : (2 : Int) ^ m ≤ 4294967296 := by
          rw [← pow_cast]
          have : 2 ^ m ≤ 2 ^ 32 := Nat.pow_le_pow_right (by omega) (by omega)
          omega
        have et : ((m : Int)).toNat = m := by omega
        rw [et] at hr
        exact bput_great S P N v _ m (by omega) rfl hp0 hp1 (by omega) w hC
    · obtain ⟨m, rfl⟩ := Int.eq_ofNat_of_zero_le (show 0 ≤ n by omega)
      have hp0 : 1 ≤ (2 : Int) ^ m := by rw [← pow_cast]; have := Nat.two_pow_pos m; omega
      have hp1 : (2 : Int) ^ m ≤ 4294967296 := by
        rw [← pow_cast]
        have : 2 ^ m ≤ 2 ^ 32 := Nat.pow_le_pow_right (by omega) (by omega)
        omega
      have et : ((m : Int)).toNat = m := by omega
      obtain ⟨v', rfl⟩ := Int.eq_ofNat_of_zero_le hv0
      obtain ⟨N', rfl⟩ := Int.eq_ofNat_of_zero_le c1
      obtain ⟨P', rfl⟩ := Int.eq_ofNat_of_zero_le c3
      have ev : ((v' : Int)).toNat = v' := by omega
      have eN : ((N' : Int)).toNat = N' := by omega
      have eP : ((P' : Int)).toNat = P' := by omega
      have hpN := pow_cast N'
      rw [eN] at c4
      have hr' := hr
      rw [et] at hr'
      have h := bput_loop S P' N' v' _ m (by omega) (by omega) rfl hp0 hp1 (by omega) (by omega) c5 w hC
      by_cases hl : 1048576 < S.size + ((N' : Int) + m) / 8
      · have e : bpE S P' N' m v' = 4 := by unfold bpE; rw [if_pos hc, if_neg hr, if_pos hl]
        have e1 : bpS S P' N' m v' = ⟨#[]⟩ := by unfold bpS; rw [e, if_neg (by decide)]
        have e2 : bpQ S P' N' m v' = 0 := by unfold bpQ; rw [e, if_neg (by decide)]
        have e3 : bpN S P' N' m v' = 0 := by unfold bpN; rw [e, if_neg (by decide)]
        rw [e, e1, e2, e3]
        rw [if_pos (by omega)] at h
        exact h
      · have e : bpE S P' N' m v' = 0 := by unfold bpE; rw [if_pos hc, if_neg hr, if_neg hl]
        have e1 : bpS S P' N' m v' = S ++ ⟨(putL P' N' m v').toArray⟩ := by unfold bpS; rw [e, if_pos rfl, et, ev, eN, eP]
        have e2 : bpQ S P' N' m v' = (putP P' N' m v' : Nat) := by unfold bpQ; rw [e, if_pos rfl, et, ev, eN, eP]
        have e3 : bpN S P' N' m v' = ((N' + m) % 8 : Nat) := by unfold bpN; rw [e, if_pos rfl]; omega
        rw [e, e1, e2, e3]
        rw [if_neg (by omega)] at h
        exact h
  · have e : bpE S P N n v = bch S P N := by unfold bpE; rw [if_neg hc]
    have e1 : bpS S P N n v = ⟨#[]⟩ := by unfold bpS; rw [e, if_neg hc]
    have e2 : bpQ S P N n v = 0 := by unfold bpQ; rw [e, if_neg hc]
    have e3 : bpN S P N n v = 0 := by unfold bpN; rw [e, if_neg hc]
    rw [e, e1, e2, e3]
    have hv := bch_vals S P N
    exact bput_bad S P N n v (bch S P N) (by omega) w hC

/-- Done's error and stream -/
def bdE (S : ByteArray) (P N : Int) : Int := if bch S P N = 0 then (if S.size = 1048576 then 4 else 0) else bch S P N
def bdS (S : ByteArray) (P N : Int) : ByteArray := if bdE S P N = 0 then S ++ ⟨[UInt8.ofNat (P + 2 ^ N.toNat).toNat].toArray⟩ else ⟨#[]⟩

theorem bdone_any (S : ByteArray) (P N : Int) (hS : S.size ≤ 9223372036854775807) (w : World) :
    Calls Try.prog 23 #[.agg #[.string S, .int .i64 P, .int .i64 N]] w fun e w' => e = .returned (.tuple #[.string (bdS S P N), .int .i64 (bdE S P N)]) ∧ Below w.heap.size w w' := by
  have hC := fun u => bch_any S P N hS u
  by_cases hc : bch S P N = 0
  · rw [hc] at hC
    obtain ⟨c1, c2, c3, c4, c5⟩ := bch_zero hc
    by_cases hl : S.size = 1048576
    · have e : bdE S P N = 4 := by unfold bdE; rw [if_pos hc, if_pos hl]
      unfold bdS
      rw [e, if_neg (by decide)]
      have tl : ((S.size : Int) == 1048576) = true := by simp; omega
      clear e hc
      clear hl
      go_enter Try.func23, Try.ntmps23
      go_wp2_with ((go_at_call 21; (with_reducible refine (hC _).mono ?_); rintro e w1 ⟨rfl, hb1⟩; obtain ⟨hc1, hf1⟩ := bcell hb1; have hz1 : w.heap.size < w1.heap.size := (by have := hb1.size; simp at this; omega)))
      go_ret2
      exact ⟨rfl, ((Below.refl _ _).alloc (Nat.le_refl _) _).trans (hb1.mono (by simp))⟩
    · have e : bdE S P N = 0 := by unfold bdE; rw [if_pos hc, if_neg hl]
      unfold bdS
      rw [e, if_pos rfl]
      have tl : ((S.size : Int) == 1048576) = false := by simp; omega
      have htop : S.size < 1048576 := by omega
      clear e hc hl
      obtain ⟨n, rfl⟩ := Int.eq_ofNat_of_zero_le c1
      have et : ((n : Int)).toNat = n := by omega
      rw [et] at c4 ⊢
      clear et
      have hp1 : (2 : Int) ^ n ≤ 128 := by
        rw [← pow_cast]
        have : 2 ^ n ≤ 2 ^ 7 := Nat.pow_le_pow_right (by omega) (by omega)
        omega
      obtain ⟨p, hp⟩ : ∃ p, (2 : Int) ^ n = p := ⟨_, rfl⟩
      rw [hp] at c4 hp1 ⊢
      have hn7 : n ≤ 7 := by omega
      have hc0 : 0 ≤ P + p := by omega
      have hc1 : P + p < 256 := by omega
      have hcv := one_back
      go_enter Try.func23, Try.ntmps23
      go_wp2_with ((go_at_call 21; (with_reducible refine (hC _).mono ?_); rintro e w1 ⟨rfl, hb1⟩; obtain ⟨hc1, hf1⟩ := bcell hb1; have hz1 : w.heap.size < w1.heap.size := (by have := hb1.size; simp at this; omega)))
      go_ret2
      exact ⟨rfl, (((Below.refl _ _).alloc (Nat.le_refl _) _).trans (hb1.mono (by simp))).alloc (by omega) _⟩
  · have e : bdE S P N = bch S P N := by unfold bdE; rw [if_neg hc]
    unfold bdS
    rw [e, if_neg hc]
    have t2 : (bch S P N != 0) = true := by simp [hc]
    generalize bch S P N = c at *
    clear e hc
    go_enter Try.func23, Try.ntmps23
    go_wp2_with ((go_at_call 21; (with_reducible refine (hC _).mono ?_); rintro e w1 ⟨rfl, hb1⟩; obtain ⟨hc1, hf1⟩ := bcell hb1; have hz1 : w.heap.size < w1.heap.size := (by have := hb1.size; simp at this; omega)))
    go_ret2
    exact ⟨rfl, ((Below.refl _ _).alloc (Nat.le_refl _) _).trans (hb1.mono (by simp))⟩
end Go.Proofs.Yteopglkehlckoaa
