/-
  The reference's readers of streams that are read from behind: Read, Right, what is asked first, and Peek.
-/
import Derived.Test.YteopglkehlckoaaB3Bits
namespace Go.Proofs.Yteopglkehlckoaa
open Go.ChangeShapes Go.WideShapes Go.ChangeAt Go.RowKit
set_option linter.unusedVariables false

theorem strE_vals (S : ByteArray) : strE S = 0 ∨ strE S = 4 ∨ strE S = 22 := by
  unfold strE
  split
  · exact .inr (.inl rfl)
  · split
    · exact .inr (.inr rfl)
    · exact .inl rfl
theorem strE_zero {S : ByteArray} (h : strE S = 0) : 0 < S.size ∧ S.size ≤ 1048576 ∧ lastB S ≠ 0 ∧ 0 ≤ strN S ∧ strN S < 8 * (S.size : Int) := by
  have h' := h
  unfold strE at h
  by_cases h1 : 1048576 < S.size
  · rw [if_pos h1] at h; omega
  · rw [if_neg h1] at h
    by_cases h2 : S.size = 0 ∨ lastB S = 0
    · rw [if_pos h2] at h; omega
    · have hl : lastB S ≠ 0 := fun e => h2 (.inr e)
      have hs : 0 < S.size := by omega
      obtain ⟨m1, _⟩ := hi_some S _ (last_bit S hs hl)
      refine ⟨hs, by omega, hl, ?_, ?_⟩
      · unfold strN; rw [if_pos h']; omega
      · unfold strN; rw [if_pos h']; omega

/-- Read's reader -/
def breS (S : ByteArray) : ByteArray := if strE S = 0 then S else ⟨#[]⟩

theorem strN_bad {S : ByteArray} (h : ¬ strE S = 0) : strN S = 0 := by unfold strN; rw [if_neg h]

theorem bread_any (S : ByteArray) (hS : S.size ≤ 9223372036854775807) (w : World) :
    Calls Try.prog 26 #[.string S] w fun e w' => e = .returned (.tuple #[.agg #[.string (breS S), .int .i64 (strN S)], .int .i64 (strE S)]) ∧ Below w.heap.size w w' := by
  have hB := fun u => bbits_any S hS u
  unfold breS
  by_cases hc : strE S = 0
  · rw [if_pos hc, hc]
    rw [hc] at hB
    clear hc
    generalize strN S = n at *
    go_enter Try.func26, Try.ntmps26
    go_wp2_with ((go_at_call 25; (with_reducible refine (hB _).mono ?_); rintro e w' ⟨rfl, rfl⟩))
    exact bodyPost_ret (v := .tuple #[.agg #[.string S, .int .i64 n], .int .i64 0]) (by simp [results, Try.results26, go_sem]) rfl ⟨rfl, (Below.refl _ _).alloc (Nat.le_refl _) _⟩
  · have t2 : (strE S != 0) = true := by simp [hc]
    rw [if_neg hc, strN_bad hc]
    rw [strN_bad hc] at hB
    generalize strE S = c at *
    clear hc
    go_enter Try.func26, Try.ntmps26
    go_wp2_with ((go_at_call 25; (with_reducible refine (hB _).mono ?_); rintro e w' ⟨rfl, rfl⟩))
    exact bodyPost_ret (v := .tuple #[.agg #[.string ⟨#[]⟩, .int .i64 0], .int .i64 c]) (by simp [results, Try.results26, go_sem]) rfl ⟨rfl, (Below.refl _ _).alloc (Nat.le_refl _) _⟩

/-- Right's answer -/
def brtE (S : ByteArray) (L : Int) : Int := if strE S = 0 ∧ 0 ≤ L ∧ L ≤ strN S then 0 else 10

theorem bright_any (S : ByteArray) (L : Int) (hS : S.size ≤ 9223372036854775807) (w : World) :
    Calls Try.prog 27 #[.agg #[.string S, .int .i64 L]] w fun e w' => e = .returned (.int .i64 (brtE S L)) ∧ Below w.heap.size w w' := by
  have hB := fun u => bbits_any S hS u
  by_cases hc : strE S = 0
  · rw [hc] at hB
    by_cases h1 : L < 0
    · have e : brtE S L = 10 := by unfold brtE; rw [if_neg (by omega)]
      rw [e]
      clear hc
      generalize strN S = n at *
      go_enter Try.func27, Try.ntmps27
      go_wp2_with ((go_at_call 25; (with_reducible refine (hB _).mono ?_); rintro e w' ⟨rfl, rfl⟩))
      go_ret
      exact ⟨rfl, (Below.refl _ _).alloc (Nat.le_refl _) _⟩
    · by_cases h2 : strN S < L
      · have e : brtE S L = 10 := by unfold brtE; rw [if_neg (by omega)]
        rw [e]
        clear hc
        generalize strN S = n at *
        go_enter Try.func27, Try.ntmps27
        go_wp2_with ((go_at_call 25; (with_reducible refine (hB _).mono ?_); rintro e w' ⟨rfl, rfl⟩))
        go_ret
        exact ⟨rfl, (Below.refl _ _).alloc (Nat.le_refl _) _⟩
      · have e : brtE S L = 0 := by unfold brtE; rw [if_pos ⟨hc, by omega, by omega⟩]
        rw [e]
        clear hc
        generalize strN S = n at *
        go_enter Try.func27, Try.ntmps27
        go_wp2_with ((go_at_call 25; (with_reducible refine (hB _).mono ?_); rintro e w' ⟨rfl, rfl⟩))
        go_ret
        exact ⟨rfl, (Below.refl _ _).alloc (Nat.le_refl _) _⟩
  · have e : brtE S L = 10 := by unfold brtE; rw [if_neg (fun h => hc h.1)]
    rw [e]
    have t2 : (strE S != 0) = true := by simp [hc]
    generalize strE S = c at *
    generalize strN S = n at *
    clear hc
    go_enter Try.func27, Try.ntmps27
    go_wp2_with ((go_at_call 25; (with_reducible refine (hB _).mono ?_); rintro e w' ⟨rfl, rfl⟩))
    go_ret
    exact ⟨rfl, (Below.refl _ _).alloc (Nat.le_refl _) _⟩

/-- what is asked first -/
def bakE (S : ByteArray) (L n : Int) : Int := if brtE S L = 0 then (if n < 0 ∨ 32 < n then 2 else 0) else brtE S L

theorem basked_any (S : ByteArray) (L n : Int) (hS : S.size ≤ 9223372036854775807) (w : World) :
    Calls Try.prog 43 #[.agg #[.string S, .int .i64 L], .int .i64 n] w fun e w' => e = .returned (.int .i64 (bakE S L n)) ∧ Below w.heap.size w w' := by
  have hR := fun u => bright_any S L hS u
  by_cases hc : brtE S L = 0
  · rw [hc] at hR
    by_cases hr : n < 0 ∨ 32 < n
    · have e : bakE S L n = 2 := by unfold bakE; rw [if_pos hc, if_pos hr]
      rw [e]
      clear hc e
      rcases hr with hr | hr
      all_goals
        go_enter Try.func43, Try.ntmps43
        go_wp2_with ((go_at_call 27; (with_reducible refine (hR _).mono ?_); rintro e w1 ⟨rfl, hb1⟩))
        go_ret
        exact ⟨rfl, ((Below.refl _ _).alloc (Nat.le_refl _) _).trans (hb1.mono (by simp))⟩
    · have e : bakE S L n = 0 := by unfold bakE; rw [if_pos hc, if_neg hr]
      rw [e]
      have n0 : 0 ≤ n := by omega
      have n1 : n ≤ 32 := by omega
      clear hc e hr
      go_enter Try.func43, Try.ntmps43
      go_wp2_with ((go_at_call 27; (with_reducible refine (hR _).mono ?_); rintro e w1 ⟨rfl, hb1⟩))
      go_ret
      exact ⟨rfl, ((Below.refl _ _).alloc (Nat.le_refl _) _).trans (hb1.mono (by simp))⟩
  · have e : bakE S L n = brtE S L := by unfold bakE; rw [if_neg hc]
    rw [e]
    have t1 : (brtE S L == 0) = false := by simp [hc]
    generalize brtE S L = c at *
    clear hc e
    go_enter Try.func43, Try.ntmps43
    go_wp2_with ((go_at_call 27; (with_reducible refine (hR _).mono ?_); rintro e w1 ⟨rfl, hb1⟩))
    go_ret
    exact ⟨rfl, ((Below.refl _ _).alloc (Nat.le_refl _) _).trans (hb1.mono (by simp))⟩

/-- the number of the first n bits from behind, those before the beginning being 0 -/
def pkN (S : ByteArray) (L : Nat) : Nat → Nat
  | 0 => 0
  | n + 1 => 2 * pkN S L n + (if n < L then bitAt S (L - 1 - n) else 0)
theorem pkN_lt (S : ByteArray) (L n : Nat) : pkN S L n < 2 ^ n := by
  induction n with
  | zero => simp [pkN]
  | succ n ih =>
    simp only [pkN]
    rw [Nat.pow_succ]
    split
    · have := bitAt_lt S (L - 1 - n); omega
    · omega
theorem pkN_le (S : ByteArray) (L n : Nat) (h : n ≤ 32) : pkN S L n ≤ 4294967296 := by
  have h1 := pkN_lt S L n
  have h2 : 2 ^ n ≤ 2 ^ 32 := Nat.pow_le_pow_right (by omega) h
  omega

/-- Peek's number -/
def bpkX (S : ByteArray) (L n : Int) : Int := if bakE S L n = 0 then (pkN S L.toNat n.toNat : Nat) else 0

theorem bpeek_loop (S : ByteArray) (L n : Nat) (hL : L ≤ 8 * S.size) (hS : S.size ≤ 1048576) (hn : n ≤ 32) (w : World)
    (hA : ∀ u, Calls Try.prog 43 #[.agg #[.string S, .int .i64 (L : Int)], .int .i64 (n : Int)] u fun e w' => e = .returned (.int .i64 0) ∧ Below u.heap.size u w') :
    Calls Try.prog 30 #[.agg #[.string S, .int .i64 (L : Int)], .int .i64 (n : Int)] w fun e w' => e = .returned (.tuple #[.int .u64 (pkN S L n : Nat), .int .i64 0]) ∧ Below w.heap.size w w' := by
  go_enter Try.func30, Try.ntmps30
  go_wp2_with ((go_at_call 43; (with_reducible refine (hA _).mono ?_); rintro e w1 ⟨rfl, hb1⟩; obtain ⟨hc1, hf1⟩ := bcell hb1; have hz1 : w.heap.size < w1.heap.size := (by have := hb1.size; simp at this; omega)))
  have c0 : w1.cell? ⟨w.heap.size, 0, none⟩ = some (.string S) := by rw [hc1 _ _ (by simp)]; simp [go_sem]
  have c1 : w1.cell? ⟨w.heap.size, 1, none⟩ = some (.int .i64 (L : Int)) := by rw [hc1 _ _ (by simp)]; simp [go_sem]
  clear hc1 hf1
  go_loop [7, 8, 9] (fun o i _ => ∃ (k : Nat) (x : Int), k ≤ n ∧ 0 ≤ x ∧ x ≤ 4294967296 ∧ Hid (x = (pkN S L k : Nat)) ∧ o = .int .u64 x ∧ i = .int .i64 (k : Int)) (fun _ i _ => n - (intOf i).toNat)
  case atStart => exact ⟨0, 0, by omega, by omega, by omega, rfl, rfl, rfl⟩
  case round =>
    obtain ⟨k, x, hk, hx0, hx1, hx, rfl, rfl⟩ := hrel
    by_cases hlt : k < n
    · by_cases hin : k < L
      · obtain ⟨m, hm⟩ : ∃ m, L = m + 1 + k := ⟨L - 1 - k, by omega⟩
        have hq : m / 8 < S.size := by omega
        have em : (L : Int) - 1 - k = m := by omega
        have hpk : pkN S L (k + 1) = 2 * pkN S L k + bitAt S m := by
          simp only [pkN]
          rw [if_pos hin, show L - 1 - k = m by omega]
        have hbl := bitAt_lt S m
        obtain ⟨β, hβ⟩ : ∃ β : Int, ((bitAt S m : Nat) : Int) = β := ⟨_, rfl⟩
        have hb0 : 0 ≤ β := by omega
        have hb1' : β ≤ 1 := by omega
        have hbit : bits BinOp.and IntKind.u8 (((S[m / 8]'hq).toNat : Int) / 2 ^ (m % 8)) 1 = β := by
          rw [u8_bit _ _ (S[m / 8]'hq).toNat_lt, ← hβ]
          unfold bitAt
          rw [dif_pos hq]
        have HK := Lib.hid hpk
        have HM := Lib.hid hm
        have Hβ := Lib.hid hβ
        have hle := pkN_le S L (k + 1) (by omega)
        clear hm hpk hβ hbl
        go_wp2
        go_round
        case rel =>
          have h1 := HK.out
          have h2 := Hβ.out
          have h3 := hx.out
          exact ⟨k + 1, x * 2 + β, by omega, by omega, by omega, by show _ = _; omega, rfl, by go_num⟩
        case measure => simp [intOf]; omega
      · have hpk : pkN S L (k + 1) = 2 * pkN S L k := by
          simp only [pkN]
          rw [if_neg hin]
          rfl
        have HK := Lib.hid hpk
        have hle := pkN_le S L (k + 1) (by omega)
        clear hpk
        go_wp2
        go_round
        case rel =>
          have h1 := HK.out
          have h3 := hx.out
          exact ⟨k + 1, x * 2, by omega, by omega, by omega, by show _ = _; omega, rfl, by go_num⟩
        case measure => simp [intOf]; omega
    · obtain rfl : k = n := by omega
      go_wp2
      go_ret2
      exact ⟨by rw [hx.out]; rfl, ((Below.refl _ _).alloc (Nat.le_refl _) _).trans (hb1.mono (by simp))⟩
end Go.Proofs.Yteopglkehlckoaa
