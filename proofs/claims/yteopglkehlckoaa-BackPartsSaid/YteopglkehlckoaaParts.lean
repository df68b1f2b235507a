/-
  BackParts: the law's walk, for every string and all numbers.
-/
import Derived.Test.YteopglkehlckoaaKnown
import Derived.Test.YteopglkehlckoaaModK
namespace Go.Proofs.Yteopglkehlckoaa
open Go.ChangeShapes Go.WideShapes Go.ChangeAt Go.RowKit
set_option linter.unusedVariables false

/-- a stream whose last byte is 128 -/
theorem last128 (S : ByteArray) : lastB (S ++ ⟨#[128]⟩) = 128 := by
  have hs : (S ++ (⟨#[128]⟩ : ByteArray)).size = S.size + 1 := by rw [ByteArray.size_append]; rfl
  unfold lastB
  rw [dif_pos (by omega)]
  have : (S ++ (⟨#[128]⟩ : ByteArray))[(S ++ (⟨#[128]⟩ : ByteArray)).size - 1]'(by omega) = 128 := by
    rw [ByteArray.getElem_append_right (by omega)]
    simp only [hs]
    simp
    rfl
  rw [this]
  rfl
theorem size128 (S : ByteArray) : (S ++ (⟨#[128]⟩ : ByteArray)).size = S.size + 1 := by rw [ByteArray.size_append]; rfl
theorem str128 (S : ByteArray) (h : S.size ≤ 20) : strE (S ++ ⟨#[128]⟩) = 0 ∧ strN (S ++ ⟨#[128]⟩) = 8 * (S.size : Int) + 7 := by
  have hs := size128 S
  have e : strE (S ++ ⟨#[128]⟩) = 0 := by
    unfold strE
    rw [if_neg (by omega), if_neg (by rw [last128]; omega)]
  refine ⟨e, ?_⟩
  unfold strN
  rw [if_pos e, hi_all _ (by omega) (by rw [last128]; decide), last128, hs, show hb 128 8 = 7 by decide +kernel]
  omega
theorem pkN_add (S : ByteArray) (L m n : Nat) (h : m + n ≤ L) : pkN S L (m + n) = pkN S L m * 2 ^ n + pkN S (L - m) n := by
  rw [pkN_in S L (m + n) h, pkN_in S L m (by omega), pkN_in S (L - m) n (by omega), Nat.add_comm m n, numB_add, show L - (n + m) + n = L - m by omega, show L - (n + m) = L - m - n by omega]
  omega

/-- contracts for readers that are right -/
theorem brt_ok (S : ByteArray) (L : Nat) (h1 : strE S = 0) (h2 : (L : Int) ≤ strN S) : brtE S (L : Int) = 0 := by unfold brtE; rw [if_pos ⟨h1, by omega, h2⟩]
theorem bak_ok (S : ByteArray) (L n : Nat) (h1 : strE S = 0) (h2 : (L : Int) ≤ strN S) (hn : n ≤ 32) : bakE S (L : Int) (n : Int) = 0 := by unfold bakE; rw [brt_ok S L h1 h2, if_pos rfl, if_neg (by omega)]
theorem takeR_good (S : ByteArray) (A B C : Int) (L n : Nat) (hA : A = L) (hB : B = n) (hC : A - B = C) (hS : S.size ≤ 1048576) (h1 : strE S = 0) (h2 : (L : Int) ≤ strN S) (hn : n ≤ 32) (h : n ≤ L) (u : World) :
    Calls Try.prog 14 #[.agg #[.string S, .int .i64 A], .int .i64 B] u fun x w' => x = .returned (.tuple #[.agg #[.string S, .int .i64 C], .int .u64 (pkN S L n : Nat), .int .i64 0]) ∧ Below u.heap.size u w' := by
  subst hA hB hC
  have e := bak_ok S L n h1 h2 hn
  have e2 : bskE S (L : Int) (n : Int) = 0 := by unfold bskE; rw [if_pos e, if_neg (by omega)]
  have h := ownTake_any S (L : Int) (n : Int) (by omega) u
  have e3 : btkX S (L : Int) (n : Int) = (pkN S L n : Nat) := by unfold btkX bpkX; rw [if_pos e2, if_pos e]; simp
  unfold bskS bskL at h
  rw [e3, e2, if_pos rfl, if_pos rfl] at h
  exact h
theorem takeR_short (S : ByteArray) (A B : Int) (L n : Nat) (hA : A = L) (hB : B = n) (hS : S.size ≤ 1048576) (h1 : strE S = 0) (h2 : (L : Int) ≤ strN S) (hn : n ≤ 32) (h : L < n) (u : World) :
    Calls Try.prog 14 #[.agg #[.string S, .int .i64 A], .int .i64 B] u fun x w' => x = .returned (.tuple #[.agg #[.string ⟨#[]⟩, .int .i64 0], .int .u64 0, .int .i64 5]) ∧ Below u.heap.size u w' := by
  subst hA hB
  have e := bak_ok S L n h1 h2 hn
  have e2 : bskE S (L : Int) (n : Int) = 5 := by unfold bskE; rw [if_pos e, if_pos (by omega)]
  have h := ownTake_any S (L : Int) (n : Int) (by omega) u
  unfold bskS bskL btkX at h
  rw [e2, if_neg (by decide), if_neg (by decide), if_neg (by decide)] at h
  exact h
theorem peekR_good (S : ByteArray) (A B : Int) (L n : Nat) (hA : A = L) (hB : B = n) (hS : S.size ≤ 1048576) (h1 : strE S = 0) (h2 : (L : Int) ≤ strN S) (hn : n ≤ 32) (u : World) :
    Calls Try.prog 29 #[.agg #[.string S, .int .i64 A], .int .i64 B] u fun x w' => x = .returned (.tuple #[.int .u64 (pkN S L n : Nat), .int .i64 0]) ∧ Below u.heap.size u w' := by
  subst hA hB
  have e := bak_ok S L n h1 h2 hn
  have h := ownPeek_any S (L : Int) (n : Int) (by omega) u
  have e3 : bpkX S (L : Int) (n : Int) = (pkN S L n : Nat) := by unfold bpkX; rw [if_pos e]; simp
  rw [e3, e] at h
  exact h
theorem readR_good (S : ByteArray) (L : Int) (hS : S.size ≤ 1048576) (h1 : strE S = 0) (h2 : strN S = L) (u : World) :
    Calls Try.prog 13 #[.string S] u fun x w' => x = .returned (.tuple #[.agg #[.string S, .int .i64 L], .int .i64 0]) ∧ Below u.heap.size u w' := by
  have h := ownRead_any S (by omega) u
  unfold breS at h
  rw [h1, h2, if_pos rfl] at h
  exact h

theorem parts_long (S : ByteArray) (a b : Int) (w : World) (h1 : decide ((20 : Int) < (S.size : Int)) = true) :
    Calls Try.prog 7 #[.string S, .int .i64 a, .int .i64 b] w fun e w' => e = .returned (.bool true) ∧ Below w.heap.size w w' := by
  go_enter Try.func7, Try.ntmps7
  go_wp2_with (go_at_call 19; (with_reducible refine (awake_any _).mono ?_); rintro e w1 ⟨rfl, hb1⟩)
  go_ret
  exact ⟨rfl, hb1⟩

set_option maxRecDepth 100000 in
set_option maxHeartbeats 1000000 in
theorem parts_a (S : ByteArray) (a b : Int) (T : ByteArray) (M N : Nat) (w : World) (hM : M ≤ 16) (hN : N ≤ 16) (h : 8 * (S.size : Int) + 7 < M)
    (h1 : decide ((20 : Int) < (S.size : Int)) = false) (hS : S.size ≤ 20)
    (hm : ∀ u, Calls Try.prog 34 #[.int .i64 a, .int .i64 17] u fun x w' => x = .returned (.int .i64 (M : Int)) ∧ u = w')
    (hn : ∀ u, Calls Try.prog 34 #[.int .i64 b, .int .i64 17] u fun x w' => x = .returned (.int .i64 (N : Int)) ∧ u = w')
    (hR : ∀ u, Calls Try.prog 13 #[.string (S ++ ⟨#[128]⟩)] u fun x w' => x = .returned (.tuple #[.agg #[.string T, .int .i64 (8 * (S.size : Int) + 7)], .int .i64 0]) ∧ Below u.heap.size u w')
    (hT : ∀ u, Calls Try.prog 14 #[.agg #[.string T, .int .i64 (8 * (S.size : Int) + 7)], .int .i64 (M : Int)] u fun x w' => x = .returned (.tuple #[.agg #[.string ⟨#[]⟩, .int .i64 0], .int .u64 0, .int .i64 5]) ∧ Below u.heap.size u w') :
    Calls Try.prog 7 #[.string S, .int .i64 a, .int .i64 b] w fun e w' => e = .returned (.bool true) ∧ Below w.heap.size w w' := by
  go_enter Try.func7, Try.ntmps7
  go_wp2_with (first
    | (go_at_call 34; (with_reducible refine (hm _).mono ?_); rintro e w' ⟨rfl, rfl⟩)
    | (go_at_call 34; (with_reducible refine (hn _).mono ?_); rintro e w' ⟨rfl, rfl⟩)
    | (go_at_call 13; (with_reducible refine (hR _).mono ?_); rintro e w1 ⟨rfl, hb1⟩)
    | (go_at_call 14; (with_reducible refine (hT _).mono ?_); rintro e w2 ⟨rfl, hb2⟩; have k := blk_next (blk_new w1 32 #[.string T, .int .i64 (8 * (S.size : Int) + 7)]) hb2; obtain ⟨p0, p1, _⟩ := blk2 k; have l := blk_lt k)
    | (go_at_call 19; (with_reducible refine (awake_any _).mono ?_); rintro e w3 ⟨rfl, hb3⟩))
  go_ret
  exact ⟨rfl, below_call (below_box (below_call (below_box hb1 _) hb2) _) hb3⟩

set_option maxRecDepth 100000 in
set_option maxHeartbeats 1000000 in
theorem parts_b (S : ByteArray) (a b : Int) (T : ByteArray) (M N X1 X2 k : Nat) (p : Int) (w : World) (hM : M ≤ 16) (hN : N ≤ 16) (h : (M : Int) ≤ 8 * (S.size : Int) + 7) (hs : 8 * (S.size : Int) + 7 < (M : Int) + N) (hX1 : X1 ≤ 4294967296) (hX2 : X2 ≤ 4294967296)
    (hk : (M : Int) + N - (8 * (S.size : Int) + 7) = k) (hp : (2 : Int) ^ k = p) (hp0 : 1 ≤ p) (hp1 : p ≤ 4294967296) (hz : ((X2 : Int) % p == 0) = true)
    (h1 : decide ((20 : Int) < (S.size : Int)) = false) (hS : S.size ≤ 20)
    (hm : ∀ u, Calls Try.prog 34 #[.int .i64 a, .int .i64 17] u fun x w' => x = .returned (.int .i64 (M : Int)) ∧ u = w')
    (hn : ∀ u, Calls Try.prog 34 #[.int .i64 b, .int .i64 17] u fun x w' => x = .returned (.int .i64 (N : Int)) ∧ u = w')
    (hR : ∀ u, Calls Try.prog 13 #[.string (S ++ ⟨#[128]⟩)] u fun x w' => x = .returned (.tuple #[.agg #[.string T, .int .i64 (8 * (S.size : Int) + 7)], .int .i64 0]) ∧ Below u.heap.size u w')
    (hT : ∀ u, Calls Try.prog 14 #[.agg #[.string T, .int .i64 (8 * (S.size : Int) + 7)], .int .i64 (M : Int)] u fun x w' => x = .returned (.tuple #[.agg #[.string T, .int .i64 (8 * (S.size : Int) + 7 - M)], .int .u64 (X1 : Int), .int .i64 0]) ∧ Below u.heap.size u w')
    (hT2 : ∀ u, Calls Try.prog 14 #[.agg #[.string T, .int .i64 (8 * (S.size : Int) + 7 - M)], .int .i64 (N : Int)] u fun x w' => x = .returned (.tuple #[.agg #[.string ⟨#[]⟩, .int .i64 0], .int .u64 0, .int .i64 5]) ∧ Below u.heap.size u w')
    (hT3 : ∀ u, Calls Try.prog 14 #[.agg #[.string T, .int .i64 (8 * (S.size : Int) + 7)], .int .i64 ((M : Int) + N)] u fun x w' => x = .returned (.tuple #[.agg #[.string ⟨#[]⟩, .int .i64 0], .int .u64 0, .int .i64 5]) ∧ Below u.heap.size u w')
    (hP : ∀ u, Calls Try.prog 29 #[.agg #[.string T, .int .i64 (8 * (S.size : Int) + 7)], .int .i64 ((M : Int) + N)] u fun x w' => x = .returned (.tuple #[.int .u64 (X2 : Int), .int .i64 0]) ∧ Below u.heap.size u w') :
    Calls Try.prog 7 #[.string S, .int .i64 a, .int .i64 b] w fun e w' => e = .returned (.bool true) ∧ Below w.heap.size w w' := by
  go_enter Try.func7, Try.ntmps7
  go_wp2_with (first
    | (go_at_call 34; (with_reducible refine (hm _).mono ?_); rintro e w' ⟨rfl, rfl⟩)
    | (go_at_call 34; (with_reducible refine (hn _).mono ?_); rintro e w' ⟨rfl, rfl⟩)
    | (go_at_call 13; (with_reducible refine (hR _).mono ?_); rintro e w1 ⟨rfl, hb1⟩)
    | (go_at_call 14; (with_reducible refine (hT _).mono ?_); rintro e w2 ⟨rfl, hb2⟩; have k := blk_next (blk_new w1 32 #[.string T, .int .i64 (8 * (S.size : Int) + 7)]) hb2; obtain ⟨p0, p1, _⟩ := blk2 k; have l := blk_lt k)
    | (go_at_call 14; (with_reducible refine (hT2 _).mono ?_); rintro e w3 ⟨rfl, hb3⟩; have k := blk_next (blk_alloc k _) hb3; obtain ⟨p0, p1, _⟩ := blk2 k; have l := blk_lt k)
    | (go_at_call 14; (with_reducible refine (hT3 _).mono ?_); rintro e w4 ⟨rfl, hb4⟩; have k := blk_next (blk_alloc k _) hb4; obtain ⟨p0, p1, _⟩ := blk2 k; have l := blk_lt k)
    | (go_at_call 29; (with_reducible refine (hP _).mono ?_); rintro e w5 ⟨rfl, hb5⟩; have k := blk_next (blk_alloc k _) hb5; obtain ⟨p0, p1, _⟩ := blk2 k; have l := blk_lt k)
    | (go_at_call 19; (with_reducible refine (awake_any _).mono ?_); rintro e w6 ⟨rfl, hb6⟩))
  go_ret
  exact ⟨rfl, below_call (below_call (below_box (below_call (below_box (below_call (below_box (below_call (below_box hb1 _) hb2) _) hb3) _) hb4) _) hb5) hb6⟩

set_option maxRecDepth 100000 in
set_option maxHeartbeats 1000000 in
theorem parts_c (S : ByteArray) (a b : Int) (T : ByteArray) (M N X1 X2 X3 : Nat) (p q : Int) (w : World) (hM : M ≤ 16) (hN : N ≤ 16) (h : (M : Int) ≤ 8 * (S.size : Int) + 7) (hs : (M : Int) + N ≤ 8 * (S.size : Int) + 7) (hX1 : X1 ≤ 4294967296) (hX2 : X2 ≤ 4294967296) (hX3 : X3 ≤ 4294967296)
    (hp : (2 : Int) ^ N = p) (hq : (X1 : Int) * p = q) (hq0 : 0 ≤ q) (hq1 : q ≤ 4294967296) (hz : ((X3 : Int) == q + X2) = true)
    (h1 : decide ((20 : Int) < (S.size : Int)) = false) (hS : S.size ≤ 20)
    (hm : ∀ u, Calls Try.prog 34 #[.int .i64 a, .int .i64 17] u fun x w' => x = .returned (.int .i64 (M : Int)) ∧ u = w')
    (hn : ∀ u, Calls Try.prog 34 #[.int .i64 b, .int .i64 17] u fun x w' => x = .returned (.int .i64 (N : Int)) ∧ u = w')
    (hR : ∀ u, Calls Try.prog 13 #[.string (S ++ ⟨#[128]⟩)] u fun x w' => x = .returned (.tuple #[.agg #[.string T, .int .i64 (8 * (S.size : Int) + 7)], .int .i64 0]) ∧ Below u.heap.size u w')
    (hT : ∀ u, Calls Try.prog 14 #[.agg #[.string T, .int .i64 (8 * (S.size : Int) + 7)], .int .i64 (M : Int)] u fun x w' => x = .returned (.tuple #[.agg #[.string T, .int .i64 (8 * (S.size : Int) + 7 - M)], .int .u64 (X1 : Int), .int .i64 0]) ∧ Below u.heap.size u w')
    (hT2 : ∀ u, Calls Try.prog 14 #[.agg #[.string T, .int .i64 (8 * (S.size : Int) + 7 - M)], .int .i64 (N : Int)] u fun x w' => x = .returned (.tuple #[.agg #[.string T, .int .i64 (8 * (S.size : Int) + 7 - M - N)], .int .u64 (X2 : Int), .int .i64 0]) ∧ Below u.heap.size u w')
    (hT3 : ∀ u, Calls Try.prog 14 #[.agg #[.string T, .int .i64 (8 * (S.size : Int) + 7)], .int .i64 ((M : Int) + N)] u fun x w' => x = .returned (.tuple #[.agg #[.string T, .int .i64 (8 * (S.size : Int) + 7 - M - N)], .int .u64 (X3 : Int), .int .i64 0]) ∧ Below u.heap.size u w')
    (hP : ∀ u, Calls Try.prog 29 #[.agg #[.string T, .int .i64 (8 * (S.size : Int) + 7)], .int .i64 ((M : Int) + N)] u fun x w' => x = .returned (.tuple #[.int .u64 (X3 : Int), .int .i64 0]) ∧ Below u.heap.size u w') :
    Calls Try.prog 7 #[.string S, .int .i64 a, .int .i64 b] w fun e w' => e = .returned (.bool true) ∧ Below w.heap.size w w' := by
  go_enter Try.func7, Try.ntmps7
  go_wp2_with (first
    | (go_at_call 34; (with_reducible refine (hm _).mono ?_); rintro e w' ⟨rfl, rfl⟩)
    | (go_at_call 34; (with_reducible refine (hn _).mono ?_); rintro e w' ⟨rfl, rfl⟩)
    | (go_at_call 13; (with_reducible refine (hR _).mono ?_); rintro e w1 ⟨rfl, hb1⟩)
    | (go_at_call 14; (with_reducible refine (hT _).mono ?_); rintro e w2 ⟨rfl, hb2⟩; have k := blk_next (blk_new w1 32 #[.string T, .int .i64 (8 * (S.size : Int) + 7)]) hb2; obtain ⟨p0, p1, _⟩ := blk2 k; have l := blk_lt k)
    | (go_at_call 14; (with_reducible refine (hT2 _).mono ?_); rintro e w3 ⟨rfl, hb3⟩; have k := blk_next (blk_alloc k _) hb3; obtain ⟨p0, p1, _⟩ := blk2 k; have l := blk_lt k)
    | (go_at_call 14; (with_reducible refine (hT3 _).mono ?_); rintro e w4 ⟨rfl, hb4⟩; have k := blk_next (blk_alloc k _) hb4; obtain ⟨p0, p1, _⟩ := blk2 k; have l := blk_lt k; have j := blk_next (blk_new w3 32 #[.string T, .int .i64 (8 * (S.size : Int) + 7 - M - N)]) hb4; have lj := blk_lt j)
    | (go_at_call 29; (with_reducible refine (hP _).mono ?_); rintro e w5 ⟨rfl, hb5⟩; have k := blk_next (blk_alloc k _) hb5; obtain ⟨p0, p1, _⟩ := blk2 k; have l := blk_lt k; have j := blk_next (blk_alloc j _) hb5; obtain ⟨q0, q1, _⟩ := blk2 j; have lj := blk_lt j; have i := blk_next (blk_new w4 32 #[.string T, .int .i64 (8 * (S.size : Int) + 7 - M - N)]) hb5; obtain ⟨r0, r1, _⟩ := blk2 i; have li := blk_lt i)
    | (go_at_call 19; (with_reducible refine (awake_any _).mono ?_); rintro e w6 ⟨rfl, hb6⟩))
  go_ret
  exact ⟨rfl, below_call (below_call (below_box (below_call (below_box (below_call (below_box (below_call (below_box hb1 _) hb2) _) hb3) _) hb4) _) hb5) hb6⟩

theorem pkN_le2 (S : ByteArray) (L n : Nat) (h : n ≤ 16) : pkN S L n ≤ 65535 := by
  have h1 := pkN_lt S L n
  have h2 : 2 ^ n ≤ 2 ^ 16 := Nat.pow_le_pow_right (by omega) h
  omega

theorem parts_any (S : ByteArray) (a b : Int) (hS : S.size ≤ maxLen) (r1 : -9223372036854775808 ≤ a ∧ a ≤ 9223372036854775807) (r2 : -9223372036854775808 ≤ b ∧ b ≤ 9223372036854775807) (w : World) :
    Calls Try.prog 7 #[.string S, .int .i64 a, .int .i64 b] w fun e w' => e = .returned (.bool true) ∧ Below w.heap.size w w' := by
  by_cases h1 : 20 < S.size
  · exact parts_long S a b w (decide_eq_true (by omega))
  · have hd : decide ((20 : Int) < (S.size : Int)) = false := decide_eq_false (by omega)
    have hs : S.size ≤ 20 := by omega
    obtain ⟨t1, t2⟩ := str128 S hs
    have t3 := size128 S
    have hm := fun u => mod_any a 17 r1.1 r1.2 (by omega) (by omega) u
    have hn := fun u => mod_any b 17 r2.1 r2.2 (by omega) (by omega) u
    obtain ⟨M, hM⟩ := Int.eq_ofNat_of_zero_le (show 0 ≤ a % 17 by omega)
    obtain ⟨N, hN⟩ := Int.eq_ofNat_of_zero_le (show 0 ≤ b % 17 by omega)
    rw [hM] at hm
    rw [hN] at hn
    have hM1 : M ≤ 16 := by omega
    have hN1 : N ≤ 16 := by omega
    clear hM hN r1 r2
    obtain ⟨L, hL⟩ : ∃ L : Nat, 8 * (S.size : Int) + 7 = L := ⟨8 * S.size + 7, by omega⟩
    have hR := readR_good (S ++ ⟨#[128]⟩) _ (by omega) t1 t2
    have t4 : (L : Int) ≤ strN (S ++ ⟨#[128]⟩) := by omega
    generalize hT : S ++ (⟨#[128]⟩ : ByteArray) = T at *
    rw [← hT] at hR
    have hR2 : ∀ u, Calls Try.prog 13 #[.string (S ++ ⟨#[128]⟩)] u fun x w' => x = .returned (.tuple #[.agg #[.string T, .int .i64 (8 * (S.size : Int) + 7)], .int .i64 0]) ∧ Below u.heap.size u w' := by
      rw [← hT]; exact hR
    have hTs : T.size ≤ 1048576 := by omega
    by_cases hA : L < M
    · exact parts_a S a b T M N w hM1 hN1 (by omega) hd hs hm hn hR2 (takeR_short T _ _ L M hL rfl hTs t1 t4 (by omega) hA)
    · have hT1 := takeR_good T _ _ (8 * (S.size : Int) + 7 - M) L M hL rfl rfl hTs t1 t4 (by omega) (by omega)
      have a1 := pkN_le2 T L M hM1
      have a2 := pkN_le2 T (L - M) N hN1
      have a3 := pkN_le T L (M + N) (by omega)
      have hP := peekR_good T _ ((M : Int) + N) L (M + N) hL (by omega) hTs t1 t4 (by omega)
      by_cases hB : L < M + N
      · obtain ⟨k, hk⟩ : ∃ k, M + N = L + k := ⟨M + N - L, by omega⟩
        have hk1 : k ≤ 32 := by omega
        have hp2 : 2 ^ k ≤ 2 ^ 32 := Nat.pow_le_pow_right (by omega) hk1
        have hp1 := Nat.two_pow_pos k
        have hc := pow_cast k
        have hz : pkN T L (M + N) % 2 ^ k = 0 := by rw [hk, pkN_out]; exact Nat.mul_mod_left _ _
        refine parts_b S a b T M N _ _ k ((2 ^ k : Nat) : Int) w hM1 hN1 (by omega) (by omega) (by omega) a3 (by omega) hc.symm (by omega) (by omega) ?_ hd hs hm hn hR2 hT1 (takeR_short T _ _ (L - M) N (by omega) rfl hTs t1 (by omega) (by omega) (by omega)) (takeR_short T _ _ L (M + N) hL (by omega) hTs t1 t4 (by omega) hB) hP
        rw [beq_iff_eq]
        omega
      · have e := pkN_add T L M N (by omega)
        have hq : (pkN T L M : Int) * (2 : Int) ^ N = ((pkN T L M * 2 ^ N : Nat) : Int) := by simp
        have hT3 := takeR_good T _ ((M : Int) + N) (8 * (S.size : Int) + 7 - M - N) L (M + N) hL (by omega) (by omega) hTs t1 t4 (by omega) (by omega)
        refine parts_c S a b T M N _ _ _ _ _ w hM1 hN1 (by omega) (by omega) (by omega) (by omega) a3 rfl hq (by omega) (by omega) ?_ hd hs hm hn hR2 hT1 (takeR_good T _ _ _ (L - M) N (by omega) rfl rfl hTs t1 (by omega) (by omega) (by omega)) hT3 hP
        rw [beq_iff_eq]
        omega
end Go.Proofs.Yteopglkehlckoaa
