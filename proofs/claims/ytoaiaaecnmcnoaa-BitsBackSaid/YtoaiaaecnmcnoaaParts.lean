/-
  BitsParts: bits taken in parts, a number as the sum of its bits; for every string and all numbers.
-/
import Derived.Test.YtoaiaaecnmcnoaaKnown
import Derived.Test.YtoaiaaecnmcnoaaModK
namespace Go.Proofs.Ytoaiaaecnmcnoaa
open Go.ChangeShapes Go.WideShapes Go.ChangeAt Go.RowKit
set_option linter.unusedVariables false

theorem numB_add (S : ByteArray) (b n m : Nat) : numB S b (n + m) = numB S b n + numB S (b + n) m * 2 ^ n := by
  induction m with
  | zero => simp [numB]
  | succ m ih =>
    rw [show n + (m + 1) = (n + m) + 1 by omega]
    simp only [numB]
    rw [ih, Nat.add_mul, Nat.add_assoc, show b + (n + m) = b + n + m by omega, Nat.pow_add, Nat.mul_assoc, Nat.mul_comm (2 ^ n)]
theorem numB_one (S : ByteArray) (b : Nat) : numB S b 1 = bitAt S b := by simp [numB]

theorem blk2_set {w : World} {g : Nat} {t : TypeId} {s : ByteArray} {b : Int} (s' : ByteArray) (b' : Int) (h : Blk w g t #[.string s, .int .i64 b]) : Blk ((w.setCell ⟨g, 0, none⟩ (.string s')).setCell ⟨g, 1, none⟩ (.int .i64 b')) g t #[.string s', .int .i64 b'] := blk_set (blk_set h 0 _) 1 _

theorem parts_long (S : ByteArray) (bit n m : Int) (w : World) (h1 : decide ((60 : Int) < (S.size : Int)) = true) :
    Calls Try.prog 7 #[.string S, .int .i64 bit, .int .i64 n, .int .i64 m] w fun e w' => e = .returned (.bool true) ∧ Below w.heap.size w w' := by
  go_enter Try.func7, Try.ntmps7
  go_wp2_with (go_at_call 5; (with_reducible refine (known_any _).mono ?_); rintro e w1 ⟨rfl, hb1⟩)
  go_ret
  exact ⟨rfl, hb1⟩

set_option maxRecDepth 100000 in
set_option maxHeartbeats 1000000 in
theorem parts_short (S : ByteArray) (bit n m : Int) (b N M X : Nat) (w : World) (hS : S.size ≤ 60) (hb : b ≤ 8 * S.size) (hN : N ≤ 16) (hM : M ≤ 16) (hs : 8 * (S.size : Int) - b < (N : Int) + M)
    (h1 : decide ((60 : Int) < (S.size : Int)) = false)
    (hB : ∀ u, Calls Try.prog 31 #[.int .i64 bit, .int .i64 (8 * (S.size : Int) + 1)] u fun x w' => x = .returned (.int .i64 (b : Int)) ∧ u = w')
    (hn : ∀ u, Calls Try.prog 31 #[.int .i64 n, .int .i64 17] u fun x w' => x = .returned (.int .i64 (N : Int)) ∧ u = w')
    (hm : ∀ u, Calls Try.prog 31 #[.int .i64 m, .int .i64 17] u fun x w' => x = .returned (.int .i64 (M : Int)) ∧ u = w')
    (hP : ∀ u, Calls Try.prog 23 #[.agg #[.string S, .int .i64 (b : Int)], .int .i64 ((N : Int) + M)] u fun x w' => x = .returned (.tuple #[.int .i64 (X : Int), .int .i64 0]) ∧ Below u.heap.size u w')
    (hT : ∀ u, Calls Try.prog 21 #[.agg #[.string S, .int .i64 (b : Int)], .int .i64 ((N : Int) + M)] u fun x w' => x = .returned (.tuple #[.agg #[.string ⟨#[]⟩, .int .i64 0], .int .i64 0, .int .i64 5]) ∧ Below u.heap.size u w') :
    Calls Try.prog 7 #[.string S, .int .i64 bit, .int .i64 n, .int .i64 m] w fun e w' => e = .returned (.bool true) ∧ Below w.heap.size w w' := by
  go_enter Try.func7, Try.ntmps7
  go_wp2_with (first
    | (go_at_call 5; (with_reducible refine (known_any _).mono ?_); rintro e w1 ⟨rfl, hb1⟩)
    | (go_at_call 31; (with_reducible refine (hB _).mono ?_); rintro e w' ⟨rfl, rfl⟩)
    | (go_at_call 31; (with_reducible refine (hn _).mono ?_); rintro e w' ⟨rfl, rfl⟩)
    | (go_at_call 31; (with_reducible refine (hm _).mono ?_); rintro e w' ⟨rfl, rfl⟩)
    | (go_at_call 23; (with_reducible refine (hP _).mono ?_); rintro e w2 ⟨rfl, hb2⟩; have k := blk_next (blk_new w1 34 #[.string S, .int .i64 (b : Int)]) hb2; obtain ⟨p0, p1, _⟩ := blk2 k)
    | (go_at_call 21; (with_reducible refine (hT _).mono ?_); rintro e w3 ⟨rfl, hb3⟩))
  go_ret
  exact ⟨rfl, below_box (below_call (below_call (below_box hb1 _) hb2) hb3) _⟩

set_option maxRecDepth 100000 in
set_option maxHeartbeats 2000000 in
theorem parts_good (S : ByteArray) (bit n m : Int) (b N M X1 X2 X3 : Nat) (p q : Int) (w : World) (hS : S.size ≤ 60) (hb : b ≤ 8 * S.size) (hN : N ≤ 16) (hM : M ≤ 16) (hs : (N : Int) + M ≤ 8 * (S.size : Int) - b) (hX1 : X1 ≤ 4294967296) (hX3 : X3 ≤ 4294967296)
    (hp : (2 : Int) ^ N = p) (hq : (X2 : Int) * p = q) (hq0 : 0 ≤ q) (hq1 : q ≤ 4294967296) (hx : ((X1 : Int) + q != X3) = false) (hX : numB S b (N + M) = X3)
    (h1 : decide ((60 : Int) < (S.size : Int)) = false)
    (hB : ∀ u, Calls Try.prog 31 #[.int .i64 bit, .int .i64 (8 * (S.size : Int) + 1)] u fun x w' => x = .returned (.int .i64 (b : Int)) ∧ u = w')
    (hn : ∀ u, Calls Try.prog 31 #[.int .i64 n, .int .i64 17] u fun x w' => x = .returned (.int .i64 (N : Int)) ∧ u = w')
    (hm : ∀ u, Calls Try.prog 31 #[.int .i64 m, .int .i64 17] u fun x w' => x = .returned (.int .i64 (M : Int)) ∧ u = w')
    (hP : ∀ u, Calls Try.prog 23 #[.agg #[.string S, .int .i64 (b : Int)], .int .i64 ((N : Int) + M)] u fun x w' => x = .returned (.tuple #[.int .i64 (X3 : Int), .int .i64 0]) ∧ Below u.heap.size u w')
    (hT1 : ∀ u, Calls Try.prog 21 #[.agg #[.string S, .int .i64 (b : Int)], .int .i64 (N : Int)] u fun x w' => x = .returned (.tuple #[.agg #[.string S, .int .i64 ((b : Int) + N)], .int .i64 (X1 : Int), .int .i64 0]) ∧ Below u.heap.size u w')
    (hT2 : ∀ u, Calls Try.prog 21 #[.agg #[.string S, .int .i64 ((b : Int) + N)], .int .i64 (M : Int)] u fun x w' => x = .returned (.tuple #[.agg #[.string S, .int .i64 ((b : Int) + N + M)], .int .i64 (X2 : Int), .int .i64 0]) ∧ Below u.heap.size u w')
    (hT3 : ∀ u, Calls Try.prog 21 #[.agg #[.string S, .int .i64 (b : Int)], .int .i64 ((N : Int) + M)] u fun x w' => x = .returned (.tuple #[.agg #[.string S, .int .i64 ((b : Int) + N + M)], .int .i64 (X3 : Int), .int .i64 0]) ∧ Below u.heap.size u w')
    (hT : ∀ (k : Nat), k < N + M → ∀ u, Calls Try.prog 21 #[.agg #[.string S, .int .i64 ((b : Int) + k)], .int .i64 1] u fun x w' => x = .returned (.tuple #[.agg #[.string S, .int .i64 ((b : Int) + k + 1)], .int .i64 (bitAt S (b + k) : Nat), .int .i64 0]) ∧ Below u.heap.size u w') :
    Calls Try.prog 7 #[.string S, .int .i64 bit, .int .i64 n, .int .i64 m] w fun e w' => e = .returned (.bool true) ∧ Below w.heap.size w w' := by
  have HT := Lib.hid hT
  have HX := Lib.hid hX
  clear hT hX
  go_enter Try.func7, Try.ntmps7
  go_wp2_with (first
    | (go_at_call 5; (with_reducible refine (known_any _).mono ?_); rintro e w1 ⟨rfl, hb1⟩)
    | (go_at_call 31; (with_reducible refine (hB _).mono ?_); rintro e w' ⟨rfl, rfl⟩)
    | (go_at_call 31; (with_reducible refine (hn _).mono ?_); rintro e w' ⟨rfl, rfl⟩)
    | (go_at_call 31; (with_reducible refine (hm _).mono ?_); rintro e w' ⟨rfl, rfl⟩)
    | (go_at_call 23; (with_reducible refine (hP _).mono ?_); rintro e w2 ⟨rfl, hb2⟩; have k := blk_next (blk_new w1 34 #[.string S, .int .i64 (b : Int)]) hb2; obtain ⟨p0, p1, _⟩ := blk2 k)
    | (go_at_call 21; (with_reducible refine (hT1 _).mono ?_); rintro e w3 ⟨rfl, hb3⟩; have k := blk_next k hb3; obtain ⟨p0, p1, _⟩ := blk2 k; have l := blk_lt k)
    | (go_at_call 21; (with_reducible refine (hT2 _).mono ?_); rintro e w4 ⟨rfl, hb4⟩; have k := blk_next (blk_alloc k _) hb4; obtain ⟨p0, p1, _⟩ := blk2 k; have l := blk_lt k)
    | (go_at_call 21; (with_reducible refine (hT3 _).mono ?_); rintro e w5 ⟨rfl, hb5⟩; have j := blk_next (blk_new w4 34 #[.string S, .int .i64 ((b : Int) + N + M)]) hb5; obtain ⟨q0, q1, _⟩ := blk2 j; have lj := blk_lt j; have k := blk_next (blk_alloc k _) hb5; obtain ⟨p0, p1, _⟩ := blk2 k; have l := blk_lt k))
  have hg := hb1.size
  have b5 := below_call (below_box (below_call (below_box (below_call (below_call (below_box hb1 (.cells #[.string S, .int .i64 (b : Int)] 34)) hb2) hb3) (.cells #[.string S, .int .i64 ((b : Int) + N)] 34)) hb4) (.cells #[.string S, .int .i64 ((b : Int) + N + M)] 34)) hb5
  have b6 := below_box b5 (.cells #[.string S, .int .i64 ((b : Int) + N + M)] 34)
  have k6 := blk_alloc k (.cells #[.string S, .int .i64 ((b : Int) + N + M)] 34)
  clear p0 p1 q0 q1 hb2 hb3 hb4 hb5 b5
  go_loopw [25, 26] (fun s i wr => ∃ (k y : Nat), k ≤ N + M ∧ y ≤ 4294967296 ∧ Hid (y = numB S b k) ∧ s = .int .i64 (y : Int) ∧ i = .int .i64 (k : Int) ∧ Blk wr w1.heap.size 34 #[.string S, .int .i64 ((b : Int) + k)] ∧ Below w.heap.size w wr) (fun _ i _ => N + M - (intOf i).toNat)
  case atStart => exact ⟨0, 0, by omega, by omega, rfl, rfl, rfl, by rw [show (b : Int) + ((0 : Nat) : Int) = b by omega]; exact k6, b6⟩
  case round =>
    obtain ⟨k, y, hk, hy1, hy, rfl, rfl, hB, hbw⟩ := hrel
    have hgl := blk_lt hB
    obtain ⟨p0, p1, f0, f1⟩ := blk2 hB
    by_cases hlt : k < N + M
    · have hlt' : (k : Int) < (N : Int) + M := by omega
      have hTk := HT.out k hlt
      obtain ⟨z, hz⟩ : ∃ z, z = bitAt S (b + k) := ⟨_, rfl⟩
      rw [← hz] at hTk
      have hz1 : z ≤ 1 := by rw [hz]; have := bitAt_lt S (b + k); omega
      have hy2 : y + z * 2 ^ k = numB S b (k + 1) := by rw [hz, hy.out]; rfl
      have hy3 := numB_le S b (k + 1) (by omega)
      rw [← hy2] at hy3
      have ht : (z : Int) * 2 ^ k = ((z * 2 ^ k : Nat) : Int) := by simp
      obtain ⟨r, hr⟩ : ∃ r : Int, (2 : Int) ^ k = r := ⟨_, rfl⟩
      rw [hr] at ht
      obtain ⟨t, htt⟩ : ∃ t : Nat, t = z * 2 ^ k := ⟨_, rfl⟩
      rw [← htt] at ht hy2 hy3
      have HY := Lib.hid hy2
      have HB2 := Lib.hid hB
      clear hy2 hz htt hB
      go_wp2_with ((go_at_call 21; (with_reducible refine (hTk _).mono ?_); rintro e w6 ⟨rfl, hb6⟩; have k := blk_alloc (blk_next HB2.out hb6) (.cells #[.string S, .int .i64 ((b : Int) + (k : Nat) + 1)] 34); obtain ⟨d0, d1, d2, d3⟩ := blk2 k; have l6 := hb6.size; have K := Lib.hid k; clear k))
      go_region
      go_wp2
      go_roundw
      case rel => exact ⟨k + 1, y + t, by omega, hy3, HY.out, by go_num, by go_num, by rw [show (b : Int) + ((k + 1 : Nat) : Int) = (b : Int) + k + 1 by omega]; exact blk_drew (blk2_set S _ K.out), (below2 (below_box (below_call hbw hb6) _) hg _ _).drew⟩
      case measure => simp [intOf]; omega
    · have hlt' : (N : Int) + M ≤ (k : Int) := by omega
      have hxx : ((y : Int) == X3) = true := by rw [beq_iff_eq, hy.out, show k = N + M by omega, HX.out]
      go_wp2
      go_ret
      exact ⟨rfl, hbw⟩
theorem rgt_ok (S : ByteArray) (b : Nat) (hS : S.size ≤ 1048576) (hb : b ≤ 8 * S.size) : rgt S (b : Int) = 0 := by
  unfold rgt
  rw [if_neg (by omega), if_neg (by omega)]
theorem pekE_ok (S : ByteArray) (b m : Nat) (hS : S.size ≤ 1048576) (hb : b ≤ 8 * S.size) (hm : m ≤ 32) : pekE S (b : Int) (m : Int) = 0 := by
  unfold pekE
  rw [rgt_ok S b hS hb, if_pos rfl, if_neg (by omega)]
theorem take_good (S : ByteArray) (B n : Int) (b m : Nat) (hB : B = b) (hn : n = m) (hS : S.size ≤ 1048576) (hs : b + m ≤ 8 * S.size) (hm : m ≤ 32) (c : Int) (hc : B + n = c) (u : World) :
    Calls Try.prog 21 #[.agg #[.string S, .int .i64 B], .int .i64 n] u fun x w' => x = .returned (.tuple #[.agg #[.string S, .int .i64 c], .int .i64 (numB S b m : Nat), .int .i64 0]) ∧ Below u.heap.size u w' := by
  subst hB hn hc
  have hS2 : S.size ≤ maxLen := by unfold maxLen; omega
  refine own_take_good S b m (by omega) (by omega) hm (fun u => ?_) u
  have h := rRefuse_any S b m hS2 u
  have e : pekE S b m = 0 := pekE_ok S b m hS (by omega) hm
  rw [e] at h
  exact h
theorem peek_good (S : ByteArray) (B n : Int) (b m : Nat) (hB : B = b) (hn : n = m) (hS : S.size ≤ 1048576) (hb : b ≤ 8 * S.size) (hm : m ≤ 32) (u : World) :
    Calls Try.prog 23 #[.agg #[.string S, .int .i64 B], .int .i64 n] u fun x w' => x = .returned (.tuple #[.int .i64 (numB S b m : Nat), .int .i64 0]) ∧ Below u.heap.size u w' := by
  subst hB hn
  have hS2 : S.size ≤ maxLen := by unfold maxLen; omega
  have h := ownPeek_any S b m hS2 u
  have e : pekE S b m = 0 := pekE_ok S b m hS (by omega) hm
  have e2 : pekX S b m = (numB S b m : Nat) := by
    unfold pekX
    rw [e, if_pos rfl]
    have eb : ((b : Int)).toNat = b := by omega
    have em : ((m : Int)).toNat = m := by omega
    rw [eb, em]
  rw [e, e2] at h
  exact h
theorem take_short (S : ByteArray) (B n : Int) (b m : Nat) (hB : B = b) (hn : n = m) (hS : S.size ≤ 1048576) (hb : b ≤ 8 * S.size) (hs : 8 * S.size < b + m) (hm : m ≤ 32) (u : World) :
    Calls Try.prog 21 #[.agg #[.string S, .int .i64 B], .int .i64 n] u fun x w' => x = .returned (.tuple #[.agg #[.string ⟨#[]⟩, .int .i64 0], .int .i64 0, .int .i64 5]) ∧ Below u.heap.size u w' := by
  subst hB hn
  have hS2 : S.size ≤ maxLen := by unfold maxLen; omega
  have h := ownTake_any S b m hS2 u
  have e : takE S b m = 5 := by
    unfold takE
    rw [pekE_ok S b m hS hb hm, if_pos rfl, if_pos (by omega)]
  unfold takS takB takX at h
  rw [e, if_neg (by decide), if_neg (by decide), if_neg (by decide)] at h
  exact h

theorem parts_any (S : ByteArray) (bit n m : Int) (hS : S.size ≤ maxLen) (r0 : -9223372036854775808 ≤ bit ∧ bit ≤ 9223372036854775807) (r1 : -9223372036854775808 ≤ n ∧ n ≤ 9223372036854775807) (r2 : -9223372036854775808 ≤ m ∧ m ≤ 9223372036854775807) (w : World) :
    Calls Try.prog 7 #[.string S, .int .i64 bit, .int .i64 n, .int .i64 m] w fun e w' => e = .returned (.bool true) ∧ Below w.heap.size w w' := by
  by_cases h1 : 60 < S.size
  · exact parts_long S bit n m w (decide_eq_true (by omega))
  · have hs : S.size ≤ 60 := by omega
    have hB := fun u => mod_any bit (8 * (S.size : Int) + 1) r0.1 r0.2 (by omega) (by omega) u
    have hn := fun u => mod_any n 17 r1.1 r1.2 (by omega) (by omega) u
    have hm := fun u => mod_any m 17 r2.1 r2.2 (by omega) (by omega) u
    have b0 := Int.emod_nonneg bit (show 8 * (S.size : Int) + 1 ≠ 0 by omega)
    have b1 := Int.emod_lt_of_pos bit (show 0 < 8 * (S.size : Int) + 1 by omega)
    obtain ⟨b, hb⟩ := Int.eq_ofNat_of_zero_le b0
    obtain ⟨N, hN⟩ := Int.eq_ofNat_of_zero_le (show 0 ≤ n % 17 by omega)
    obtain ⟨M, hM⟩ := Int.eq_ofNat_of_zero_le (show 0 ≤ m % 17 by omega)
    rw [hb] at hB b1
    rw [hN] at hn
    rw [hM] at hm
    have hN1 : N ≤ 16 := by omega
    have hM1 : M ≤ 16 := by omega
    have hd : decide ((60 : Int) < (S.size : Int)) = false := decide_eq_false (by omega)
    by_cases hsh : 8 * S.size < b + (N + M)
    · exact parts_short S bit n m b N M (numB S b (N + M)) w (by omega) (by omega) hN1 hM1 (by omega) hd hB hn hm (peek_good S b _ b (N + M) rfl (by omega) (by omega) (by omega) (by omega)) (take_short S b _ b (N + M) rfl (by omega) (by omega) (by omega) hsh (by omega))
    · have a1 := numB_le S b N (by omega)
      have a2 := numB_le S b (N + M) (by omega)
      have a3 := numB_add S b N M
      have hq : (numB S (b + N) M : Int) * (2 : Int) ^ N = ((numB S (b + N) M * 2 ^ N : Nat) : Int) := by simp
      refine parts_good S bit n m b N M (numB S b N) (numB S (b + N) M) (numB S b (N + M)) _ _ w (by omega) (by omega) hN1 hM1 (by omega) a1 a2 rfl hq (by omega) (by omega) ?_ rfl hd hB hn hm (peek_good S b _ b (N + M) rfl (by omega) (by omega) (by omega) (by omega))
        (take_good S b N b N rfl rfl (by omega) (by omega) (by omega) _ rfl) (take_good S _ M (b + N) M (by omega) rfl (by omega) (by omega) (by omega) _ rfl) (take_good S b _ b (N + M) rfl (by omega) (by omega) (by omega) (by omega) _ (by omega)) (fun k hk u => ?_)
      · rw [bne_eq_false_iff_eq]
        omega
      · have h := take_good S _ 1 (b + k) 1 (show (b : Int) + k = ((b + k : Nat) : Int) by omega) rfl (by omega) (by omega) (by omega) _ rfl u
        rw [numB_one] at h
        exact h

end Go.Proofs.Ytoaiaaecnmcnoaa
