/-
  Streams and writers of package back as numbers: what is written, ended, and read from behind.
-/
import Derived.Test.YteopglkehlckoaaT9
import Derived.Test.YteopglkehlckoaaLeL
namespace Go.Proofs.Yteopglkehlckoaa
open Go.ChangeShapes Go.WideShapes Go.ChangeAt Go.RowKit
set_option linter.unusedVariables false

theorem hb_top (b r k : Nat) (h1 : 2 ^ r ≤ b) (h2 : b < 2 ^ (r + 1)) (hk : r < k) : hb b k = r := by
  induction k with
  | zero => omega
  | succ k ih =>
    simp only [hb]
    rcases Nat.lt_or_ge r k with h | h
    · have h3 : 2 ^ (r + 1) ≤ 2 ^ k := Nat.pow_le_pow_right (by omega) (by omega)
      rw [Nat.div_eq_of_lt (by omega), if_neg (by decide)]
      exact ih h
    · obtain rfl : k = r := by omega
      have h3 : b / 2 ^ k = 1 := by
        rw [Nat.pow_succ] at h2
        have := Nat.two_pow_pos k
        apply Nat.div_eq_of_lt_le <;> omega
      rw [h3, if_pos (by decide)]

/-- the stream of t bits that are all together V, behind z bytes 0 -/
def StS (V t z : Nat) : ByteArray := ⟨(leB ((V + 2 ^ t) * 2 ^ (8 * z)) (z + t / 8 + 1)).toArray⟩
theorem StS_size (V t z : Nat) : (StS V t z).size = z + t / 8 + 1 := by show (leB _ _).toArray.size = _; simp [leB_length]

theorem lastB_le (A c : Nat) : lastB ⟨(leB A (c + 1)).toArray⟩ = A / 2 ^ (8 * c) % 256 := by
  have hs : (⟨(leB A (c + 1)).toArray⟩ : ByteArray).size = c + 1 := by show (leB A (c + 1)).toArray.size = _; simp [leB_length]
  have key : ∀ i (h : i < (⟨(leB A (c + 1)).toArray⟩ : ByteArray).size), i = c → ((⟨(leB A (c + 1)).toArray⟩ : ByteArray)[i]'h).toNat = A / 2 ^ (8 * c) % 256 := by
    intro i h e
    subst e
    have e : ((⟨(leB A (i + 1)).toArray⟩ : ByteArray)[i]'h) = (leB A (i + 1))[i]'(by rw [leB_length]; omega) := by
      show (leB A (i + 1)).toArray[i]'_ = _
      simp
    rw [e, leB_get]
    simp
  unfold lastB
  rw [dif_pos (by omega)]
  exact key _ _ (by omega)

theorem StS_last (V t z : Nat) (hV : V < 2 ^ t) : lastB (StS V t z) = (V + 2 ^ t) / 2 ^ (8 * (t / 8)) ∧ 2 ^ (t % 8) ≤ (V + 2 ^ t) / 2 ^ (8 * (t / 8)) ∧ (V + 2 ^ t) / 2 ^ (8 * (t / 8)) < 2 ^ (t % 8 + 1) := by
  have e2 : 2 ^ t = 2 ^ (t % 8) * 2 ^ (8 * (t / 8)) := by
    rw [← Nat.pow_add]
    congr 1
    omega
  have b1 : 2 ^ (t % 8) ≤ (V + 2 ^ t) / 2 ^ (8 * (t / 8)) := by
    rw [Nat.le_div_iff_mul_le (Nat.two_pow_pos _), ← e2]
    omega
  have b2 : (V + 2 ^ t) / 2 ^ (8 * (t / 8)) < 2 ^ (t % 8 + 1) := by
    rw [Nat.div_lt_iff_lt_mul (Nat.two_pow_pos _), Nat.pow_succ, Nat.mul_right_comm, ← e2]
    omega
  refine ⟨?_, b1, b2⟩
  have b3 : 2 ^ (t % 8 + 1) ≤ 2 ^ 8 := Nat.pow_le_pow_right (by omega) (by omega)
  have hs := StS_size V t z
  unfold StS
  rw [lastB_le, Nat.mul_add, Nat.pow_add, ← Nat.div_div_eq_div_mul, Nat.mul_div_cancel _ (Nat.two_pow_pos _)]
  omega

theorem StS_str (V t z : Nat) (hV : V < 2 ^ t) (hz : z + t / 8 + 1 ≤ 1048576) : strE (StS V t z) = 0 ∧ strN (StS V t z) = ((8 * z + t : Nat) : Int) := by
  obtain ⟨h1, h2, h3⟩ := StS_last V t z hV
  have hs := StS_size V t z
  have hp := Nat.two_pow_pos (t % 8)
  have e : strE (StS V t z) = 0 := by
    unfold strE
    rw [if_neg (by omega), if_neg (by rw [h1]; omega)]
  refine ⟨e, ?_⟩
  unfold strN
  rw [if_pos e, hi_all _ (by omega) (by rw [h1]; omega), h1, hb_top _ (t % 8) 8 h2 h3 (by omega), hs]
  congr 1
  omega

/-- n bits from behind, where L bits are left of what stands behind z bytes 0 -/
theorem StS_num (V t z a n : Nat) (h : a + n ≤ t) : pkN (StS V t z) (8 * z + a + n) n = V / 2 ^ a % 2 ^ n := by
  rw [pkN_in _ _ _ (by omega), show 8 * z + a + n - n = 8 * z + a by omega]
  unfold StS
  rw [leB_num _ _ _ _ (by omega), Nat.pow_add, ← Nat.div_div_eq_div_mul, Nat.mul_div_cancel _ (Nat.two_pow_pos _)]
  have e : 2 ^ t = 2 ^ (n + (t - a - n)) * 2 ^ a := by
    rw [← Nat.pow_add]
    congr 1
    omega
  rw [e, Nat.add_mul_div_right _ _ (Nat.two_pow_pos _), Nat.pow_add, Nat.add_mul_mod_self_left]

theorem StS_zero (V t z : Nat) : (⟨(leB 0 z).toArray⟩ : ByteArray) ++ StS V t 0 = StS V t z := by
  have e : leB ((V + 2 ^ t) * 2 ^ (8 * z)) (z + (t / 8 + 1)) = leB 0 z ++ leB (V + 2 ^ t) (t / 8 + 1) := by
    rw [leB_append, Nat.mul_div_cancel _ (Nat.two_pow_pos _)]
    have h := leB_high 0 z (8 * z) (V + 2 ^ t) (Nat.le_refl _)
    rw [Nat.zero_add] at h
    rw [h]
  unfold StS
  rw [show z + t / 8 + 1 = z + (t / 8 + 1) from Nat.add_assoc _ _ _, e, Nat.mul_zero, Nat.pow_zero, Nat.mul_one, Nat.zero_add]
  exact ByteArray.ext (by simp)

/-- a writer's three cells behind t bits that are all together V -/
def WrS (V t : Nat) : ByteArray := ⟨(leB V (t / 8)).toArray⟩
def WrP (V t : Nat) : Nat := V / 2 ^ (8 * (t / 8))
theorem WrS_size (V t : Nat) : (WrS V t).size = t / 8 := by show (leB V (t / 8)).toArray.size = _; simp [leB_length]
theorem WrP_lt (V t : Nat) (hV : V < 2 ^ t) : WrP V t < 2 ^ (t % 8) := by
  unfold WrP
  rw [Nat.div_lt_iff_lt_mul (Nat.two_pow_pos _), ← Nat.pow_add, show t % 8 + 8 * (t / 8) = t by omega]
  exact hV
theorem WrP_le (V t : Nat) (hV : V < 2 ^ t) : WrP V t < 128 := by
  have h := WrP_lt V t hV
  have h2 : 2 ^ (t % 8) ≤ 2 ^ 7 := Nat.pow_le_pow_right (by omega) (by omega)
  omega

theorem Wr_bch (V t : Nat) (hV : V < 2 ^ t) (ht : t ≤ 8000) : bch (WrS V t) (WrP V t : Nat) (t % 8 : Nat) = 0 := by
  have hs := WrS_size V t
  have hP := WrP_lt V t hV
  generalize WrS V t = S at *
  generalize WrP V t = P at *
  generalize hN : t % 8 = N at *
  have eN : ((N : Int)).toNat = N := by omega
  have c1 := pow_cast N
  unfold bch
  rw [eN, if_neg (by omega)]

theorem put_vals (V t n v : Nat) (hV : V < 2 ^ t) (ht : t ≤ 8000) (hn : n ≤ 32) (hv : v < 2 ^ n) :
    bpE (WrS V t) (WrP V t : Nat) (t % 8 : Nat) n v = 0 ∧ bpS (WrS V t) (WrP V t : Nat) (t % 8 : Nat) n v = WrS (V + v * 2 ^ t) (t + n) ∧ bpQ (WrS V t) (WrP V t : Nat) (t % 8 : Nat) n v = (WrP (V + v * 2 ^ t) (t + n) : Nat) ∧
    bpN (WrS V t) (WrP V t : Nat) (t % 8 : Nat) n v = ((t + n) % 8 : Nat) := by
  have hs := WrS_size V t
  obtain ⟨a1, a2, a3⟩ := put_all V t n v hv
  have hc := Wr_bch V t hV ht
  rw [show V / 2 ^ (8 * (t / 8)) = WrP V t from rfl] at a1 a2
  rw [show (V + v * 2 ^ t) / 2 ^ (8 * ((t + n) / 8)) = WrP (V + v * 2 ^ t) (t + n) from rfl] at a2
  have a0 : WrS V t ++ ⟨(putL (WrP V t) (t % 8) n v).toArray⟩ = WrS (V + v * 2 ^ t) (t + n) := by
    unfold WrS
    rw [← a1]
    exact ByteArray.ext (by simp)
  clear a1
  generalize WrS V t = S at *
  generalize WrP V t = P at *
  generalize hN : t % 8 = N at *
  have eN : ((N : Int)).toNat = N := by omega
  have eP : ((P : Int)).toNat = P := by omega
  have en : ((n : Int)).toNat = n := by omega
  have ev : ((v : Int)).toNat = v := by omega
  have c2 := pow_cast n
  have he : bpE S P N n v = 0 := by
    unfold bpE
    rw [if_pos hc, en, if_neg (by omega), if_neg (by omega)]
  refine ⟨he, ?_, ?_, ?_⟩
  · unfold bpS
    rw [he, if_pos rfl, eN, eP, en, ev, a0]
  · unfold bpQ
    rw [he, if_pos rfl, eN, eP, en, ev, a2]
  · unfold bpN
    rw [he, if_pos rfl]
    omega

theorem done_vals (V t : Nat) (hV : V < 2 ^ t) (ht : t ≤ 8000) : bdE (WrS V t) (WrP V t : Nat) (t % 8 : Nat) = 0 ∧ bdS (WrS V t) (WrP V t : Nat) (t % 8 : Nat) = StS V t 0 := by
  have hc := Wr_bch V t hV ht
  have hs := WrS_size V t
  have he : bdE (WrS V t) (WrP V t : Nat) (t % 8 : Nat) = 0 := by unfold bdE; rw [if_pos hc, if_neg (by omega)]
  refine ⟨he, ?_⟩
  have e2 : 2 ^ t = 2 ^ (t % 8) * 2 ^ (8 * (t / 8)) := by
    rw [← Nat.pow_add]
    congr 1
    omega
  have e3 : (V + 2 ^ t) / 2 ^ (8 * (t / 8)) = WrP V t + 2 ^ (t % 8) := by
    rw [e2, Nat.add_mul_div_right _ _ (Nat.two_pow_pos _)]
    rfl
  have e4 : ((WrP V t : Nat) + (2 : Int) ^ ((t % 8 : Nat) : Int).toNat).toNat = WrP V t + 2 ^ (t % 8) := by
    rw [show ((t % 8 : Nat) : Int).toNat = t % 8 from Int.toNat_natCast _, ← pow_cast, ← Int.natCast_add, Int.toNat_natCast]
  have e5 := leB_high V (t / 8) t 1 (by omega)
  rw [Nat.one_mul] at e5
  unfold bdS
  rw [he, if_pos rfl, e4]
  unfold StS WrS
  rw [Nat.mul_zero, Nat.pow_zero, Nat.mul_one, Nat.zero_add, leB_succ, e3, e5]
  exact ByteArray.ext (by simp)

/-- a number more, behind t bits that are all together V -/
theorem put_step (V t n v : Nat) (hV : V < 2 ^ t) (ht : t ≤ 8000) (hn : n ≤ 32) (hv : v < 2 ^ n) (u : World) :
    Calls Try.prog 9 #[.agg #[.string (WrS V t), .int .i64 (WrP V t : Nat), .int .i64 (t % 8 : Nat)], .int .i64 (n : Int), .int .u64 (v : Int)] u fun x w' =>
      x = .returned (.tuple #[.agg #[.string (WrS (V + v * 2 ^ t) (t + n)), .int .i64 (WrP (V + v * 2 ^ t) (t + n) : Nat), .int .i64 ((t + n) % 8 : Nat)], .int .i64 0]) ∧ Below u.heap.size u w' := by
  have hp := WrP_le V t hV
  have h := ownPut_any (WrS V t) (WrP V t : Nat) (t % 8 : Nat) n v (by rw [WrS_size]; omega) (by omega) (by omega) (by omega) u
  obtain ⟨e1, e2, e3, e4⟩ := put_vals V t n v hV ht hn hv
  rw [e1, e2, e3, e4] at h
  exact h
theorem done_step (V t : Nat) (hV : V < 2 ^ t) (ht : t ≤ 8000) (u : World) :
    Calls Try.prog 22 #[.agg #[.string (WrS V t), .int .i64 (WrP V t : Nat), .int .i64 (t % 8 : Nat)]] u fun x w' => x = .returned (.tuple #[.string (StS V t 0), .int .i64 0]) ∧ Below u.heap.size u w' := by
  have hp := WrP_le V t hV
  have h := ownDone_any (WrS V t) (WrP V t : Nat) (t % 8 : Nat) (by rw [WrS_size]; omega) (by omega) (by omega) u
  obtain ⟨e1, e2⟩ := done_vals V t hV ht
  rw [e1, e2] at h
  exact h
theorem bits_step (V t : Nat) (hV : V < 2 ^ t) (ht : t ≤ 8000) (u : World) :
    Calls Try.prog 24 #[.string (StS V t 0)] u fun x w' => x = .returned (.tuple #[.int .i64 (t : Int), .int .i64 0]) ∧ u = w' := by
  obtain ⟨e1, e2⟩ := StS_str V t 0 hV (by omega)
  have h := ownBits_any (StS V t 0) (by rw [StS_size]; omega) u
  rw [e1, e2, Nat.mul_zero, Nat.zero_add] at h
  exact h
theorem read_step (V t z : Nat) (hV : V < 2 ^ t) (ht : t ≤ 8000) (hz : z ≤ 9) (u : World) :
    Calls Try.prog 13 #[.string (StS V t z)] u fun x w' => x = .returned (.tuple #[.agg #[.string (StS V t z), .int .i64 ((8 * z + t : Nat) : Int)], .int .i64 0]) ∧ Below u.heap.size u w' := by
  obtain ⟨e1, e2⟩ := StS_str V t z hV (by omega)
  have h := ownRead_any (StS V t z) (by rw [StS_size]; omega) u
  unfold breS at h
  rw [e1, e2, if_pos rfl] at h
  exact h
theorem take_step (V t z a n : Nat) (hV : V < 2 ^ t) (ht : t ≤ 8000) (hz : z ≤ 9) (hn : n ≤ 32) (h : a + n ≤ t) (u : World) :
    Calls Try.prog 14 #[.agg #[.string (StS V t z), .int .i64 ((8 * z + a + n : Nat) : Int)], .int .i64 (n : Int)] u fun x w' =>
      x = .returned (.tuple #[.agg #[.string (StS V t z), .int .i64 ((8 * z + a : Nat) : Int)], .int .u64 ((V / 2 ^ a % 2 ^ n : Nat) : Int), .int .i64 0]) ∧ Below u.heap.size u w' := by
  obtain ⟨e1, e2⟩ := StS_str V t z hV (by omega)
  have hb : brtE (StS V t z) ((8 * z + a + n : Nat) : Int) = 0 := by unfold brtE; rw [if_pos ⟨e1, by omega, by omega⟩]
  have e3 : bakE (StS V t z) ((8 * z + a + n : Nat) : Int) (n : Int) = 0 := by unfold bakE; rw [hb, if_pos rfl, if_neg (by omega)]
  have e4 : bskE (StS V t z) ((8 * z + a + n : Nat) : Int) (n : Int) = 0 := by unfold bskE; rw [if_pos e3, if_neg (by omega)]
  have e5 : btkX (StS V t z) ((8 * z + a + n : Nat) : Int) (n : Int) = ((V / 2 ^ a % 2 ^ n : Nat) : Int) := by
    unfold btkX bpkX
    rw [if_pos e4, if_pos e3, ← StS_num V t z a n h]
    simp only [Int.toNat_natCast]
  have k := ownTake_any (StS V t z) ((8 * z + a + n : Nat) : Int) (n : Int) (by rw [StS_size]; omega) u
  unfold bskS bskL at k
  rw [e5, e4, if_pos rfl, if_pos rfl, show ((8 * z + a + n : Nat) : Int) - (n : Int) = ((8 * z + a : Nat) : Int) by omega] at k
  exact k
end Go.Proofs.Yteopglkehlckoaa
