/-
  The project's reader of package back: the number of some bits, the look and the taking on its object, for every reader and all numbers.
-/
import Derived.Test.YteopglkehlckoaaT7
namespace Go.Proofs.Yteopglkehlckoaa
open Go.ChangeShapes Go.WideShapes Go.ChangeAt Go.RowKit
set_option linter.unusedVariables false

theorem numB_add (S : ByteArray) (b n m : Nat) : numB S b (n + m) = numB S b n + numB S (b + n) m * 2 ^ n := by
  induction m with
  | zero => simp [numB]
  | succ m ih =>
    rw [show n + (m + 1) = (n + m) + 1 by omega]
    simp only [numB]
    rw [ih, Nat.add_mul, Nat.add_assoc, show b + (n + m) = b + n + m by omega, Nat.pow_add, Nat.mul_assoc, Nat.mul_comm (2 ^ n)]
theorem numB_one (S : ByteArray) (b : Nat) : numB S b 1 = bitAt S b := by simp [numB]

/-- the number of the first n bits from behind -/
theorem pkN_in (S : ByteArray) (L n : Nat) (h : n ≤ L) : pkN S L n = numB S (L - n) n := by
  induction n with
  | zero => simp [pkN, numB]
  | succ n ih =>
    simp only [pkN]
    rw [ih (by omega), if_pos (by omega), show n + 1 = 1 + n by omega, numB_add, numB_one, show L - (1 + n) + 1 = L - n by omega, show L - 1 - n = L - (1 + n) by omega]
    omega
theorem pkN_out (S : ByteArray) (L n : Nat) : pkN S L (L + n) = numB S 0 L * 2 ^ n := by
  induction n with
  | zero =>
    rw [pkN_in S L (L + 0) (by omega)]
    simp
  | succ n ih =>
    rw [show L + (n + 1) = (L + n) + 1 by omega]
    simp only [pkN]
    rw [ih, if_neg (by omega), Nat.pow_succ, Nat.mul_comm (2 ^ n) 2, Nat.mul_left_comm]
    omega
theorem pkN_any (S : ByteArray) (L n : Nat) : pkN S L n = numB S (L - min n L) (min n L) * 2 ^ (n - min n L) := by
  rcases Nat.le_total n L with h | h
  · rw [Nat.min_eq_left h, pkN_in S L n h]; simp
  · rw [Nat.min_eq_right h]
    have := pkN_out S L (n - L)
    rw [show L + (n - L) = n by omega] at this
    rw [this]
    simp

/-- one byte more at the head of a number -/
theorem or_byte (S : ByteArray) (f j : Nat) (x : Nat) (hx : x = leN S f j) (hj : j ≤ 4) (hs : f + j < S.size) (p : Int) (hp : (2 : Int) ^ (8 * j) = p) :
    bits BinOp.or IntKind.u64 (x : Int) (IntKind.u64.wrap (IntKind.u64.wrap ((S[f + j]'hs).toNat : Int) * p)) = (leN S f (j + 1) : Nat) := by
  have h1 := (S[f + j]'hs).toNat_lt
  have h2 : 2 ^ (8 * j) ≤ 2 ^ 32 := Nat.pow_le_pow_right (by omega) (by omega)
  have h3 : (S[f + j]'hs).toNat * 2 ^ (8 * j) ≤ 255 * 2 ^ (8 * j) := Nat.mul_le_mul_right _ (by omega)
  have e : ((S[f + j]'hs).toNat : Int) * p = (((S[f + j]'hs).toNat * 2 ^ (8 * j) : Nat) : Int) := by rw [← hp]; simp
  have h4 := leN_lt S f j
  rw [IntWalk.u64_in ((S[f + j]'hs).toNat : Int) ⟨by omega, by omega⟩, e, IntWalk.u64_in _ ⟨by omega, by omega⟩, u64_or_nat _ _ (by omega) (by omega)]
  congr 1
  rw [hx]
  simp only [leN]
  rw [byteAt_of S (f + j) hs]
  generalize (S[f + j]'hs).toNat = q
  rw [Nat.or_comm, Nat.add_comm, Nat.mul_comm _ (2 ^ (8 * j)), Nat.two_pow_add_eq_or_of_lt h4]

theorem peek_end (y r n : Nat) (p : Int) (hy : y < 1099511627776) (hn : n ≤ 32) (hp : (2 : Int) ^ n = p) :
    bits BinOp.and IntKind.u64 ((y : Int) / 2 ^ r) (IntKind.u64.wrap (IntKind.u64.wrap p - 1)) = ((y / 2 ^ r % 2 ^ n : Nat) : Int) := by
  have e : (y : Int) / 2 ^ r = ((y / 2 ^ r : Nat) : Int) := by simp
  have hle : y / 2 ^ r ≤ y := Nat.div_le_self _ _
  have h2 : 2 ^ n ≤ 2 ^ 32 := Nat.pow_le_pow_right (by omega) hn
  have h3 := Nat.two_pow_pos n
  have hq := pow_cast n
  have hm := Nat.mod_lt (y / 2 ^ r) h3
  rw [IntWalk.u64_in p ⟨by omega, by omega⟩, IntWalk.u64_in _ ⟨by omega, by omega⟩, e, show p - 1 = ((2 ^ n - 1 : Nat) : Int) by omega, u64_and_nat _ _ (by omega) (by omega), Nat.and_two_pow_sub_one_eq_mod]

theorem next_walk (S : ByteArray) (g L m n : Nat) (c' p : Int) (hp : (2 : Int) ^ n = p) (hS : S.size ≤ 1048576) (hL : L ≤ 8 * S.size) (hm : L = m + n) (hn : n ≤ 32) (w : World) (hb : Blk w g 71 (at3r S L c')) :
    Calls Try.prog 49 #[.pointer (some ⟨g, 0, none⟩), .int .i64 (n : Int)] w fun e w' => e = .returned (.int .u64 (numB S m n : Nat)) ∧ Below w.heap.size w w' := by
  obtain ⟨⟨c0, c1, c2⟩, f0, f1, f2⟩ := blk3r hb
  have em : (L : Int) - n = m := by omega
  obtain ⟨f, hf⟩ : ∃ f, f = m / 8 := ⟨_, rfl⟩
  have ef : (m : Int) / 8 = f := by omega
  have hf1 : f ≤ S.size := by omega
  obtain ⟨c, hc⟩ : ∃ c : Nat, c = min 5 (S.size - f) := ⟨_, rfl⟩
  have hc1 : c ≤ 5 := by omega
  have hc2 : f + c ≤ S.size := by omega
  have hmin : ∀ ts t w, (Builtin.min_ ts t #[.int .i64 5, .int .i64 ((S.size : Int) - f)]).run Try.prog w = .ok (.int .i64 (c : Int)) w := fun ts t w => by
    rw [run_min_int2]
    congr 2
    split <;> omega
  have HF := Lib.hid hf
  have HC := Lib.hid hc
  have HM := Lib.hid hm
  clear hf hc hm hb
  go_enter Try.func49, Try.ntmps49
  go_wp2
  go_loop [7, 8, 27] (fun x _ i => ∃ (j y : Nat), j ≤ c ∧ Hid (y = leN S f j) ∧ x = .int .u64 (y : Int) ∧ i = .int .i64 (j : Int)) (fun _ _ i => c - (intOf i).toNat)
  case atStart => exact ⟨0, 0, by omega, rfl, rfl, rfl⟩
  case round =>
    obtain ⟨j, y, hj, hy, rfl, rfl⟩ := hrel
    by_cases hlt : j < c
    · have hq : f + j < S.size := by omega
      obtain ⟨q, hqe⟩ : ∃ q : Int, (2 : Int) ^ (8 * j) = q := ⟨_, rfl⟩
      go_wp2
      go_round
      case rel => exact ⟨j + 1, leN S f (j + 1), by omega, rfl, by rw [or_byte S f j y hy.out (by omega) hq q hqe], by go_num⟩
      case measure => simp [intOf]; omega
    · obtain rfl : j = c := by omega
      have hl := leN_lt S f j
      have h40 : 2 ^ (8 * j) ≤ 2 ^ 40 := Nat.pow_le_pow_right (by omega) (by omega)
      have hcc := HC.out
      have hff := HF.out
      have hmm := HM.out
      have hfin : bits BinOp.and IntKind.u64 ((y : Int) / 2 ^ (m % 8)) (IntKind.u64.wrap (IntKind.u64.wrap p - 1)) = ((numB S m n : Nat) : Int) := by
        rw [peek_end y (m % 8) n p (by rw [hy.out]; omega) hn hp, hy.out, leN_bits S f j (m % 8) n (by omega), show 8 * f + m % 8 = m by omega]
      have HF2 := Lib.hid hfin
      clear hl h40 hcc hff hfin hmm
      go_wp2
      go_quiet (fail)
      go_wp2
      go_ret
      exact ⟨ret_int HF2.out, below_drewN (Below.refl _ _) _⟩

theorem peek_err (S : ByteArray) (g : Nat) (L c n : Int) (hc : c ≠ 0) (w : World) (hb : Blk w g 71 (at3r S L c)) :
    Calls Try.prog 42 #[.pointer (some ⟨g, 0, none⟩), .int .i64 n] w fun e w' => e = .returned (.int .u64 0) ∧ w = w' := by
  obtain ⟨⟨c0, c1, c2⟩, f0, f1, f2⟩ := blk3r hb
  have hW := fun u => ownWidth n u
  have t : (c != 0) = true := by simp [hc]
  have hK := fun e => meet_keep g 2 c e w hc c2
  have hM := met_any g 2 c w c2
  rw [t] at hM
  clear hb hc
  cases hw : isW n <;> rw [hw] at hW
  all_goals
    go_enter Try.func42, Try.ntmps42
    go_wp2_with (first
      | (go_at_call 48; (with_reducible refine (hW _).mono ?_); rintro e w1 ⟨rfl, rfl⟩)
      | (go_at_call 45; (with_reducible refine (hK _).mono ?_); rintro e w1 ⟨rfl, rfl⟩)
      | (go_at_call 37; (with_reducible refine hM.mono ?_); rintro e w1 ⟨rfl, rfl⟩))
    go_ret
    exact ⟨rfl, rfl⟩
theorem peek_wide (S : ByteArray) (g : Nat) (L n : Int) (hn : isW n = false) (w : World) (hb : Blk w g 71 (at3r S L 0)) :
    Calls Try.prog 42 #[.pointer (some ⟨g, 0, none⟩), .int .i64 n] w fun e w' => e = .returned (.int .u64 0) ∧ w.setCell ⟨g, 2, none⟩ (.int .i64 2) = w' := by
  obtain ⟨⟨c0, c1, c2⟩, f0, f1, f2⟩ := blk3r hb
  have hW := fun u => ownWidth n u
  have hK := fun e => meet_zero g 2 e w c2 f2
  have hM := met_any g 2 2 (w.setCell ⟨g, 2, none⟩ (.int .i64 2)) (blk3r (blk3r_err hb)).1.2.2
  rw [hn] at hW
  clear hb hn
  go_enter Try.func42, Try.ntmps42
  go_wp2_with (first
    | (go_at_call 48; (with_reducible refine (hW _).mono ?_); rintro e w1 ⟨rfl, rfl⟩)
    | (go_at_call 45; (with_reducible refine (hK _).mono ?_); rintro e w1 ⟨rfl, rfl⟩)
    | (go_at_call 37; (with_reducible refine hM.mono ?_); rintro e w1 ⟨rfl, rfl⟩))
  go_ret
  exact ⟨rfl, rfl⟩

theorem shl_end (x k n : Nat) (q : Int) (hx : x < 2 ^ n) (hn : n + k ≤ 32) (hq : (2 : Int) ^ k = q) : IntKind.u64.wrap ((x : Int) * q) = ((x * 2 ^ k : Nat) : Int) := by
  have h1 : x * 2 ^ k < 2 ^ n * 2 ^ k := Nat.mul_lt_mul_of_pos_right hx (Nat.two_pow_pos k)
  rw [← Nat.pow_add] at h1
  have h2 : 2 ^ (n + k) ≤ 2 ^ 32 := Nat.pow_le_pow_right (by omega) hn
  have e : (x : Int) * q = ((x * 2 ^ k : Nat) : Int) := by rw [← hq]; simp
  rw [e, IntWalk.u64_in _ ⟨by omega, by omega⟩]

theorem numB_lt2 (S : ByteArray) (b n : Nat) : numB S b n < 2 ^ n := by
  induction n with
  | zero => simp [numB]
  | succ n ih =>
    simp only [numB]
    have := bitAt_lt S (b + n)
    rw [Nat.pow_succ]
    have h1 : bitAt S (b + n) * 2 ^ n ≤ 1 * 2 ^ n := Nat.mul_le_mul_right _ (by omega)
    omega

theorem peek_good (S : ByteArray) (g L n : Nat) (hS : S.size ≤ 1048576) (hL : L ≤ 8 * S.size) (hn : n ≤ 32) (w : World) (hb : Blk w g 71 (at3r S L 0)) :
    Calls Try.prog 42 #[.pointer (some ⟨g, 0, none⟩), .int .i64 (n : Int)] w fun e w' => e = .returned (.int .u64 (pkN S L n : Nat)) ∧ Below w.heap.size w w' := by
  obtain ⟨⟨c0, c1, c2⟩, f0, f1, f2⟩ := blk3r hb
  have hW := fun u => ownWidth (n : Int) u
  have hn2 : isW (n : Int) = true := by unfold isW; simp; omega
  rw [hn2] at hW
  have hM := met_any g 2 0 w c2
  obtain ⟨t, ht⟩ : ∃ t, t = min n L := ⟨_, rfl⟩
  have ht1 : t ≤ n := by omega
  have ht2 : t ≤ L := by omega
  obtain ⟨k, hk⟩ : ∃ k, n = t + k := ⟨n - t, by omega⟩
  have hmin : ∀ ts ty w, (Builtin.min_ ts ty #[.int .i64 (n : Int), .int .i64 (L : Int)]).run Try.prog w = .ok (.int .i64 (t : Int)) w := fun ts ty w => by
    rw [run_min_int2]
    congr 2
    split <;> omega
  have hN := next_walk S g L (L - t) t 0 _ rfl hS hL (by omega) (by omega) w hb
  obtain ⟨q, hq⟩ : ∃ q : Int, (2 : Int) ^ k = q := ⟨_, rfl⟩
  have hfin : IntKind.u64.wrap ((numB S (L - t) t : Nat) * q) = (pkN S L n : Nat) := by
    rw [shl_end _ k t q (numB_lt2 _ _ _) (by omega) hq, pkN_any S L n, ← ht, show n - t = k by omega]
  rw [← hfin]
  have ek : (n : Int) - t = k := by omega
  generalize numB S (L - t) t = x at *
  clear hb hn2 ht hfin hk
  go_enter Try.func42, Try.ntmps42
  go_wp2_with (first
    | (go_at_call 48; (with_reducible refine (hW _).mono ?_); rintro e w1 ⟨rfl, rfl⟩)
    | (go_at_call 37; (with_reducible refine hM.mono ?_); rintro e w1 ⟨rfl, rfl⟩)
    | (go_at_call 49; (with_reducible refine hN.mono ?_); rintro e w2 ⟨rfl, hb2⟩))
  go_ret
  exact ⟨rfl, hb2⟩

theorem take_err (S : ByteArray) (g : Nat) (L c n : Int) (hc : c ≠ 0) (w : World) (hb : Blk w g 71 (at3r S L c)) :
    Calls Try.prog 39 #[.pointer (some ⟨g, 0, none⟩), .int .i64 n] w fun e w' => e = .returned (.int .u64 0) ∧ Blk w' g 71 (at3r S L c) ∧ w.grownBy w' (some g) := by
  obtain ⟨⟨c0, c1, c2⟩, f0, f1, f2⟩ := blk3r hb
  have hP := peek_err S g L c n hc w hb
  have t : (c != 0) = true := by simp [hc]
  have hK := fun e => meet_keep g 2 c e w hc c2
  have hM := met_any g 2 c w c2
  rw [t] at hM
  have HB := Lib.hid hb
  clear hb hc
  by_cases h : L < n
  · go_enter Try.func39, Try.ntmps39
    go_wp2_with (first
      | (go_at_call 42; (with_reducible refine hP.mono ?_); rintro e w1 ⟨rfl, rfl⟩)
      | (go_at_call 45; (with_reducible refine (hK _).mono ?_); rintro e w1 ⟨rfl, rfl⟩)
      | (go_at_call 37; (with_reducible refine hM.mono ?_); rintro e w1 ⟨rfl, rfl⟩))
    go_ret
    exact ⟨rfl, HB.out, grown_refl _ _⟩
  · have h2 : n ≤ L := by omega
    go_enter Try.func39, Try.ntmps39
    go_wp2_with (first
      | (go_at_call 42; (with_reducible refine hP.mono ?_); rintro e w1 ⟨rfl, rfl⟩)
      | (go_at_call 45; (with_reducible refine (hK _).mono ?_); rintro e w1 ⟨rfl, rfl⟩)
      | (go_at_call 37; (with_reducible refine hM.mono ?_); rintro e w1 ⟨rfl, rfl⟩))
    go_ret
    exact ⟨rfl, HB.out, grown_refl _ _⟩

theorem take_wide (S : ByteArray) (g : Nat) (L n : Int) (hn : isW n = false) (w : World) (hb : Blk w g 71 (at3r S L 0)) :
    Calls Try.prog 39 #[.pointer (some ⟨g, 0, none⟩), .int .i64 n] w fun e w' => e = .returned (.int .u64 0) ∧ Blk w' g 71 (at3r S L 2) ∧ w.grownBy w' (some g) := by
  have hP := peek_wide S g L n hn w hb
  obtain ⟨u, hu⟩ : ∃ u, u = w.setCell ⟨g, 2, none⟩ (.int .i64 2) := ⟨_, rfl⟩
  rw [← hu] at hP
  have hB2 : Blk u g 71 (at3r S L 2) := by rw [hu]; exact blk3r_err hb
  have hG : w.grownBy u (some g) := by rw [hu]; exact grown_set (grown_refl _ _) _ _
  obtain ⟨⟨c0, c1, c2⟩, f0, f1, f2⟩ := blk3r hB2
  have hK := fun e => meet_keep g 2 2 e u (by decide) c2
  have hM := met_any g 2 2 u c2
  have HB := Lib.hid hB2
  have HG := Lib.hid hG
  clear hb hn hu hB2 hG
  by_cases h : L < n
  · go_enter Try.func39, Try.ntmps39
    go_wp2_with (first
      | (go_at_call 42; (with_reducible refine hP.mono ?_); rintro e w1 ⟨rfl, rfl⟩)
      | (go_at_call 45; (with_reducible refine (hK _).mono ?_); rintro e w1 ⟨rfl, rfl⟩)
      | (go_at_call 37; (with_reducible refine hM.mono ?_); rintro e w1 ⟨rfl, rfl⟩))
    go_ret
    exact ⟨rfl, HB.out, HG.out⟩
  · have h2 : n ≤ L := by omega
    go_enter Try.func39, Try.ntmps39
    go_wp2_with (first
      | (go_at_call 42; (with_reducible refine hP.mono ?_); rintro e w1 ⟨rfl, rfl⟩)
      | (go_at_call 45; (with_reducible refine (hK _).mono ?_); rintro e w1 ⟨rfl, rfl⟩)
      | (go_at_call 37; (with_reducible refine hM.mono ?_); rintro e w1 ⟨rfl, rfl⟩))
    go_ret
    exact ⟨rfl, HB.out, HG.out⟩

theorem take_short (S : ByteArray) (g L n : Nat) (hS : S.size ≤ 1048576) (hL : L ≤ 8 * S.size) (hn : n ≤ 32) (h : L < n) (w : World) (hb : Blk w g 71 (at3r S L 0)) :
    Calls Try.prog 39 #[.pointer (some ⟨g, 0, none⟩), .int .i64 (n : Int)] w fun e w' => e = .returned (.int .u64 0) ∧ Blk w' g 71 (at3r S L 5) ∧ w.grownBy w' (some g) := by
  have hP := peek_good S g L n hS hL hn w hb
  have h' : (L : Int) < n := by omega
  have HB := Lib.hid hb
  generalize pkN S L n = x at *
  clear hb
  go_enter Try.func39, Try.ntmps39
  go_wp2_with (first
    | (go_at_call 42; (with_reducible refine hP.mono ?_); rintro e w1 ⟨rfl, hb1⟩; have k1 := blk_next HB.out hb1; obtain ⟨⟨c0, c1, c2⟩, f0, f1, f2⟩ := blk3r k1; have hM := met_any g 2 5 (w1.setCell ⟨g, 2, none⟩ (.int .i64 5)) (blk3r (blk3r_err k1)).1.2.2; have K1 := Lib.hid k1; clear k1)
    | (go_at_call 45; (with_reducible refine (meet_zero _ _ _ _ c2 f2).mono ?_); rintro e w2 ⟨rfl, rfl⟩)
    | (go_at_call 37; (with_reducible refine hM.mono ?_); rintro e w3 ⟨rfl, rfl⟩))
  go_ret
  exact ⟨rfl, blk3r_err K1.out, grown_set (grown_below hb1 _) _ _⟩

theorem take_good (S : ByteArray) (g L n : Nat) (hS : S.size ≤ 1048576) (hL : L ≤ 8 * S.size) (hn : n ≤ 32) (h : n ≤ L) (w : World) (hb : Blk w g 71 (at3r S L 0)) :
    Calls Try.prog 39 #[.pointer (some ⟨g, 0, none⟩), .int .i64 (n : Int)] w fun e w' => e = .returned (.int .u64 (pkN S L n : Nat)) ∧ Blk w' g 71 (at3r S ((L : Int) - n) 0) ∧ w.grownBy w' (some g) := by
  have hP := peek_good S g L n hS hL hn w hb
  have h' : (n : Int) ≤ L := by omega
  have HB := Lib.hid hb
  generalize pkN S L n = x at *
  clear hb
  go_enter Try.func39, Try.ntmps39
  go_wp2_with (first
    | (go_at_call 42; (with_reducible refine hP.mono ?_); rintro e w1 ⟨rfl, hb1⟩; have k1 := blk_next HB.out hb1; obtain ⟨⟨c0, c1, c2⟩, f0, f1, f2⟩ := blk3r k1; have hM := met_any g 2 0 w1 c2; have K1 := Lib.hid k1; clear k1)
    | (go_at_call 37; (with_reducible refine hM.mono ?_); rintro e w3 ⟨rfl, rfl⟩))
  go_ret
  exact ⟨rfl, blk3r_left K1.out, grown_set (grown_below hb1 _) _ _⟩

/-- what take leaves -/
def Taken (S : ByteArray) (L n : Int) (g : Nat) (w : World) (e : Ending) (w' : World) : Prop :=
  ∃ L' : Int, (bskE S L n = 0 → L' = L - n) ∧ e = .returned (.int .u64 (btkX S L n)) ∧ Blk w' g 71 (at3r S L' (bskE S L n)) ∧ w.grownBy w' (some g)

theorem isW_bad {n : Int} (h : n < 0 ∨ 32 < n) : isW n = false := by unfold isW; simp; omega

theorem take_any (S : ByteArray) (L n : Int) (g : Nat) (w : World) (hb : Blk w g 71 (at3r S L (brtE S L))) :
    Calls Try.prog 39 #[.pointer (some ⟨g, 0, none⟩), .int .i64 n] w (Taken S L n g w) := by
  by_cases hc : brtE S L = 0
  · rw [hc] at hb
    by_cases hr : n < 0 ∨ 32 < n
    · have e1 : bakE S L n = 2 := by unfold bakE; rw [if_pos hc, if_pos hr]
      have e2 : bskE S L n = 2 := by unfold bskE; rw [e1, if_neg (by decide)]
      have e3 : btkX S L n = 0 := by unfold btkX; rw [e2, if_neg (by decide)]
      refine (take_wide S g L n (isW_bad hr) w hb).mono fun e w' ⟨b1, b2, b3⟩ => ⟨L, fun h => by omega, by rw [e3]; exact b1, by rw [e2]; exact b2, b3⟩
    · have e1 : bakE S L n = 0 := by unfold bakE; rw [if_pos hc, if_neg hr]
      obtain ⟨z1, z2, z3, z4, z5⟩ := bak_zero e1
      obtain ⟨y1, y2, y3, y4, y5⟩ := strE_zero z1
      obtain ⟨l, rfl⟩ := Int.eq_ofNat_of_zero_le z2
      obtain ⟨m, rfl⟩ := Int.eq_ofNat_of_zero_le z4
      by_cases hs : (l : Int) < m
      · have e2 : bskE S l m = 5 := by unfold bskE; rw [if_pos e1, if_pos hs]
        have e3 : btkX S l m = 0 := by unfold btkX; rw [e2, if_neg (by decide)]
        refine (take_short S g l m y2 (by omega) (by omega) (by omega) w hb).mono fun e w' ⟨b1, b2, b3⟩ => ⟨l, fun h => by omega, by rw [e3]; exact b1, by rw [e2]; exact b2, b3⟩
      · have e2 : bskE S l m = 0 := by unfold bskE; rw [if_pos e1, if_neg hs]
        have e3 : btkX S l m = (pkN S l m : Nat) := by unfold btkX bpkX; rw [if_pos e2, if_pos e1]; simp
        refine (take_good S g l m y2 (by omega) (by omega) (by omega) w hb).mono fun e w' ⟨b1, b2, b3⟩ => ⟨(l : Int) - m, fun h => rfl, by rw [e3]; exact b1, by rw [e2]; exact b2, b3⟩
  · have e1 : bakE S L n = brtE S L := by unfold bakE; rw [if_neg hc]
    have e2 : bskE S L n = brtE S L := by unfold bskE; rw [e1, if_neg hc]
    have e3 : btkX S L n = 0 := by unfold btkX; rw [e2, if_neg hc]
    refine (take_err S g L _ n hc w hb).mono fun e w' ⟨b1, b2, b3⟩ => ⟨L, fun h => by omega, by rw [e3]; exact b1, by rw [e2]; exact b2, b3⟩

theorem peekP_any (S : ByteArray) (L n : Int) (g : Nat) (w : World) (hb : Blk w g 71 (at3r S L (brtE S L))) :
    Calls Try.prog 42 #[.pointer (some ⟨g, 0, none⟩), .int .i64 n] w fun e w' => e = .returned (.int .u64 (bpkX S L n)) ∧ Blk w' g 71 (at3r S L (bakE S L n)) ∧ w.grownBy w' (some g) := by
  by_cases hc : brtE S L = 0
  · rw [hc] at hb
    by_cases hr : n < 0 ∨ 32 < n
    · have e1 : bakE S L n = 2 := by unfold bakE; rw [if_pos hc, if_pos hr]
      have e3 : bpkX S L n = 0 := by unfold bpkX; rw [e1, if_neg (by decide)]
      rw [e1, e3]
      exact (peek_wide S g L n (isW_bad hr) w hb).mono fun e w' ⟨b1, b2⟩ => ⟨b1, by rw [← b2]; exact blk3r_err hb, by rw [← b2]; exact grown_set (grown_refl _ _) _ _⟩
    · have e1 : bakE S L n = 0 := by unfold bakE; rw [if_pos hc, if_neg hr]
      obtain ⟨z1, z2, z3, z4, z5⟩ := bak_zero e1
      obtain ⟨y1, y2, y3, y4, y5⟩ := strE_zero z1
      obtain ⟨l, rfl⟩ := Int.eq_ofNat_of_zero_le z2
      obtain ⟨m, rfl⟩ := Int.eq_ofNat_of_zero_le z4
      have e3 : bpkX S l m = (pkN S l m : Nat) := by unfold bpkX; rw [if_pos e1]; simp
      rw [e1, e3]
      exact (peek_good S g l m y2 (by omega) (by omega) w hb).mono fun e w' ⟨b1, b2⟩ => ⟨b1, blk_next hb b2, grown_below b2 _⟩
  · have e1 : bakE S L n = brtE S L := by unfold bakE; rw [if_neg hc]
    have e3 : bpkX S L n = 0 := by unfold bpkX; rw [e1, if_neg hc]
    rw [e1, e3]
    exact (peek_err S g L _ n hc w hb).mono fun e w' ⟨b1, b2⟩ => ⟨b1, by rw [← b2]; exact hb, by rw [← b2]; exact grown_refl _ _⟩
end Go.Proofs.Yteopglkehlckoaa
