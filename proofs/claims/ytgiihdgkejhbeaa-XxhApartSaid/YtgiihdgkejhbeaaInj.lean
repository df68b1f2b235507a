/-
  Plain mathematics: the checksum's steps are one to one.
-/
import Derived.Test.YtgiihdgkejhbeaaKnown
namespace Go.Proofs.Ytgiihdgkejhbeaa
open Go.ChangeShapes Go.WideShapes Go.ChangeAt Go.RowKit
set_option linter.unusedVariables false

def U (x : Int) : Prop := 0 ≤ x ∧ x < 18446744073709551616
theorem wrapU (x : Int) : IntKind.u64.wrap x = x % 18446744073709551616 := IntKind.wrap_u64 x
theorem U_wrap (x : Int) : U (IntKind.u64.wrap x) := by
  rw [wrapU]
  exact ⟨Int.emod_nonneg _ (by decide), Int.emod_lt_of_pos _ (by decide)⟩
theorem U_xor (a b : Int) : U (bits .xor .u64 a b) := U_wrap _
theorem U_tn (x : Int) (k : Nat) : U (tn x k) := U_wrap _
theorem wrap_id {x : Int} (h : U x) : IntKind.u64.wrap x = x := by
  rw [wrapU]
  exact Int.emod_eq_of_lt h.1 h.2
theorem mul_back (c d x : Int) (h : c * d % 18446744073709551616 = 1) (hx : U x) : IntKind.u64.wrap (IntKind.u64.wrap (x * c) * d) = x := by
  have a : (x * c % 18446744073709551616 * d) % 18446744073709551616 = (x * c * d) % 18446744073709551616 := by
    rw [Int.mul_emod, Int.emod_emod_of_dvd _ (Int.dvd_refl _), ← Int.mul_emod]
  rw [wrapU, wrapU, a, Int.mul_assoc, Int.mul_emod, h, Int.mul_one, Int.emod_emod_of_dvd _ (Int.dvd_refl _)]
  exact Int.emod_eq_of_lt hx.1 hx.2
theorem mul_inj (c d : Int) (h : c * d % 18446744073709551616 = 1) {x y : Int} (hx : U x) (hy : U y) (e : IntKind.u64.wrap (x * c) = IntKind.u64.wrap (y * c)) : x = y := by
  rw [← mul_back c d x h hx, e, mul_back c d y h hy]
theorem add_inj (c : Int) {x y : Int} (hx : U x) (hy : U y) (e : IntKind.u64.wrap (x + c) = IntKind.u64.wrap (y + c)) : x = y := by
  obtain ⟨h1, h2⟩ := hx
  obtain ⟨h3, h4⟩ := hy
  rw [wrapU, wrapU] at e
  omega
theorem xor_val {a b : Int} (ha : U a) (hb : U b) : bits .xor .u64 a b = ((a.toNat ^^^ b.toNat : Nat) : Int) := u64_xor a b ha.1 ha.2 hb.1 hb.2
theorem xor_inj (n : Int) (hn : U n) {x y : Int} (hx : U x) (hy : U y) (e : bits .xor .u64 n x = bits .xor .u64 n y) : x = y := by
  rw [xor_val hn hx, xor_val hn hy] at e
  have e2 : n.toNat ^^^ x.toNat = n.toNat ^^^ y.toNat := by omega
  have e3 : x.toNat = y.toNat := by
    have h := congrArg (n.toNat ^^^ ·) e2
    simp only [← Nat.xor_assoc, Nat.xor_self, Nat.zero_xor] at h
    exact h
  have := hx.1
  have := hy.1
  omega
theorem shift_inj (k : Nat) (hk : 1 ≤ k) (x y : Nat) (e : x ^^^ (x / 2 ^ k) = y ^^^ (y / 2 ^ k)) : x = y := by
  have h1 : (x ^^^ y) = (x ^^^ y) >>> k := by
    rw [Nat.shiftRight_xor_distrib, Nat.shiftRight_eq_div_pow, Nat.shiftRight_eq_div_pow]
    have e2 : (x ^^^ (x / 2 ^ k)) ^^^ (y ^^^ (x / 2 ^ k)) = (y ^^^ (y / 2 ^ k)) ^^^ (y ^^^ (x / 2 ^ k)) := by rw [e]
    have l : (x ^^^ (x / 2 ^ k)) ^^^ (y ^^^ (x / 2 ^ k)) = x ^^^ y := by
      rw [Nat.xor_comm y, Nat.xor_assoc, ← Nat.xor_assoc (x / 2 ^ k) (x / 2 ^ k) y, Nat.xor_self, Nat.zero_xor]
    have r : (y ^^^ (y / 2 ^ k)) ^^^ (y ^^^ (x / 2 ^ k)) = (x / 2 ^ k) ^^^ (y / 2 ^ k) := by
      rw [Nat.xor_comm y (y / 2 ^ k), Nat.xor_assoc, ← Nat.xor_assoc y y, Nat.xor_self, Nat.zero_xor, Nat.xor_comm]
    rw [← l, e2, r]
  rw [Nat.shiftRight_eq_div_pow] at h1
  have h2 : x ^^^ y = 0 := by
    rcases Nat.eq_zero_or_pos (x ^^^ y) with h | h
    · exact h
    · exact absurd h1 (Nat.ne_of_gt (Nat.div_lt_self h (Nat.one_lt_two_pow (by omega))))
  have h3 := congrArg (· ^^^ y) h2
  simp only [Nat.xor_assoc, Nat.xor_self, Nat.xor_zero, Nat.zero_xor] at h3
  exact h3
theorem sh_inj (k : Nat) (hk : 1 ≤ k) (c : Int) (hc : (2 : Int) ^ k = c) {x y : Int} (hx : U x) (hy : U y) (e : bits .xor .u64 x (x / c) = bits .xor .u64 y (y / c)) : x = y := by
  obtain ⟨a, rfl⟩ := Int.eq_ofNat_of_zero_le hx.1
  obtain ⟨b, rfl⟩ := Int.eq_ofNat_of_zero_le hy.1
  have ea : (a : Int) / c = ((a / 2 ^ k : Nat) : Int) := by rw [← hc]; simp
  have eb : (b : Int) / c = ((b / 2 ^ k : Nat) : Int) := by rw [← hc]; simp
  have ha := hx.2
  have hb := hy.2
  have la : a / 2 ^ k ≤ a := Nat.div_le_self _ _
  have lb : b / 2 ^ k ≤ b := Nat.div_le_self _ _
  rw [ea, eb, u64_xor_nat a _ (by omega) (by omega), u64_xor_nat b _ (by omega) (by omega)] at e
  rw [shift_inj k hk a b (by omega)]
theorem tn_val (x k : Nat) (hx : x < 18446744073709551616) (hk : k ≤ 63) : tn (x : Int) k = ((2 ^ k * (x % 2 ^ (64 - k)) + x / 2 ^ (64 - k) : Nat) : Int) := by
  have hM : 2 ^ (64 - k) * 2 ^ k = 18446744073709551616 := by rw [← Nat.pow_add, show 64 - k + k = 64 by omega]
  have ha : x / 2 ^ (64 - k) < 2 ^ k := Nat.div_lt_of_lt_mul (by rw [hM]; exact hx)
  have e1 : IntKind.u64.wrap ((x : Int) * 2 ^ k) = ((2 ^ k * (x % 2 ^ (64 - k)) : Nat) : Int) := by
    rw [wrapU, show (x : Int) * 2 ^ k = ((x * 2 ^ k : Nat) : Int) by simp, show (18446744073709551616 : Int) = ((18446744073709551616 : Nat) : Int) from rfl, ← Int.natCast_emod, ← hM, Nat.mul_mod_mul_right, Nat.mul_comm]
  have e2 : (x : Int) / 2 ^ (64 - k) = ((x / 2 ^ (64 - k) : Nat) : Int) := by simp
  have hb : 2 ^ k * (x % 2 ^ (64 - k)) < 18446744073709551616 := by
    rw [← hM, Nat.mul_comm]
    exact Nat.mul_lt_mul_of_pos_right (Nat.mod_lt _ (Nat.two_pow_pos _)) (Nat.two_pow_pos _)
  have hle : x / 2 ^ (64 - k) ≤ x := Nat.div_le_self _ _
  unfold tn
  rw [e1, e2, u64_or_nat _ _ hb (by omega), Nat.two_pow_add_eq_or_of_lt ha]
theorem tn_inj (k : Nat) (hk : k ≤ 63) {x y : Int} (hx : U x) (hy : U y) (e : tn x k = tn y k) : x = y := by
  obtain ⟨a, rfl⟩ := Int.eq_ofNat_of_zero_le hx.1
  obtain ⟨b, rfl⟩ := Int.eq_ofNat_of_zero_le hy.1
  have ha := hx.2
  have hb := hy.2
  rw [tn_val a k (by omega) hk, tn_val b k (by omega) hk] at e
  have hM : 2 ^ (64 - k) * 2 ^ k = 18446744073709551616 := by rw [← Nat.pow_add, show 64 - k + k = 64 by omega]
  have qa : a / 2 ^ (64 - k) < 2 ^ k := Nat.div_lt_of_lt_mul (by rw [hM]; omega)
  have qb : b / 2 ^ (64 - k) < 2 ^ k := Nat.div_lt_of_lt_mul (by rw [hM]; omega)
  have e2 : 2 ^ k * (a % 2 ^ (64 - k)) + a / 2 ^ (64 - k) = 2 ^ k * (b % 2 ^ (64 - k)) + b / 2 ^ (64 - k) := by omega
  have m1 : a / 2 ^ (64 - k) = b / 2 ^ (64 - k) := by
    have h := congrArg (· % 2 ^ k) e2
    simp only [Nat.mul_add_mod, Nat.mod_eq_of_lt qa, Nat.mod_eq_of_lt qb] at h
    exact h
  have m2 : a % 2 ^ (64 - k) = b % 2 ^ (64 - k) := by
    rw [m1] at e2
    exact Nat.eq_of_mul_eq_mul_left (Nat.two_pow_pos k) (Nat.add_right_cancel e2)
  rw [← Nat.div_add_mod a (2 ^ (64 - k)), m1, m2, Nat.div_add_mod]

theorem invA : (11400714785074694791 : Int) * 614540362697595703 % 18446744073709551616 = 1 := by decide
theorem invB : (14029467366897019727 : Int) * 839798700976720815 % 18446744073709551616 = 1 := by decide
theorem invC : (1609587929392839161 : Int) * 16855272203555305545 % 18446744073709551616 = 1 := by decide
theorem invE : (2870177450012600261 : Int) * 14236653164957433613 % 18446744073709551616 = 1 := by decide

theorem rd_inj {x y : Int} (hx : U x) (hy : U y) (e : rd 0 x = rd 0 y) : x = y := by
  unfold rd at e
  have e1 := mul_inj _ _ invA (U_tn _ _) (U_tn _ _) e
  have e2 := tn_inj 31 (by decide) (U_wrap _) (U_wrap _) e1
  rw [Int.zero_add, Int.zero_add, wrap_wrap, wrap_wrap] at e2
  exact mul_inj _ _ invB hx hy e2
theorem st8_inj (n : Int) (hn : U n) {x y : Int} (hx : U x) (hy : U y) (e : st8 n x = st8 n y) : x = y := by
  unfold st8 at e
  have e1 := add_inj _ (U_wrap _) (U_wrap _) e
  have e2 := mul_inj _ _ invA (U_tn _ _) (U_tn _ _) e1
  have e3 := tn_inj 27 (by decide) (U_xor _ _) (U_xor _ _) e2
  exact rd_inj hx hy (xor_inj n hn (U_wrap _) (U_wrap _) e3)
theorem st4_inj (n : Int) (hn : U n) {x y : Int} (hx : U x) (hy : U y) (e : st4 n x = st4 n y) : x = y := by
  unfold st4 at e
  have e1 := add_inj _ (U_wrap _) (U_wrap _) e
  have e2 := mul_inj _ _ invB (U_tn _ _) (U_tn _ _) e1
  have e3 := tn_inj 23 (by decide) (U_xor _ _) (U_xor _ _) e2
  exact mul_inj _ _ invA hx hy (xor_inj n hn (U_wrap _) (U_wrap _) e3)
theorem st1_inj (n : Int) (hn : U n) {x y : Int} (hx : U x) (hy : U y) (e : st1 n x = st1 n y) : x = y := by
  unfold st1 at e
  have e2 := mul_inj _ _ invA (U_tn _ _) (U_tn _ _) e
  have e3 := tn_inj 11 (by decide) (U_xor _ _) (U_xor _ _) e2
  exact mul_inj _ _ invE hx hy (xor_inj n hn (U_wrap _) (U_wrap _) e3)
theorem stir_inj {x y : Int} (hx : U x) (hy : U y) (e : stirW x = stirW y) : x = y := by
  unfold stirW sr3 at e
  have e1 := sh_inj 32 (by decide) _ (by decide) (U_wrap _) (U_wrap _) e
  unfold sr2 at e1
  have e2 := sh_inj 29 (by decide) _ (by decide) (U_wrap _) (U_wrap _) (mul_inj _ _ invC (U_xor _ _) (U_xor _ _) e1)
  unfold sr1 at e2
  exact sh_inj 33 (by decide) _ (by decide) hx hy (mul_inj _ _ invB (U_xor _ _) (U_xor _ _) e2)
end Go.Proofs.Ytgiihdgkejhbeaa
