/-
  The project's small functions of package bits: widths, numbers, a draft's check.
-/
import Derived.Test.YtaohhijjalcbiaaB2Check
import Derived.Test.YtaohhijjalcbiaaMem
import Derived.WalkKit
import Derived.ProofKit
import Derived.OpenShut
import Derived.Lib.Hide
import Derived.BigQuiet
import Derived.Deep.QuietTactic
namespace Go.Proofs.Ytaohhijjalcbiaa
open Go.ChangeShapes Go.WideShapes Go.ChangeAt Go.RowKit
set_option linter.unusedVariables false

theorem ownWhole (b : Int) (h : 0 ≤ b) (h1 : b ≤ 4611686018427387904) (w : World) : Calls Try.prog 63 #[.int .i64 b] w fun e w' => e = .returned (.int .i64 (b / 8)) ∧ w = w' := by
  go_enter Try.func63, Try.ntmps63
  go_wp2
  go_ret
  exact ⟨rfl, rfl⟩

/-- isWidth's answer -/
def isW (n : Int) : Bool := decide (0 ≤ n ∧ n ≤ 32)

theorem ownWidth (n : Int) (w : World) : Calls Try.prog 99 #[.int .i64 n] w fun e w' => e = .returned (.bool (isW n)) ∧ w = w' := by
  by_cases h1 : n < 0
  · have e : isW n = false := by unfold isW; simp; omega
    rw [e]
    have hd : decide (0 ≤ n) = false := by simp; omega
    go_enter Try.func99, Try.ntmps99
    go_wp2
    go_ret
    exact ⟨rfl, rfl⟩
  · by_cases h2 : 32 < n
    · have e : isW n = false := by unfold isW; simp; omega
      rw [e]
      have hd : decide (n ≤ 32) = false := by simp; omega
      go_enter Try.func99, Try.ntmps99
      go_wp2
      go_ret
      exact ⟨rfl, rfl⟩
    · have e : isW n = true := by unfold isW; simp; omega
      rw [e]
      have hd : decide (n ≤ 32) = true := by simp; omega
      go_enter Try.func99, Try.ntmps99
      go_wp2
      go_ret
      exact ⟨rfl, rfl⟩

theorem ownRight_no (n v : Int) (h : n < 0 ∨ 32 < n) (w : World) : Calls Try.prog 98 #[.agg #[.int .i64 n, .int .i64 v]] w fun e w' => e = .returned (.bool false) ∧ Below w.heap.size w w' := by
  have e : isW n = false := by unfold isW; simp; omega
  have hW := fun u => ownWidth n u
  rw [e] at hW
  clear e
  go_enter Try.func98, Try.ntmps98
  go_wp2_with (go_at_call 99; (with_reducible refine (hW _).mono ?_); rintro e w1 ⟨rfl, rfl⟩)
  go_ret
  exact ⟨rfl, (Below.refl _ _).alloc (Nat.le_refl _) _⟩

theorem ownRight_low (m : Nat) (v : Int) (hm : m ≤ 32) (h : v < 0) (w : World) : Calls Try.prog 98 #[.agg #[.int .i64 (m : Int), .int .i64 v]] w fun e w' => e = .returned (.bool false) ∧ Below w.heap.size w w' := by
  have e : isW m = true := by unfold isW; simp; omega
  have hW := fun u => ownWidth m u
  rw [e] at hW
  clear e
  have hd : decide (0 ≤ v) = false := by simp; omega
  go_enter Try.func98, Try.ntmps98
  go_wp2_with (go_at_call 99; (with_reducible refine (hW _).mono ?_); rintro e w1 ⟨rfl, rfl⟩)
  go_ret
  exact ⟨rfl, (Below.refl _ _).alloc (Nat.le_refl _) _⟩

theorem ownRight_some (m : Nat) (v p : Int) (r : Bool) (hm : m ≤ 32) (hp : (2 : Int) ^ m = p) (hp0 : 1 ≤ p) (hp1 : p ≤ 4294967296) (h : 0 ≤ v) (hr : (v / p == 0) = r) (w : World) : Calls Try.prog 98 #[.agg #[.int .i64 (m : Int), .int .i64 v]] w fun e w' => e = .returned (.bool r) ∧ Below w.heap.size w w' := by
  have e : isW m = true := by unfold isW; simp; omega
  have hW := fun u => ownWidth m u
  rw [e] at hW
  clear e
  have hd : decide (0 ≤ v) = true := by simp; omega
  go_enter Try.func98, Try.ntmps98
  go_wp2_with (go_at_call 99; (with_reducible refine (hW _).mono ?_); rintro e w1 ⟨rfl, rfl⟩)
  go_ret
  exact ⟨rfl, (Below.refl _ _).alloc (Nat.le_refl _) _⟩
/-- right's answer -/
def rgtN (n v : Int) : Bool := decide (0 ≤ n ∧ n ≤ 32 ∧ 0 ≤ v ∧ v < (2 : Int) ^ n.toNat)

theorem ownRight_any (n v : Int) (w : World) : Calls Try.prog 98 #[.agg #[.int .i64 n, .int .i64 v]] w fun e w' => e = .returned (.bool (rgtN n v)) ∧ Below w.heap.size w w' := by
  by_cases h : n < 0 ∨ 32 < n
  · have e : rgtN n v = false := by unfold rgtN; rw [decide_eq_false_iff_not]; omega
    rw [e]
    exact ownRight_no n v h w
  · obtain ⟨m, rfl⟩ := Int.eq_ofNat_of_zero_le (show 0 ≤ n by omega)
    have hm : m ≤ 32 := by omega
    have et : ((m : Int)).toNat = m := by omega
    obtain ⟨b0, b1⟩ := pow_bounds m hm
    by_cases hv : v < 0
    · have e : rgtN m v = false := by unfold rgtN; rw [decide_eq_false_iff_not]; omega
      rw [e]
      exact ownRight_low m v hm hv w
    · refine ownRight_some m v _ _ hm rfl b0 b1 (by omega) ?_ w
      rw [div_test v _ (by omega) b0]
      unfold rgtN
      rw [et]
      have e1 : (0 ≤ (m : Int)) = True := by simp
      have e2 : ((m : Int) ≤ 32) = True := by simp; omega
      have e3 : (0 ≤ v) = True := by simp; omega
      simp only [e1, e2, e3, true_and]

theorem draftCheck_high (S : ByteArray) (P N : Int) (h : 7 < N) (w : World) : Calls Try.prog 88 #[.agg #[.string S, .int .i64 P, .int .i64 N]] w fun e w' => e = .returned (.int .i64 2) ∧ Below w.heap.size w w' := by
  go_enter Try.func88, Try.ntmps88
  go_wp2
  go_ret
  exact ⟨rfl, ((Below.refl _ _).alloc (Nat.le_refl _) _).alloc (by simp) _⟩

theorem draftCheck_bad (S : ByteArray) (P N : Int) (h : N ≤ 7) (hr : rgtN N P = false) (w : World) : Calls Try.prog 88 #[.agg #[.string S, .int .i64 P, .int .i64 N]] w fun e w' => e = .returned (.int .i64 2) ∧ Below w.heap.size w w' := by
  have hR := fun u => ownRight_any N P u
  rw [hr] at hR
  clear hr
  go_enter Try.func88, Try.ntmps88
  go_wp2_with (go_at_call 98; (with_reducible refine (hR _).mono ?_); rintro e w1 ⟨rfl, hb1⟩; obtain ⟨hc1, hf1⟩ := bcell hb1)
  go_ret
  exact ⟨rfl, (((Below.refl _ _).alloc (Nat.le_refl _) _).alloc (by simp) _).trans (hb1.mono (by simp; omega))⟩

theorem draftCheck_good (S : ByteArray) (P N : Int) (hS : S.size ≤ 9223372036854775807) (h : N ≤ 7) (hr : rgtN N P = true) (w : World) (r : Int) (hl : (1048576 < S.size ∧ r = 4) ∨ (S.size ≤ 1048576 ∧ r = 0)) : Calls Try.prog 88 #[.agg #[.string S, .int .i64 P, .int .i64 N]] w fun e w' => e = .returned (.int .i64 r) ∧ Below w.heap.size w w' := by
  have hR := fun u => ownRight_any N P u
  rw [hr] at hR
  clear hr
  rcases hl with ⟨h1, rfl⟩ | ⟨h1, rfl⟩
  all_goals
    go_enter Try.func88, Try.ntmps88
    go_wp2_with (go_at_call 98; (with_reducible refine (hR _).mono ?_); rintro e w1 ⟨rfl, hb1⟩; obtain ⟨hc1, hf1⟩ := bcell hb1)
    go_ret
    exact ⟨rfl, (((Below.refl _ _).alloc (Nat.le_refl _) _).alloc (by simp) _).trans (hb1.mono (by simp; omega))⟩

theorem ownDraftCheck_any (S : ByteArray) (P N : Int) (hS : S.size ≤ 9223372036854775807) (w : World) : Calls Try.prog 88 #[.agg #[.string S, .int .i64 P, .int .i64 N]] w fun e w' => e = .returned (.int .i64 (chk S P N)) ∧ Below w.heap.size w w' := by
  by_cases h : 7 < N
  · have e : chk S P N = 2 := by unfold chk; rw [if_pos (by omega)]
    rw [e]
    exact draftCheck_high S P N h w
  · by_cases hr : rgtN N P = true
    · have hr' := hr
      unfold rgtN at hr'
      rw [decide_eq_true_iff] at hr'
      by_cases hl : 1048576 < S.size
      · have e : chk S P N = 4 := by unfold chk; rw [if_neg (by omega), if_pos hl]
        rw [e]
        exact draftCheck_good S P N hS (by omega) hr w 4 (.inl ⟨hl, rfl⟩)
      · have e : chk S P N = 0 := by unfold chk; rw [if_neg (by omega), if_neg hl]
        rw [e]
        exact draftCheck_good S P N hS (by omega) hr w 0 (.inr ⟨by omega, rfl⟩)
    · have hr' : rgtN N P = false := by simpa using hr
      have hr2 := hr'
      unfold rgtN at hr2
      rw [decide_eq_false_iff_not] at hr2
      have e : chk S P N = 2 := by unfold chk; rw [if_pos (by omega)]
      rw [e]
      exact draftCheck_bad S P N (by omega) hr' w

/-- draft.refuse's answer -/
def refE (S : ByteArray) (N n v : Int) : Int := if rgtN n v = true then (if 1048576 < (S.size : Int) + (N + n) / 8 then 4 else 0) else 2

end Go.Proofs.Ytaohhijjalcbiaa
