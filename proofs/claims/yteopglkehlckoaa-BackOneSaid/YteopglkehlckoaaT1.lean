/-
  The project's small functions of package back: widths, numbers, the error that is kept.
-/
import Derived.Test.YteopglkehlckoaaB3Check
import Derived.Test.YteopglkehlckoaaMem
import Derived.BigQuiet
import Derived.Deep.RegionWith
import Derived.Deep.RegionHeld3
namespace Go.Proofs.Yteopglkehlckoaa
open Go.ChangeShapes Go.WideShapes Go.ChangeAt Go.RowKit
set_option linter.unusedVariables false

/-- isWidth's answer -/
def isW (n : Int) : Bool := decide (0 ≤ n ∧ n ≤ 32)

theorem ownWidth (n : Int) (w : World) : Calls Try.prog 48 #[.int .i64 n] w fun e w' => e = .returned (.bool (isW n)) ∧ w = w' := by
  by_cases h1 : n < 0
  · have e : isW n = false := by unfold isW; simp; omega
    rw [e]
    have hd : decide (0 ≤ n) = false := by simp; omega
    go_enter Try.func48, Try.ntmps48
    go_wp2
    go_ret
    exact ⟨rfl, rfl⟩
  · by_cases h2 : 32 < n
    · have e : isW n = false := by unfold isW; simp; omega
      rw [e]
      have hd : decide (n ≤ 32) = false := by simp; omega
      go_enter Try.func48, Try.ntmps48
      go_wp2
      go_ret
      exact ⟨rfl, rfl⟩
    · have e : isW n = true := by unfold isW; simp; omega
      rw [e]
      have hd : decide (n ≤ 32) = true := by simp; omega
      go_enter Try.func48, Try.ntmps48
      go_wp2
      go_ret
      exact ⟨rfl, rfl⟩

theorem ownRight_no (n v : Int) (h : n < 0 ∨ 32 < n) (w : World) : Calls Try.prog 44 #[.agg #[.int .i64 n, .int .u64 v]] w fun e w' => e = .returned (.bool false) ∧ Below w.heap.size w w' := by
  have e : isW n = false := by unfold isW; simp; omega
  have hW := fun u => ownWidth n u
  rw [e] at hW
  clear e
  go_enter Try.func44, Try.ntmps44
  go_wp2_with (go_at_call 48; (with_reducible refine (hW _).mono ?_); rintro e w1 ⟨rfl, rfl⟩)
  go_ret
  exact ⟨rfl, (Below.refl _ _).alloc (Nat.le_refl _) _⟩

theorem ownRight_some (m : Nat) (v p : Int) (r : Bool) (hm : m ≤ 32) (hp : (2 : Int) ^ m = p) (hp0 : 1 ≤ p) (hp1 : p ≤ 4294967296) (h : 0 ≤ v) (hr : (v / p == 0) = r) (w : World) : Calls Try.prog 44 #[.agg #[.int .i64 (m : Int), .int .u64 v]] w fun e w' => e = .returned (.bool r) ∧ Below w.heap.size w w' := by
  have e : isW m = true := by unfold isW; simp; omega
  have hW := fun u => ownWidth m u
  rw [e] at hW
  clear e
  go_enter Try.func44, Try.ntmps44
  go_wp2_with (go_at_call 48; (with_reducible refine (hW _).mono ?_); rintro e w1 ⟨rfl, rfl⟩)
  go_ret
  exact ⟨rfl, (Below.refl _ _).alloc (Nat.le_refl _) _⟩

/-- right's answer -/
def rgtU (n v : Int) : Bool := decide (0 ≤ n ∧ n ≤ 32 ∧ v < (2 : Int) ^ n.toNat)

theorem ownRight_any (n v : Int) (hv : 0 ≤ v) (w : World) : Calls Try.prog 44 #[.agg #[.int .i64 n, .int .u64 v]] w fun e w' => e = .returned (.bool (rgtU n v)) ∧ Below w.heap.size w w' := by
  by_cases h : n < 0 ∨ 32 < n
  · have e : rgtU n v = false := by unfold rgtU; rw [decide_eq_false_iff_not]; omega
    rw [e]
    exact ownRight_no n v h w
  · obtain ⟨m, rfl⟩ := Int.eq_ofNat_of_zero_le (show 0 ≤ n by omega)
    have hm : m ≤ 32 := by omega
    have et : ((m : Int)).toNat = m := by omega
    obtain ⟨b0, b1⟩ := pow_bounds m hm
    refine ownRight_some m v _ _ hm rfl b0 b1 hv ?_ w
    rw [div_test v _ (by omega) b0]
    unfold rgtU
    rw [et]
    have e1 : (0 ≤ (m : Int)) = True := by simp
    have e2 : ((m : Int) ≤ 32) = True := by simp; omega
    simp only [e1, e2, true_and]

theorem met_any (g o : Nat) (c : Int) (w : World) (hc : w.cell? ⟨g, o, none⟩ = some (.int .i64 c)) : Calls Try.prog 37 #[.pointer (some ⟨g, o, none⟩)] w fun e w' => e = .returned (.bool (c != 0)) ∧ w = w' := by
  go_enter Try.func37, Try.ntmps37
  go_wp2
  go_ret
  exact ⟨rfl, rfl⟩

theorem meet_zero (g o : Nat) (e : Int) (w : World) (hc : w.cell? ⟨g, o, none⟩ = some (.int .i64 0)) (hf : w.frozen? ⟨g, o, none⟩ = false) : Calls Try.prog 45 #[.pointer (some ⟨g, o, none⟩), .int .i64 e] w fun x w' => x = .returned (.tuple #[]) ∧ w.setCell ⟨g, o, none⟩ (.int .i64 e) = w' := by
  go_enter Try.func45, Try.ntmps45
  go_wp2
  go_end0
  exact ⟨rfl, rfl⟩

theorem meet_keep (g o : Nat) (c e : Int) (w : World) (h0 : c ≠ 0) (hc : w.cell? ⟨g, o, none⟩ = some (.int .i64 c)) : Calls Try.prog 45 #[.pointer (some ⟨g, o, none⟩), .int .i64 e] w fun x w' => x = .returned (.tuple #[]) ∧ w = w' := by
  have t : (c == 0) = false := by simp [h0]
  clear h0
  go_enter Try.func45, Try.ntmps45
  go_wp2
  go_end0
  exact ⟨rfl, rfl⟩
end Go.Proofs.Yteopglkehlckoaa
