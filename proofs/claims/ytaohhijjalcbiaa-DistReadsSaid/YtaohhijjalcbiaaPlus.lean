/-
  What the project's own sums do: the exact sum while it is from 0 to the greatest count, otherwise 0 and the range error; lists of numbers in memory.
-/
import Derived.Test.YtaohhijjalcbiaaProg
import Derived.Test.YtaohhijjalcbiaaNum
import Derived.WalkKit
import Derived.ProofKit
import Derived.OpenShut
import Derived.Lib.Hide
namespace Go.Proofs.Ytaohhijjalcbiaa
open Go.ChangeShapes Go.WideShapes Go.ChangeAt Go.RowKit

/-- the numbers of a list added to s, nothing if a number or a sum is out of bounds -/
def sumUp : Int → List Int → Option Int
  | s, [] => some s
  | s, n :: r => if n < 0 ∨ 1099511627776 - s < n then none else sumUp (s + n) r

/-- a number, or the range error -/
def resOf : Option Int → Value
  | some s => .tuple #[.int .i64 s, .int .i64 0]
  | none => .tuple #[.int .i64 0, .int .i64 2]

/-- the cells of a list of ints, below block B -/
def IntsAt (w : World) (B : Nat) (A : Option Addr) (xs : List Int) : Prop :=
  0 < xs.length → ∃ b off, A = some ⟨b, off, none⟩ ∧ b < B ∧ ∀ k, k < xs.length → w.cell? ⟨b, off + k, none⟩ = some (.int .i64 (xs.getD k 0))

theorem IntsAt.below {w w' : World} {B : Nat} {A : Option Addr} {xs : List Int} (h : IntsAt w B A xs) (hb : Below B w w') : IntsAt w' B A xs := fun h0 => by
  obtain ⟨b, off, hA, hlt, hc⟩ := h h0
  exact ⟨b, off, hA, hlt, fun k hk => (hb.cell (p := ⟨b, off + k, none⟩) hlt).trans (hc k hk)⟩
theorem IntsAt.more {w : World} {B B' : Nat} {A : Option Addr} {xs : List Int} (h : IntsAt w B A xs) (hb : B ≤ B') : IntsAt w B' A xs := fun h0 => by
  obtain ⟨b, off, hA, hlt, hc⟩ := h h0
  exact ⟨b, off, hA, by omega, hc⟩

theorem drop_getD (xs : List Int) (k : Nat) (h : k < xs.length) : xs.drop k = xs.getD k 0 :: xs.drop (k + 1) := by
  rw [List.drop_eq_getElem_cons h]
  simp [List.getD, h]

def addR (a b : Int) : Option Int := if 0 ≤ a ∧ a ≤ 1099511627776 ∧ 0 ≤ b ∧ b ≤ 1099511627776 ∧ a + b ≤ 1099511627776 then some (a + b) else none

theorem addR_sum (a b : Int) : sumUp 0 [a, b] = addR a b := by
  unfold addR
  simp only [sumUp]
  by_cases h1 : a < 0 ∨ 1099511627776 - 0 < a
  · rw [if_pos h1, if_neg (by omega)]
  · rw [if_neg h1]
    by_cases h2 : b < 0 ∨ 1099511627776 - (0 + a) < b
    · rw [if_pos h2, if_neg (by omega)]
    · rw [if_neg h2, if_pos (by omega)]
      congr 1; omega

theorem resOf_form (o : Option Int) : ∃ a b : Int, resOf o = .tuple #[.int .i64 a, .int .i64 b] := by
  cases o with
  | none => exact ⟨0, 2, rfl⟩
  | some s => exact ⟨s, 0, rfl⟩

theorem pair_at (w : World) (a b : Int) (T : TypeId) : IntsAt (w.alloc (.cells #[.int .i64 a, .int .i64 b] T)) (w.heap.size + 1) (some ⟨w.heap.size, 0, none⟩) [a, b] := fun _ =>
  ⟨w.heap.size, 0, rfl, by omega, fun k hk => by
    have hk2 : k < 2 := hk
    rcases k with _ | _ | k
    · simp [go_sem]
    · simp [go_sem]
    · omega⟩

theorem addR_bad {a b : Int} (h : ¬ (0 ≤ a ∧ a ≤ 1099511627776 ∧ 0 ≤ b ∧ b ≤ 1099511627776 ∧ a + b ≤ 1099511627776)) : addR a b = none := by unfold addR; rw [if_neg h]
theorem addR_ok {a b : Int} (h : 0 ≤ a ∧ a ≤ 1099511627776 ∧ 0 ≤ b ∧ b ≤ 1099511627776 ∧ a + b ≤ 1099511627776) : addR a b = some (a + b) := by unfold addR; rw [if_pos h]

end Go.Proofs.Ytaohhijjalcbiaa
