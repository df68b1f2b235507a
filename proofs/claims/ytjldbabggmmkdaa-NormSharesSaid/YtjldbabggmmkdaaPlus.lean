/-
  What the project's own sums do: the exact sum while it is from 0 to the greatest count, otherwise 0 and the range error; lists of numbers in memory.
-/
import Derived.Test.YtjldbabggmmkdaaProg
import Derived.Test.YtjldbabggmmkdaaNum
import Derived.WalkKit
import Derived.ProofKit
import Derived.OpenShut
import Derived.Lib.Hide
namespace Go.Proofs.Ytjldbabggmmkdaa
open Go.ChangeShapes Go.WideShapes Go.ChangeAt Go.RowKit

/-- the numbers of a list added to s, nothing if a number or a sum is out of bounds -/
def sumUp : Int → List Int → Option Int
  | s, [] => some s
  | s, n :: r => if n < 0 ∨ 1099511627776 - s < n then none else sumUp (s + n) r

/-- a number, or the range error -/
def resOf : Option Int → Value
  | some s => .tuple #[.int .i64 s, .int .i64 0]
  | none => .tuple #[.int .i64 0, .int .i64 2]

/-- the cells of a list of ints, below block B -/
def IntsAt (w : World) (B : Nat) (A : Option Addr) (xs : List Int) : Prop :=
  0 < xs.length → ∃ b off, A = some ⟨b, off, none⟩ ∧ b < B ∧ ∀ k, k < xs.length → w.cell? ⟨b, off + k, none⟩ = some (.int .i64 (xs.getD k 0))

theorem IntsAt.below {w w' : World} {B : Nat} {A : Option Addr} {xs : List Int} (h : IntsAt w B A xs) (hb : Below B w w') : IntsAt w' B A xs := fun h0 => by
  obtain ⟨b, off, hA, hlt, hc⟩ := h h0
  exact ⟨b, off, hA, hlt, fun k hk => (hb.cell (p := ⟨b, off + k, none⟩) hlt).trans (hc k hk)⟩
theorem IntsAt.more {w : World} {B B' : Nat} {A : Option Addr} {xs : List Int} (h : IntsAt w B A xs) (hb : B ≤ B') : IntsAt w B' A xs := fun h0 => by
  obtain ⟨b, off, hA, hlt, hc⟩ := h h0
  exact ⟨b, off, hA, by omega, hc⟩

theorem drop_getD (xs : List Int) (k : Nat) (h : k < xs.length) : xs.drop k = xs.getD k 0 :: xs.drop (k + 1) := by
  rw [List.drop_eq_getElem_cons h]
  simp [List.getD, h]

theorem total_some (b off cap : Nat) (xs : List Int) (w : World) (hn : xs.length ≤ 9223372036854775807)
    (hc : ∀ k, k < xs.length → w.cell? ⟨b, off + k, none⟩ = some (.int .i64 (xs.getD k 0))) :
    Calls Try.prog 63 #[.slice (some ⟨b, off, none⟩) xs.length cap] w fun e w' => e = .returned (resOf (sumUp 0 xs)) ∧ w = w' := by
  have HC := Lib.hid hc
  clear hc
  go_enter Try.func63, Try.ntmps63
  go_wp2
  go_loop [4, 6, 9] (fun s _ i => ∃ (k : Nat) (t : Int), k ≤ xs.length ∧ 0 ≤ t ∧ t ≤ 1099511627776 ∧ Hid (sumUp 0 xs = sumUp t (xs.drop k)) ∧ s = .int .i64 t ∧ i = .int .i64 (k : Int)) (fun _ _ i => xs.length - (intOf i).toNat)
  case atStart => exact ⟨0, 0, by omega, by omega, by omega, rfl, rfl, rfl⟩
  case round =>
    obtain ⟨k, t, hk, ht0, ht1, hs, rfl, rfl⟩ := hrel
    by_cases hlt : k < xs.length
    · have hcell := HC.out k hlt
      generalize hx : xs.getD k 0 = x at hcell
      have hd : sumUp 0 xs = if x < 0 ∨ 1099511627776 - t < x then none else sumUp (t + x) (xs.drop (k + 1)) := by
        rw [hs.out, drop_getD xs k hlt, hx]; rfl
      have HD := Lib.hid hd
      have HX := Lib.hid hx
      clear hd hx
      by_cases h1 : x < 0
      · go_wp2
        go_ret2
        exact ⟨by rw [HD.out, if_pos (.inl h1)]; rfl, rfl⟩
      · by_cases h2 : 1099511627776 - t < x
        · go_wp2
          go_ret2
          exact ⟨by rw [HD.out, if_pos (.inr h2)]; rfl, rfl⟩
        · go_wp2
          go_round
          case rel => exact ⟨k + 1, t + x, by omega, by omega, by omega, by show _ = _; rw [HD.out, if_neg (by omega)], rfl, by go_num⟩
          case measure => simp [intOf]; omega
    · obtain rfl : k = xs.length := by omega
      go_wp2
      go_ret2
      exact ⟨by rw [hs.out]; simp [sumUp, resOf], rfl⟩

theorem total_empty (A : Option Addr) (cap : Nat) (w : World) :
    Calls Try.prog 63 #[.slice A 0 cap] w fun e w' => e = .returned (resOf (sumUp 0 [])) ∧ w = w' := by
  go_enter Try.func63, Try.ntmps63
  go_wp2
  go_loop [4, 6, 9] (fun s _ i => s = .int .i64 0 ∧ i = .int .i64 0) (fun _ _ i => 0)
  case atStart => exact ⟨rfl, rfl⟩
  case round =>
    obtain ⟨rfl, rfl⟩ := hrel
    go_wp2
    go_ret2
    exact ⟨rfl, rfl⟩

theorem total_any (A : Option Addr) (n cap B : Nat) (xs : List Int) (w : World) (hl : xs.length = n) (hn : n ≤ 9223372036854775807) (h : IntsAt w B A xs) :
    Calls Try.prog 63 #[.slice A n cap] w fun e w' => e = .returned (resOf (sumUp 0 xs)) ∧ w = w' := by
  subst hl
  by_cases h0 : xs = []
  · subst h0
    exact total_empty A cap w
  · obtain ⟨b, off, rfl, _, hc⟩ := h (by have := List.length_pos_iff.2 h0; omega)
    exact total_some b off cap xs w hn hc

def addR (a b : Int) : Option Int := if 0 ≤ a ∧ a ≤ 1099511627776 ∧ 0 ≤ b ∧ b ≤ 1099511627776 ∧ a + b ≤ 1099511627776 then some (a + b) else none

theorem addR_sum (a b : Int) : sumUp 0 [a, b] = addR a b := by
  unfold addR
  simp only [sumUp]
  by_cases h1 : a < 0 ∨ 1099511627776 - 0 < a
  · rw [if_pos h1, if_neg (by omega)]
  · rw [if_neg h1]
    by_cases h2 : b < 0 ∨ 1099511627776 - (0 + a) < b
    · rw [if_pos h2, if_neg (by omega)]
    · rw [if_neg h2, if_pos (by omega)]
      congr 1; omega

theorem resOf_form (o : Option Int) : ∃ a b : Int, resOf o = .tuple #[.int .i64 a, .int .i64 b] := by
  cases o with
  | none => exact ⟨0, 2, rfl⟩
  | some s => exact ⟨s, 0, rfl⟩

theorem pair_at (w : World) (a b : Int) (T : TypeId) : IntsAt (w.alloc (.cells #[.int .i64 a, .int .i64 b] T)) (w.heap.size + 1) (some ⟨w.heap.size, 0, none⟩) [a, b] := fun _ =>
  ⟨w.heap.size, 0, rfl, by omega, fun k hk => by
    have hk2 : k < 2 := hk
    rcases k with _ | _ | k
    · simp [go_sem]
    · simp [go_sem]
    · omega⟩

theorem plus_any (a b : Int) (w : World) :
    Calls Try.prog 60 #[.int .i64 a, .int .i64 b] w fun e w' => e = .returned (resOf (addR a b)) ∧ Below w.heap.size w w' := by
  obtain ⟨p, q, hr⟩ := resOf_form (addR a b)
  have ht := fun T : TypeId => total_any (some ⟨w.heap.size, 0, none⟩) 2 2 _ [a, b] _ rfl (by omega) (pair_at w a b T)
  rw [addR_sum, hr] at ht
  rw [hr]
  clear hr
  go_enter Try.func60, Try.ntmps60
  go_wp2_with (go_at_call 63; refine (ht 3).mono ?_; rintro e w' ⟨rfl, rfl⟩)
  go_ret2
  exact ⟨rfl, (Below.refl _ _).alloc (Nat.le_refl _) _⟩

theorem addR_bad {a b : Int} (h : ¬ (0 ≤ a ∧ a ≤ 1099511627776 ∧ 0 ≤ b ∧ b ≤ 1099511627776 ∧ a + b ≤ 1099511627776)) : addR a b = none := by unfold addR; rw [if_neg h]
theorem addR_ok {a b : Int} (h : 0 ≤ a ∧ a ≤ 1099511627776 ∧ 0 ≤ b ∧ b ≤ 1099511627776 ∧ a + b ≤ 1099511627776) : addR a b = some (a + b) := by unfold addR; rw [if_pos h]

end Go.Proofs.Ytjldbabggmmkdaa
