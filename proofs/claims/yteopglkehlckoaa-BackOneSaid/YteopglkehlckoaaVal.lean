/-
  Words of BackTurns and BackOne: the numbers made of numbers, a list of them, bytes 0.
-/
import Derived.Test.YteopglkehlckoaaStr
import Derived.Test.YteopglkehlckoaaModK
import Derived.Test.YteopglkehlckoaaKnown
import Derived.Test.YteopglkehlckoaaFill
namespace Go.Proofs.Yteopglkehlckoaa
open Go.ChangeShapes Go.WideShapes Go.ChangeAt Go.RowKit
set_option linter.unusedVariables false

/-- the number of szN x bits that is made of a number; all of a list -/
def vmN (x : Int) (n : Nat) : Nat := (x % 1099511627776 % (2 : Int) ^ n).toNat
def valM : List Int → Nat
  | [] => 0
  | x :: r => vmN x (szN x) + 2 ^ szN x * valM r
theorem vmN_cast (x : Int) (n : Nat) : (vmN x n : Int) = x % 1099511627776 % (2 : Int) ^ n := by
  unfold vmN
  have h : (2 : Int) ^ n ≠ 0 := by
    rw [← pow_cast]
    have := Nat.two_pow_pos n
    omega
  have := Int.emod_nonneg (x % 1099511627776) h
  omega
theorem vmN_lt (x : Int) (n : Nat) : vmN x n < 2 ^ n := by
  have h := vmN_cast x n
  have hp := pow_cast n
  have h2 := Nat.two_pow_pos n
  have h3 := Int.emod_lt_of_pos (x % 1099511627776) (show 0 < (2 : Int) ^ n by omega)
  omega
theorem valM_append (a b : List Int) : valM (a ++ b) = valM a + valM b * 2 ^ totL a := by
  induction a with
  | nil => simp [totL, valM]
  | cons x r ih =>
    simp only [List.cons_append, totL, valM]
    rw [ih, Nat.mul_add, Nat.pow_add, Nat.add_assoc]
    congr 2
    rw [Nat.mul_left_comm]
theorem valM_lt (l : List Int) : valM l < 2 ^ totL l := by
  induction l with
  | nil => simp [totL, valM]
  | cons x r ih =>
    simp only [totL, valM]
    have h := vmN_lt x (szN x)
    have h2 : 2 ^ szN x * (valM r + 1) ≤ 2 ^ szN x * 2 ^ totL r := Nat.mul_le_mul_left _ ih
    rw [Nat.mul_add, Nat.mul_one] at h2
    rw [Nat.pow_add]
    omega
theorem valM_take (l : List Int) (k : Nat) (h : k < l.length) : valM (l.take (k + 1)) = valM (l.take k) + vmN l[k] (szN l[k]) * 2 ^ totL (l.take k) := by
  rw [List.take_succ_eq_append_getElem h, valM_append]
  simp [valM]
theorem valM_read (l : List Int) (k : Nat) (h : k < l.length) : valM l / 2 ^ totL (l.take k) % 2 ^ szN l[k] = vmN l[k] (szN l[k]) := by
  have e : l = l.take k ++ l[k] :: l.drop (k + 1) := by
    rw [← List.drop_eq_getElem_cons h, List.take_append_drop]
  have hv : valM l = valM (l.take k) + (vmN l[k] (szN l[k]) + 2 ^ szN l[k] * valM (l.drop (k + 1))) * 2 ^ totL (l.take k) := by
    have h2 := valM_append (l.take k) (l[k] :: l.drop (k + 1))
    rw [← e] at h2
    exact h2
  rw [hv, Nat.add_mul_div_right _ _ (Nat.two_pow_pos _), Nat.div_eq_of_lt (valM_lt _), Nat.zero_add, Nat.add_mul_mod_self_left]
  exact Nat.mod_eq_of_lt (vmN_lt _ _)

theorem width_any (x : Int) (h0 : -9223372036854775808 ≤ x) (h1 : x ≤ 9223372036854775807) (w : World) : Calls Try.prog 32 #[.int .i64 x] w fun e w' => e = .returned (.int .i64 (szN x : Nat)) ∧ w = w' := by
  have hM := fun u => mod_any x 33 h0 h1 (by omega) (by omega) u
  have e : x % 33 = (szN x : Nat) := by unfold szN; omega
  rw [e] at hM
  clear e
  generalize szN x = n at *
  go_enter Try.func32, Try.ntmps32
  go_wp2_with (go_at_call 34; (with_reducible refine (hM _).mono ?_); rintro e w1 ⟨rfl, rfl⟩)
  go_ret
  exact ⟨rfl, rfl⟩
theorem value_walk (x q p r : Int) (n : Nat) (hn : n ≤ 32) (hp : (2 : Int) ^ n = p) (hp0 : 1 ≤ p) (hp1 : p ≤ 4294967296) (hr : q % p = r) (w : World) (hq0 : 0 ≤ q) (hq1 : q ≤ 1099511627776)
    (hM : ∀ u, Calls Try.prog 34 #[.int .i64 x, .int .i64 1099511627776] u fun e w' => e = .returned (.int .i64 q) ∧ u = w') :
    Calls Try.prog 33 #[.int .i64 x, .int .i64 (n : Int)] w fun e w' => e = .returned (.int .u64 r) ∧ w = w' := by
  subst hr
  go_enter Try.func33, Try.ntmps33
  go_wp2_with (go_at_call 34; (with_reducible refine (hM _).mono ?_); rintro e w1 ⟨rfl, rfl⟩)
  go_ret
  exact ⟨rfl, rfl⟩
theorem value_any (x : Int) (n : Nat) (hn : n ≤ 32) (h0 : -9223372036854775808 ≤ x) (h1 : x ≤ 9223372036854775807) (w : World) : Calls Try.prog 33 #[.int .i64 x, .int .i64 (n : Int)] w fun e w' => e = .returned (.int .u64 (vmN x n : Nat)) ∧ w = w' := by
  have b2 : 2 ^ n ≤ 2 ^ 32 := Nat.pow_le_pow_right (by omega) hn
  have b1 := Nat.two_pow_pos n
  have hc := pow_cast n
  exact value_walk x _ _ _ n hn rfl (by omega) (by omega) (vmN_cast x n).symm w (by omega) (by omega) (fun u => mod_any x _ h0 h1 (by omega) (by omega) u)

theorem fillB_nil (k i : Nat) : fillB 0 k i = fillB 0 k 0 := by
  unfold fillB
  congr 1
  apply List.map_congr_left
  intro j hj
  simp
theorem zeros_string (z : Nat) (u : World) : (convert 53 9 (.slice (some ⟨u.heap.size, 0, none⟩) z z)).run Try.prog (u.alloc (.cells (madeCells #[.int .u8 0] z) 5)) = .ok (.string ⟨(leB 0 z).toArray⟩) (u.alloc (.cells (madeCells #[.int .u8 0] z) 5)) := by
  rw [fillB_zero 0 z, ← fillB_nil z z]
  exact fill_string _ _ 0 z (blk_new u 5 (fillB 0 z z))

/-- a list of numbers that came in -/
def RowAt (w : World) (B : Nat) (A : Option Addr) (xs : List Int) : Prop :=
  0 < xs.length → ∃ b off, A = some ⟨b, off, none⟩ ∧ b < B ∧ ∀ k, k < xs.length → w.cell? ⟨b, off + k, none⟩ = some (.int .i64 (xs.getD k 0))

theorem ws0 : (⟨#[]⟩ : ByteArray) = WrS 0 0 := rfl
theorem wp0 : (0 : Int) = (WrP 0 0 : Nat) := by simp [WrP]
theorem kc {w : World} {g b o : Nat} {t : TypeId} {s : ByteArray} {p q : Int} {x : Value} (h : Blk w g t (at3 s p q)) (hc : w.cell? ⟨b, o, none⟩ = some x) :
    w.cell? ⟨g, 0, none⟩ = some (.string s) ∧ w.cell? ⟨g, 1, none⟩ = some (.int .i64 p) ∧ w.cell? ⟨g, 2, none⟩ = some (.int .i64 q) ∧ w.cell? ⟨b, o, none⟩ = some x :=
  ⟨blk_cell h 0, blk_cell h 1, blk_cell h 2, hc⟩
theorem cell_alloc {w : World} {b o : Nat} {x : Value} (h : w.cell? ⟨b, o, none⟩ = some x) (ob : Obj) : (w.alloc ob).cell? ⟨b, o, none⟩ = some x := by
  rw [World.cell?_of_block (w := w) (Below.heap_alloc w ob b (World.block_lt_of_cell? w _ h))]
  exact h
theorem cell_drew {w : World} {b o : Nat} {x : Value} (h : w.cell? ⟨b, o, none⟩ = some x) : w.drew.cell? ⟨b, o, none⟩ = some x := h
theorem cell3_far {w : World} {b o h : Nat} {y : Value} (hc : w.cell? ⟨b, o, none⟩ = some y) (hne : b ≠ h) (x1 x2 x3 : Value) : (((w.setCell ⟨h, 0, none⟩ x1).setCell ⟨h, 1, none⟩ x2).setCell ⟨h, 2, none⟩ x3).cell? ⟨b, o, none⟩ = some y := by
  rw [World.cell?_of_block (w := w) (by rw [Below.heap_setCell _ _ _ _ hne, Below.heap_setCell _ _ _ _ hne, Below.heap_setCell _ _ _ _ hne])]
  exact hc
theorem cell_next {u w' : World} {b o : Nat} {x : Value} (h : u.cell? ⟨b, o, none⟩ = some x) (hb : Below u.heap.size u w') : w'.cell? ⟨b, o, none⟩ = some x :=
  (hb.cell (p := ⟨b, o, none⟩) (World.block_lt_of_cell? u _ h)).trans h
end Go.Proofs.Yteopglkehlckoaa
