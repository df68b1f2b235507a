/-
  Mod; and the plain mathematics of IntsBack: bytes and numbers are each other's inverse, and are ordered alike from the last byte on.
-/
import Derived.Test.YtjflkjkkamapdaaKnown
import Derived.Deep.QuietTactic
import Derived.BigQuiet
namespace Go.Proofs.Ytjflkjkkamapdaa
open Go.ChangeShapes Go.WideShapes Go.ChangeAt Go.RowKit
set_option linter.unusedVariables false

theorem neg_rem (n m : Int) (hm : 0 < m) (hn : n < 0) : n % m = if (-n) % m = 0 then 0 else m - (-n) % m := by
  have h1 := Int.emod_nonneg (-n) (show m ≠ 0 by omega)
  have h2 := Int.emod_lt_of_pos (-n) hm
  have h3 := Int.mul_ediv_add_emod (-n) m
  by_cases h : (-n) % m = 0
  · rw [if_pos h]
    refine ((Int.ediv_emod_unique (a := n) (b := m) (r := 0) (q := -((-n) / m)) hm).2 ⟨?_, by omega, by omega⟩).2
    rw [Int.mul_neg]
    omega
  · rw [if_neg h]
    refine ((Int.ediv_emod_unique (a := n) (b := m) (r := m - (-n) % m) (q := -((-n) / m) - 1) hm).2 ⟨?_, by omega, by omega⟩).2
    rw [Int.mul_sub, Int.mul_neg, Int.mul_one]
    omega

theorem mod_any (n m : Int) (h0 : -9223372036854775808 ≤ n) (h1 : n ≤ 9223372036854775807) (hm : 1 ≤ m) (hm2 : m ≤ 9223372036854775807) (w : World) :
    Calls Try.prog 33 #[.int .i64 n, .int .i64 m] w fun e w' => e = .returned (.int .i64 (n % m)) ∧ w = w' := by
  by_cases hn : 0 ≤ n
  · have hr := Int.emod_nonneg n (show m ≠ 0 by omega)
    have hr2 := Int.emod_lt_of_pos n (show 0 < m by omega)
    go_enter Try.func33, Try.ntmps33
    go_wp2
    go_ret
    exact ⟨rfl, rfl⟩
  · have hr := Int.emod_nonneg (-n) (show m ≠ 0 by omega)
    have hr2 := Int.emod_lt_of_pos (-n) (show 0 < m by omega)
    have ht : n.tmod m = -((-n) % m) := by
      rw [← Int.tmod_eq_emod_of_nonneg (show 0 ≤ -n by omega), Int.neg_tmod, Int.neg_neg]
    have he := Lib.hid (neg_rem n m (by omega) (by omega))
    generalize (-n) % m = r at hr hr2 ht he
    go_enter Try.func33, Try.ntmps33
    go_wp2
    · have hp : 0 < r := by assumption
      go_ret
      exact ⟨ret_int (by rw [he.out, if_neg (by omega)]; omega), rfl⟩
    · have hp : r ≤ 0 := by assumption
      go_ret
      exact ⟨ret_int (by rw [he.out, if_pos (by omega)]; omega), rfl⟩

theorem leB_nuB (l : List UInt8) : leB (nuB l) l.length = l := by
  have key : ∀ (l : List UInt8) (k : Nat), k < l.length → UInt8.ofNat (nuB l / 2 ^ (8 * k)) = l.getD k 0 := by
    intro l
    induction l with
    | nil => intro k hk; simp at hk
    | cons c r ih =>
      intro k hk
      have hc := c.toNat_lt
      rcases k with _ | k
      · apply UInt8.toNat.inj
        simp [nuB]
      · have e : nuB (c :: r) / 2 ^ (8 * (k + 1)) = nuB r / 2 ^ (8 * k) := by
          have e2 : 2 ^ (8 * (k + 1)) = 256 * 2 ^ (8 * k) := by rw [Nat.mul_add, Nat.pow_add, Nat.mul_comm]
          rw [e2, ← Nat.div_div_eq_div_mul]
          congr 1
          simp only [nuB]
          omega
        rw [e, ih k (by simpa using hk)]
        simp [List.getD]
  apply List.ext_getElem
  · rw [leB_length]
  · intro i h1 h2
    rw [leB_get, key l i h2]
    simp [List.getD, h2]

/-- what the comparison from the last byte on knows when the bytes from k on are compared -/
def Cmp (A B k : Nat) (o : Int) : Prop := (o = 0 → A / 2 ^ (8 * k) = B / 2 ^ (8 * k)) ∧ (o < 0 → A < B) ∧ (0 < o → B < A)

theorem cmp_top {A B k : Nat} (hA : A < 2 ^ (8 * k)) (hB : B < 2 ^ (8 * k)) : Cmp A B k 0 :=
  ⟨fun _ => by rw [Nat.div_eq_of_lt hA, Nat.div_eq_of_lt hB], fun h => by omega, fun h => by omega⟩

theorem cmp_step {A B j : Nat} (h : Cmp A B (j + 1) 0) {x y : Nat} (hx : x = A / 2 ^ (8 * j) % 256) (hy : y = B / 2 ^ (8 * j) % 256) : Cmp A B j ((x : Int) - (y : Int)) := by
  have e : 2 ^ (8 * (j + 1)) = 2 ^ (8 * j) * 256 := by rw [Nat.mul_add, Nat.pow_add]
  have h1 := h.1 rfl
  rw [e, ← Nat.div_div_eq_div_mul, ← Nat.div_div_eq_div_mul] at h1
  refine ⟨fun h0 => by omega, fun h0 => ?_, fun h0 => ?_⟩
  · rcases Nat.lt_or_ge A B with hlt | hge
    · exact hlt
    · have := Nat.div_le_div_right (c := 2 ^ (8 * j)) hge
      omega
  · rcases Nat.lt_or_ge B A with hlt | hge
    · exact hlt
    · have := Nat.div_le_div_right (c := 2 ^ (8 * j)) hge
      omega

theorem cmp_end {A B k : Nat} {o : Int} (h : Cmp A B k o) (hk : k = 0 ∨ o ≠ 0) : (o < 0 ∧ A < B) ∨ (0 < o ∧ B < A) ∨ (o = 0 ∧ k = 0 ∧ A = B) := by
  rcases Int.lt_trichotomy o 0 with h0 | h0 | h0
  · exact .inl ⟨h0, h.2.1 h0⟩
  · have hk0 : k = 0 := by omega
    subst hk0
    have := h.1 h0
    simp at this
    exact .inr (.inr ⟨h0, rfl, this⟩)
  · exact .inr (.inl ⟨h0, h.2.2 h0⟩)

end Go.Proofs.Ytjflkjkkamapdaa
