/-
  Total, Check and Distinct of counts.
-/
import Derived.Test.YtjldbabggmmkdaaO6A
namespace Go.Proofs.Ytjldbabggmmkdaa
open Go.ChangeShapes Go.WideShapes Go.ChangeAt Go.RowKit
set_option linter.unusedVariables false

/-- a list of numbers in memory -/
def Cts (w : World) (A : Option Addr) (n : Nat) (zs : List Int) : Prop := zs.length = n ∧ n ≤ 9223372036854775807 ∧ IntsAt w w.heap.size A zs
theorem Cts.below {w w' : World} {A : Option Addr} {n : Nat} {zs : List Int} (h : Cts w A n zs) (hb : Below w.heap.size w w') : Cts w' A n zs := ⟨h.1, h.2.1, (h.2.2.below hb).more hb.size⟩

def chk (zs : List Int) : Int := if 256 < zs.length then 6 else if (sumUp 0 zs).isSome then 0 else 2
def totN (zs : List Int) : Int := if 256 < zs.length then 0 else (sumUp 0 zs).getD 0
def cnt (zs : List Int) : Nat := (zs.filter (fun z => decide (0 < z))).length
def disN (zs : List Int) : Int := if chk zs = 0 then (cnt zs : Int) else 0

theorem map_idf (zs : List Int) : zs.map idf = zs := by
  induction zs with
  | nil => rfl
  | cons z zs ih => rw [List.map_cons, ih]; rfl
theorem resOf_chk {zs : List Int} (h : ¬ 256 < zs.length) : resOf (sumUp 0 zs) = .tuple #[.int .i64 (totN zs), .int .i64 (chk zs)] := by
  unfold totN chk
  rw [if_neg h, if_neg h]
  cases sumUp 0 zs with
  | none => rfl
  | some s => rfl

theorem sumUp_all : ∀ (xs : List Int) (s r : Int), 0 ≤ s → sumUp s xs = some r → ∀ x ∈ xs, 0 ≤ x ∧ x ≤ 1099511627776
  | [], s, r, h0, h, x, hx => by cases hx
  | y :: xs, s, r, h0, h, x, hx => by
    simp only [sumUp] at h
    by_cases hy : y < 0 ∨ 1099511627776 - s < y
    · rw [if_pos hy] at h; cases h
    · rw [if_neg hy] at h
      rcases List.mem_cons.1 hx with rfl | hx
      · omega
      · exact sumUp_all xs _ r (by omega) h x hx

theorem good_of {zs : List Int} (h : chk zs = 0) : zs.length ≤ 256 ∧ (∀ z ∈ zs, 0 ≤ z ∧ z ≤ 1099511627776) ∧ sumUp 0 zs = some (totN zs) := by
  unfold chk at h
  unfold totN
  by_cases h1 : 256 < zs.length
  · rw [if_pos h1] at h; cases h
  · rw [if_neg h1] at h
    rw [if_neg h1]
    cases hs : sumUp 0 zs with
    | none => rw [hs] at h; cases h
    | some r => exact ⟨by omega, sumUp_all zs 0 r (Int.le_refl _) hs, rfl⟩

theorem cnt_le (zs : List Int) : cnt zs ≤ zs.length := List.length_filter_le _ _
theorem cnt_cons (z : Int) (zs : List Int) : cnt (z :: zs) = (if 0 < z then 1 else 0) + cnt zs := by
  unfold cnt
  by_cases h : 0 < z
  · rw [List.filter_cons_of_pos (by simpa using h), if_pos h, List.length_cons]; omega
  · rw [List.filter_cons_of_neg (by simpa using h), if_neg h]; omega
theorem sum_ones : ∀ (xs : List Int) (s : Int), 0 ≤ s → (∀ x ∈ xs, 0 ≤ x) → s + xs.length ≤ 1099511627776 → sumUp s (xs.map one1) = some (s + cnt xs)
  | [], s, h0, h, hl => by simp [sumUp, cnt]
  | y :: xs, s, h0, h, hl => by
    have hy : 0 ≤ y := h y (List.mem_cons_self ..)
    have hl' : s + ((xs.length : Int) + 1) ≤ 1099511627776 := by rw [List.length_cons] at hl; push_cast at hl; exact hl
    have h1 : one1 y = if 0 < y then 1 else 0 := by unfold one1; split <;> split <;> omega
    simp only [List.map_cons, sumUp]
    rw [h1, cnt_cons]
    by_cases hp : 0 < y
    · rw [if_pos hp, if_neg (by omega), if_pos hp, sum_ones xs (s + 1) (by omega) (fun x hx => h x (List.mem_cons_of_mem _ hx)) (by omega)]
      congr 1; push_cast; omega
    · rw [if_neg hp, if_neg (by omega), if_neg hp, sum_ones xs (s + 0) (by omega) (fun x hx => h x (List.mem_cons_of_mem _ hx)) (by omega)]
      congr 1; push_cast; omega

theorem total_c {A : Option Addr} {n : Nat} {zs : List Int} (cap : Nat) {w : World} (h : Cts w A n zs) :
    Calls Try.prog 31 #[.slice A n cap] w fun r w' => r = .returned (.tuple #[.int .i64 (totN zs), .int .i64 (chk zs)]) ∧ Below w.heap.size w w' := by
  obtain ⟨hl, hn, hI⟩ := h
  by_cases hlen : 256 < n
  · have e1 : totN zs = 0 := by unfold totN; rw [if_pos (by omega)]
    have e2 : chk zs = 6 := by unfold chk; rw [if_pos (by omega)]
    rw [e1, e2]
    have hd : decide ((256 : Int) < (n : Int)) = true := decide_eq_true (by omega)
    go_enter Try.func31, Try.ntmps31
    go_wp2_with fail
    go_ret2
    exact ⟨rfl, Below.refl _ _⟩
  · have hs := sum_37 A n cap w.heap.size zs w hl hn (Nat.le_refl _) hI
    rw [map_idf, resOf_chk (by omega)] at hs
    have hd : decide ((256 : Int) < (n : Int)) = false := decide_eq_false (by omega)
    clear hl hI
    generalize totN zs = x at *
    generalize chk zs = y at *
    go_enter Try.func31, Try.ntmps31
    go_wp2_with (go_at_call 49; (with_reducible refine hs.mono ?_); rintro r w1 ⟨rfl, hb1⟩)
    go_ret2
    exact ⟨rfl, hb1⟩

theorem check_c {A : Option Addr} {n : Nat} {zs : List Int} (cap : Nat) {w : World} (h : Cts w A n zs) :
    Calls Try.prog 48 #[.slice A n cap] w fun r w' => r = .returned (.int .i64 (chk zs)) ∧ Below w.heap.size w w' := by
  have ht := total_c cap h
  clear h
  generalize totN zs = x at *
  generalize chk zs = y at *
  go_enter Try.func48, Try.ntmps48
  go_wp2_with (go_at_call 31; (with_reducible refine ht.mono ?_); rintro r w1 ⟨rfl, hb1⟩)
  go_ret
  exact ⟨rfl, hb1⟩

theorem distinct_c {A : Option Addr} {n : Nat} {zs : List Int} (cap : Nat) {w : World} (h : Cts w A n zs) :
    Calls Try.prog 30 #[.slice A n cap] w fun r w' => r = .returned (.tuple #[.int .i64 (disN zs), .int .i64 (chk zs)]) ∧ Below w.heap.size w w' := by
  have hc := check_c cap h
  unfold disN
  by_cases h0 : chk zs = 0
  · obtain ⟨g1, g2, g3⟩ := good_of h0
    rw [if_pos h0]
    rw [h0] at hc ⊢
    have hs : ∀ w1, Below w.heap.size w w1 → Calls Try.prog 49 #[.slice A n cap, .func (.func 50) #[] #[]] w1 fun r w' => r = .returned (.tuple #[.int .i64 (cnt zs : Int), .int .i64 0]) ∧ Below w1.heap.size w1 w' := fun w1 hb => by
      have k := h.below hb
      have hs := sum_38 A n cap w1.heap.size zs w1 k.1 k.2.1 (Nat.le_refl _) k.2.2
      rw [sum_ones zs 0 (Int.le_refl _) (fun x hx => (g2 x hx).1) (by omega), Int.zero_add] at hs
      exact hs
    clear h g1 g2 g3 h0
    generalize (cnt zs : Int) = x at *
    go_enter Try.func30, Try.ntmps30
    go_wp2_with (first
      | (go_at_call 48; (with_reducible refine hc.mono ?_); rintro r w1 ⟨rfl, hb1⟩)
      | (go_at_call 49; (with_reducible refine (hs _ hb1).mono ?_); rintro r w2 ⟨rfl, hb2⟩))
    go_ret2
    exact ⟨rfl, below_call hb1 hb2⟩
  · rw [if_neg h0]
    have h1 : (chk zs != 0) = true := by simpa using h0
    clear h
    generalize chk zs = y at *
    go_enter Try.func30, Try.ntmps30
    go_wp2_with (go_at_call 48; (with_reducible refine hc.mono ?_); rintro r w1 ⟨rfl, hb1⟩)
    go_ret2
    exact ⟨rfl, hb1⟩
end Go.Proofs.Ytjldbabggmmkdaa
