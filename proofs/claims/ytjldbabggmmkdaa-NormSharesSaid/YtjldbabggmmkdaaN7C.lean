/-
  Package norm: which counts are refused, their accuracy; the reference's, too.
-/
import Derived.Test.YtjldbabggmmkdaaN7B
import Derived.Test.YtjldbabggmmkdaaR6C
namespace Go.Proofs.Ytjldbabggmmkdaa
open Go.ChangeShapes Go.WideShapes Go.ChangeAt Go.RowKit Go.Shelf
set_option linter.unusedVariables false
set_option linter.unusedSimpArgs false

theorem sumUp_cnt : ∀ (xs : List Int) (s r : Int), (∀ x ∈ xs, 0 ≤ x) → sumUp s xs = some r → s + cnt xs ≤ r ∧ (cnt xs = 0 → r = s) ∧ ∀ x ∈ xs, x ≤ r - s
  | [], s, r, _, h => by
    simp only [sumUp, Option.some.injEq] at h
    subst h
    exact ⟨by simp [cnt], fun _ => rfl, fun x hx => absurd hx (by simp)⟩
  | y :: xs, s, r, h, hs => by
    have hy := h y (List.mem_cons_self ..)
    simp only [sumUp] at hs
    by_cases hc : y < 0 ∨ 1099511627776 - s < y
    · rw [if_pos hc] at hs; cases hs
    · rw [if_neg hc] at hs
      obtain ⟨a, b, c⟩ := sumUp_cnt xs (s + y) r (fun x hx => h x (List.mem_cons_of_mem _ hx)) hs
      have e := cnt_cons y xs
      refine ⟨?_, fun h0 => ?_, fun x hx => ?_⟩
      · rw [e]; push_cast; split <;> omega
      · rw [e] at h0
        by_cases hp : 0 < y
        · rw [if_pos hp] at h0; omega
        · have := b (by omega); omega
      · rcases List.mem_cons.1 hx with rfl | hx
        · omega
        · have := c x hx; omega
theorem tot_cnt {zs : List Int} (h : chk zs = 0) : (cnt zs : Int) ≤ totN zs ∧ (cnt zs = 0 → totN zs = 0) ∧ (∀ x ∈ zs, x ≤ totN zs) ∧ totN zs ≤ 1099511627776 := by
  obtain ⟨g1, g2, g3⟩ := good_of h
  obtain ⟨a, b, c⟩ := sumUp_cnt zs 0 _ (fun x hx => (g2 x hx).1) g3
  exact ⟨by omega, b, fun x hx => by have := c x hx; omega, (sumUp_le zs 0 _ (by omega) (by omega) g3).2⟩

/-- why counts have no distribution -/
def refE (zs : List Int) (log : Int) : Int :=
  if chk zs = 0 then (if cnt zs = 0 then 7 else if log < 5 ∨ 12 < log then 31 else if (2 : Int) ^ log.toNat < cnt zs then 2 else 0) else chk zs
theorem refE_zero {zs : List Int} {log : Int} (h : refE zs log = 0) : chk zs = 0 ∧ 0 < cnt zs ∧ 5 ≤ log ∧ log ≤ 12 ∧ (cnt zs : Int) ≤ 2 ^ log.toNat := by
  unfold refE at h
  by_cases h0 : chk zs = 0
  · rw [if_pos h0] at h
    by_cases h1 : cnt zs = 0
    · rw [if_pos h1] at h; exact absurd h (by decide)
    · rw [if_neg h1] at h
      by_cases h2 : log < 5 ∨ 12 < log
      · rw [if_pos h2] at h; exact absurd h (by decide)
      · rw [if_neg h2] at h
        by_cases h3 : (2 : Int) ^ log.toNat < cnt zs
        · rw [if_pos h3] at h; exact absurd h (by decide)
        · exact ⟨h0, by omega, by omega, by omega, by omega⟩
  · rw [if_neg h0] at h; exact absurd h h0

theorem pow_in {L : Nat} (h1 : 5 ≤ L) (h2 : L ≤ 12) : (32 : Int) ≤ 2 ^ L ∧ (2 : Int) ^ L ≤ 4096 := by
  have a : (2 : Nat) ^ L ≤ 2 ^ 12 := Nat.pow_le_pow_right (by omega) h2
  have b : (2 : Nat) ^ 5 ≤ 2 ^ L := Nat.pow_le_pow_right (by omega) h1
  have a' : ((2 ^ L : Nat) : Int) ≤ ((2 ^ 12 : Nat) : Int) := by exact_mod_cast a
  have b' : ((2 ^ 5 : Nat) : Int) ≤ ((2 ^ L : Nat) : Int) := by exact_mod_cast b
  simp at a' b'
  omega
theorem pow_wrap {L : Nat} (h1 : 5 ≤ L) (h2 : L ≤ 12) : wrap64 ((2 : Int) ^ L) = 2 ^ L := by
  have := pow_in h1 h2
  generalize (2 : Int) ^ L = S at *
  unfold wrap64; omega
theorem refuse_c {A : Option Addr} {n : Nat} {zs : List Int} (cap : Nat) (log : Int) {w : World} (h : Cts w A n zs) :
    Calls Try.prog 25 #[.slice A n cap, .int .i64 log] w fun e w' => e = .returned (.int .i64 (refE zs log)) ∧ Below w.heap.size w w' := by
  have hd := distinct_c cap h
  unfold refE
  unfold disN at hd
  by_cases h0 : chk zs = 0
  · rw [if_pos h0]
    rw [if_pos h0, h0] at hd
    clear h h0
    have hcl : (cnt zs : Int) ≤ (cnt zs : Int) := Int.le_refl _
    by_cases h1 : cnt zs = 0
    · rw [if_pos h1]
      rw [h1] at hd
      go_enter Try.func25, Try.ntmps25
      go_wp2_with (go_at_call 30; (with_reducible refine hd.mono ?_); rintro e w2 ⟨rfl, hb⟩)
      go_ret
      exact ⟨rfl, hb⟩
    · rw [if_neg h1]
      generalize cnt zs = c at *
      have hc0 : ((c : Int) == 0) = false := by simpa using h1
      by_cases h2 : log < 5 ∨ 12 < log
      · rw [if_pos h2]
        by_cases h3 : log < 5
        · clear h2
          go_enter Try.func25, Try.ntmps25
          go_wp2_with (go_at_call 30; (with_reducible refine hd.mono ?_); rintro e w2 ⟨rfl, hb⟩)
          go_ret
          exact ⟨rfl, hb⟩
        · have h4 : 12 < log := by omega
          clear h2
          go_enter Try.func25, Try.ntmps25
          go_wp2_with (go_at_call 30; (with_reducible refine hd.mono ?_); rintro e w2 ⟨rfl, hb⟩)
          go_ret
          exact ⟨rfl, hb⟩
      · rw [if_neg h2]
        obtain ⟨L, rfl⟩ : ∃ L : Nat, log = L := ⟨log.toNat, by omega⟩
        rw [Int.toNat_natCast]
        have hL1 : 5 ≤ L := by omega
        have hL2 : L ≤ 12 := by omega
        clear h2
        have hw := pow_wrap hL1 hL2
        obtain ⟨S, hS⟩ : ∃ S, (2 : Int) ^ L = S := ⟨_, rfl⟩
        rw [hS]
        rw [show (wrap64 ((2 : Int) ^ L) = 2 ^ L) = (wrap64 ((2 : Int) ^ L) = S) by rw [← hS]] at hw
        clear hS
        by_cases h3 : S < c
        · rw [if_pos h3]
          go_enter Try.func25, Try.ntmps25
          go_wp2_with (go_at_call 30; (with_reducible refine hd.mono ?_); rintro e w2 ⟨rfl, hb⟩)
          go_ret
          exact ⟨rfl, hb⟩
        · rw [if_neg h3]
          go_enter Try.func25, Try.ntmps25
          go_wp2_with (go_at_call 30; (with_reducible refine hd.mono ?_); rintro e w2 ⟨rfl, hb⟩)
          go_ret
          exact ⟨rfl, hb⟩
  · rw [if_neg h0]
    rw [if_neg h0] at hd
    have h1 : (chk zs != 0) = true := by simpa using h0
    clear h h0
    generalize chk zs = y at *
    go_enter Try.func25, Try.ntmps25
    go_wp2_with (go_at_call 30; (with_reducible refine hd.mono ?_); rintro e w2 ⟨rfl, hb⟩)
    go_ret
    exact ⟨rfl, hb⟩

theorem given_c {A : Option Addr} {n : Nat} {zs : List Int} (cap : Nat) {w : World} (h : Cts w A n zs) :
    Calls Try.prog 34 #[.slice A n cap] w fun e w' => e = .returned (.tuple #[.int .i64 (if chk zs = 0 ∧ cnt zs ≠ 0 then totN zs else 0), .int .i64 (if chk zs = 0 ∧ cnt zs ≠ 0 then cnt zs else 0), .int .i64 (if chk zs = 0 then (if cnt zs = 0 then 7 else 0) else chk zs)]) ∧ Below w.heap.size w w' := by
  have ht := rtotal_c cap h
  by_cases h0 : chk zs = 0
  · obtain ⟨t1, t2, _, _⟩ := tot_cnt h0
    rw [if_pos h0]
    rw [h0] at ht
    by_cases h1 : cnt zs = 0
    · rw [if_pos h1, if_neg (fun hx => hx.2 h1), if_neg (fun hx => hx.2 h1)]
      rw [t2 h1] at ht
      clear h
      go_enter Try.func34, Try.ntmps34
      go_wp2_with (go_at_call 52; (with_reducible refine ht.mono ?_); rintro e w2 ⟨rfl, hb⟩)
      go_ret3
      exact ⟨rfl, hb⟩
    · rw [if_neg h1, if_pos ⟨h0, h1⟩, if_pos ⟨h0, h1⟩]
      have hd : ∀ u, Below w.heap.size w u → Calls Try.prog 53 #[.slice A n cap] u fun e w' => e = .returned (.tuple #[.int .i64 (cnt zs), .int .i64 0]) ∧ Below u.heap.size u w' := fun u hu => by
        have k := rdistinct_c cap (h.below hu)
        unfold disN at k
        rw [if_pos h0, h0] at k
        exact k
      have ht1 : (totN zs == 0) = false := by
        rw [beq_eq_false_iff_ne]; omega
      clear h h0 h1 t1 t2
      generalize totN zs = t at *
      generalize (cnt zs : Int) = c at *
      go_enter Try.func34, Try.ntmps34
      go_wp2_with (first
        | (go_at_call 52; (with_reducible refine ht.mono ?_); rintro e w2 ⟨rfl, hb⟩)
        | (go_at_call 53; (with_reducible refine (hd _ hb).mono ?_); rintro e w3 ⟨rfl, hb3⟩))
      go_ret3
      exact ⟨rfl, below_call hb hb3⟩
  · rw [if_neg h0, if_neg (fun hx => h0 hx.1), if_neg (fun hx => h0 hx.1)]
    have h1 : (chk zs != 0) = true := by simpa using h0
    clear h h0
    generalize chk zs = y at *
    generalize totN zs = t at *
    go_enter Try.func34, Try.ntmps34
    go_wp2_with (go_at_call 52; (with_reducible refine ht.mono ?_); rintro e w2 ⟨rfl, hb⟩)
    go_ret3
    exact ⟨rfl, hb⟩
end Go.Proofs.Ytjldbabggmmkdaa
