/-
  Package norm: the accuracy of counts; the reference's, too.
-/
import Derived.Laws.Cover1
import Derived.Test.YtjldbabggmmkdaaN7C
namespace Go.Proofs.Ytjldbabggmmkdaa
open Go.ChangeShapes Go.WideShapes Go.ChangeAt Go.RowKit Go.Shelf
set_option linter.unusedVariables false
set_option linter.unusedSimpArgs false

theorem ret_pair {a b c : Int} (h : a = b) : Ending.returned (.tuple #[.int .i64 a, .int .i64 c]) = .returned (.tuple #[.int .i64 b, .int .i64 c]) := by rw [h]
def logB (zs : List Int) : Int := max (max 5 (nb (cnt zs : Int) : Int)) ((nb (totN zs - 1) : Int) - 1 - 2)
def logV (zs : List Int) (most : Int) : Int := if refE zs most = 0 then min (logB zs) most else 0
theorem log_c {A : Option Addr} {n : Nat} {zs : List Int} (cap : Nat) (most : Int) {w : World} (h : Cts w A n zs) :
    Calls Try.prog 16 #[.slice A n cap, .int .i64 most] w fun e w' => e = .returned (.tuple #[.int .i64 (logV zs most), .int .i64 (refE zs most)]) ∧ Below w.heap.size w w' := by
  have hr := refuse_c cap most h
  unfold logV
  by_cases h0 : refE zs most = 0
  · obtain ⟨k0, k1, k2, k3, k4⟩ := refE_zero h0
    obtain ⟨t1, t2, t3, t4⟩ := tot_cnt k0
    rw [if_pos h0]
    rw [h0] at hr ⊢
    have hd : ∀ u, Below w.heap.size w u → Calls Try.prog 30 #[.slice A n cap] u fun e w' => e = .returned (.tuple #[.int .i64 (cnt zs), .int .i64 0]) ∧ Below u.heap.size u w' := fun u hu => by
      have k := distinct_c cap (h.below hu)
      unfold disN at k
      rw [if_pos k0, k0] at k
      exact k
    have ht : ∀ u, Below w.heap.size w u → Calls Try.prog 31 #[.slice A n cap] u fun e w' => e = .returned (.tuple #[.int .i64 (totN zs), .int .i64 0]) ∧ Below u.heap.size u w' := fun u hu => by
      have k := total_c cap (h.below hu)
      rw [k0] at k
      exact k
    have hb := bits_any (cnt zs : Int) (by omega) (by omega)
    have hh := high_any (totN zs - 1) (by omega) (by omega)
    have hn1 := nb_le (show (cnt zs : Int) ≤ 9223372036854775807 by omega)
    have hn2 := nb_le (show totN zs - 1 ≤ 9223372036854775807 by omega)
    unfold logB
    generalize nb (totN zs - 1) = n2 at *
    generalize nb (cnt zs : Int) = n1 at *
    have ht1 : 1 ≤ totN zs := by omega
    clear h h0 k0 k1 k4 t1 t2 t3
    generalize totN zs = t at *
    generalize (cnt zs : Int) = c at *
    go_enter Try.func16, Try.ntmps16
    go_wp2_with (first
      | (go_at_call 25; (with_reducible refine hr.mono ?_); rintro e w2 ⟨rfl, hb1⟩)
      | (go_at_call 30; (with_reducible refine (hd _ hb1).mono ?_); rintro e w3 ⟨rfl, hb2⟩; replace hb1 := below_call hb1 hb2)
      | (go_at_call 31; (with_reducible refine (ht _ hb1).mono ?_); rintro e w4 ⟨rfl, hb3⟩; replace hb1 := below_call hb1 hb3)
      | (go_at_call 32; (with_reducible refine (hb _).mono ?_); rintro e w5 ⟨rfl, rfl⟩)
      | (go_at_call 33; (with_reducible refine (hh _).mono ?_); rintro e w6 ⟨rfl, rfl⟩))
    all_goals go_ret2
    all_goals exact ⟨ret_pair (by omega), hb1⟩
  · rw [if_neg h0]
    have h1 : (refE zs most != 0) = true := by simpa using h0
    clear h h0
    generalize refE zs most = y at *
    go_enter Try.func16, Try.ntmps16
    go_wp2_with (go_at_call 25; (with_reducible refine hr.mono ?_); rintro e w2 ⟨rfl, hb1⟩)
    go_ret2
    exact ⟨rfl, hb1⟩
theorem rLog_c {A : Option Addr} {n : Nat} {zs : List Int} (cap : Nat) (most : Int) {w : World} (h : Cts w A n zs) :
    Calls Try.prog 17 #[.slice A n cap, .int .i64 most] w fun e w' => e = .returned (.tuple #[.int .i64 (logV zs most), .int .i64 (refE zs most)]) ∧ Below w.heap.size w w' := by
  have hg := given_c cap h
  by_cases h0 : chk zs = 0 ∧ cnt zs ≠ 0
  · obtain ⟨t1, t2, t3, t4⟩ := tot_cnt h0.1
    have k1 : 0 < cnt zs := by have := h0.2; omega
    rw [if_pos h0, if_pos h0, if_pos h0.1, if_neg h0.2] at hg
    by_cases h2 : most < 5 ∨ 12 < most
    · have e1 : refE zs most = 31 := by unfold refE; rw [if_pos h0.1, if_neg h0.2, if_pos h2]
      have e2 : logV zs most = 0 := by unfold logV; rw [e1, if_neg (by decide)]
      rw [e1, e2]
      clear h h0 e1 e2 t1 t2 t3
      generalize totN zs = t at *
      generalize (cnt zs : Int) = c at *
      by_cases h3 : most < 5
      · clear h2
        go_enter Try.func17, Try.ntmps17
        go_wp2_with (go_at_call 34; (with_reducible refine hg.mono ?_); rintro e w2 ⟨rfl, hb1⟩)
        go_ret2
        exact ⟨rfl, hb1⟩
      · have h4 : 12 < most := by omega
        clear h2
        go_enter Try.func17, Try.ntmps17
        go_wp2_with (go_at_call 34; (with_reducible refine hg.mono ?_); rintro e w2 ⟨rfl, hb1⟩)
        go_ret2
        exact ⟨rfl, hb1⟩
    · obtain ⟨L, rfl⟩ : ∃ L : Nat, most = L := ⟨most.toNat, by omega⟩
      have hL1 : 5 ≤ L := by omega
      have hL2 : L ≤ 12 := by omega
      have hw := pow_wrap hL1 hL2
      have e0 : refE zs (L : Int) = if (2 : Int) ^ L < cnt zs then 2 else 0 := by unfold refE; rw [if_pos h0.1, if_neg h0.2, if_neg h2, Int.toNat_natCast]
      obtain ⟨S, hS⟩ : ∃ S, (2 : Int) ^ L = S := ⟨_, rfl⟩
      rw [hS] at e0
      rw [show (wrap64 ((2 : Int) ^ L) = 2 ^ L) = (wrap64 ((2 : Int) ^ L) = S) by rw [← hS]] at hw
      by_cases h3 : S < cnt zs
      · rw [if_pos h3] at e0
        have e2 : logV zs (L : Int) = 0 := by unfold logV; rw [e0, if_neg (by decide)]
        rw [e0, e2]
        clear h h0 e0 e2 t1 t2 t3 h2 hS
        generalize totN zs = t at *
        generalize (cnt zs : Int) = c at *
        go_enter Try.func17, Try.ntmps17
        go_wp2_with (go_at_call 34; (with_reducible refine hg.mono ?_); rintro e w2 ⟨rfl, hb1⟩)
        go_ret2
        exact ⟨rfl, hb1⟩
      · rw [if_neg h3] at e0
        have e2 : logV zs (L : Int) = min (logB zs) L := by unfold logV; rw [if_pos e0]
        rw [e0, e2]
        have hb := refBits_any (cnt zs : Int) (by omega) (by omega)
        have hh := refHigh_any (totN zs - 1) (by omega) (by omega)
        have hn1 := nb_le (show (cnt zs : Int) ≤ 9223372036854775807 by omega)
        have hn2 := nb_le (show totN zs - 1 ≤ 9223372036854775807 by omega)
        have hz : totN zs ≤ 1 → nb (totN zs - 1) = 0 := fun hx => by
          have : totN zs - 1 = 0 := by omega
          rw [this]; decide
        unfold logB
        generalize nb (totN zs - 1) = n2 at *
        generalize nb (cnt zs : Int) = n1 at *
        have ht1 : 1 ≤ totN zs := by omega
        clear h h0 e0 e2 t1 t2 t3 h2 hS k1
        generalize totN zs = t at *
        generalize (cnt zs : Int) = c at *
        by_cases h5 : 1 < t
        · clear hz
          go_enter Try.func17, Try.ntmps17
          go_wp2_with (first
            | (go_at_call 34; (with_reducible refine hg.mono ?_); rintro e w2 ⟨rfl, hb1⟩)
            | (go_at_call 35; (with_reducible refine (hb _).mono ?_); rintro e w5 ⟨rfl, rfl⟩)
            | (go_at_call 36; (with_reducible refine (hh _).mono ?_); rintro e w6 ⟨rfl, rfl⟩))
          all_goals go_ret2
          all_goals exact ⟨ret_pair (by omega), hb1⟩
        · obtain rfl : n2 = 0 := hz (by omega)
          go_enter Try.func17, Try.ntmps17
          go_wp2_with (first
            | (go_at_call 34; (with_reducible refine hg.mono ?_); rintro e w2 ⟨rfl, hb1⟩)
            | (go_at_call 35; (with_reducible refine (hb _).mono ?_); rintro e w5 ⟨rfl, rfl⟩))
          all_goals go_ret2
          all_goals exact ⟨ret_pair (by omega), hb1⟩
  · rw [if_neg h0, if_neg h0] at hg
    obtain ⟨y, hy, hy0, e1⟩ : ∃ y, (if chk zs = 0 then (if cnt zs = 0 then (7 : Int) else 0) else chk zs) = y ∧ y ≠ 0 ∧ refE zs most = y := by
      by_cases h1 : chk zs = 0
      · have h2 : cnt zs = 0 := Classical.byContradiction fun hx => h0 ⟨h1, hx⟩
        refine ⟨7, by rw [if_pos h1, if_pos h2], by decide, by unfold refE; rw [if_pos h1, if_pos h2]⟩
      · exact ⟨chk zs, by rw [if_neg h1], h1, by unfold refE; rw [if_neg h1]⟩
    have e2 : logV zs most = 0 := by unfold logV; rw [e1, if_neg hy0]
    rw [hy] at hg
    rw [e1, e2]
    have h1 : (y != 0) = true := by simpa using hy0
    clear h h0 hy e1 e2 hy0
    go_enter Try.func17, Try.ntmps17
    go_wp2_with (go_at_call 34; (with_reducible refine hg.mono ?_); rintro e w2 ⟨rfl, hb1⟩)
    go_ret2
    exact ⟨rfl, hb1⟩
end Go.Proofs.Ytjldbabggmmkdaa
