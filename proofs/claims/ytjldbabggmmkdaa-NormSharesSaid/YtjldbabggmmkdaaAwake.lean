/-
  The chapter's examples: awake.
-/
import Derived.Test.YtjldbabggmmkdaaR7A
namespace Go.Proofs.Ytjldbabggmmkdaa
open Go.ChangeShapes Go.WideShapes Go.ChangeAt Go.RowKit Go.Shelf
set_option linter.unusedVariables false
set_option linter.unusedSimpArgs false

theorem nextI {w w' : World} {A : Option Addr} {xs : List Int} (h : IntsAt w w.heap.size A xs) (hb : Below w.heap.size w w') : IntsAt w' w'.heap.size A xs := (h.below hb).more hb.size
theorem cts_tab (w : World) (xs : List Int) (hn : xs.length ≤ 9223372036854775807) : Cts (w.alloc (.cells (tab xs) 3)) (some ⟨w.heap.size, 0, none⟩) xs.length xs :=
  ⟨rfl, hn, fun _ => ⟨w.heap.size, 0, rfl, by simp, fun k hk => by rw [Nat.zero_add]; exact tab_cell (blk_new w 3 (tab xs)) hk⟩⟩
theorem same_n (A A' : Option Addr) (c c' n : Nat) (xs : List Int) (hl : xs.length = n) (w : World) (hn : n ≤ 9223372036854775807) (h : IntsAt w w.heap.size A xs) (h' : IntsAt w w.heap.size A' xs) :
    Calls Try.prog 11 #[.slice A n c, .slice A' n c'] w fun e w' => e = .returned (.bool true) ∧ Below w.heap.size w w' := by
  subst hl
  exact same_any A A' c c' _ _ xs w hn h h'

theorem gives_true {A A' : Option Addr} {n m : Nat} {zs out : List Int} (cap cap' : Nat) (most lg : Int) {w : World} (h : Cts w A n zs) (he : ofE zs most = 0) (hg : ofG zs most = lg) (hl : ofL zs most = out) (hm : out.length = m) (hm2 : m ≤ 1000000) (hp : IntsAt w w.heap.size A' out) :
    Calls Try.prog 29 #[.slice A n cap, .int .i64 most, .int .i64 lg, .slice A' m cap'] w fun e w' => e = .returned (.bool true) ∧ Below w.heap.size w w' := by
  have ho := of_c cap most h
  rw [he, hg, hl] at ho
  unfold DistP at ho
  rw [hm] at ho
  clear h he hg hl
  go_enter Try.func29, Try.ntmps29
  go_wp2_with (first
    | (go_at_call 12; (with_reducible refine Calls.mono ho ?_); rintro e w1 ⟨B, cB, rfl, hI, hb, _⟩; have hI2 := nextI hI (below_box (Below.refl w1.heap.size w1) (.cells #[.int .i64 lg, .slice B m cB] 25)); have hp2 := nextI hp (below_box hb (.cells #[.int .i64 lg, .slice B m cB] 25)); replace hb := below_box hb (.cells #[.int .i64 lg, .slice B m cB] 25))
    | (go_at_call 11; (with_reducible refine Calls.mono (same_n B A' cB cap' m out hm _ (by omega) hI2 hp2) ?_); rintro e w2 ⟨rfl, hb2⟩; replace hb := below_call hb hb2))
  go_ret
  exact ⟨rfl, hb⟩
theorem gives_a (w : World) : Calls Try.prog 29 #[.slice (some ⟨w.heap.size, 0, none⟩) 2 2, .int .i64 6, .int .i64 5, .slice (some ⟨w.heap.size + 1, 0, none⟩) 2 2] ((w.alloc (.cells #[.int .i64 3, .int .i64 1] 3)).alloc (.cells #[.int .i64 24, .int .i64 8] 3)) fun e w' => e = .returned (.bool true) ∧ Below w.heap.size w w' := by
  have h1 := (cts_tab w [3, 1] (by decide)).below (below_box (Below.refl _ _) (.cells (tab [24, 8]) 3))
  have h2 := cts_tab (w.alloc (.cells (tab [3, 1]) 3)) [24, 8] (by decide)
  rw [World.size_alloc] at h2
  have k := gives_true 2 2 6 5 h1 (out := [24, 8]) (m := 2) (by kernel_rfl) (by kernel_rfl) (by kernel_rfl) rfl (by omega) h2.2.2
  refine Calls.mono k ?_
  rintro e w' ⟨rfl, hb⟩
  exact ⟨rfl, below_call (below_box (below_box (Below.refl _ _) _) _) hb⟩

theorem gives_b (w : World) : Calls Try.prog 29 #[.slice (some ⟨w.heap.size, 0, none⟩) 4 4, .int .i64 6, .int .i64 5, .slice (some ⟨w.heap.size + 1, 0, none⟩) 4 4] ((w.alloc (.cells #[.int .i64 1, .int .i64 0, .int .i64 1, .int .i64 1] 3)).alloc (.cells #[.int .i64 12, .int .i64 0, .int .i64 10, .int .i64 10] 3)) fun e w' => e = .returned (.bool true) ∧ Below w.heap.size w w' := by
  have h1 := (cts_tab w [1, 0, 1, 1] (by decide)).below (below_box (Below.refl _ _) (.cells (tab [12, 0, 10, 10]) 3))
  have h2 := cts_tab (w.alloc (.cells (tab [1, 0, 1, 1]) 3)) [12, 0, 10, 10] (by decide)
  rw [World.size_alloc] at h2
  have k := gives_true 4 4 6 5 h1 (out := [12, 0, 10, 10]) (m := 4) (by kernel_rfl) (by kernel_rfl) (by kernel_rfl) rfl (by omega) h2.2.2
  refine Calls.mono k ?_
  rintro e w' ⟨rfl, hb⟩
  exact ⟨rfl, below_call (below_box (below_box (Below.refl _ _) _) _) hb⟩
theorem awake_any (w : World) : Calls Try.prog 14 #[] w fun e w' => e = .returned (.bool true) ∧ Below w.heap.size w w' := by
  have HB : Below w.heap.size w w := Below.refl _ _
  go_enter Try.func14, Try.ntmps14
  go_wp2_with (go_at_call 29; first
    | (have HBY := HBX; clear HBX HBY; with_reducible refine Calls.mono (gives_b _) ?_; rintro e w2 ⟨rfl, hb⟩; replace HB := below_call HB hb; clear hb)
    | (with_reducible refine Calls.mono (gives_a _) ?_; rintro e w1 ⟨rfl, hb⟩; have HBX := hb; replace HB := below_call HB hb; clear hb))
  go_ret
  exact ⟨rfl, HB⟩

theorem normSums_any (A : Option Addr) (n cap : Nat) (xs : List Int) (w : World) (h : Cts w A n xs) :
    Calls Try.prog 5 #[.slice A n cap] w fun e w' => e = .returned (.bool true) ∧ Below w.heap.size w w' := by
  by_cases h1 : 300 < n
  · have d1 : decide ((300 : Int) < (n : Int)) = true := decide_eq_true (by omega)
    clear h
    go_enter Try.func5, Try.ntmps5
    go_wp2_with (go_at_call 14; (with_reducible refine Calls.mono (awake_any _) ?_); rintro e w1 ⟨rfl, hb⟩)
    go_ret
    exact ⟨rfl, hb⟩
  · have d1 : decide ((300 : Int) < (n : Int)) = false := decide_eq_false (by omega)
    have hs := sum_c cap h
    have hr := rSum_c cap h
    generalize sumV xs = x at *
    generalize sumE xs = y at *
    clear h h1
    go_enter Try.func5, Try.ntmps5
    go_wp2_with (first
      | (go_at_call 13; (with_reducible refine Calls.mono hs ?_); rintro e w1 ⟨rfl, rfl⟩)
      | (go_at_call 21; (with_reducible refine Calls.mono hr ?_); rintro e w1 ⟨rfl, rfl⟩)
      | (go_at_call 14; (with_reducible refine Calls.mono (awake_any _) ?_); rintro e w1 ⟨rfl, hb⟩))
    go_ret
    exact ⟨rfl, hb⟩
end Go.Proofs.Ytjldbabggmmkdaa
