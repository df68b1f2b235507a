/-
  The chapter's examples: contracts at literals, awake, CountsKnown.
-/
import Derived.Test.YtpmabmjfininoaaO6H
import Derived.Test.YtpmabmjfininoaaO6V
import Derived.Test.YtpmabmjfininoaaO6U
import Derived.Test.YtpmabmjfininoaaO6S
namespace Go.Proofs.Ytpmabmjfininoaa
open Go.ChangeShapes Go.WideShapes Go.ChangeAt Go.RowKit Go.Shelf
set_option linter.unusedVariables false
set_option linter.unusedSimpArgs false

theorem cts_tab (w : World) (xs : List Int) (hn : xs.length ≤ 9223372036854775807) : Cts (w.alloc (.cells (tab xs) 3)) (some ⟨w.heap.size, 0, none⟩) xs.length xs :=
  ⟨rfl, hn, fun _ => ⟨w.heap.size, 0, rfl, by simp, fun k hk => by rw [Nat.zero_add]; exact tab_cell (blk_new w 3 (tab xs)) hk⟩⟩
theorem cts_nil (w : World) : Cts w none 0 [] := ⟨rfl, by decide, fun h => absurd h (by decide)⟩
theorem c_any (w : World) : Calls Try.prog 33 #[] w fun e w' => ∃ A, e = .returned (.slice A 5 5) ∧ Cts w' A 5 [0, 3, 0, 3, 1] ∧ Below w.heap.size w w' := by
  have hc := cts_tab w [0, 3, 0, 3, 1] (by decide)
  have HC : Hid (Cts (w.alloc (.cells #[.int .i64 0, .int .i64 3, .int .i64 0, .int .i64 3, .int .i64 1] 3)) (some ⟨w.heap.size, 0, none⟩) 5 [0, 3, 0, 3, 1]) := Lib.hid hc
  clear hc
  go_enter Try.func33, Try.ntmps33
  go_wp2
  go_ret
  exact ⟨_, rfl, HC.out, below_box (Below.refl _ _) _⟩

/-- all that a call of total, distinct .. at the chapter's counts gives -/
theorem total_l {A : Option Addr} {w : World} (h : Cts w A 5 [0, 3, 0, 3, 1]) : Calls Try.prog 12 #[.slice A 5 5] w fun r w' => r = .returned (.tuple #[.int .i64 7, .int .i64 0]) ∧ Below w.heap.size w w' := total_c 5 h
theorem great_l {A : Option Addr} {w : World} (h : Cts w A 5 [0, 3, 0, 3, 1]) : Calls Try.prog 18 #[.slice A 5 5] w fun r w' => r = .returned (.tuple #[.int .i64 1, .int .i64 3, .int .i64 0]) ∧ Below w.heap.size w w' := by
  have k := greatest_c 5 h
  rw [show (if lasE [0, 3, 0, 3, 1] = 0 then graN [0, 3, 0, 3, 1] else 0) = 1 by decide, show graC [0, 3, 0, 3, 1] = 3 by decide, show lasE [0, 3, 0, 3, 1] = 0 by decide] at k
  exact k
theorem great_nil (w : World) : Calls Try.prog 18 #[.slice none 0 0] w fun r w' => r = .returned (.tuple #[.int .i64 0, .int .i64 0, .int .i64 7]) ∧ Below w.heap.size w w' := greatest_c 0 (cts_nil w)
theorem dist_l {A : Option Addr} {w : World} (h : Cts w A 5 [0, 3, 0, 3, 1]) : Calls Try.prog 14 #[.slice A 5 5] w fun r w' => r = .returned (.tuple #[.int .i64 3, .int .i64 0]) ∧ Below w.heap.size w w' := by
  have k := distinct_c 5 h
  rw [show disN [0, 3, 0, 3, 1] = 3 by decide, show chk [0, 3, 0, 3, 1] = 0 by decide] at k
  exact k
theorem last_l {A : Option Addr} {w : World} (h : Cts w A 5 [0, 3, 0, 3, 1]) : Calls Try.prog 16 #[.slice A 5 5] w fun r w' => r = .returned (.tuple #[.int .i64 4, .int .i64 0]) ∧ Below w.heap.size w w' := by
  have k := last_c 5 h
  rw [show lasN [0, 3, 0, 3, 1] = 4 by decide, show lasE [0, 3, 0, 3, 1] = 0 by decide] at k
  exact k
theorem halve_l {A : Option Addr} {w : World} (h : Cts w A 5 [0, 3, 0, 3, 1]) : Calls Try.prog 24 #[.slice A 5 5] w fun r w' => ∃ A' c, r = .returned (.tuple #[.slice A' 5 c, .int .i64 0]) ∧ IntsAt w' w'.heap.size A' [0, 2, 0, 2, 1] ∧ Below w.heap.size w w' := by
  have k := halve_c 5 h
  rw [show halL [0, 3, 0, 3, 1] = [0, 2, 0, 2, 1] by decide, show chk [0, 3, 0, 3, 1] = 0 by decide] at k
  exact k
theorem symbols_l (w : World) : Calls Try.prog 29 #[.slice (some ⟨w.heap.size, 0, none⟩) 3 3, .int .i64 4] (w.alloc (.cells #[.int .i64 1, .int .i64 3, .int .i64 1] 3)) fun r w' => ∃ A' c, r = .returned (.tuple #[.slice A' 5 c, .int .i64 0]) ∧ IntsAt w' w'.heap.size A' [0, 2, 0, 1, 0] ∧ Below w.heap.size w w' := by
  have k := symbols_c 3 4 (cts_tab w [1, 3, 1] (by decide)) (by decide)
  rw [show symL 4 [1, 3, 1] = [0, 2, 0, 1, 0] by decide, show symE 4 [1, 3, 1] = 0 by decide] at k
  refine Calls.mono k ?_
  rintro e w' ⟨A', c, rfl, h1, h2⟩
  exact ⟨A', c, rfl, h1, below_call (below_box (Below.refl _ _) _) h2⟩
theorem symbols_5 (w : World) : Calls Try.prog 29 #[.slice (some ⟨w.heap.size, 0, none⟩) 1 1, .int .i64 4] (w.alloc (.cells #[.int .i64 5] 3)) fun r w' => ∃ A' c, r = .returned (.tuple #[.slice A' 0 c, .int .i64 2]) ∧ Below w.heap.size w w' := by
  have k := symbols_c 1 4 (cts_tab w [5] (by decide)) (by decide)
  rw [show symL 4 [5] = [] by decide, show symE 4 [5] = 2 by decide] at k
  refine Calls.mono k ?_
  rintro e w' ⟨A', c, rfl, h1, h2⟩
  exact ⟨A', c, rfl, below_call (below_box (Below.refl _ _) _) h2⟩
theorem check_l (w : World) : Calls Try.prog 10 #[.slice (some ⟨w.heap.size, 0, none⟩) 1 1] (w.alloc (.cells #[.int .i64 (-1)] 3)) fun r w' => r = .returned (.int .i64 2) ∧ Below w.heap.size w w' := by
  have k := check_c 1 (cts_tab w [-1] (by decide))
  rw [show chk [-1] = 2 by decide] at k
  refine Calls.mono k ?_
  rintro e w' ⟨rfl, h2⟩
  exact ⟨rfl, below_call (below_box (Below.refl _ _) _) h2⟩
theorem cts_len (w : World) (xs : List Int) (n : Nat) (hl : xs.length = n) (hn : n ≤ 9223372036854775807) : Cts (w.alloc (.cells (tab xs) 3)) (some ⟨w.heap.size, 0, none⟩) n xs := by
  subst hl
  exact cts_tab w xs hn
theorem chk_long (xs : List Int) (h : 256 < xs.length) : chk xs = 6 := by unfold chk; rw [if_pos h]
theorem check_n (w : World) (xs : List Int) (n : Nat) (hl : xs.length = n) (hn : n ≤ 9223372036854775807) (h : 256 < n) : Calls Try.prog 10 #[.slice (some ⟨w.heap.size, 0, none⟩) n n] (w.alloc (.cells (tab xs) 3)) fun r w' => r = .returned (.int .i64 6) ∧ Below w.heap.size w w' := by
  have k := check_c n (cts_len w xs n hl hn)
  rw [chk_long xs (by omega)] at k
  refine Calls.mono k ?_
  rintro e w' ⟨rfl, h2⟩
  exact ⟨rfl, below_call (below_box (Below.refl _ _) _) h2⟩
theorem check_257 (w : World) (cs : Array Value) (hcs : cs = tab (zeroL 257)) : Calls Try.prog 10 #[.slice (some ⟨w.heap.size, 0, none⟩) 257 257] (w.alloc (.cells cs 3)) fun r w' => r = .returned (.int .i64 6) ∧ Below w.heap.size w w' := by
  rw [hcs]
  exact check_n w (zeroL 257) 257 (zeroL_length 257) (by omega) (by omega)
theorem same_lit {A : Option Addr} {w : World} (c : Nat) (xs : List Int) (hn : xs.length ≤ 9223372036854775807) (h : IntsAt w w.heap.size A xs) :
    Calls Try.prog 26 #[.slice A xs.length c, .slice (some ⟨w.heap.size, 0, none⟩) xs.length xs.length] (w.alloc (.cells (tab xs) 3)) fun e w' => e = .returned (.bool true) ∧ Below w.heap.size w w' := by
  have hb : Below w.heap.size w (w.alloc (.cells (tab xs) 3)) := below_box (Below.refl _ _) _
  refine (same_any A (some ⟨w.heap.size, 0, none⟩) c xs.length _ _ xs _ hn (h.below hb) (cts_tab w xs hn).2.2).mono ?_
  rintro e w' ⟨rfl, h2⟩
  exact ⟨rfl, below_call hb h2⟩
theorem same_02010 {A : Option Addr} {w : World} (c : Nat) (h : IntsAt w w.heap.size A [0, 2, 0, 1, 0]) : Calls Try.prog 26 #[.slice A 5 c, .slice (some ⟨w.heap.size, 0, none⟩) 5 5] (w.alloc (.cells #[.int .i64 0, .int .i64 2, .int .i64 0, .int .i64 1, .int .i64 0] 3)) fun e w' => e = .returned (.bool true) ∧ Below w.heap.size w w' := by
  have k := same_lit c [0, 2, 0, 1, 0] (by decide) h
  exact k
theorem same_02021 {A : Option Addr} {w : World} (c : Nat) (h : IntsAt w w.heap.size A [0, 2, 0, 2, 1]) : Calls Try.prog 26 #[.slice A 5 c, .slice (some ⟨w.heap.size, 0, none⟩) 5 5] (w.alloc (.cells #[.int .i64 0, .int .i64 2, .int .i64 0, .int .i64 2, .int .i64 1] 3)) fun e w' => e = .returned (.bool true) ∧ Below w.heap.size w w' := by
  have k := same_lit c [0, 2, 0, 2, 1] (by decide) h
  exact k

theorem awake_any (w : World) : Calls Try.prog 8 #[] w fun e w' => e = .returned (.bool true) ∧ Below w.heap.size w w' := by
  have HB : Below w.heap.size w w := Below.refl _ _
  go_enter Try.func8, Try.ntmps8
  go_wp2_with (first
    | (go_at_call 33; (with_reducible refine (c_any _).mono ?_); rintro e wa ⟨A, rfl, ha, hb⟩; replace HB := below_call HB hb; clear hb)
    | (go_at_call 12; (with_reducible refine (total_l ha).mono ?_); rintro e wb ⟨rfl, hb⟩; replace HB := below_call HB hb; clear hb ha)
    | (go_at_call 18; (with_reducible refine (great_l ha).mono ?_); rintro e wc ⟨rfl, hb⟩; replace HB := below_call HB hb; clear hb ha)
    | (go_at_call 29; (with_reducible refine (symbols_l _).mono ?_); rintro e wd ⟨S, cS, rfl, hS, hb⟩; replace HB := below_call HB hb; clear hb)
    | (go_at_call 26; (with_reducible refine (same_02010 _ hS).mono ?_); rintro e we ⟨rfl, hb⟩; replace HB := below_call HB hb; clear hb)
    | (go_at_call 10; (with_reducible refine (check_l _).mono ?_); rintro e wf ⟨rfl, hb⟩; replace HB := below_call HB hb; clear hb))
  go_ret
  exact ⟨rfl, HB⟩
end Go.Proofs.Ytpmabmjfininoaa
