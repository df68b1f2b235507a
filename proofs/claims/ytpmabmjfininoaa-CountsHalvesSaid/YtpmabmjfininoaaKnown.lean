/-
  CountsKnown.
-/
import Derived.Deep.Cut
import Derived.Test.YtpmabmjfininoaaAwake
namespace Go.Proofs.Ytpmabmjfininoaa
open Go.ChangeShapes Go.WideShapes Go.ChangeAt Go.RowKit Go.Shelf
set_option linter.unusedVariables false
set_option linter.unusedSimpArgs false

theorem only_true {A : Option Addr} {n : Nat} {zs : List Int} (cap : Nat) (want : Int) (b : Bool) {w : World} (h : Cts w A n zs) (h0 : chk zs = 0) (h1 : (if disN zs = 1 then lasN zs else 0) = want) (h2 : (disN zs == 1) = b) :
    Calls Try.prog 34 #[.slice A n cap, .int .i64 want, .bool b] w fun e w' => e = .returned (.bool true) ∧ Below w.heap.size w w' := by
  have ho := only_c cap h
  rw [h0, h1, h2] at ho
  clear h h0 h1 h2
  cases b with
  | true =>
    go_enter Try.func34, Try.ntmps34
    go_wp2_with (go_at_call 20; (with_reducible refine ho.mono ?_); rintro e w1 ⟨rfl, hb⟩)
    go_ret
    exact ⟨rfl, hb⟩
  | false =>
    go_enter Try.func34, Try.ntmps34
    go_wp2_with (go_at_call 20; (with_reducible refine ho.mono ?_); rintro e w1 ⟨rfl, hb⟩)
    go_ret
    exact ⟨rfl, hb⟩
theorem only_l {A : Option Addr} {w : World} (h : Cts w A 5 [0, 3, 0, 3, 1]) : Calls Try.prog 34 #[.slice A 5 5, .int .i64 0, .bool false] w fun r w' => r = .returned (.bool true) ∧ Below w.heap.size w w' :=
  only_true 5 0 false h (by decide) (by decide) (by decide)
theorem only_05 (w : World) : Calls Try.prog 34 #[.slice (some ⟨w.heap.size, 0, none⟩) 2 2, .int .i64 1, .bool true] (w.alloc (.cells #[.int .i64 0, .int .i64 5] 3)) fun r w' => r = .returned (.bool true) ∧ Below w.heap.size w w' := by
  have k := only_true 2 1 true (cts_tab w [0, 5] (by decide)) (by decide) (by decide) (by decide)
  refine Calls.mono k ?_
  rintro e w' ⟨rfl, h2⟩
  exact ⟨rfl, below_call (below_box (Below.refl _ _) _) h2⟩
theorem only_00 (w : World) : Calls Try.prog 34 #[.slice (some ⟨w.heap.size, 0, none⟩) 2 2, .int .i64 0, .bool false] (w.alloc (.cells #[.int .i64 0, .int .i64 0] 3)) fun r w' => r = .returned (.bool true) ∧ Below w.heap.size w w' := by
  have k := only_true 2 0 false (cts_tab w [0, 0] (by decide)) (by decide) (by decide) (by decide)
  refine Calls.mono k ?_
  rintro e w' ⟨rfl, h2⟩
  exact ⟨rfl, below_call (below_box (Below.refl _ _) _) h2⟩

def tabB (hs : List Bool) : Array Value := (hs.map Value.bool).toArray
theorem bls_tab (w : World) (hs : List Bool) (hn : hs.length ≤ 9223372036854775807) : Bls (w.alloc (.cells (tabB hs) 4)) (some ⟨w.heap.size, 0, none⟩) hs.length hs :=
  ⟨rfl, hn, fun _ => ⟨w.heap.size, 0, rfl, by simp, fun k hk => by
    rw [Nat.zero_add, blk_cell (blk_new w 4 (tabB hs))]
    simp [tabB, List.getD, hk]⟩⟩
theorem covers_is {A : Option Addr} {w : World} (h : Cts w A 5 [0, 3, 0, 3, 1]) : Calls Try.prog 22 #[.slice A 5 5, .slice (some ⟨w.heap.size, 0, none⟩) 5 5] (w.alloc (.cells #[.bool false, .bool true, .bool false, .bool true, .bool true] 4)) fun r w' => r = .returned (.tuple #[.bool true, .int .i64 0]) ∧ Below w.heap.size w w' := by
  have hb : Below w.heap.size w (w.alloc (.cells #[.bool false, .bool true, .bool false, .bool true, .bool true] 4)) := below_box (Below.refl _ _) _
  have k := covers_c 5 5 (h.below hb) (bls_tab w [false, true, false, true, true] (by decide))
  rw [show covB [0, 3, 0, 3, 1] [false, true, false, true, true] = true by decide, show chk [0, 3, 0, 3, 1] = 0 by decide] at k
  refine Calls.mono k ?_
  rintro e w' ⟨rfl, h2⟩
  exact ⟨rfl, below_call hb h2⟩
theorem covers_no {A : Option Addr} {w : World} (h : Cts w A 5 [0, 3, 0, 3, 1]) : Calls Try.prog 22 #[.slice A 5 5, .slice (some ⟨w.heap.size, 0, none⟩) 2 2] (w.alloc (.cells #[.bool false, .bool true] 4)) fun r w' => r = .returned (.tuple #[.bool false, .int .i64 0]) ∧ Below w.heap.size w w' := by
  have hb : Below w.heap.size w (w.alloc (.cells #[.bool false, .bool true] 4)) := below_box (Below.refl _ _) _
  have k := covers_c 5 2 (h.below hb) (bls_tab w [false, true] (by decide))
  rw [show covB [0, 3, 0, 3, 1] [false, true] = false by decide, show chk [0, 3, 0, 3, 1] = 0 by decide] at k
  refine Calls.mono k ?_
  rintro e w' ⟨rfl, h2⟩
  exact ⟨rfl, below_call hb h2⟩
theorem same_aa (w : World) : Calls Try.prog 31 #[.string ⟨#[97, 97]⟩] w fun e w' => e = .returned (.bool true) ∧ Below w.heap.size w w' := same_c ⟨#[97, 97]⟩ (by decide) w
theorem same_e (w : World) : Calls Try.prog 31 #[.string ⟨#[]⟩] w fun e w' => e = .returned (.bool false) ∧ Below w.heap.size w w' := same_c ⟨#[]⟩ (by decide) w
theorem made_257 : ∃ cs : Array Value, (∀ W, (Instr.makeSlice 22 (.int .i64 257) (.int .i64 257)).run Try.prog W = .ok (.slice (some ⟨W.heap.size, 0, none⟩) 257 257) (W.alloc (.cells cs 3))) ∧ Hid (cs = tab (zeroL 257)) :=
  ⟨madeCells #[.int .i64 0] 257, fun W => run_make_row' (P := Try.prog) 22 3 (.int .i64 0) 8 Try.underlying22 info3 rfl .i64 .i64 257 (by omega) (by omega) W, by
    show _ = _
    apply Array.ext'
    rw [toList_madeCells_one]
    unfold tab zeroL
    rw [List.map_replicate]⟩

set_option maxRecDepth 100000 in
set_option maxHeartbeats 1000000 in
theorem known_any (w : World) : Calls Try.prog 5 #[] w fun e w' => e = .returned (.bool true) ∧ Below w.heap.size w w' := by
  have HB : Below w.heap.size w w := Below.refl _ _
  obtain ⟨cs, hmk, hcs⟩ := made_257
  go_enter Try.func5, Try.ntmps5
  go_wp2_with (first
    | (go_at_call 33; (with_reducible refine (c_any _).mono ?_); rintro e wa ⟨A, rfl, ha, hb⟩; replace HB := below_call HB hb; clear hb)
    | (go_at_call 14; (with_reducible refine (dist_l ha).mono ?_); rintro e wb ⟨rfl, hb⟩; replace HB := below_call HB hb; clear hb ha)
    | (go_at_call 16; (with_reducible refine (last_l ha).mono ?_); rintro e wb ⟨rfl, hb⟩; replace HB := below_call HB hb; clear hb ha)
    | (go_at_call 18; (with_reducible refine (great_nil _).mono ?_); rintro e wc ⟨rfl, hb⟩; replace HB := below_call HB hb; clear hb)
    | (go_at_call 34; (with_reducible refine (only_l ha).mono ?_); rintro e wc ⟨rfl, hb⟩; replace HB := below_call HB hb; clear hb ha)
    | (go_at_call 34; (with_reducible refine (only_05 _).mono ?_); rintro e wc ⟨rfl, hb⟩; replace HB := below_call HB hb; clear hb)
    | (go_at_call 34; (with_reducible refine (only_00 _).mono ?_); rintro e wc ⟨rfl, hb⟩; replace HB := below_call HB hb; clear hb)
    | (go_at_call 22; (with_reducible refine (covers_is ha).mono ?_); rintro e wc ⟨rfl, hb⟩; replace HB := below_call HB hb; clear hb ha)
    | (go_at_call 22; (with_reducible refine (covers_no ha).mono ?_); rintro e wc ⟨rfl, hb⟩; replace HB := below_call HB hb; clear hb ha)
    | (go_at_call 24; (with_reducible refine (halve_l ha).mono ?_); rintro e wd ⟨S, cS, rfl, hS, hb⟩; replace HB := below_call HB hb; clear hb ha)
    | (go_at_call 29; (with_reducible refine (symbols_5 _).mono ?_); rintro e wd ⟨S5, cS5, rfl, hb⟩; replace HB := below_call HB hb; replace hS := (hS.below hb).more hb.size; clear hb)
    | (go_at_call 26; (with_reducible refine (same_02021 _ hS).mono ?_); rintro e we ⟨rfl, hb⟩; replace HB := below_call HB hb; clear hb hS)
    | (go_at_call 8; (with_reducible refine (awake_any _).mono ?_); rintro e wc ⟨rfl, hb⟩; replace HB := below_call HB hb; clear hb)
    | (go_at_call 31; (with_reducible refine (same_aa _).mono ?_); rintro e wc ⟨rfl, hb⟩; replace HB := below_call HB hb; clear hb)
    | (go_at_call 31; (with_reducible refine (same_e _).mono ?_); rintro e wc ⟨rfl, hb⟩; replace HB := below_call HB hb; clear hb)
    | (go_at_call 10; (with_reducible refine (check_257 _ _ hcs.out).mono ?_); rintro e wf ⟨rfl, hb⟩; replace HB := below_call HB hb; clear hb))
  go_ret
  exact ⟨rfl, HB⟩
end Go.Proofs.Ytpmabmjfininoaa
