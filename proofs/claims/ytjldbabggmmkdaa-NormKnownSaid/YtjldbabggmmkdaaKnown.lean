/-
  NormKnown.
-/
import Derived.Test.YtjldbabggmmkdaaAwake
namespace Go.Proofs.Ytjldbabggmmkdaa
open Go.ChangeShapes Go.WideShapes Go.ChangeAt Go.RowKit Go.Shelf
set_option linter.unusedVariables false
set_option linter.unusedSimpArgs false

theorem accuracy_true {A : Option Addr} {n : Nat} {zs : List Int} (cap : Nat) (most want : Int) {w : World} (h : Cts w A n zs) (he : refE zs most = 0) (hg : logV zs most = want) :
    Calls Try.prog 9 #[.slice A n cap, .int .i64 most, .int .i64 want] w fun e w' => e = .returned (.bool true) ∧ Below w.heap.size w w' := by
  have hl := log_c cap most h
  rw [he, hg] at hl
  clear h he hg
  go_enter Try.func9, Try.ntmps9
  go_wp2_with (go_at_call 16; (with_reducible refine Calls.mono hl ?_); rintro e w2 ⟨rfl, hb⟩)
  go_ret
  exact ⟨rfl, hb⟩
theorem acc_1 (w : World) : Calls Try.prog 9 #[.slice (some ⟨w.heap.size, 0, none⟩) 2 2, .int .i64 9, .int .i64 5] (w.alloc (.cells #[.int .i64 1, .int .i64 1] 3)) fun e w' => e = .returned (.bool true) ∧ Below w.heap.size w w' := by
  have k := accuracy_true 2 9 5 (cts_tab w [1, 1] (by decide)) (by kernel_rfl) (by kernel_rfl)
  refine Calls.mono k ?_
  rintro e w' ⟨rfl, hb⟩
  exact ⟨rfl, below_call (below_box (Below.refl _ _) _) hb⟩
theorem acc_2 (w : World) : Calls Try.prog 9 #[.slice (some ⟨w.heap.size, 0, none⟩) 1 1, .int .i64 9, .int .i64 5] (w.alloc (.cells #[.int .i64 100] 3)) fun e w' => e = .returned (.bool true) ∧ Below w.heap.size w w' := by
  have k := accuracy_true 1 9 5 (cts_tab w [100] (by decide)) (by kernel_rfl) (by kernel_rfl)
  refine Calls.mono k ?_
  rintro e w' ⟨rfl, hb⟩
  exact ⟨rfl, below_call (below_box (Below.refl _ _) _) hb⟩
theorem acc_3 (w : World) : Calls Try.prog 9 #[.slice (some ⟨w.heap.size, 0, none⟩) 2 2, .int .i64 9, .int .i64 9] (w.alloc (.cells #[.int .i64 5000, .int .i64 5000] 3)) fun e w' => e = .returned (.bool true) ∧ Below w.heap.size w w' := by
  have k := accuracy_true 2 9 9 (cts_tab w [5000, 5000] (by decide)) (by kernel_rfl) (by kernel_rfl)
  refine Calls.mono k ?_
  rintro e w' ⟨rfl, hb⟩
  exact ⟨rfl, below_call (below_box (Below.refl _ _) _) hb⟩
theorem acc_4 (w : World) : Calls Try.prog 9 #[.slice (some ⟨w.heap.size, 0, none⟩) 2 2, .int .i64 6, .int .i64 6] (w.alloc (.cells #[.int .i64 5000, .int .i64 5000] 3)) fun e w' => e = .returned (.bool true) ∧ Below w.heap.size w w' := by
  have k := accuracy_true 2 6 6 (cts_tab w [5000, 5000] (by decide)) (by kernel_rfl) (by kernel_rfl)
  refine Calls.mono k ?_
  rintro e w' ⟨rfl, hb⟩
  exact ⟨rfl, below_call (below_box (Below.refl _ _) _) hb⟩
/-- With at a list in new memory -/
theorem with_new (w : World) (zs : List Int) (log lg err : Int) (out : List Int) (hn : zs.length ≤ 9223372036854775807) (e1 : disG zs log = lg) (e2 : disL zs log = out) (e3 : refE zs log = err) :
    Calls Try.prog 10 #[.slice (some ⟨w.heap.size, 0, none⟩) zs.length zs.length, .int .i64 log] (w.alloc (.cells (tab zs) 3)) fun e w' => ∃ A c, e = .returned (.tuple #[.agg #[.int .i64 lg, .slice A out.length c], .int .i64 err]) ∧ IntsAt w' w'.heap.size A out ∧ Below w.heap.size w w' := by
  have k := with_c zs.length log (cts_tab w zs hn)
  rw [e1, e2, e3] at k
  refine Calls.mono k ?_
  rintro e w' ⟨A, c, rfl, h1, h2, _⟩
  exact ⟨A, c, rfl, h1, below_call (below_box (Below.refl _ _) _) h2⟩
theorem of_new (w : World) (zs : List Int) (log lg err : Int) (out : List Int) (hn : zs.length ≤ 9223372036854775807) (e1 : ofG zs log = lg) (e2 : ofL zs log = out) (e3 : ofE zs log = err) :
    Calls Try.prog 12 #[.slice (some ⟨w.heap.size, 0, none⟩) zs.length zs.length, .int .i64 log] (w.alloc (.cells (tab zs) 3)) fun e w' => ∃ A c, e = .returned (.tuple #[.agg #[.int .i64 lg, .slice A out.length c], .int .i64 err]) ∧ IntsAt w' w'.heap.size A out ∧ Below w.heap.size w w' := by
  have k := of_c zs.length log (cts_tab w zs hn)
  rw [e1, e2, e3] at k
  refine Calls.mono k ?_
  rintro e w' ⟨A, c, rfl, h1, h2, _⟩
  exact ⟨A, c, rfl, h1, below_call (below_box (Below.refl _ _) _) h2⟩
theorem w_1000 (w : World) : Calls Try.prog 10 #[.slice (some ⟨w.heap.size, 0, none⟩) 3 3, .int .i64 5] (w.alloc (.cells #[.int .i64 1000, .int .i64 1, .int .i64 1] 3)) fun e w' => ∃ A c, e = .returned (.tuple #[.agg #[.int .i64 5, .slice A 3 c], .int .i64 0]) ∧ IntsAt w' w'.heap.size A [30, -1, -1] ∧ Below w.heap.size w w' := by
  have k := with_new w [1000, 1, 1] 5 5 0 [30, -1, -1] (by decide) (by kernel_rfl) (by kernel_rfl) (by kernel_rfl)
  exact k
theorem o_00 (w : World) : Calls Try.prog 12 #[.slice (some ⟨w.heap.size, 0, none⟩) 2 2, .int .i64 9] (w.alloc (.cells #[.int .i64 0, .int .i64 0] 3)) fun e w' => ∃ A c, e = .returned (.tuple #[.agg #[.int .i64 0, .slice A 0 c], .int .i64 7]) ∧ Below w.heap.size w w' := by
  have k := of_new w [0, 0] 9 0 7 [] (by decide) (by kernel_rfl) (by kernel_rfl) (by kernel_rfl)
  refine Calls.mono k ?_
  rintro e w' ⟨A, c, rfl, _, h2⟩
  exact ⟨A, c, rfl, h2⟩
theorem o_4 (w : World) : Calls Try.prog 12 #[.slice (some ⟨w.heap.size, 0, none⟩) 1 1, .int .i64 4] (w.alloc (.cells #[.int .i64 1] 3)) fun e w' => ∃ A c, e = .returned (.tuple #[.agg #[.int .i64 0, .slice A 0 c], .int .i64 31]) ∧ Below w.heap.size w w' := by
  have k := of_new w [1] 4 0 31 [] (by decide) (by kernel_rfl) (by kernel_rfl) (by kernel_rfl)
  refine Calls.mono k ?_
  rintro e w' ⟨A, c, rfl, _, h2⟩
  exact ⟨A, c, rfl, h2⟩
theorem o_13 (w : World) : Calls Try.prog 12 #[.slice (some ⟨w.heap.size, 0, none⟩) 1 1, .int .i64 13] (w.alloc (.cells #[.int .i64 1] 3)) fun e w' => ∃ A c, e = .returned (.tuple #[.agg #[.int .i64 0, .slice A 0 c], .int .i64 31]) ∧ Below w.heap.size w w' := by
  have k := of_new w [1] 13 0 31 [] (by decide) (by kernel_rfl) (by kernel_rfl) (by kernel_rfl)
  refine Calls.mono k ?_
  rintro e w' ⟨A, c, rfl, _, h2⟩
  exact ⟨A, c, rfl, h2⟩
theorem w_4 (w : World) : Calls Try.prog 10 #[.slice (some ⟨w.heap.size, 0, none⟩) 1 1, .int .i64 4] (w.alloc (.cells #[.int .i64 1] 3)) fun e w' => ∃ A c, e = .returned (.tuple #[.agg #[.int .i64 0, .slice A 0 c], .int .i64 31]) ∧ Below w.heap.size w w' := by
  have k := with_new w [1] 4 0 31 [] (by decide) (by kernel_rfl) (by kernel_rfl) (by kernel_rfl)
  refine Calls.mono k ?_
  rintro e w' ⟨A, c, rfl, _, h2⟩
  exact ⟨A, c, rfl, h2⟩
theorem s_30 (w : World) : Calls Try.prog 13 #[.slice (some ⟨w.heap.size, 0, none⟩) 3 3] (w.alloc (.cells #[.int .i64 30, .int .i64 (-1), .int .i64 (-1)] 3)) fun e w' => e = .returned (.tuple #[.int .i64 32, .int .i64 0]) ∧ w' = w.alloc (.cells #[.int .i64 30, .int .i64 (-1), .int .i64 (-1)] 3) := by
  have k := sum_c 3 (cts_tab w [30, -1, -1] (by decide))
  rw [show sumV [30, -1, -1] = 32 by kernel_rfl, show sumE [30, -1, -1] = 0 by kernel_rfl] at k
  exact k
theorem s_2 (w : World) : Calls Try.prog 13 #[.slice (some ⟨w.heap.size, 0, none⟩) 1 1] (w.alloc (.cells #[.int .i64 (-2)] 3)) fun e w' => e = .returned (.tuple #[.int .i64 0, .int .i64 2]) ∧ w' = w.alloc (.cells #[.int .i64 (-2)] 3) := by
  have k := sum_c 1 (cts_tab w [-2] (by decide))
  rw [show sumV [-2] = 0 by kernel_rfl, show sumE [-2] = 2 by kernel_rfl] at k
  exact k
theorem same_30 {A : Option Addr} {w : World} (c : Nat) (h : IntsAt w w.heap.size A [30, -1, -1]) : Calls Try.prog 11 #[.slice A 3 c, .slice (some ⟨w.heap.size, 0, none⟩) 3 3] (w.alloc (.cells #[.int .i64 30, .int .i64 (-1), .int .i64 (-1)] 3)) fun e w' => e = .returned (.bool true) ∧ Below w.heap.size w w' := by
  have hb := below_box (Below.refl w.heap.size w) (.cells (tab [30, -1, -1]) 3)
  have k := same_n A (some ⟨w.heap.size, 0, none⟩) c 3 3 [30, -1, -1] rfl _ (by omega) (nextI h hb) (cts_tab w [30, -1, -1] (by decide)).2.2
  refine Calls.mono k ?_
  rintro e w' ⟨rfl, h2⟩
  exact ⟨rfl, below_call hb h2⟩
theorem o_00' (w : World) (g : Nat) (hg : w.heap.size = g) : Calls Try.prog 12 #[.slice (some ⟨g, 0, none⟩) 2 2, .int .i64 9] (w.alloc (.cells #[.int .i64 0, .int .i64 0] 3)) fun e w' => ∃ A c, e = .returned (.tuple #[.agg #[.int .i64 0, .slice A 0 c], .int .i64 7]) ∧ Below w.heap.size w w' := by
  subst hg; exact o_00 w
theorem o_4' (w : World) (g : Nat) (hg : w.heap.size = g) : Calls Try.prog 12 #[.slice (some ⟨g, 0, none⟩) 1 1, .int .i64 4] (w.alloc (.cells #[.int .i64 1] 3)) fun e w' => ∃ A c, e = .returned (.tuple #[.agg #[.int .i64 0, .slice A 0 c], .int .i64 31]) ∧ Below w.heap.size w w' := by
  subst hg; exact o_4 w
theorem o_13' (w : World) (g : Nat) (hg : w.heap.size = g) : Calls Try.prog 12 #[.slice (some ⟨g, 0, none⟩) 1 1, .int .i64 13] (w.alloc (.cells #[.int .i64 1] 3)) fun e w' => ∃ A c, e = .returned (.tuple #[.agg #[.int .i64 0, .slice A 0 c], .int .i64 31]) ∧ Below w.heap.size w w' := by
  subst hg; exact o_13 w
theorem w_4' (w : World) (g : Nat) (hg : w.heap.size = g) : Calls Try.prog 10 #[.slice (some ⟨g, 0, none⟩) 1 1, .int .i64 4] (w.alloc (.cells #[.int .i64 1] 3)) fun e w' => ∃ A c, e = .returned (.tuple #[.agg #[.int .i64 0, .slice A 0 c], .int .i64 31]) ∧ Below w.heap.size w w' := by
  subst hg; exact w_4 w
theorem s_30' (w : World) (g : Nat) (hg : w.heap.size = g) : Calls Try.prog 13 #[.slice (some ⟨g, 0, none⟩) 3 3] (w.alloc (.cells #[.int .i64 30, .int .i64 (-1), .int .i64 (-1)] 3)) fun e w' => e = .returned (.tuple #[.int .i64 32, .int .i64 0]) ∧ Below w.heap.size w w' := by
  subst hg
  refine Calls.mono (s_30 w) ?_
  rintro e w' ⟨rfl, rfl⟩
  exact ⟨rfl, below_box (Below.refl _ _) _⟩
theorem s_2' (w : World) (g : Nat) (hg : w.heap.size = g) : Calls Try.prog 13 #[.slice (some ⟨g, 0, none⟩) 1 1] (w.alloc (.cells #[.int .i64 (-2)] 3)) fun e w' => e = .returned (.tuple #[.int .i64 0, .int .i64 2]) ∧ Below w.heap.size w w' := by
  subst hg
  refine Calls.mono (s_2 w) ?_
  rintro e w' ⟨rfl, rfl⟩
  exact ⟨rfl, below_box (Below.refl _ _) _⟩
theorem same_30' {A : Option Addr} {w : World} (g c : Nat) (hg : w.heap.size = g) (h : IntsAt w w.heap.size A [30, -1, -1]) : Calls Try.prog 11 #[.slice A 3 c, .slice (some ⟨g, 0, none⟩) 3 3] (w.alloc (.cells #[.int .i64 30, .int .i64 (-1), .int .i64 (-1)] 3)) fun e w' => e = .returned (.bool true) ∧ Below w.heap.size w w' := by
  subst hg; exact same_30 c h
/-- 10, then 31 times 1 -/
def manyL : List Int := (List.replicate 32 1).set 0 10
def manyD : List Int := disL manyL 5
theorem many_1 : refE manyL 5 = 0 := by kernel_rfl
theorem many_2 : disG manyL 5 = 5 := by kernel_rfl
theorem many_3 : (disL manyL 5).length = 32 := by kernel_rfl
theorem many_4 : (disL manyL 5).getD 0 0 = 1 := by kernel_rfl
theorem many_5 : (disL manyL 5).getD 31 0 = -1 := by kernel_rfl
theorem many_6 : manyL.length = 32 := by kernel_rfl
theorem w_many (A : Option Addr) (c : Nat) (w : World) (h : IntsAt w w.heap.size A manyL) : Calls Try.prog 10 #[.slice A 32 c, .int .i64 5] w fun e w' => ∃ A' c', e = .returned (.tuple #[.agg #[.int .i64 5, .slice A' 32 c'], .int .i64 0]) ∧ (∃ b off, A' = some ⟨b, off, none⟩ ∧ b < w'.heap.size ∧ w'.cell? ⟨b, off, none⟩ = some (.int .i64 1) ∧ w'.cell? ⟨b, off + 31, none⟩ = some (.int .i64 (-1))) ∧ Below w.heap.size w w' := by
  have k := with_c c 5 (A := A) (n := 32) (zs := manyL) (w := w) ⟨many_6, by omega, h⟩
  rw [many_1, many_2] at k
  refine Calls.mono k ?_
  rintro e w' ⟨A', c', rfl, h1, h2, _⟩
  have hl := many_3
  have h4 := many_4
  have h5 := many_5
  generalize disL manyL 5 = D at *
  obtain ⟨b, off, hA, hb, hc⟩ := h1 (by omega)
  have d0 := hc 0 (by omega)
  have d1 := hc 31 (by omega)
  rw [h4, Nat.add_zero] at d0
  rw [h5] at d1
  rw [hl]
  exact ⟨A', c', rfl, ⟨b, off, hA, hb, d0, d1⟩, h2⟩

theorem many_all {cur : List Int} (hl : cur.length = 32) (h : ∀ j, j < 32 → cur.getD j 0 = if j < 32 then 1 else 0) : cur.set 0 10 = manyL := by
  have e : cur = List.replicate 32 1 := list_eq hl List.length_replicate (fun k hk => by
    rw [h k hk, if_pos hk]
    simp only [List.getD_eq_getElem?_getD, List.getElem?_replicate, if_pos hk]
    rfl)
  rw [e]; rfl
theorem made_32 : ∃ cs : Array Value, (∀ W, (Instr.makeSlice 23 (.int .i64 32) (.int .i64 32)).run Try.prog W = .ok (.slice (some ⟨W.heap.size, 0, none⟩) 32 32) (W.alloc (.cells cs 3))) ∧ Hid (cs = tab (zeroL 32)) :=
  ⟨madeCells #[.int .i64 0] 32, fun W => run_make_row' (P := Try.prog) 23 3 (.int .i64 0) 8 Try.underlying23 info3 rfl .i64 .i64 32 (by omega) (by omega) W, made_tab 32⟩

set_option maxRecDepth 100000 in
set_option maxHeartbeats 600000 in
theorem known_any (w : World) : Calls Try.prog 3 #[] w fun e w' => e = .returned (.bool true) ∧ Below w.heap.size w w' := by
  have HB : Below w.heap.size w w := Below.refl _ _
  obtain ⟨cs, hmk, hcs⟩ := made_32
  go_enter Try.func3, Try.ntmps3
  go_wp2_with (first
    | (go_at_call 9; first
        | (have MX := M3; clear M3 MX; (with_reducible refine Calls.mono (acc_4 _) ?_); rintro e w1 ⟨rfl, hb⟩; replace HB := below_call HB hb; clear hb)
        | (have MX := M2; clear M2 MX; (with_reducible refine Calls.mono (acc_3 _) ?_); rintro e w1 ⟨rfl, hb⟩; replace HB := below_call HB hb; clear hb; have M3 : Hid True := Lib.hid trivial)
        | (have MX := M1; clear M1 MX; (with_reducible refine Calls.mono (acc_2 _) ?_); rintro e w1 ⟨rfl, hb⟩; replace HB := below_call HB hb; clear hb; have M2 : Hid True := Lib.hid trivial)
        | ((with_reducible refine Calls.mono (acc_1 _) ?_); rintro e w1 ⟨rfl, hb⟩; replace HB := below_call HB hb; clear hb; have M1 : Hid True := Lib.hid trivial))
    | (go_at_call 10; (with_reducible refine Calls.mono (w_1000 _) ?_); rintro e w3 ⟨A3, c3, rfl, h3, hb⟩; replace HB := below_call HB hb; clear hb; have kd := blk_new w3 25 #[.int .i64 5, .slice A3 3 c3]; replace h3 := nextI h3 (below_box (Below.refl w3.heap.size w3) (.cells #[.int .i64 5, .slice A3 3 c3] 25)); replace HB := below_box HB (.cells #[.int .i64 5, .slice A3 3 c3] 25)))
  have kd1 := blk_alloc kd (.cells cs 3)
  have h31 := h3.below (below_box (Below.refl (w3.alloc (.cells #[.int .i64 5, .slice A3 3 c3] 25)).heap.size (w3.alloc (.cells #[.int .i64 5, .slice A3 3 c3] 25))) (.cells cs 3))
  have kT0 := blk_new (w3.alloc (.cells #[.int .i64 5, .slice A3 3 c3] 25)) 3 cs
  have HB1 := below_box HB (.cells cs 3)
  have hwb : w.heap.size ≤ w3.heap.size + 1 := by have := HB.size; rw [World.size_alloc] at this; exact this
  rw [World.size_alloc] at kT0 h31
  rw [show tab (zeroL 32) = tab (zeroL 32) from rfl] at *
  have kT1 : Blk ((w3.alloc (.cells #[.int .i64 5, .slice A3 3 c3] 25)).alloc (.cells cs 3)) (w3.heap.size + 1) 3 (tab (zeroL 32)) := by rw [← hcs.out]; exact kT0
  clear kd h3 kT0 HB hmk
  generalize (w3.alloc (.cells #[.int .i64 5, .slice A3 3 c3] 25)).alloc (.cells cs 3) = w4 at *
  generalize hgm : w3.heap.size + 1 = gm at *
  generalize w3.heap.size = b1 at *
  have hb1g : b1 < gm := by omega
  clear hgm w3
  have KT1 := Lib.hid kT1
  clear kT1
  go_loopw [4] (fun i wr => ∃ (k : Nat) (cur : List Int), k ≤ 32 ∧ i = .int .i64 (k : Int) ∧ Hid (cur.length = 32 ∧ ∀ j, j < 32 → cur.getD j 0 = if j < k then 1 else 0) ∧ Hid (Blk wr gm 3 (tab cur)) ∧ Hid (Below gm w4 wr)) (fun i _ => 32 - (intOf i).toNat)
  case atStart => exact ⟨0, zeroL 32, by omega, rfl, ⟨zeroL_length _, fun j hj => by rw [if_neg (by omega), zeroL_getD]⟩, KT1, Below.refl _ _⟩
  case round =>
    obtain ⟨k, cur, hk, rfl, hcur, hT, hK⟩ := hrel
    by_cases hlt : k < 32
    · have c1 := tab_cell hT.out (k := k) (by rw [hcur.out.1]; exact hlt)
      have f1 := blk_frozen hT.out k
      have T2 := Lib.hid (tab_store hT.out k 1)
      have K2 := Lib.hid (hK.out.setCell (p := ⟨gm, k, none⟩) (Nat.le_refl _) (.int .i64 1))
      have HC2 : Hid ((cur.set k 1).length = 32 ∧ ∀ j, j < 32 → (cur.set k 1).getD j 0 = if j < k + 1 then 1 else 0) := Lib.hid ⟨by rw [List.length_set]; exact hcur.out.1, fun j hj => by
        rw [getD_set_int _ (by rw [hcur.out.1]; exact hlt)]
        by_cases hjk : k = j
        · rw [if_pos hjk, if_pos (by omega)]
        · rw [if_neg hjk, hcur.out.2 j hj]
          by_cases h3 : j < k
          · rw [if_pos h3, if_pos (by omega)]
          · rw [if_neg h3, if_neg (by omega)]⟩
      generalize hnx : cur.set k 1 = nx at *
      clear hnx
      generalize cur.getD k 0 = v0 at *
      go_wp2
      go_roundw
      case rel => exact ⟨k + 1, nx, by omega, by go_num, HC2, T2, K2⟩
      case measure => simp [intOf]; omega
    · obtain rfl : k = 32 := by omega
      have c1 := tab_cell hT.out (k := 0) (by rw [hcur.out.1]; omega)
      have f1 := blk_frozen hT.out 0
      have kT5 := tab_store hT.out 0 10
      rw [many_all hcur.out.1 hcur.out.2] at kT5
      have K5 := hK.out.setCell (p := ⟨gm, 0, none⟩) (Nat.le_refl _) (.int .i64 10)
      have HB5 := HB1.trans (K5.mono hwb)
      have kd5 := blk_below kd1 K5 hb1g
      have h35 := (h31.below K5).more (Nat.le_of_lt (blk_lt kT5))
      have KT5 := Lib.hid (cts_blk kT5 many_6 (by omega)).2.2
      generalize cur.getD 0 0 = v0 at *
      clear kT5 K5 hT hK hcur hlt kd1 h31 HB1
      go_wp2_with (first
        | (go_at_call 10; first
            | (have MX := M10; clear M10 MX; (with_reducible refine Calls.mono (w_4' _ _ (by simp only [World.size_alloc])) ?_); rintro e w1 ⟨B4, e4, rfl, hb⟩; replace HB5 := below_call (below_box HB5 _) hb; clear hb)
            | ((with_reducible refine Calls.mono (w_many _ _ _ KT5.out) ?_); rintro e w6 ⟨A6, c6, rfl, ⟨b, off, rfl, hbl, x0, x31⟩, hb⟩; have M10 : Hid True := Lib.hid trivial; replace HB5 := below_call HB5 hb; replace kd5 := blk_below kd5 hb (blk_lt kd5); replace h35 := nextI h35 hb; clear hb; have kx := blk_new w6 25 #[.int .i64 5, .slice (some ⟨b, off, none⟩) 32 c6]; have hq := below_box (Below.refl w6.heap.size w6) (.cells #[.int .i64 5, .slice (some ⟨b, off, none⟩) 32 c6] 25); have y0 := (hq.cell (p := ⟨b, off, none⟩) hbl).trans x0; have y31 := (hq.cell (p := ⟨b, off + 31, none⟩) hbl).trans x31; replace kd5 := blk_alloc kd5 (.cells #[.int .i64 5, .slice (some ⟨b, off, none⟩) 32 c6] 25); replace h35 := nextI h35 hq; replace HB5 := below_box HB5 (.cells #[.int .i64 5, .slice (some ⟨b, off, none⟩) 32 c6] 25); clear x0 x31 hq; obtain ⟨p0, p1, p2, p3⟩ := dist_facts kd5))
        | (go_at_call 11; (with_reducible refine Calls.mono (same_30' _ _ (by simp only [World.size_alloc]) h35) ?_); rintro e w7 ⟨rfl, hb⟩; have hbl2 := Nat.lt_succ_of_lt hbl; replace HB5 := below_call HB5 hb; replace kx := blk_below kx hb (blk_lt kx); have z0 := (hb.cell (p := ⟨b, off, none⟩) (by simp only [World.size_alloc]; omega)).trans y0; have z31 := (hb.cell (p := ⟨b, off + 31, none⟩) (by simp only [World.size_alloc]; omega)).trans y31; clear hb h35 kd5 p0 p1 p2 p3 y0 y31; obtain ⟨p0, p1, p2, p3⟩ := dist_facts kx)
        | (go_at_call 12; first
            | (have MX := N2; clear N2 MX; (with_reducible refine Calls.mono (o_13' _ _ (by simp only [World.size_alloc])) ?_); rintro e w1 ⟨B4, e4, rfl, hb⟩; replace HB5 := below_call HB5 hb; clear hb)
            | (have MX := N1; clear N1 MX; (with_reducible refine Calls.mono (o_4' _ _ (by simp only [World.size_alloc])) ?_); rintro e w1 ⟨B4, e4, rfl, hb⟩; replace HB5 := below_call HB5 hb; clear hb; have N2 : Hid True := Lib.hid trivial)
            | ((with_reducible refine Calls.mono (o_00' _ _ (by simp only [World.size_alloc])) ?_); rintro e w1 ⟨B4, e4, rfl, hb⟩; replace HB5 := below_call HB5 hb; clear hb; have N1 : Hid True := Lib.hid trivial))
        | (go_at_call 13; first
            | (have MX := S1; clear S1 MX; (with_reducible refine Calls.mono (s_2' _ _ rfl) ?_); rintro e w1 ⟨rfl, hb⟩; replace HB5 := below_call HB5 hb; clear hb)
            | ((with_reducible refine Calls.mono (s_30' _ _ (by simp only [World.size_alloc])) ?_); rintro e w1 ⟨rfl, hb⟩; replace HB5 := below_call (below_box HB5 _) hb; clear hb; have S1 : Hid True := Lib.hid trivial))
        | (go_at_call 14; (with_reducible refine Calls.mono (awake_any _) ?_); rintro e w1 ⟨rfl, hb⟩; replace HB5 := below_call HB5 hb; clear hb))
      go_ret
      exact ⟨rfl, HB5⟩
end Go.Proofs.Ytjldbabggmmkdaa
