/-
  NormScales.
-/
import Derived.Test.YtjldbabggmmkdaaN7T
namespace Go.Proofs.Ytjldbabggmmkdaa
open Go.ChangeShapes Go.WideShapes Go.ChangeAt Go.RowKit Go.Shelf
set_option linter.unusedVariables false
set_option linter.unusedSimpArgs false

theorem mulL_snoc {K : Int} {L : List Int} {j : Nat} (h : j < L.length) : mulL K (L.take (j + 1)) = mulL K (L.take j) ++ [L.getD j 0 * K] := by
  rw [take_snoc h]; unfold mulL; rw [List.map_append]; rfl

theorem made_get (m : Nat) : (madeCells #[Value.int .i64 0] (m + 1))[m]? = some (.int .i64 0) := by
  rw [made_tab]; unfold tab zeroL; simp
theorem al_ints (w : World) (g m : Nat) (K : Int) (hm : m < 40) (hg : w.heap.size = g) : IntsAt (w.alloc (.cells ((madeCells #[.int .i64 0] (m + 1)).setIfInBounds m (.int .i64 K)) 3)) (w.alloc (.cells ((madeCells #[.int .i64 0] (m + 1)).setIfInBounds m (.int .i64 K)) 3)).heap.size (some ⟨g, 0, none⟩) (alone m K) := by
  subst hg
  have e : (madeCells #[.int .i64 0] (m + 1)).setIfInBounds m (.int .i64 K) = tab (alone m K) := by rw [made_tab, tab_set]; rfl
  rw [e]
  exact (cts_tab w (alone m K) (by rw [alone_length]; omega)).2.2
set_option maxRecDepth 100000 in
set_option maxHeartbeats 2000000 in
theorem normScales_any (A : Option Addr) (n cap : Nat) (by' log : Int) (xs : List Int) (w : World) (h : Cts w A n xs) (hr : ∀ x ∈ xs, -9223372036854775808 ≤ x ∧ x ≤ 9223372036854775807) (hm0 : -9223372036854775808 ≤ by') (hm1 : by' ≤ 9223372036854775807) (hm2 : -9223372036854775808 ≤ log) (hm3 : log ≤ 9223372036854775807) :
    Calls Try.prog 7 #[.slice A n cap, .int .i64 by', .int .i64 log] w fun e w' => e = .returned (.bool true) ∧ Below w.heap.size w w' := by
  have hc := counts_c A n cap xs w h hr
  have hM1 := mod_any by' 9 hm0 hm1 (by omega) (by omega)
  have hM2 := mod_any log 7 hm2 hm3 (by omega) (by omega)
  obtain ⟨M, hMM⟩ : ∃ M : Nat, 6 + log % 7 = M := ⟨(6 + log % 7).toNat, by omega⟩
  have h6 : 6 ≤ M := by omega
  have h12 : M ≤ 12 := by omega
  obtain ⟨K, hKK⟩ : ∃ K : Int, 1 + by' % 9 = K := ⟨_, rfl⟩
  have hK1 : 1 ≤ K := by omega
  have hK9 : K ≤ 9 := by omega
  generalize log % 7 = r2 at *
  generalize by' % 9 = r1 at *
  clear h hr hm0 hm1 hm2 hm3
  go_enter Try.func7, Try.ntmps7
  go_wp2_with (first
    | (go_at_call 22; (with_reducible refine Calls.mono hc ?_); rintro e w1 ⟨A0, c0, m, L, rfl, hcn, hm1, hI, hb⟩; have HB := Lib.hid hb; clear hb)
    | (go_at_call 23; first
        | (have MX := M1; clear M1 MX; (with_reducible refine Calls.mono (hM2 _) ?_); rintro e w2 ⟨rfl, rfl⟩)
        | ((with_reducible refine Calls.mono (hM1 _) ?_); rintro e w2 ⟨rfl, rfl⟩; have M1 : Hid True := Lib.hid trivial)))
  obtain ⟨m1, rfl⟩ : ∃ m1, m = m1 + 1 := ⟨m - 1, by omega⟩
  have HI := Lib.hid hI
  have HCN := Lib.hid hcn
  have hm40 := hcn.2.1
  have HCL := Lib.hid hcn.1
  have HMS := Lib.hid (mul_same hcn hm1 hK1 hK9 h6 h12)
  have HRL := Lib.hid (cn_refE hcn hm1 h6 h12)
  have HAL := Lib.hid (alone_dis (m := m1) (by omega) hK1 hK9 h6 h12)
  have hnil := World.ownsRow_nil w1 w1.heap.size 3 1
  clear hcn hI hMM hKK hM1 hM2 hc
  go_loopw [11, 12] (fun v i wr => ∃ j : Nat, j ≤ m1 + 1 ∧ i = .int .i64 (j : Int) ∧ wr.ownsRow w1.heap.size 3 1 v j ((mulL K (L.take j)).map (Value.int .i64)) ∧ Below w1.heap.size w1 wr) (fun _ i _ => m1 + 1 - (intOf i).toNat)
  case atStart => exact ⟨0, by omega, rfl, hnil, Below.refl _ _⟩
  case round =>
    obtain ⟨j, hj, rfl, hown, hbw⟩ := hrel
    by_cases hlt : j < m1 + 1
    · obtain ⟨b, off, rfl, hb, hc⟩ := HI.out (by rw [HCL.out]; omega)
      have hcell := (hbw.cell (p := ⟨b, off + j, none⟩) hb).trans (hc j (by rw [HCL.out]; exact hlt))
      have hsn := Lib.hid (mulL_snoc (K := K) (L := L) (j := j) (by rw [HCL.out]; exact hlt))
      have hz := HCN.out.2.2.2 j hlt
      have hq := Int.mul_le_mul hz.2 hK9 (by omega) (by omega)
      have hq0 : 0 ≤ L.getD j 0 * K := Int.mul_nonneg hz.1 (by omega)
      clear hc
      generalize L.getD j 0 = x at *
      obtain ⟨p, hp⟩ : ∃ p, x * K = p := ⟨_, rfl⟩
      rw [hp] at hq hq0 hsn
      have hp0 : p ≤ 9437184 := by omega
      clear hq
      go_wp2_with (at_builtin; refine append_one rfl (.tmp 37) (.tmp 44) rfl w1.heap.size u11 j (mulL K (L.take j)) p rfl hown rfl ?c1 ?c2 ?_)
      case c1 => omega
      case c2 => exact hbw.size
      intro v' w2 hown2 hg
      have hlt' := hown.lt
      have hb' := (hbw.alloc hbw.size (.cells #[.int .i64 p] 3)).grown hg (by have := hbw.size; simp; omega) (fun q hq => (hlt' q hq).1)
      have hown3 := Lib.hid hown2
      clear hown2 hown hg hlt'
      go_wp2
      go_roundw
      case rel => exact ⟨j + 1, by omega, by go_num, by rw [hsn.out, List.map_append]; exact hown3.out, hb'⟩
      case measure => simp [intOf]; omega
    · obtain rfl : j = m1 + 1 := by omega
      rw [List.take_of_length_le (by rw [HCL.out]; omega)] at hown
      obtain ⟨A1, c1, rfl, hI1⟩ := ints_of_own hown
      have hml : (mulL K L).length = m1 + 1 := by rw [mulL_length]; exact HCL.out
      have hml' := Lib.hid hml
      rw [hml]
      have hIL := nextI HI.out hbw
      have HBw := below_call HB.out hbw
      obtain ⟨wo, rfl⟩ : ∃ wo : World, wo = wr := ⟨_, rfl⟩
      have hdl := Lib.hid (stl_length HRL.out)
      have hmk : ∀ W, (Instr.makeSlice 23 (.int .i64 ((m1 : Int) + 1)) (.int .i64 ((m1 : Int) + 1))).run Try.prog W = .ok (.slice (some ⟨W.heap.size, 0, none⟩) (m1 + 1) (m1 + 1)) (W.alloc (.cells (madeCells #[.int .i64 0] (m1 + 1)) 3)) := fun W => by
        have k := run_make_row' (P := Try.prog) 23 3 (.int .i64 0) 8 Try.underlying23 info3 rfl .i64 .i64 (m1 + 1) (by omega) (by omega) W
        push_cast at k
        exact k
      have HDL : Hid ((disL L (M : Int)).length = lst L + 1) := Lib.hid (by unfold disL; rw [if_pos HRL.out, Int.toNat_natCast]; exact stl_length HRL.out)
      have hl40 : lst L < 40 := by
        have := (lst_top (refE_zero HRL.out).1 (refE_zero HRL.out).2.1).2.1
        rw [HCL.out] at this; omega
      have hw := pow_wrap (show 5 ≤ M by omega) h12
      clear hown hml hlt hbw hnil
      go_wp2_with (first
        | (go_at_call 10; first
            | (have MX := N2; clear N2 MX; (with_reducible refine Calls.mono (with_at (m1 + 1) M (m1 + 1) (al_ints _ _ m1 K (by omega) (by simp only [World.size_alloc])) (alone_length m1 K) (by omega) HAL.out.1 HAL.out.2 (alone_length m1 _)) ?_); rintro e w7 ⟨A7, c7, rfl, h7I, hb⟩; replace HBw := below_call (below_box HBw _) hb; replace h5I := nextI (nextI h5I (below_box (Below.refl _ _) _)) hb; replace h6I := nextI (nextI h6I (below_box (Below.refl _ _) _)) hb; replace k5 := blk_below (blk_alloc k5 _) hb (blk_lt (blk_alloc k5 _)); replace k6 := blk_below (blk_alloc k6 _) hb (blk_lt (blk_alloc k6 _)); clear hb; have hq := below_box (Below.refl w7.heap.size w7) (.cells #[.int .i64 (M : Int), .slice A7 (m1 + 1) c7] 25); replace h5I := nextI h5I hq; replace h6I := nextI h6I hq; replace h7I := nextI h7I hq; have k7 := blk_new w7 25 #[.int .i64 (M : Int), .slice A7 (m1 + 1) c7]; replace k5 := blk_alloc k5 (.cells #[.int .i64 (M : Int), .slice A7 (m1 + 1) c7] 25); replace k6 := blk_alloc k6 (.cells #[.int .i64 (M : Int), .slice A7 (m1 + 1) c7] 25); replace HBw := below_box HBw (.cells #[.int .i64 (M : Int), .slice A7 (m1 + 1) c7] 25); clear hq; obtain ⟨b7, o7, rfl, hlt7, hc7⟩ := h7I (by rw [alone_length]; omega); have d7 := hc7 m1 (by rw [alone_length]; omega); rw [alone_getD, if_pos rfl] at d7; clear hc7 h7I; obtain ⟨p0, p1, p2, p3⟩ := dist_facts k5; obtain ⟨q0, q1, q2, q3⟩ := dist_facts k6)
            | (have MX := N1; clear N1 MX; (with_reducible refine Calls.mono (with_at c1 M (lst L + 1) hI1 hml'.out (by omega) HMS.out.1 HMS.out.2 HDL.out) ?_); rintro e w6 ⟨A6, c6, rfl, h6I, hb⟩; replace HBw := below_call HBw hb; replace h5I := nextI h5I hb; replace k5 := blk_below k5 hb (blk_lt k5); clear hb hI1; have N2 : Hid True := Lib.hid trivial; have k6 := blk_new w6 25 #[.int .i64 (M : Int), .slice A6 (lst L + 1) c6]; have hq := below_box (Below.refl w6.heap.size w6) (.cells #[.int .i64 (M : Int), .slice A6 (lst L + 1) c6] 25); replace h5I := nextI h5I hq; replace h6I := nextI h6I hq; replace k5 := blk_alloc k5 (.cells #[.int .i64 (M : Int), .slice A6 (lst L + 1) c6] 25); replace HBw := below_box HBw (.cells #[.int .i64 (M : Int), .slice A6 (lst L + 1) c6] 25); clear hq)
            | ((with_reducible refine Calls.mono (with_at c0 M (lst L + 1) hIL HCL.out (by omega) HRL.out rfl HDL.out) ?_); rintro e w5 ⟨A5, c5, rfl, h5I, hb⟩; replace HBw := below_call HBw hb; replace hI1 := nextI hI1 hb; clear hb hIL; have N1 : Hid True := Lib.hid trivial; have k5 := blk_new w5 25 #[.int .i64 (M : Int), .slice A5 (lst L + 1) c5]; have hq := below_box (Below.refl w5.heap.size w5) (.cells #[.int .i64 (M : Int), .slice A5 (lst L + 1) c5] 25); replace h5I := nextI h5I hq; replace hI1 := nextI hI1 hq; replace HBw := below_box HBw (.cells #[.int .i64 (M : Int), .slice A5 (lst L + 1) c5] 25); clear hq))
        | (go_at_call 11; (with_reducible refine Calls.mono (same_n A5 A6 c5 c6 (lst L + 1) (disL L (M : Int)) HDL.out _ (by omega) h5I h6I) ?_); rintro e w8 ⟨rfl, hb⟩; replace HBw := below_call HBw hb; replace k7 := blk_below k7 hb (blk_lt k7); have e7 := (hb.cell (p := ⟨b7, o7 + m1, none⟩) hlt7).trans d7; clear hb p0 p1 p2 p3 q0 q1 q2 q3 d7; obtain ⟨p0, p1, p2, p3⟩ := dist_facts k7)
        | (go_at_call 14; (with_reducible refine Calls.mono (awake_any _) ?_); rintro e w9 ⟨rfl, hb⟩; replace HBw := below_call HBw hb; clear hb))
      · go_ret
        exact ⟨rfl, HBw⟩
      all_goals (exfalso; rename ((madeCells _ _)[_]? = none) => hx; rw [made_get] at hx; cases hx)
end Go.Proofs.Ytjldbabggmmkdaa
