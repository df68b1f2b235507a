/-
  NormSizes.
-/
import Derived.Test.YtjldbabggmmkdaaN7S
namespace Go.Proofs.Ytjldbabggmmkdaa
open Go.ChangeShapes Go.WideShapes Go.ChangeAt Go.RowKit Go.Shelf
set_option linter.unusedVariables false
set_option linter.unusedSimpArgs false

theorem of_cn {A : Option Addr} {m : Nat} {L : List Int} (c M : Nat) {w : World} (hI : IntsAt w w.heap.size A L) (hc : Cn m L) (h1 : 1 ≤ m) (h6 : 6 ≤ M) (h12 : M ≤ 12) :
    Calls Try.prog 12 #[.slice A m c, .int .i64 (M : Int)] w fun e w' => ∃ (V : Nat) (A' : Option Addr) (c' : Nat), e = .returned (.tuple #[.agg #[.int .i64 (V : Int), .slice A' (lst L + 1) c'], .int .i64 0]) ∧ logV L (M : Int) = V ∧ 5 ≤ V ∧ V ≤ M ∧ refE L (V : Int) = 0 ∧ IntsAt w' w'.heap.size A' (stl L (shl L (2 ^ V)) (2 ^ V)) ∧ Below w.heap.size w w' := by
  have ho := of_c (A := A) (n := m) (zs := L) c (M : Int) (w := w) ⟨hc.1, by have := hc.2.1; omega, hI⟩
  have hr := cn_refE hc h1 h6 h12
  obtain ⟨V, v1, v2, v3, v4⟩ := cn_log hc h1 h6 h12
  unfold ofG ofL ofE at ho
  rw [if_pos hr, if_pos hr, if_pos hr, v1] at ho
  unfold disG disL at ho
  rw [if_pos v4, if_pos v4, v4, Int.toNat_natCast] at ho
  refine Calls.mono ho ?_
  rintro e w' ⟨A', c', rfl, a, b, _⟩
  rw [stl_length v4]
  exact ⟨V, A', c', rfl, v1, v2, v3, v4, a, b⟩
theorem log_cn {A : Option Addr} {m : Nat} {L : List Int} (c M V : Nat) {w : World} (hI : IntsAt w w.heap.size A L) (hc : Cn m L) (h1 : 1 ≤ m) (h6 : 6 ≤ M) (h12 : M ≤ 12) (hV : logV L (M : Int) = V) :
    Calls Try.prog 16 #[.slice A m c, .int .i64 (M : Int)] w fun e w' => e = .returned (.tuple #[.int .i64 (V : Int), .int .i64 0]) ∧ Below w.heap.size w w' := by
  have ho := log_c (A := A) (n := m) (zs := L) c (M : Int) (w := w) ⟨hc.1, by have := hc.2.1; omega, hI⟩
  rw [hV, cn_refE hc h1 h6 h12] at ho
  exact ho
theorem sum_cn {A : Option Addr} {L : List Int} (c V : Nat) {w : World} (hI : IntsAt w w.heap.size A (stl L (shl L (2 ^ V)) (2 ^ V))) (h0 : refE L (V : Int) = 0) :
    Calls Try.prog 13 #[.slice A (lst L + 1) c] w fun e w' => e = .returned (.tuple #[.int .i64 (2 ^ V), .int .i64 0]) ∧ w' = w := by
  obtain ⟨a, b, _⟩ := stl_sum h0
  obtain ⟨k0, k1, _⟩ := refE_zero h0
  have l2 := (lst_top k0 k1).2.1
  have g256 := (good_of k0).1
  have ho := sum_c (A := A) (n := lst L + 1) (zs := stl L (shl L (2 ^ V)) (2 ^ V)) c (w := w) ⟨stl_length h0, by omega, hI⟩
  rw [a, b] at ho
  exact ho

set_option maxRecDepth 100000 in
set_option maxHeartbeats 2000000 in
theorem normSizes_any (A : Option Addr) (n cap : Nat) (most : Int) (xs : List Int) (w : World) (h : Cts w A n xs) (hr : ∀ x ∈ xs, -9223372036854775808 ≤ x ∧ x ≤ 9223372036854775807) (hm0 : -9223372036854775808 ≤ most) (hm1 : most ≤ 9223372036854775807) :
    Calls Try.prog 6 #[.slice A n cap, .int .i64 most] w fun e w' => e = .returned (.bool true) ∧ Below w.heap.size w w' := by
  have hc := counts_c A n cap xs w h hr
  have hM := mod_any most 7 hm0 hm1 (by omega) (by omega)
  obtain ⟨M, hMM⟩ : ∃ M : Nat, 6 + most % 7 = M := ⟨(6 + most % 7).toNat, by omega⟩
  have h6 : 6 ≤ M := by omega
  have h12 : M ≤ 12 := by omega
  generalize most % 7 = r at *
  clear h hr hm0 hm1
  go_enter Try.func6, Try.ntmps6
  go_wp2_with (first
    | (go_at_call 22; (with_reducible refine Calls.mono hc ?_); rintro e w1 ⟨A0, c0, m, L, rfl, hcn, hm1, hI, hb⟩; have HB := hb; clear hb)
    | (go_at_call 23; (with_reducible refine Calls.mono (hM _) ?_); rintro e w2 ⟨rfl, rfl⟩)
    | (go_at_call 12; (with_reducible refine Calls.mono (of_cn c0 M hI hcn hm1 h6 h12) ?_); rintro e w3 ⟨V, A', c', rfl, v1, v2, v3, v4, hp, hb⟩; replace hI := nextI hI hb; replace HB := below_call HB hb; clear hb; have k8 := blk_new w3 25 #[.int .i64 (V : Int), .slice A' (lst L + 1) c']; have hq := below_box (Below.refl w3.heap.size w3) (.cells #[.int .i64 (V : Int), .slice A' (lst L + 1) c'] 25); replace hI := nextI hI hq; replace hp := nextI hp hq; replace HB := below_box HB (.cells #[.int .i64 (V : Int), .slice A' (lst L + 1) c'] 25); clear hq)
    | (go_at_call 16; (with_reducible refine Calls.mono (log_cn c0 M V hI hcn hm1 h6 h12 v1) ?_); rintro e w4 ⟨rfl, hb⟩; replace hI := nextI hI hb; replace hp := nextI hp hb; replace k8 := blk_below k8 hb (blk_lt k8); replace HB := below_call HB hb; clear hb; obtain ⟨p0, p1, p2, p3⟩ := dist_facts k8)
    | (go_at_call 13; (with_reducible refine Calls.mono (sum_cn c' V hp v4) ?_); rintro e w5 ⟨rfl, rfl⟩; have V4 := Lib.hid v4; have hw := pow_wrap v2 (show V ≤ 12 by omega); have hcl := hcn.1; have hll : lst L + 1 ≤ m := (by (have l2 := (lst_top (refE_zero v4).1 (refE_zero v4).2.1).2.1; omega)); have HCN := Lib.hid hcn; have HI := Lib.hid hI; have HP := Lib.hid hp; clear v4 v1 hcn hI hp; have hvm : (V : Int) ≤ (M : Int) := (by omega)))
  obtain ⟨f1, f2, f3, f4⟩ := stl_facts V4.out
  obtain ⟨q1, q2, q3⟩ := stl_sum V4.out
  obtain ⟨l1, l2, l3, l4⟩ := lst_top (refE_zero V4.out).1 (refE_zero V4.out).2.1
  have F1 := Lib.hid f1
  have F4 := Lib.hid f4
  have Q3 := Lib.hid q3
  have L3 := Lib.hid l3
  have L4 := Lib.hid l4
  have hcl2 := Lib.hid hcl
  clear f1 f2 f3 f4 q1 q2 q3 l1 l3 l4 hcl
  generalize stl L (shl L (2 ^ V)) (2 ^ V) = out at *
  have hlst : lst L < L.length := l2
  clear l2
  generalize lst L = lz at *
  obtain ⟨p0, p1, p2, p3⟩ := dist_facts k8
  have hm40 := HCN.out.2.1
  have hlz40 : lz < 40 := by have := hcl2.out; omega
  clear v3 hlst
  go_loop [14, 15] (fun s p => ∃ k : Nat, k ≤ m ∧ s = .int .i64 (k : Int)) (fun s _ => m - (intOf s).toNat)
  case atStart => exact ⟨0, by omega, rfl⟩
  case round =>
    obtain ⟨k, hk, rfl⟩ := hrel
    by_cases hkm : k < m
    · obtain ⟨b, off, rfl, _, hc1⟩ := HI.out (by rw [hcl2.out]; omega)
      have d1 := hc1 k (by rw [hcl2.out]; exact hkm)
      have hz := (HCN.out.2.2.2 k hkm).1
      clear hc1
      by_cases hkz : k < lz + 1
      · obtain ⟨b2, off2, rfl, _, hc2⟩ := HP.out (by rw [F1.out]; omega)
        have d2 := hc2 k (by rw [F1.out]; exact hkz)
        have hpat := F4.out k hkz
        have hpb := (Q3.out _ (mem_getD (show k < out.length by rw [F1.out]; exact hkz))).1
        have hlast : k = lz → ¬ L.getD k 0 = 0 := fun h => by have := L3.out; rw [h]; omega
        clear hc2
        generalize L.getD k 0 = z at *
        generalize out.getD k 0 = p at *
        obtain ⟨β, e1, e2⟩ : ∃ β, (p == 0) = β ∧ (z == 0) = β := ⟨_, rfl, by rw [Bool.eq_iff_iff]; simp only [beq_iff_eq]; exact hpat.symm⟩
        have hpl : ¬ p < -1 := by omega
        by_cases hkl : k = lz
        · have hz0 := hlast hkl
          have hkb : ((k : Int) == (lz : Int)) = true := by rw [hkl]; simp
          obtain rfl : β = false := by rw [← e2]; simpa using hz0
          clear hpat hlast hz0 hkl
          go_wp2
          go_round
          case rel => exact ⟨k + 1, by omega, by go_num⟩
          case measure => simp [intOf]; omega
        · have hkb : ((k : Int) == (lz : Int)) = false := by simp; omega
          clear hpat hlast hkl
          go_wp2
          go_round
          case rel => exact ⟨k + 1, by omega, by go_num⟩
          case measure => simp [intOf]; omega
      · have hz0 : L.getD k 0 = 0 := by
          refine Classical.byContradiction fun hx => ?_
          have := L4.out k (by rw [hcl2.out]; exact hkm) (by omega)
          omega
        have hkb : ((k : Int) == (lz : Int)) = false := by simp; omega
        rw [hz0] at d1
        clear hz hz0
        go_wp2
        go_round
        case rel => exact ⟨k + 1, by omega, by go_num⟩
        case measure => simp [intOf]; omega
    · obtain rfl : k = m := by omega
      go_wp2_with (go_at_call 14; (with_reducible refine Calls.mono (awake_any _) ?_); rintro e w6 ⟨rfl, hb⟩)
      go_ret
      exact ⟨rfl, below_call HB hb⟩
end Go.Proofs.Ytjldbabggmmkdaa
