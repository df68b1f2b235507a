/-
  NormShares.
-/
import Derived.Test.YtjldbabggmmkdaaN7U
namespace Go.Proofs.Ytjldbabggmmkdaa
open Go.ChangeShapes Go.WideShapes Go.ChangeAt Go.RowKit Go.Shelf
set_option linter.unusedVariables false
set_option linter.unusedSimpArgs false

theorem weight_c (p : Int) (hp : -1 ≤ p) (w : World) : Calls Try.prog 24 #[.int .i64 p] w fun e w' => e = .returned (.int .i64 (wth p)) ∧ w' = w := by
  unfold wth
  by_cases h : p = -1
  · subst h
    rw [if_pos rfl]
    go_enter Try.func24, Try.ntmps24
    go_wp2
    go_ret
    exact ⟨rfl, rfl⟩
  · rw [if_neg h]
    have h0 : ¬ p < 0 := by omega
    go_enter Try.func24, Try.ntmps24
    go_wp2
    go_ret
    exact ⟨rfl, rfl⟩
theorem shr_word {x P S : Int} (h0 : 0 ≤ x) (h1 : x ≤ 1048576) (hP : 32 ≤ P ∧ P ≤ 4096) (hS : 1 ≤ S) : wrap64 ((wrap64 (x * P)).tdiv S) = x * P / S := by
  have hm := Int.mul_le_mul h1 hP.2 (by omega) (by omega)
  have hn : 0 ≤ x * P := Int.mul_nonneg h0 (by omega)
  generalize x * P = Q at *
  have e : wrap64 Q = Q := by unfold wrap64; omega
  rw [e, Int.tdiv_eq_ediv_of_nonneg hn]
  have a : 0 ≤ Q / S := Int.ediv_nonneg hn (by omega)
  have b : Q / S ≤ Q := Int.ediv_le_self _ hn
  generalize Q / S = R at *
  unfold wrap64; omega
theorem with_cn {A : Option Addr} {m : Nat} {L : List Int} (c M : Nat) {w : World} (hI : IntsAt w w.heap.size A L) (h : Cn m L) (h1 : 1 ≤ m) (h6 : 6 ≤ M) (h12 : M ≤ 12) :
    Calls Try.prog 10 #[.slice A m c, .int .i64 (M : Int)] w fun e w' => ∃ (A' : Option Addr) (c' : Nat), e = .returned (.tuple #[.agg #[.int .i64 (M : Int), .slice A' (lst L + 1) c'], .int .i64 0]) ∧ IntsAt w' w'.heap.size A' (stl L (shl L (2 ^ M)) (2 ^ M)) ∧ Below w.heap.size w w' := by
  have hr := cn_refE h h1 h6 h12
  have e : disL L (M : Int) = stl L (shl L (2 ^ M)) (2 ^ M) := by unfold disL; rw [if_pos hr, Int.toNat_natCast]
  exact with_at c M (lst L + 1) hI h.1 (by have := h.2.1; omega) hr e (stl_length hr)
set_option maxRecDepth 100000 in
set_option maxHeartbeats 2000000 in
theorem normShares_any (A : Option Addr) (n cap : Nat) (log : Int) (xs : List Int) (w : World) (h : Cts w A n xs) (hr : ∀ x ∈ xs, -9223372036854775808 ≤ x ∧ x ≤ 9223372036854775807) (hm0 : -9223372036854775808 ≤ log) (hm1 : log ≤ 9223372036854775807) :
    Calls Try.prog 8 #[.slice A n cap, .int .i64 log] w fun e w' => e = .returned (.bool true) ∧ Below w.heap.size w w' := by
  have hc := counts_c A n cap xs w h hr
  have hM := mod_any log 7 hm0 hm1 (by omega) (by omega)
  obtain ⟨M, hMM⟩ : ∃ M : Nat, 6 + log % 7 = M := ⟨(6 + log % 7).toNat, by omega⟩
  have h6 : 6 ≤ M := by omega
  have h12 : M ≤ 12 := by omega
  generalize log % 7 = r at *
  clear h hr hm0 hm1
  go_enter Try.func8, Try.ntmps8
  go_wp2_with (first
    | (go_at_call 22; (with_reducible refine Calls.mono hc ?_); rintro e w1 ⟨A0, c0, m, L, rfl, hcn, hm1, hI, hb⟩; have HB := hb; clear hb)
    | (go_at_call 23; (with_reducible refine Calls.mono (hM _) ?_); rintro e w2 ⟨rfl, rfl⟩)
    | (go_at_call 10; (with_reducible refine Calls.mono (with_cn c0 M hI hcn hm1 h6 h12) ?_); rintro e w3 ⟨A', c', rfl, hp, hb⟩; replace hI := nextI hI hb; replace HB := below_call HB hb; clear hb; have k8 := blk_new w3 25 #[.int .i64 (M : Int), .slice A' (lst L + 1) c']; have hq := below_box (Below.refl w3.heap.size w3) (.cells #[.int .i64 (M : Int), .slice A' (lst L + 1) c'] 25); replace hI := nextI hI hq; replace hp := nextI hp hq; replace HB := below_box HB (.cells #[.int .i64 (M : Int), .slice A' (lst L + 1) c'] 25); clear hq; obtain ⟨p0, p1, p2, p3⟩ := dist_facts k8; have V4 := Lib.hid (cn_refE hcn hm1 h6 h12); have hcl := hcn.1; have hll : lst L + 1 ≤ m := (by (have l2 := (lst_top (refE_zero V4.out).1 (refE_zero V4.out).2.1).2.1; omega)); have hz0 : (((lst L : Nat) : Int) + 1 == 0) = false := (by (rw [beq_eq_false_iff_ne]; omega)); have hdl : decide (((m : Nat) : Int) < ((lst L : Nat) : Int) + 1) = false := decide_eq_false (by omega); have HCN := Lib.hid hcn; have HI := Lib.hid hI; have HP := Lib.hid hp; clear hcn hI hp))
  obtain ⟨o1, o2⟩ := stl_ord V4.out
  obtain ⟨f1, f2, f3, f4⟩ := stl_facts V4.out
  obtain ⟨q1, q2, q3⟩ := stl_sum V4.out
  have hw := pow_wrap (show 5 ≤ M by omega) h12
  have hpw := Lib.hid (pow_in (show 5 ≤ M by omega) h12)
  obtain ⟨g1, g2, g3, g4⟩ := cn_right HCN.out hm1
  obtain ⟨t1, t2, t3, t4⟩ := tot_cnt g1
  rw [g2] at o2 t1 t4
  have hs1 : 1 ≤ L.sum := by omega
  have hs2 : L.sum ≤ 1099511627776 := t4
  have F1 := Lib.hid f1
  have Q3 := Lib.hid q3
  have O1 := Lib.hid o1
  have O2 := Lib.hid o2
  have hcl2 := Lib.hid hcl
  have hgr : gr L = grst L m := by unfold gr; rw [hcl]
  have hgr' := Lib.hid hgr
  clear f1 f2 f3 f4 q1 q2 q3 o1 o2 g1 g2 g3 g4 t1 t2 t3 t4 hcl hgr k8
  generalize w3.alloc (.cells #[.int .i64 (M : Int), .slice A' (lst L + 1) c'] 25) = W at *
  generalize stl L (shl L (2 ^ M)) (2 ^ M) = out at *
  have hm40 := HCN.out.2.1
  generalize lst L = lz at *
  generalize L.sum = S at *
  clear hc hM hMM
  go_loopw [10, 11] (fun b s wr => ∃ k d : Nat, k ≤ m ∧ s = .int .i64 (k : Int) ∧ b = .int .i64 (grst L k : Nat) ∧ wr = W.drewN d) (fun _ s _ => m - (intOf s).toNat)
  case atStart => exact ⟨0, 0, by omega, rfl, rfl, rfl⟩
  case round =>
    obtain ⟨k, d, hk, rfl, rfl, rfl⟩ := hrel
    by_cases hkm : k < m
    · obtain ⟨b, off, rfl, _, hc1⟩ := HI.out (by rw [hcl2.out]; omega)
      have hstep : grst L (k + 1) = if L.getD (grst L k) 0 < L.getD k 0 then k else grst L k := rfl
      have hgk : grst L k < m := by have := grst_lt0 (zs := L) (k := k) (by rw [hcl2.out]; exact hkm); rw [hcl2.out] at this; exact this
      have d1 := hc1 k (by rw [hcl2.out]; exact hkm)
      have d2 := hc1 (grst L k) (by rw [hcl2.out]; exact hgk)
      clear hc1
      have hstep' := Lib.hid hstep
      clear hstep
      obtain ⟨g, hg⟩ : ∃ g, grst L k = g := ⟨_, rfl⟩
      rw [hg] at hstep' d2 hgk ⊢
      clear hg
      by_cases hlt : L.getD g 0 < L.getD k 0
      · have hst := hstep'.out
        rw [if_pos hlt] at hst
        have hst' := Lib.hid hst
        clear hst hstep'
        generalize L.getD g 0 = y at *
        generalize L.getD k 0 = x at *
        go_wp2
        go_quiet (fail)
        go_wp2
        go_roundw
        case rel => exact ⟨k + 1, _, by omega, by go_num, by rw [hst'.out], rfl⟩
        case measure => simp [intOf]; omega
      · have hst := hstep'.out
        rw [if_neg hlt] at hst
        have hst' := Lib.hid hst
        clear hst hstep'
        generalize L.getD g 0 = y at *
        generalize L.getD k 0 = x at *
        go_wp2
        go_quiet (fail)
        go_wp2
        go_roundw
        case rel => exact ⟨k + 1, _, by omega, by go_num, by rw [hst'.out], rfl⟩
        case measure => simp [intOf]; omega
    · obtain rfl : k = m := by omega
      go_wp2
      go_loopw [12, 13] (fun s t wr => ∃ i d : Nat, i ≤ lz + 1 ∧ s = .int .i64 (i : Int) ∧ wr = W.drewN d) (fun s _ _ => lz + 1 - (intOf s).toNat)
      case atStart => exact ⟨0, _, by omega, rfl, rfl⟩
      case round =>
        obtain ⟨i, d2, hi, rfl, rfl⟩ := hrel
        by_cases hil : i < lz + 1
        · obtain ⟨b, off, rfl, _, hc1⟩ := HI.out (by rw [hcl2.out]; omega)
          obtain ⟨b2, off2, rfl, _, hc2⟩ := HP.out (by rw [F1.out]; omega)
          have hik : i < k := by omega
          have hdi : decide ((i : Int) < (lz : Int) + 1) = true := decide_eq_true (by omega)
          have d1 := hc1 i (by rw [hcl2.out]; omega)
          have d3 := hc2 i (by rw [F1.out]; exact hil)
          have HC1 := Lib.hid hc1
          have HC2 := Lib.hid hc2
          have hz := HCN.out.2.2.2 i (by omega)
          have hpb := Q3.out _ (mem_getD (show i < out.length by rw [F1.out]; exact hil))
          have ob := Lib.hid (O2.out i hil)
          obtain ⟨x, hx⟩ : ∃ x, L.getD i 0 = x := ⟨_, rfl⟩
          obtain ⟨p, hp⟩ : ∃ p, out.getD i 0 = p := ⟨_, rfl⟩
          rw [hx] at d1 hz ob
          rw [hp] at d3 hpb ob
          have hx' := Lib.hid hx
          have hp' := Lib.hid hp
          clear hc1 hc2 hx hp
          go_wp2
          have hii : (i : Int) < (lz : Int) + 1 := by omega
          go_loopw [13] (fun t wr => ∃ j d : Nat, j ≤ lz + 1 ∧ t = .int .i64 (j : Int) ∧ wr = W.drewN d) (fun t _ => lz + 1 - (intOf t).toNat)
          case atStart => exact ⟨0, _, by omega, rfl, rfl⟩
          case round =>
            obtain ⟨j, d4, hj, rfl, rfl⟩ := hrel
            by_cases hjl : j < lz + 1
            · have hjk : j < k := by omega
              have d5 := HC1.out j (by rw [hcl2.out]; omega)
              have d6 := HC2.out j (by rw [F1.out]; exact hjl)
              have hpj := Q3.out _ (mem_getD (show j < out.length by rw [F1.out]; exact hjl))
              have ho := O1.out i j hil hjl
              rw [hx'.out, hp'.out] at ho
              generalize L.getD j 0 = y at *
              generalize out.getD j 0 = q at *
              by_cases hxy : y < x
              · have d0 : decide (y < x) = true := decide_eq_true hxy
                have hcp := weight_c p hpb.1
                have hcq := weight_c q hpj.1
                have ho1 := ho hxy
                have hq0 := wth_nonneg hpj.1
                have hq1 : wth q ≤ 4096 := by unfold wth; split <;> omega
                clear ho
                generalize wth p = u at *
                generalize wth q = v at *
                have hdc : decide (u < v - 1) = false := decide_eq_false (by omega)
                have hwr : wrap64 (v - 1) = v - 1 := by unfold wrap64; omega
                clear ho1 hq0 hq1
                go_wp2
                go_quiet (first
                  | (go_at_call 24; exact (hcp _).mono (fun _ _ ⟨he, hw⟩ => ⟨he, _, hw⟩))
                  | (go_at_call 24; exact (hcq _).mono (fun _ _ ⟨he, hw⟩ => ⟨he, _, hw⟩)))
                go_wp2
                go_roundw
                case rel => exact ⟨j + 1, _, by omega, by go_num, rfl⟩
                case measure => simp [intOf]; omega
              · have d0 : decide (y < x) = false := decide_eq_false hxy
                clear ho
                go_wp2
                go_quiet (fail)
                go_wp2
                go_roundw
                case rel => exact ⟨j + 1, _, by omega, by go_num, rfl⟩
                case measure => simp [intOf]; omega
            · obtain rfl : j = lz + 1 := by omega
              rw [hgr'.out] at ob
              have hsw := shr_word hz.1 hz.2 hpw.out hs1
              by_cases hib : i = grst L k
              · have d0 : ((i : Int) != ((grst L k : Nat) : Int)) = false := by rw [hib]; simp
                clear hib hsw
                go_wp2
                go_quiet (fail)
                go_wp2
                go_roundw
                case rel => exact ⟨i + 1, _, by omega, by go_num, rfl⟩
                case measure => simp [intOf]; omega
              · have d0 : ((i : Int) != ((grst L k : Nat) : Int)) = true := by simp; omega
                have hbd := ob.out hib
                rw [← hsw] at hbd
                have hdc : decide (wrap64 ((wrap64 (x * 2 ^ M)).tdiv S) < p) = false := decide_eq_false (by omega)
                clear hib hsw hbd
                go_wp2
                go_quiet (fail)
                go_wp2
                go_roundw
                case rel => exact ⟨i + 1, _, by omega, by go_num, rfl⟩
                case measure => simp [intOf]; omega
        · obtain rfl : i = lz + 1 := by omega
          go_wp2_with (go_at_call 14; (with_reducible refine Calls.mono (awake_any _) ?_); rintro e w6 ⟨rfl, hb⟩)
          go_ret
          exact ⟨rfl, below_call (Below.drewN' HB _) hb⟩
end Go.Proofs.Ytjldbabggmmkdaa
