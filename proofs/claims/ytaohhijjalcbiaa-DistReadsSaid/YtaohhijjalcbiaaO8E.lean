/-
  Package dist: zeros of a description; a description written.
-/
import Derived.Test.YtaohhijjalcbiaaO8D
namespace Go.Proofs.Ytaohhijjalcbiaa
open Go.ChangeShapes Go.WideShapes Go.ChangeAt Go.RowKit
set_option linter.unusedVariables false
set_option linter.unusedSimpArgs false

theorem nonzero_c (x : Int) (r : Bool) (hr : (x != 0) = r) (w : World) : Calls Try.prog 72 #[.int .i64 x] w fun e w' => e = .returned (.bool r) ∧ w = w' := by
  go_enter Try.func72, Try.ntmps72
  go_wp2
  go_ret
  exact ⟨rfl, rfl⟩
theorem indexFunc_c (A : Option Addr) (n cap B : Nat) (ps : List Int) (w : World) (hl : ps.length = n) (hn : n ≤ 1000000) (hz : zr ps < n) (h : IntsAt w B A ps) :
    Calls Try.prog 71 #[.slice A n cap, .func (.func 72) #[] #[]] w fun e w' => e = .returned (.int .i64 (zr ps : Nat)) ∧ w = w' := by
  subst hl
  obtain ⟨b, off, rfl, hb, hc⟩ := h (by omega)
  have HC := Lib.hid hc
  have HZ := Lib.hid (zr_zero ps)
  have HS := Lib.hid (zr_stop ps hz)
  clear hc h
  generalize hq : zr ps = q at *
  clear hq
  go_enter Try.func71, Try.ntmps71
  go_wp2
  go_loop [5, 8] (fun _ i => ∃ k : Nat, k ≤ q ∧ i = .int .i64 (k : Int)) (fun _ i => ps.length - (intOf i).toNat)
  case atStart => exact ⟨0, by omega, rfl⟩
  case round =>
    obtain ⟨k, hk, rfl⟩ := hrel
    have hlt : k < ps.length := by omega
    have hcell := HC.out k hlt
    by_cases hkq : k < q
    · rw [HZ.out k hkq] at hcell
      have hv := fun u => nonzero_c 0 false rfl u
      go_wp2_with (go_at_call 72; (with_reducible refine (hv _).mono ?_); rintro e w1 ⟨rfl, rfl⟩)
      go_round
      case rel => exact ⟨k + 1, by omega, by go_num⟩
      case measure => simp [intOf]; omega
    · obtain rfl : k = q := by omega
      have hne := HS.out
      generalize ps.getD k 0 = x at *
      have hv := fun u => nonzero_c x true (by simpa using hne) u
      clear hne
      go_wp2_with (go_at_call 72; (with_reducible refine (hv _).mono ?_); rintro e w1 ⟨rfl, rfl⟩)
      go_ret
      exact ⟨rfl, rfl⟩

theorem wzeros_c (g V t : Nat) (A : Option Addr) (n cap B : Nat) (ps : List Int) (hl : ps.length = n) (hn : n ≤ 1000000) (hz : zr ps < n) (hV : V < 2 ^ t) (ht : t + totP (zerosP (zr ps)) ≤ 6000000) (w : World) (hb : Blk w g 55 (wrA V t)) (hB : B ≤ g) (h : IntsAt w B A ps) :
    Calls Try.prog 51 #[.pointer (some ⟨g, 0, none⟩), .slice A n cap] w (WrLeft g (V2 V t (zerosP (zr ps))) (t + totP (zerosP (zr ps))) (.int .i64 (zr ps : Nat)) w) := by
  have hI := fun u (hu : IntsAt u B A ps) => indexFunc_c A n cap B ps u hl hn hz hu
  have HI := Lib.hid (hI w h)
  unfold WrLeft
  clear hI h hl
  generalize zr ps = z at *
  have hVf := Lib.hid (rfl : V2 V t (zerosP z) = V2 V t (zerosP z))
  have htf := Lib.hid (rfl : t + totP (zerosP z) = t + totP (zerosP z))
  generalize hV' : V2 V t (zerosP z) = V' at *
  generalize ht' : t + totP (zerosP z) = t' at *
  have HV := Lib.hid hV'
  have HT := Lib.hid ht'
  have HB := Lib.hid hb
  have HLT := Lib.hid hV
  clear hVf htf hV' ht' hb hV
  go_enter Try.func51, Try.ntmps51
  go_wp2_with (go_at_call 71; (with_reducible refine HI.out.mono ?_); rintro e w1 ⟨rfl, rfl⟩)
  go_loopw [6] (fun i wr => ∃ (k T X : Nat), k ≤ z ∧ i = .int .i64 (k : Int) ∧ Hid (X < 2 ^ T) ∧ Hid (V2 X T (zerosP k) = V') ∧ Hid (T + totP (zerosP k) = t') ∧ Hid (Blk wr g 55 (wrA X T)) ∧ w.grownBy wr (some g)) (fun i _ => (intOf i).toNat)
  case atStart => exact ⟨z, t, V, Nat.le_refl _, rfl, HLT, HV, HT, HB, grown_refl _ _⟩
  case round =>
    obtain ⟨k, T, X, hk, rfl, hX, h1, h2, h3, hgr⟩ := hrel
    by_cases h3k : 3 ≤ k
    · have e := zerosP_more h3k
      have q1 := h1.out
      have q2 := h2.out
      rw [e, V2_cons] at q1
      rw [e] at q2
      simp only [totP] at q2
      have hP : Calls Try.prog 49 #[.pointer (some ⟨g, 0, none⟩), .int .i64 2, .int .i64 3] wr (WrLeft g (X + 3 * 2 ^ T) (T + 2) (.tuple #[]) wr) := wput_c g X T 2 3 hX.out (by omega) (by decide) (by omega) wr h3.out
      have HN := Lib.hid (wr_next (n := 2) (v := 3) hX.out (by decide))
      have Q1 := Lib.hid q1
      have Q2 := Lib.hid (show T + 2 + totP (zerosP (k - 3)) = t' by omega)
      clear e q1 q2 hX h1 h2 h3
      unfold WrLeft at hP
      go_wp2_with (go_at_call 49; (with_reducible refine hP.mono ?_); rintro e w1 ⟨rfl, hb2, hg2⟩)
      go_roundw
      case rel => exact ⟨k - 3, T + 2, X + 3 * 2 ^ T, by omega, by go_num, HN, Q1, Q2, Lib.hid hb2, grown_trans hgr hg2⟩
      case measure => simp [intOf]; omega
    · have e := zerosP_few (z := k) (by omega)
      have q1 := h1.out
      have q2 := h2.out
      rw [e, V2_cons, V2_nil] at q1
      rw [e] at q2
      simp only [totP, Nat.add_zero] at q2
      have hP : Calls Try.prog 49 #[.pointer (some ⟨g, 0, none⟩), .int .i64 2, .int .i64 (k : Int)] wr (WrLeft g (X + k * 2 ^ T) (T + 2) (.tuple #[]) wr) := wput_c g X T 2 k hX.out (by omega) (show k < 4 by omega) (by omega) wr h3.out
      simp only at q1
      unfold WrLeft at hP
      rw [q1, q2] at hP
      clear e q1 q2 hX h1 h2 h3
      go_wp2_with (go_at_call 49; (with_reducible refine hP.mono ?_); rintro e w1 ⟨rfl, hb2, hg2⟩)
      go_ret
      exact ⟨rfl, hb2, grown_trans hgr hg2⟩
end Go.Proofs.Ytaohhijjalcbiaa
