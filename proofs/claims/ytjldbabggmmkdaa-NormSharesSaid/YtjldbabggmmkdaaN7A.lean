/-
  Package norm: what probabilities are worth, their points, the greatest element; the reference's, too.
-/
import Derived.Deep.QuietTactic
import Derived.BigQuiet
import Derived.Deep.Cut
import Derived.Test.YtjldbabggmmkdaaN7W
import Derived.Test.YtjldbabggmmkdaaSameL
namespace Go.Proofs.Ytjldbabggmmkdaa
open Go.ChangeShapes Go.WideShapes Go.ChangeAt Go.RowKit Go.Shelf
set_option linter.unusedVariables false
set_option linter.unusedSimpArgs false

theorem worth_c (p : Int) (w : World) : Calls Try.prog 47 #[.int .i64 p] w fun e w' => e = .returned (.int .i64 (wth p)) ∧ w' = w := by
  unfold wth
  by_cases h : p = -1
  · rw [if_pos h]
    subst h
    go_enter Try.func47, Try.ntmps47
    go_wp2
    go_ret
    exact ⟨rfl, rfl⟩
  · rw [if_neg h]
    have h1 : (p == -1) = false := by simpa using h
    go_enter Try.func47, Try.ntmps47
    go_wp2
    go_ret
    exact ⟨rfl, rfl⟩
theorem value_c (p : Int) (hp : -1 ≤ p) (w : World) : Calls Try.prog 41 #[.int .i64 p] w fun e w' => e = .returned (.int .i64 (wth p)) ∧ w' = w := by
  unfold wth
  by_cases h : p = -1
  · rw [if_pos h]
    subst h
    go_enter Try.func41, Try.ntmps41
    go_wp2
    go_ret
    exact ⟨rfl, rfl⟩
  · rw [if_neg h]
    have h1 : 0 ≤ p := by omega
    clear h hp
    go_enter Try.func41, Try.ntmps41
    go_wp2
    go_ret
    exact ⟨rfl, rfl⟩
/-- probabilities of no great size -/
def Bnd (ps : List Int) : Prop := ps.length ≤ 300 ∧ ∀ k, k < ps.length → -1 ≤ ps.getD k 0 ∧ ps.getD k 0 ≤ 1048576
theorem wth_bnd {p : Int} (h : -1 ≤ p ∧ p ≤ 1048576) : 0 ≤ wth p ∧ wth p ≤ 1048576 := by unfold wth; split <;> omega

theorem points_c {A : Option Addr} {n : Nat} {ps : List Int} (cap : Nat) {w : World} (h : Cts w A n ps) (hb : Bnd ps) :
    Calls Try.prog 28 #[.slice A n cap] w fun e w' => e = .returned (.int .i64 (pts ps)) ∧ w' = w := by
  obtain ⟨hl, hn, hI⟩ := h
  subst hl
  have HI := Lib.hid hI
  have HB := Lib.hid hb
  have hl3 := hb.1
  clear hI hb
  go_enter Try.func28, Try.ntmps28
  go_wp2
  go_loop [3, 5, 8] (fun s _ i => ∃ (k : Nat) (t : Int), k ≤ ps.length ∧ Hid (pts (ps.take k) = t) ∧ 0 ≤ t ∧ t ≤ (k : Int) * 1048576 ∧ s = .int .i64 t ∧ i = .int .i64 (k : Int)) (fun _ _ i => ps.length - (intOf i).toNat)
  case atStart => exact ⟨0, 0, by omega, (show pts _ = _ by rw [List.take_zero]; rfl), by omega, by omega, rfl, rfl⟩
  case round =>
    obtain ⟨k, t, hk, ht, h0, h1, rfl, rfl⟩ := hrel
    by_cases hlt : k < ps.length
    · obtain ⟨b, off, rfl, _, hc⟩ := HI.out (by omega)
      have hcell := hc k hlt
      have hs := pts_snoc hlt
      rw [ht.out] at hs
      have hbd := wth_bnd (HB.out.2 k hlt)
      have hwc := worth_c (ps.getD k 0)
      clear hc ht
      generalize wth (ps.getD k 0) = y at *
      generalize ps.getD k 0 = x at *
      have HS := Lib.hid hs
      clear hs
      go_wp2_with (go_at_call 47; (with_reducible refine (hwc _).mono ?_); rintro e w2 ⟨rfl, rfl⟩)
      go_round
      case rel => exact ⟨k + 1, t + y, by omega, HS, by omega, by push_cast; omega, by go_num, by go_num⟩
      case measure => simp [intOf]; omega
    · obtain rfl : k = ps.length := by omega
      have hz := ht.out
      rw [List.take_length] at hz
      have HZ := Lib.hid hz
      clear ht hz
      go_wp2
      go_ret
      exact ⟨by rw [HZ.out]; rfl, rfl⟩
theorem rsum_c {A : Option Addr} {n : Nat} {ps : List Int} (cap : Nat) {w : World} (h : Cts w A n ps) (hb : Bnd ps) :
    Calls Try.prog 39 #[.slice A n cap] w fun e w' => e = .returned (.int .i64 (pts ps)) ∧ w' = w := by
  obtain ⟨hl, hn, hI⟩ := h
  subst hl
  have HI := Lib.hid hI
  have HB := Lib.hid hb
  have hl3 := hb.1
  clear hI hb
  go_enter Try.func39, Try.ntmps39
  go_wp2
  go_loop [3, 4] (fun s i => ∃ (k : Nat) (t : Int), k ≤ ps.length ∧ Hid (pts (ps.take k) = t) ∧ 0 ≤ t ∧ t ≤ (k : Int) * 1048576 ∧ s = .int .i64 t ∧ i = .int .i64 (k : Int)) (fun _ i => ps.length - (intOf i).toNat)
  case atStart => exact ⟨0, 0, by omega, (show pts _ = _ by rw [List.take_zero]; rfl), by omega, by omega, rfl, rfl⟩
  case round =>
    obtain ⟨k, t, hk, ht, h0, h1, rfl, rfl⟩ := hrel
    by_cases hlt : k < ps.length
    · obtain ⟨b, off, rfl, _, hc⟩ := HI.out (by omega)
      have hcell := hc k hlt
      have hs := pts_snoc hlt
      rw [ht.out] at hs
      have hbd := wth_bnd (HB.out.2 k hlt)
      have hwc := value_c (ps.getD k 0) (HB.out.2 k hlt).1
      clear hc ht
      generalize wth (ps.getD k 0) = y at *
      generalize ps.getD k 0 = x at *
      have HS := Lib.hid hs
      clear hs
      go_wp2_with (go_at_call 41; (with_reducible refine (hwc _).mono ?_); rintro e w2 ⟨rfl, rfl⟩)
      go_round
      case rel => exact ⟨k + 1, t + y, by omega, HS, by omega, by push_cast; omega, by go_num, by go_num⟩
      case measure => simp [intOf]; omega
    · obtain rfl : k = ps.length := by omega
      have hz := ht.out
      rw [List.take_length] at hz
      have HZ := Lib.hid hz
      clear ht hz
      go_wp2
      go_ret
      exact ⟨by rw [HZ.out]; rfl, rfl⟩

def cmpI (x y : Int) : Int := if x < y then -1 else if y < x then 1 else 0
theorem isnan_c (x : Int) (w : World) : Calls Try.prog 59 #[.int .i64 x] w fun e w' => e = .returned (.bool false) ∧ w' = w := by
  go_enter Try.func59, Try.ntmps59
  go_wp2
  go_ret
  exact ⟨rfl, rfl⟩
theorem compare_c (x y : Int) (w : World) : Calls Try.prog 46 #[.int .i64 x, .int .i64 y] w fun e w' => e = .returned (.int .i64 (cmpI x y)) ∧ w' = w := by
  unfold cmpI
  have hx := isnan_c x
  have hy := isnan_c y
  by_cases h : x < y
  · rw [if_pos h]
    go_enter Try.func46, Try.ntmps46
    go_wp2_with (go_at_call 59; (first | (with_reducible refine (hx _).mono ?_) | (with_reducible refine (hy _).mono ?_)); rintro e w2 ⟨rfl, rfl⟩)
    go_ret
    exact ⟨rfl, rfl⟩
  · rw [if_neg h]
    by_cases h2 : y < x
    · rw [if_pos h2]
      go_enter Try.func46, Try.ntmps46
      go_wp2_with (go_at_call 59; (first | (with_reducible refine (hx _).mono ?_) | (with_reducible refine (hy _).mono ?_)); rintro e w2 ⟨rfl, rfl⟩)
      go_ret
      exact ⟨rfl, rfl⟩
    · rw [if_neg h2]
      obtain rfl : x = y := by omega
      go_enter Try.func46, Try.ntmps46
      go_wp2_with (go_at_call 59; (with_reducible refine (hx _).mono ?_); rintro e w2 ⟨rfl, rfl⟩)
      go_ret
      exact ⟨rfl, rfl⟩
theorem grst_lt0 {zs : List Int} {k : Nat} (h : k < zs.length) : grst zs k < zs.length := by
  cases k with
  | zero => exact h
  | succ k => have := grst_lt' zs k; omega
theorem greatest_c {A : Option Addr} {n : Nat} {zs : List Int} (cap : Nat) {w : World} (h : Cts w A n zs) :
    Calls Try.prog 45 #[.slice A n cap, .func (.func 46) #[] #[]] w fun e w' => e = .returned (.int .i64 (gr zs : Nat)) ∧ w' = w := by
  obtain ⟨hl, hn, hI⟩ := h
  subst hl
  have HI := Lib.hid hI
  clear hI
  go_enter Try.func45, Try.ntmps45
  go_wp2
  go_loop [5, 6, 7, 10] (fun s _ _ i => ∃ (k b : Nat), k ≤ zs.length ∧ Hid (grst zs k = b) ∧ s = .int .i64 (b : Int) ∧ i = .int .i64 (k : Int)) (fun _ _ _ i => zs.length - (intOf i).toNat)
  case atStart => exact ⟨0, 0, by omega, rfl, rfl, rfl⟩
  case round =>
    obtain ⟨k, b, hk, hbb, rfl, rfl⟩ := hrel
    by_cases hlt : k < zs.length
    · obtain ⟨bl, off, rfl, _, hc⟩ := HI.out (by omega)
      have hbl : b < zs.length := by have := grst_lt0 hlt; rw [hbb.out] at this; exact this
      have c1 := hc k hlt
      have c2 := hc b hbl
      have hs : grst zs (k + 1) = if zs.getD b 0 < zs.getD k 0 then k else b := by
        show (if zs.getD (grst zs k) 0 < zs.getD k 0 then k else grst zs k) = _
        rw [hbb.out]
      have hcm := compare_c (zs.getD k 0) (zs.getD b 0)
      clear hc hbb
      generalize zs.getD k 0 = x at *
      generalize zs.getD b 0 = y at *
      by_cases h1 : y < x
      · rw [if_pos h1] at hs
        have HS := Lib.hid hs
        have e : cmpI x y = 1 := by unfold cmpI; rw [if_neg (by omega), if_pos h1]
        rw [e] at hcm
        clear hs e h1
        go_wp2_with (go_at_call 46; (with_reducible refine (hcm _).mono ?_); rintro e w2 ⟨rfl, rfl⟩)
        go_round
        case rel => exact ⟨k + 1, k, by omega, HS, rfl, by go_num⟩
        case measure => simp [intOf]; omega
      · rw [if_neg h1] at hs
        have HS := Lib.hid hs
        obtain ⟨c, hc, hc0⟩ : ∃ c, cmpI x y = c ∧ ¬ 0 < c := ⟨_, rfl, by unfold cmpI; rw [if_neg h1]; split <;> omega⟩
        rw [hc] at hcm
        clear hs h1 hc
        go_wp2_with (go_at_call 46; (with_reducible refine (hcm _).mono ?_); rintro e w2 ⟨rfl, rfl⟩)
        go_round
        case rel => exact ⟨k + 1, b, by omega, HS, rfl, by go_num⟩
        case measure => simp [intOf]; omega
    · obtain rfl : k = zs.length := by omega
      go_wp2
      go_ret
      exact ⟨by unfold gr; rw [hbb.out]; rfl, rfl⟩

/-- a probability that is none -/
def oobP (ps : List Int) : Bool := ps.any (fun p => decide (p < -1 ∨ 4096 < p))
def sumE (ps : List Int) : Int := if 256 < ps.length then 2 else if oobP ps = true then 2 else 0
def sumV (ps : List Int) : Int := if sumE ps = 0 then pts ps else 0
theorem oobP_at {zs : List Int} {k : Nat} (hk : k < zs.length) (h : zs.getD k 0 < -1 ∨ 4096 < zs.getD k 0) : oobP zs = true := by
  unfold oobP
  rw [List.any_eq_true]
  refine ⟨zs.getD k 0, ?_, by simpa using h⟩
  have e : zs.getD k 0 = zs[k] := by simp [List.getD, hk]
  rw [e]; exact List.getElem_mem hk
theorem oobP_not {zs : List Int} (h : ∀ k, k < zs.length → ¬ (zs.getD k 0 < -1 ∨ 4096 < zs.getD k 0)) : oobP zs = false := by
  unfold oobP
  rw [List.any_eq_false]
  intro x hx
  obtain ⟨k, hk, rfl⟩ := List.mem_iff_getElem.1 hx
  have e : zs.getD k 0 = zs[k] := by simp [List.getD, hk]
  have := h k hk
  rw [e] at this
  simpa using this
theorem sum_c {A : Option Addr} {n : Nat} {zs : List Int} (cap : Nat) {w : World} (h : Cts w A n zs) :
    Calls Try.prog 13 #[.slice A n cap] w fun e w' => e = .returned (.tuple #[.int .i64 (sumV zs), .int .i64 (sumE zs)]) ∧ w' = w := by
  have h' := h
  obtain ⟨hl, hn, hI⟩ := h
  subst hl
  by_cases hlen : 256 < zs.length
  · have e1 : sumE zs = 2 := by unfold sumE; rw [if_pos hlen]
    have e2 : sumV zs = 0 := by unfold sumV; rw [e1, if_neg (by decide)]
    rw [e1, e2]
    have hd : decide ((256 : Int) < (zs.length : Int)) = true := decide_eq_true (by omega)
    go_enter Try.func13, Try.ntmps13
    go_wp2_with fail
    go_ret2
    exact ⟨rfl, rfl⟩
  · have hd : decide ((256 : Int) < (zs.length : Int)) = false := decide_eq_false (by omega)
    have HI := Lib.hid hI
    have HH := Lib.hid h'
    clear hI h'
    go_enter Try.func13, Try.ntmps13
    go_wp2
    go_loop [5, 11] (fun _ i => ∃ (k : Nat), k ≤ zs.length ∧ Hid (∀ j, j < k → ¬ (zs.getD j 0 < -1 ∨ 4096 < zs.getD j 0)) ∧ i = .int .i64 (k : Int)) (fun _ i => zs.length - (intOf i).toNat)
    case atStart => exact ⟨0, by omega, (show ∀ j, j < 0 → _ from fun j hj => absurd hj (by omega)), rfl⟩
    case round =>
      obtain ⟨k, hk, ho, rfl⟩ := hrel
      by_cases hlt : k < zs.length
      · obtain ⟨b, off, rfl, _, hc⟩ := HI.out (by omega)
        have hcell := hc k hlt
        clear hc
        by_cases hbad : zs.getD k 0 < -1 ∨ 4096 < zs.getD k 0
        · have e1 : sumE zs = 2 := by unfold sumE; rw [if_neg hlen, if_pos (oobP_at hlt hbad)]
          have e2 : sumV zs = 0 := by unfold sumV; rw [e1, if_neg (by decide)]
          have E1 := Lib.hid e1
          have E2 := Lib.hid e2
          clear e1 e2 ho
          generalize zs.getD k 0 = x at *
          by_cases h1 : x < -1
          · clear hbad
            go_wp2
            go_ret2
            exact ⟨by rw [E1.out, E2.out]; rfl, rfl⟩
          · have h2 : 4096 < x := by omega
            clear hbad
            go_wp2
            go_ret2
            exact ⟨by rw [E1.out, E2.out]; rfl, rfl⟩
        · have HN : Hid (∀ j, j < k + 1 → ¬ (zs.getD j 0 < -1 ∨ 4096 < zs.getD j 0)) := Lib.hid (fun j hj => by
            by_cases hjk : j < k
            · exact ho.out j hjk
            · have : j = k := by omega
              subst this; exact hbad)
          clear ho
          generalize zs.getD k 0 = x at *
          have h1 : ¬ x < -1 := fun h => hbad (Or.inl h)
          have h2 : ¬ 4096 < x := fun h => hbad (Or.inr h)
          clear hbad
          go_wp2
          go_round
          case rel => exact ⟨k + 1, by omega, HN, by go_num⟩
          case measure => simp [intOf]; omega
      · obtain rfl : k = zs.length := by omega
        have e1 : sumE zs = 0 := by unfold sumE; rw [if_neg hlen, oobP_not ho.out, if_neg (by decide)]
        have e2 : sumV zs = pts zs := by unfold sumV; rw [e1, if_pos rfl]
        have E1 := Lib.hid e1
        have E2 := Lib.hid e2
        have hp := points_c cap HH.out ⟨by omega, fun k hk => by have := ho.out k hk; omega⟩
        clear e1 e2 ho
        go_wp2_with (go_at_call 28; (with_reducible refine hp.mono ?_); rintro e w2 ⟨rfl, rfl⟩)
        go_ret2
        exact ⟨by rw [E1.out, E2.out]; rfl, rfl⟩
theorem rSum_c {A : Option Addr} {n : Nat} {zs : List Int} (cap : Nat) {w : World} (h : Cts w A n zs) :
    Calls Try.prog 21 #[.slice A n cap] w fun e w' => e = .returned (.tuple #[.int .i64 (sumV zs), .int .i64 (sumE zs)]) ∧ w' = w := by
  have h' := h
  obtain ⟨hl, hn, hI⟩ := h
  subst hl
  by_cases hlen : 256 < zs.length
  · have e1 : sumE zs = 2 := by unfold sumE; rw [if_pos hlen]
    have e2 : sumV zs = 0 := by unfold sumV; rw [e1, if_neg (by decide)]
    rw [e1, e2]
    have hd : decide ((256 : Int) < (zs.length : Int)) = true := decide_eq_true (by omega)
    go_enter Try.func21, Try.ntmps21
    go_wp2_with fail
    go_ret2
    exact ⟨rfl, rfl⟩
  · have hd : decide ((256 : Int) < (zs.length : Int)) = false := decide_eq_false (by omega)
    have HI := Lib.hid hI
    have HH := Lib.hid h'
    clear hI h'
    go_enter Try.func21, Try.ntmps21
    go_wp2
    go_loop [4] (fun i => ∃ (k : Nat), k ≤ zs.length ∧ Hid (∀ j, j < k → ¬ (zs.getD j 0 < -1 ∨ 4096 < zs.getD j 0)) ∧ i = .int .i64 (k : Int)) (fun i => zs.length - (intOf i).toNat)
    case atStart => exact ⟨0, by omega, (show ∀ j, j < 0 → _ from fun j hj => absurd hj (by omega)), rfl⟩
    case round =>
      obtain ⟨k, hk, ho, rfl⟩ := hrel
      by_cases hlt : k < zs.length
      · obtain ⟨b, off, rfl, _, hc⟩ := HI.out (by omega)
        have hcell := hc k hlt
        clear hc
        by_cases hbad : zs.getD k 0 < -1 ∨ 4096 < zs.getD k 0
        · have e1 : sumE zs = 2 := by unfold sumE; rw [if_neg hlen, if_pos (oobP_at hlt hbad)]
          have e2 : sumV zs = 0 := by unfold sumV; rw [e1, if_neg (by decide)]
          have E1 := Lib.hid e1
          have E2 := Lib.hid e2
          clear e1 e2 ho
          generalize zs.getD k 0 = x at *
          by_cases h1 : x < -1
          · clear hbad
            go_wp2
            go_ret2
            exact ⟨by rw [E1.out, E2.out]; rfl, rfl⟩
          · have h2 : 4096 < x := by omega
            clear hbad
            go_wp2
            go_ret2
            exact ⟨by rw [E1.out, E2.out]; rfl, rfl⟩
        · have HN : Hid (∀ j, j < k + 1 → ¬ (zs.getD j 0 < -1 ∨ 4096 < zs.getD j 0)) := Lib.hid (fun j hj => by
            by_cases hjk : j < k
            · exact ho.out j hjk
            · have : j = k := by omega
              subst this; exact hbad)
          clear ho
          generalize zs.getD k 0 = x at *
          have h1 : ¬ x < -1 := fun h => hbad (Or.inl h)
          have h2 : ¬ 4096 < x := fun h => hbad (Or.inr h)
          clear hbad
          go_wp2
          go_round
          case rel => exact ⟨k + 1, by omega, HN, by go_num⟩
          case measure => simp [intOf]; omega
      · obtain rfl : k = zs.length := by omega
        have e1 : sumE zs = 0 := by unfold sumE; rw [if_neg hlen, oobP_not ho.out, if_neg (by decide)]
        have e2 : sumV zs = pts zs := by unfold sumV; rw [e1, if_pos rfl]
        have E1 := Lib.hid e1
        have E2 := Lib.hid e2
        have hp := rsum_c cap HH.out ⟨by omega, fun k hk => by have := ho.out k hk; omega⟩
        clear e1 e2 ho
        go_wp2_with (go_at_call 39; (with_reducible refine hp.mono ?_); rintro e w2 ⟨rfl, rfl⟩)
        go_ret2
        exact ⟨by rw [E1.out, E2.out]; rfl, rfl⟩
end Go.Proofs.Ytjldbabggmmkdaa
