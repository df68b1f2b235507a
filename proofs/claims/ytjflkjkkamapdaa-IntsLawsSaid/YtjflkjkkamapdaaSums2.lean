/-
  The reference's products and sums of lists: the same results as the project's own.
-/
import Derived.Test.YtjflkjkkamapdaaSums
namespace Go.Proofs.Ytjflkjkkamapdaa
open Go.ChangeShapes Go.WideShapes Go.ChangeAt Go.RowKit

theorem refTimes_any (a b : Int) (w : World) :
    Calls Try.prog 27 #[.int .i64 a, .int .i64 b] w fun e w' => e = .returned (resOf (mulR a b)) ∧ w = w' := by
  by_cases ha : a < 0 ∨ 1099511627776 < a
  · have hr : mulR a b = none := by unfold mulR; rw [if_neg (by omega)]
    rw [hr]
    clear hr
    go_enter Try.func27, Try.ntmps27
    go_wp2_with (go_at_call 38; refine (bounded_no _ ha _).mono ?_; rintro e w' ⟨rfl, rfl⟩)
    go_ret2
    exact ⟨rfl, rfl⟩
  · by_cases hb : b < 0 ∨ 1099511627776 < b
    · have hr : mulR a b = none := by unfold mulR; rw [if_neg (by omega)]
      rw [hr]
      clear hr
      go_enter Try.func27, Try.ntmps27
      go_wp2_with (first | (go_at_call 38; (with_reducible refine (bounded_yes a (by omega) (by omega) _).mono ?_); rintro e w' ⟨rfl, rfl⟩) | (go_at_call 38; (with_reducible refine (bounded_no b hb _).mono ?_); rintro e w' ⟨rfl, rfl⟩))
      go_ret2
      exact ⟨rfl, rfl⟩
    · by_cases h0 : 0 < a
      · by_cases hs : 1099511627776 / a < b
        · have hr : mulR a b = none := by unfold mulR; rw [if_neg (fun h => by have := h.2.2.2.2 h0; omega)]
          rw [hr]
          clear hr
          go_enter Try.func27, Try.ntmps27
          go_wp2_with (go_at_call 38; refine (bounded_yes _ (by omega) (by omega) _).mono ?_; rintro e w' ⟨rfl, rfl⟩)
          go_ret2
          exact ⟨rfl, rfl⟩
        · have hr : mulR a b = some (a * b) := by unfold mulR; rw [if_pos ⟨by omega, by omega, by omega, by omega, fun _ => by omega⟩]
          rw [hr]
          clear hr
          have hle := mul_room (a := a) (b := b) h0 (by omega)
          have hge : 0 ≤ a * b := Int.mul_nonneg (by omega) (by omega)
          have hnot : b ≤ 1099511627776 / a := by omega
          go_enter Try.func27, Try.ntmps27
          go_wp2_with (go_at_call 38; refine (bounded_yes _ (by omega) (by omega) _).mono ?_; rintro e w' ⟨rfl, rfl⟩)
          go_ret2
          exact ⟨rfl, rfl⟩
      · obtain rfl : a = 0 := by omega
        have hr : mulR 0 b = some 0 := by unfold mulR; rw [if_pos ⟨by omega, by omega, by omega, by omega, fun _ => by omega⟩]; simp
        rw [hr]
        clear hr
        go_enter Try.func27, Try.ntmps27
        go_wp2_with (go_at_call 38; refine (bounded_yes _ (by omega) (by omega) _).mono ?_; rintro e w' ⟨rfl, rfl⟩)
        go_ret2
        exact ⟨by simp [resOf], rfl⟩

theorem refSum_some (b off cap : Nat) (xs : List Int) (w : World) (hn : xs.length ≤ 9223372036854775807)
    (hc : ∀ k, k < xs.length → w.cell? ⟨b, off + k, none⟩ = some (.int .i64 (xs.getD k 0))) :
    Calls Try.prog 29 #[.slice (some ⟨b, off, none⟩) xs.length cap] w fun e w' => e = .returned (resOf (sumUp 0 xs)) ∧ w = w' := by
  have HC := Lib.hid hc
  clear hc
  go_enter Try.func29, Try.ntmps29
  go_wp2
  go_loop [4, 5, 6, 7] (fun s i _ _ => ∃ (k : Nat) (t : Int), k ≤ xs.length ∧ 0 ≤ t ∧ t ≤ 1099511627776 ∧ Hid (sumUp 0 xs = sumUp t (xs.drop k)) ∧ s = .int .i64 t ∧ i = .int .i64 (k : Int)) (fun _ i _ _ => xs.length - (intOf i).toNat)
  case atStart => exact ⟨0, 0, by omega, by omega, by omega, rfl, rfl, rfl⟩
  case round =>
    obtain ⟨k, t, hk, ht0, ht1, hs, rfl, rfl⟩ := hrel
    by_cases hlt : k < xs.length
    · have hcell := HC.out k hlt
      generalize hx : xs.getD k 0 = x at hcell
      have hd : sumUp 0 xs = if x < 0 ∨ 1099511627776 - t < x then none else sumUp (t + x) (xs.drop (k + 1)) := by
        rw [hs.out, drop_getD xs k hlt, hx]; rfl
      have HD := Lib.hid hd
      have HX := Lib.hid hx
      clear hd hx
      have hp := fun w => refPlus_any t x w
      by_cases h1 : x < 0 ∨ 1099511627776 - t < x
      · rw [addR_bad (by omega)] at hp; simp only [resOf] at hp
        go_wp2_with (go_at_call 25; refine (hp _).mono ?_; rintro e w' ⟨rfl, rfl⟩)
        go_ret2
        exact ⟨by rw [HD.out, if_pos h1]; rfl, rfl⟩
      · rw [addR_ok (by omega)] at hp; simp only [resOf] at hp
        go_wp2_with (go_at_call 25; refine (hp _).mono ?_; rintro e w' ⟨rfl, rfl⟩)
        go_round
        case rel => exact ⟨k + 1, t + x, by omega, by omega, by omega, by show _ = _; rw [HD.out, if_neg h1], rfl, by go_num⟩
        case measure => simp [intOf]; omega
    · obtain rfl : k = xs.length := by omega
      go_wp2
      go_ret2
      exact ⟨by rw [hs.out]; simp [sumUp, resOf], rfl⟩

theorem refSum_empty (A : Option Addr) (cap : Nat) (w : World) :
    Calls Try.prog 29 #[.slice A 0 cap] w fun e w' => e = .returned (resOf (sumUp 0 [])) ∧ w = w' := by
  go_enter Try.func29, Try.ntmps29
  go_wp2
  go_loop [4, 5, 6, 7] (fun s i _ _ => s = .int .i64 0 ∧ i = .int .i64 0) (fun _ _ _ _ => 0)
  case atStart => exact ⟨rfl, rfl⟩
  case round =>
    obtain ⟨rfl, rfl⟩ := hrel
    go_wp2
    go_ret2
    exact ⟨rfl, rfl⟩

theorem refSum_any (A : Option Addr) (n cap B : Nat) (xs : List Int) (w : World) (hl : xs.length = n) (hn : n ≤ 9223372036854775807) (h : IntsAt w B A xs) :
    Calls Try.prog 29 #[.slice A n cap] w fun e w' => e = .returned (resOf (sumUp 0 xs)) ∧ w = w' := by
  subst hl
  by_cases h0 : xs = []
  · subst h0
    exact refSum_empty A cap w
  · obtain ⟨b, off, rfl, _, hc⟩ := h (by have := List.length_pos_iff.2 h0; omega)
    exact refSum_some b off cap xs w hn hc

end Go.Proofs.Ytjflkjkkamapdaa
