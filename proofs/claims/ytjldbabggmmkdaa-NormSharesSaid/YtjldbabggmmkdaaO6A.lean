/-
  Sums of what the elements of a list are worth; Total, Check and Distinct of counts.
-/
import Derived.Test.YtjldbabggmmkdaaSameL
import Derived.Test.YtjldbabggmmkdaaAid
namespace Go.Proofs.Ytjldbabggmmkdaa
open Go.ChangeShapes Go.WideShapes Go.ChangeAt Go.RowKit
set_option linter.unusedVariables false

theorem below_call {a u w' : World} (h : Below a.heap.size a u) (hb : Below u.heap.size u w') : Below a.heap.size a w' := h.trans (hb.mono h.size)
theorem below_box {a w : World} (h : Below a.heap.size a w) (o : Obj) : Below a.heap.size a (w.alloc o) := h.alloc h.size o
def idf (x : Int) : Int := x
def one1 (x : Int) : Int := if x ≤ 1 then x else 1
theorem worth37 (x : Int) (w : World) : Calls Try.prog 51 #[.int .i64 x] w fun r w' => r = .returned (.int .i64 (idf x)) ∧ w = w' := by
  unfold idf
  go_enter Try.func51, Try.ntmps51
  go_wp2
  go_ret
  exact ⟨rfl, rfl⟩
theorem worth38 (x : Int) (w : World) : Calls Try.prog 50 #[.int .i64 x] w fun r w' => r = .returned (.int .i64 (one1 x)) ∧ w = w' := by
  unfold one1
  by_cases h : x ≤ 1
  · rw [if_pos h]
    go_enter Try.func50, Try.ntmps50
    go_wp2
    go_ret
    exact ⟨rfl, rfl⟩
  · rw [if_neg h]
    go_enter Try.func50, Try.ntmps50
    go_wp2
    go_ret
    exact ⟨rfl, rfl⟩

theorem addR_at {t x : Int} (h0 : 0 ≤ t) (h1 : t ≤ 1099511627776) : addR t x = if x < 0 ∨ 1099511627776 - t < x then none else some (t + x) := by
  unfold addR
  by_cases h : x < 0 ∨ 1099511627776 - t < x
  · rw [if_pos h, if_neg (by omega)]
  · rw [if_neg h, if_pos (by omega)]

theorem sumUp_le : ∀ (xs : List Int) (s r : Int), 0 ≤ s → s ≤ 1099511627776 → sumUp s xs = some r → 0 ≤ r ∧ r ≤ 1099511627776
  | [], s, r, h0, h1, h => by simp only [sumUp, Option.some.injEq] at h; omega
  | x :: xs, s, r, h0, h1, h => by
    simp only [sumUp] at h
    by_cases hx : x < 0 ∨ 1099511627776 - s < x
    · rw [if_pos hx] at h; cases h
    · rw [if_neg hx] at h
      exact sumUp_le xs _ r (by omega) (by omega) h

theorem sum_37 (A : Option Addr) (n cap B : Nat) (xs : List Int) (w : World) (hl : xs.length = n) (hn : n ≤ 9223372036854775807) (hB : B ≤ w.heap.size) (h : IntsAt w B A xs) :
    Calls Try.prog 49 #[.slice A n cap, .func (.func 51) #[] #[]] w fun e w' => e = .returned (resOf (sumUp 0 (xs.map idf))) ∧ Below w.heap.size w w' := by
  subst hl
  by_cases h0 : xs = []
  · subst h0
    go_enter Try.func49, Try.ntmps49
    go_wp2
    go_loop [6, 7, 9, 12] (fun s e _ i => s = .int .i64 0 ∧ i = .int .i64 0) (fun _ _ _ i => 0)
    case atStart => exact ⟨rfl, rfl⟩
    case round =>
      obtain ⟨rfl, rfl⟩ := hrel
      go_wp2
      go_ret2
      exact ⟨rfl, Below.refl _ _⟩
  · obtain ⟨b, off, rfl, hb, hc⟩ := h (by have := List.length_pos_iff.2 h0; omega)
    have HC := Lib.hid hc
    have HB := Lib.hid (show b < w.heap.size by omega)
    clear hc h h0 hb
    go_enter Try.func49, Try.ntmps49
    go_wp2
    go_loopw [6, 7, 9, 12] (fun s e _ i wr => ∃ (k : Nat) (t : Int), k ≤ xs.length ∧ 0 ≤ t ∧ t ≤ 1099511627776 ∧ Hid (sumUp 0 (xs.map idf) = sumUp t ((xs.drop k).map idf)) ∧ s = .int .i64 t ∧ i = .int .i64 (k : Int) ∧ Below w.heap.size w wr) (fun _ _ _ i _ => xs.length - (intOf i).toNat)
    case atStart => exact ⟨0, 0, by omega, by omega, by omega, rfl, rfl, rfl, Below.refl _ _⟩
    case round =>
      obtain ⟨k, t, hk, ht0, ht1, hs, rfl, rfl, hbr⟩ := hrel
      by_cases hlt : k < xs.length
      · have hcell := (hbr.cell (p := ⟨b, off + k, none⟩) HB.out).trans (HC.out k hlt)
        generalize hx : xs.getD k 0 = x at hcell
        have hd : sumUp 0 (xs.map idf) = if idf x < 0 ∨ 1099511627776 - t < idf x then none else sumUp (t + idf x) ((xs.drop (k + 1)).map idf) := by
          rw [hs.out, drop_getD xs k hlt, hx]; rfl
        have HD := Lib.hid hd
        have HX := Lib.hid hx
        have hp := fun u => plus_any t (idf x) u
        have hv := fun u => worth37 x u
        rw [addR_at ht0 ht1] at hp
        have HK := Lib.hid hbr
        clear hd hx hbr
        generalize idf x = y at *
        by_cases h1 : y < 0 ∨ 1099511627776 - t < y
        · rw [if_pos h1] at hp
          have HE := HD.out
          rw [if_pos h1] at HE
          have H1 := Lib.hid HE
          clear HE HD h1
          simp only [resOf] at hp
          go_wp2_with (first
            | (go_at_call 51; (with_reducible refine (hv _).mono ?_); rintro e w1 ⟨rfl, rfl⟩)
            | (go_at_call 60; (with_reducible refine (hp _).mono ?_); rintro e w2 ⟨rfl, hb2⟩))
          go_ret2
          exact ⟨by rw [H1.out]; rfl, below_call HK.out hb2⟩
        · rw [if_neg h1] at hp
          have HE := HD.out
          rw [if_neg h1] at HE
          have H1 := Lib.hid HE
          have h2 : 0 ≤ y ∧ y ≤ 1099511627776 - t := by omega
          clear HE HD h1
          simp only [resOf] at hp
          go_wp2_with (first
            | (go_at_call 51; (with_reducible refine (hv _).mono ?_); rintro e w1 ⟨rfl, rfl⟩)
            | (go_at_call 60; (with_reducible refine (hp _).mono ?_); rintro e w2 ⟨rfl, hb2⟩))
          go_roundw
          case rel => exact ⟨k + 1, t + y, by omega, by omega, by omega, H1.out, rfl, by go_num, below_call HK.out hb2⟩
          case measure => simp [intOf]; omega
      · obtain rfl : k = xs.length := by omega
        have HK := Lib.hid hbr
        clear hbr
        go_wp2
        go_ret2
        exact ⟨by rw [hs.out]; simp [sumUp, resOf], HK.out⟩

theorem sum_38 (A : Option Addr) (n cap B : Nat) (xs : List Int) (w : World) (hl : xs.length = n) (hn : n ≤ 9223372036854775807) (hB : B ≤ w.heap.size) (h : IntsAt w B A xs) :
    Calls Try.prog 49 #[.slice A n cap, .func (.func 50) #[] #[]] w fun e w' => e = .returned (resOf (sumUp 0 (xs.map one1))) ∧ Below w.heap.size w w' := by
  subst hl
  by_cases h0 : xs = []
  · subst h0
    go_enter Try.func49, Try.ntmps49
    go_wp2
    go_loop [6, 7, 9, 12] (fun s e _ i => s = .int .i64 0 ∧ i = .int .i64 0) (fun _ _ _ i => 0)
    case atStart => exact ⟨rfl, rfl⟩
    case round =>
      obtain ⟨rfl, rfl⟩ := hrel
      go_wp2
      go_ret2
      exact ⟨rfl, Below.refl _ _⟩
  · obtain ⟨b, off, rfl, hb, hc⟩ := h (by have := List.length_pos_iff.2 h0; omega)
    have HC := Lib.hid hc
    have HB := Lib.hid (show b < w.heap.size by omega)
    clear hc h h0 hb
    go_enter Try.func49, Try.ntmps49
    go_wp2
    go_loopw [6, 7, 9, 12] (fun s e _ i wr => ∃ (k : Nat) (t : Int), k ≤ xs.length ∧ 0 ≤ t ∧ t ≤ 1099511627776 ∧ Hid (sumUp 0 (xs.map one1) = sumUp t ((xs.drop k).map one1)) ∧ s = .int .i64 t ∧ i = .int .i64 (k : Int) ∧ Below w.heap.size w wr) (fun _ _ _ i _ => xs.length - (intOf i).toNat)
    case atStart => exact ⟨0, 0, by omega, by omega, by omega, rfl, rfl, rfl, Below.refl _ _⟩
    case round =>
      obtain ⟨k, t, hk, ht0, ht1, hs, rfl, rfl, hbr⟩ := hrel
      by_cases hlt : k < xs.length
      · have hcell := (hbr.cell (p := ⟨b, off + k, none⟩) HB.out).trans (HC.out k hlt)
        generalize hx : xs.getD k 0 = x at hcell
        have hd : sumUp 0 (xs.map one1) = if one1 x < 0 ∨ 1099511627776 - t < one1 x then none else sumUp (t + one1 x) ((xs.drop (k + 1)).map one1) := by
          rw [hs.out, drop_getD xs k hlt, hx]; rfl
        have HD := Lib.hid hd
        have HX := Lib.hid hx
        have hp := fun u => plus_any t (one1 x) u
        have hv := fun u => worth38 x u
        rw [addR_at ht0 ht1] at hp
        have HK := Lib.hid hbr
        clear hd hx hbr
        generalize one1 x = y at *
        by_cases h1 : y < 0 ∨ 1099511627776 - t < y
        · rw [if_pos h1] at hp
          have HE := HD.out
          rw [if_pos h1] at HE
          have H1 := Lib.hid HE
          clear HE HD h1
          simp only [resOf] at hp
          go_wp2_with (first
            | (go_at_call 50; (with_reducible refine (hv _).mono ?_); rintro e w1 ⟨rfl, rfl⟩)
            | (go_at_call 60; (with_reducible refine (hp _).mono ?_); rintro e w2 ⟨rfl, hb2⟩))
          go_ret2
          exact ⟨by rw [H1.out]; rfl, below_call HK.out hb2⟩
        · rw [if_neg h1] at hp
          have HE := HD.out
          rw [if_neg h1] at HE
          have H1 := Lib.hid HE
          have h2 : 0 ≤ y ∧ y ≤ 1099511627776 - t := by omega
          clear HE HD h1
          simp only [resOf] at hp
          go_wp2_with (first
            | (go_at_call 50; (with_reducible refine (hv _).mono ?_); rintro e w1 ⟨rfl, rfl⟩)
            | (go_at_call 60; (with_reducible refine (hp _).mono ?_); rintro e w2 ⟨rfl, hb2⟩))
          go_roundw
          case rel => exact ⟨k + 1, t + y, by omega, by omega, by omega, H1.out, rfl, by go_num, below_call HK.out hb2⟩
          case measure => simp [intOf]; omega
      · obtain rfl : k = xs.length := by omega
        have HK := Lib.hid hbr
        clear hbr
        go_wp2
        go_ret2
        exact ⟨by rw [hs.out]; simp [sumUp, resOf], HK.out⟩
end Go.Proofs.Ytjldbabggmmkdaa
