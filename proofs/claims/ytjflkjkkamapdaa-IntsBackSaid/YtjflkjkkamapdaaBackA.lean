/-
  IntsBack where the string is empty or longer than 8 bytes: the call returns true.
-/
import Derived.Test.YtjflkjkkamapdaaMod
import Derived.Test.YtjflkjkkamapdaaSame
namespace Go.Proofs.Ytjflkjkkamapdaa
open Go.ChangeShapes Go.WideShapes Go.ChangeAt Go.RowKit
set_option linter.unusedVariables false

set_option maxRecDepth 100000 in
set_option maxHeartbeats 1000000 in
theorem back_short (a b z m α β : Int) (A B : Nat) (x y s : ByteArray) (w : World) (hm0 : 0 ≤ m) (hm1 : m ≤ 7)
    (hMod : ∀ u, Calls Try.prog 33 #[.int .i64 z, .int .i64 8] u fun e w' => e = .returned (.int .i64 m) ∧ u = w')
    (hLa : ∀ u, Calls Try.prog 10 #[.int .u64 a, .int .i64 (8 * (1 + m))] u fun e w' => e = .returned (.tuple #[.int .u64 α, .int .i64 0]) ∧ u = w')
    (hLb : ∀ u, Calls Try.prog 10 #[.int .u64 b, .int .i64 (8 * (1 + m))] u fun e w' => e = .returned (.tuple #[.int .u64 β, .int .i64 0]) ∧ u = w')
    (hIa : ∀ u, Calls Try.prog 19 #[.int .u64 α, .int .i64 (1 + m)] u fun e w' => e = .returned (.tuple #[.string x, .int .i64 0]) ∧ Below u.heap.size u w')
    (hIb : ∀ u, Calls Try.prog 19 #[.int .u64 β, .int .i64 (1 + m)] u fun e w' => e = .returned (.tuple #[.string y, .int .i64 0]) ∧ Below u.heap.size u w')
    (hF : ∀ u, Calls Try.prog 31 #[.int .u64 α, .int .i64 (1 + m), .string x] u fun e w' => e = .returned (.bool true) ∧ Below u.heap.size u w')
    (hx : (x.size : Int) = 1 + m) (hy : (y.size : Int) = 1 + m) (hA : α = A) (hB : β = B)
    (hdx : ∀ j (h : j < x.size), x[j].toNat = A / 2 ^ (8 * j) % 256) (hdy : ∀ j (h : j < y.size), y[j].toNat = B / 2 ^ (8 * j) % 256)
    (hA2 : A < 2 ^ (8 * x.size)) (hB2 : B < 2 ^ (8 * x.size)) (hs : s.size < 1 ∨ 8 < s.size) (hs2 : s.size ≤ 9223372036854775807) :
    Calls Try.prog 8 #[.int .u64 a, .int .u64 b, .int .i64 z, .string s] w fun e w' => e = .returned (.bool true) ∧ Below w.heap.size w w' := by
  have hx1 : (x.size : Int) ≤ 1 + m := by omega
  have hx2 : 1 + m ≤ (x.size : Int) := by omega
  have hy1 : (y.size : Int) ≤ 1 + m := by omega
  have hy2 : 1 + m ≤ (y.size : Int) := by omega
  have tx : ((x.size : Int) != 1 + m) = false := by simp; omega
  have ty : ((y.size : Int) != 1 + m) = false := by simp; omega
  have HX := Lib.hid hx
  have HDX := Lib.hid hdx
  have HDY := Lib.hid hdy
  have HA := Lib.hid hA
  have HB := Lib.hid hB
  have HT := Lib.hid (cmp_top hA2 hB2)
  clear hx hy hdx hdy hA hB hA2 hB2
  go_enter Try.func8, Try.ntmps8
  go_wp2_with (first
    | (go_at_call 6; (with_reducible refine (known_any _).mono ?_); rintro e w1 ⟨rfl, hb1⟩)
    | (go_at_call 33; (with_reducible refine (hMod _).mono ?_); rintro e w' ⟨rfl, rfl⟩)
    | (go_at_call 10; (with_reducible refine (hLa _).mono ?_); rintro e w' ⟨rfl, rfl⟩)
    | (go_at_call 10; (with_reducible refine (hLb _).mono ?_); rintro e w' ⟨rfl, rfl⟩)
    | (go_at_call 19; (with_reducible refine (hIa _).mono ?_); rintro e w2 ⟨rfl, hb2⟩)
    | (go_at_call 19; (with_reducible refine (hIb _).mono ?_); rintro e w3 ⟨rfl, hb3⟩)
    | (go_at_call 31; (with_reducible refine (hF _).mono ?_); rintro e w4 ⟨rfl, hb4⟩))
  have hbl : Below w.heap.size w w4 := ((hb1.trans (hb2.mono hb1.size)).trans (hb3.mono (by have := hb1.size; have := hb2.size; omega))).trans (hb4.mono (by have := hb1.size; have := hb2.size; have := hb3.size; omega))
  go_loopw [16, 17] (fun o i wr => ∃ (k : Nat) (q : Int), (k : Int) ≤ 1 + m ∧ -255 ≤ q ∧ q ≤ 255 ∧ Hid (Cmp A B k q) ∧ o = .int .i64 q ∧ i = .int .i64 ((k : Int) - 1) ∧ Below w.heap.size w wr) (fun _ i _ => (intOf i + 1).toNat)
  case atStart => exact ⟨x.size, 0, by omega, by omega, by omega, HT.out, rfl, by rw [HX.out], hbl⟩
  case round =>
    obtain ⟨k, q, hk, hq0, hq1, hcmp, rfl, rfl, hbw⟩ := hrel
    by_cases hgo : 1 ≤ k ∧ q = 0
    · obtain ⟨h1, rfl⟩ := hgo
      obtain ⟨j, rfl⟩ : ∃ j, k = j + 1 := ⟨k - 1, by omega⟩
      have jx : (j : Int) < (x.size : Int) := by omega
      have jy : (j : Int) < (y.size : Int) := by omega
      have jx' : j < x.size := by omega
      have jy' : j < y.size := by omega
      go_wp2
      go_quiet (fail)
      go_wp2
      go_roundw
      case rel =>
        have cx := x[j].toNat_lt
        have cy := y[j].toNat_lt
        have hw : wrap64 (wrap64 (x[j].toNat : Int) - wrap64 (y[j].toNat : Int)) = (x[j].toNat : Int) - (y[j].toNat : Int) := by
          rw [IntWalk.wrap64_in (x[j].toNat : Int) ⟨by omega, by omega⟩, IntWalk.wrap64_in (y[j].toNat : Int) ⟨by omega, by omega⟩, IntWalk.wrap64_in _ ⟨by omega, by omega⟩]
        refine ⟨j, _, by omega, ?_, ?_, cmp_step hcmp.out (HDX.out j jx') (HDY.out j jy'), by rw [hw], by go_num, Below.drewN' hbw _⟩
        · omega
        · omega
      case measure => simp [intOf]
    · have hend := cmp_end hcmp.out (by omega)
      have ha' := HA.out
      have hb' := HB.out
      have hkk : k < 1 ∨ 1 ≤ k := by omega
      rcases hend with ⟨q1, hAB⟩ | ⟨q1, hAB⟩ | ⟨rfl, hk0, hAB⟩
      · have hab : α < β := by omega
        have hq0' : (q == 0) = false := by simp; omega
        have hab0 : (α == β) = false := by simp; omega
        clear ha' hb' hAB
        rcases hs with hs | hs <;> rcases hkk with hkk | hkk
        all_goals
          go_wp2
          go_ret
          exact ⟨rfl, hbw⟩
      · have hab : β < α := by omega
        have hq0' : (q == 0) = false := by simp; omega
        have hab0 : (α == β) = false := by simp; omega
        clear ha' hb' hAB
        rcases hs with hs | hs <;> rcases hkk with hkk | hkk
        all_goals
          go_wp2
          go_ret
          exact ⟨rfl, hbw⟩
      · have hab : α = β := by omega
        have hk1 : k < 1 := by omega
        clear ha' hb' hAB hkk hk0
        subst hab
        rcases hs with hs | hs
        all_goals
          go_wp2
          go_ret
          exact ⟨rfl, hbw⟩
end Go.Proofs.Ytjflkjkkamapdaa
