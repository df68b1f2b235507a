/-
  The reference of package counts: Check, Total, Distinct, Last, Greatest, Only.
-/
import Derived.Test.YtjldbabggmmkdaaO6E
namespace Go.Proofs.Ytjldbabggmmkdaa
open Go.ChangeShapes Go.WideShapes Go.ChangeAt Go.RowKit Go.Shelf
set_option linter.unusedVariables false
set_option linter.unusedSimpArgs false

theorem rcheck_c {A : Option Addr} {n : Nat} {zs : List Int} (cap : Nat) {w : World} (h : Cts w A n zs) :
    Calls Try.prog 54 #[.slice A n cap] w fun r w' => r = .returned (.int .i64 (chk zs)) ∧ Below w.heap.size w w' := by
  obtain ⟨hl, hn, hI⟩ := h
  subst hl
  by_cases hlen : 256 < zs.length
  · have e2 : chk zs = 6 := by unfold chk; rw [if_pos hlen]
    rw [e2]
    have hd : decide ((256 : Int) < (zs.length : Int)) = true := decide_eq_true (by omega)
    go_enter Try.func54, Try.ntmps54
    go_wp2_with fail
    go_ret
    exact ⟨rfl, Below.refl _ _⟩
  · rw [chk_r hlen]
    by_cases h0 : zs = []
    · subst h0
      have hd : decide ((256 : Int) < ((([] : List Int).length : Nat) : Int)) = false := by decide
      go_enter Try.func54, Try.ntmps54
      go_wp2
      go_loop [3, 4] (fun s i => s = .int .i64 0 ∧ i = .int .i64 0) (fun _ _ => 0)
      case atStart => exact ⟨rfl, rfl⟩
      case round =>
        obtain ⟨rfl, rfl⟩ := hrel
        go_wp2
        go_ret
        exact ⟨rfl, Below.refl _ _⟩
    · obtain ⟨b, off, rfl, hb, hc⟩ := hI (by have := List.length_pos_iff.2 h0; omega)
      have HC := Lib.hid hc
      have hd : decide ((256 : Int) < (zs.length : Int)) = false := decide_eq_false (by omega)
      have hlen' : zs.length ≤ 256 := by omega
      clear hc h0 hlen hI hb
      go_enter Try.func54, Try.ntmps54
      go_wp2
      go_loop [3, 4] (fun s i => ∃ (k : Nat) (t : Int), k ≤ zs.length ∧ 0 ≤ t ∧ t ≤ (k : Int) * 1099511627776 ∧ Hid (rchk 0 zs = rchk t (zs.drop k)) ∧ s = .int .i64 t ∧ i = .int .i64 (k : Int)) (fun _ i => zs.length - (intOf i).toNat)
      case atStart => exact ⟨0, 0, by omega, by omega, by omega, rfl, rfl, rfl⟩
      case round =>
        obtain ⟨k, t, hk, ht0, ht1, hs, rfl, rfl⟩ := hrel
        by_cases hlt : k < zs.length
        · have hcell := HC.out k hlt
          generalize hx : zs.getD k 0 = x at hcell
          have hdr : rchk 0 zs = if x < 0 ∨ 1099511627776 < x then 2 else rchk (t + x) (zs.drop (k + 1)) := by
            rw [hs.out, drop_getD zs k hlt, hx]; rfl
          clear hs hx
          by_cases h1 : x < 0
          · rw [if_pos (Or.inl h1)] at hdr
            have HD := Lib.hid hdr
            clear hdr
            go_wp2
            go_ret
            exact ⟨by rw [HD.out]; rfl, Below.refl _ _⟩
          · by_cases h2 : 1099511627776 < x
            · rw [if_pos (Or.inr h2)] at hdr
              have HD := Lib.hid hdr
              clear hdr
              go_wp2
              go_ret
              exact ⟨by rw [HD.out]; rfl, Below.refl _ _⟩
            · rw [if_neg (by omega)] at hdr
              have HD := Lib.hid hdr
              clear hdr
              go_wp2
              go_round
              case rel => exact ⟨k + 1, t + x, by omega, by omega, by push_cast; omega, HD, by go_num, by go_num⟩
              case measure => simp [intOf]; omega
        · obtain rfl : k = zs.length := by omega
          have hz : rchk 0 zs = if 1099511627776 < t then 2 else 0 := by rw [hs.out]; simp [rchk]
          clear hs
          by_cases h1 : 1099511627776 < t
          · rw [if_pos h1] at hz
            rw [hz]
            go_wp2
            go_ret
            exact ⟨rfl, Below.refl _ _⟩
          · rw [if_neg h1] at hz
            rw [hz]
            go_wp2
            go_ret
            exact ⟨rfl, Below.refl _ _⟩
end Go.Proofs.Ytjldbabggmmkdaa
