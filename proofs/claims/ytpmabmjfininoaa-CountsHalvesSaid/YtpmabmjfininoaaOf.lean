/-
  CountsOf.
-/
import Derived.Test.YtpmabmjfininoaaAwake
import Derived.Test.YtpmabmjfininoaaR6D
namespace Go.Proofs.Ytpmabmjfininoaa
open Go.ChangeShapes Go.WideShapes Go.ChangeAt Go.RowKit Go.Shelf
set_option linter.unusedVariables false
set_option linter.unusedSimpArgs false

theorem nextI {w w' : World} {A : Option Addr} {xs : List Int} (h : IntsAt w w.heap.size A xs) (hb : Below w.heap.size w w') : IntsAt w' w'.heap.size A xs := (h.below hb).more hb.size
theorem add_at (b off k : Nat) : (⟨b, off, none⟩ : Addr).add k = ⟨b, off + k, none⟩ := by
  cases k <;> simp [Addr.add]
theorem own_c {A : Option Addr} {n : Nat} {xs : List Int} (cap : Nat) {w : World} (h : Cts w A n xs) (h30 : n ≤ 1000000) (hN : A = none → n = 0 ∧ cap = 0) : Calls Try.prog 9 #[.slice A n cap] w (OwnP w xs) := by
  obtain ⟨hl, hn, hI⟩ := h
  cases A with
  | none =>
    obtain ⟨rfl, rfl⟩ := hN rfl
    obtain rfl : xs = [] := List.eq_nil_of_length_eq_zero hl
    exact own_nil w
  | some a =>
    refine own_some a n cap xs w h30 hl fun i hi => ?_
    obtain ⟨b, off, hA, _, hc⟩ := hI (by omega)
    obtain rfl : a = ⟨b, off, none⟩ := by simpa using hA
    rw [add_at]; exact hc i hi

theorem countsOf_any (s : ByteArray) (A : Option Addr) (n cap : Nat) (most : Int) (xs : List Int) (w : World) (h : Cts w A n xs) (hN : A = none → n = 0 ∧ cap = 0) :
    Calls Try.prog 4 #[.string s, .slice A n cap, .int .i64 most] w fun e w' => e = .returned (.bool true) ∧ Below w.heap.size w w' := by
  by_cases h1 : 300 < s.size
  · have d1 : decide ((300 : Int) < (s.size : Int)) = true := decide_eq_true (by omega)
    clear h hN
    go_enter Try.func4, Try.ntmps4
    go_wp2_with (go_at_call 8; (with_reducible refine (awake_any _).mono ?_); rintro e w1 ⟨rfl, hb⟩)
    go_ret
    exact ⟨rfl, hb⟩
  · have d1 : decide ((300 : Int) < (s.size : Int)) = false := decide_eq_false (by omega)
    by_cases h2 : 300 < n
    · have d2 : decide ((300 : Int) < (n : Int)) = true := decide_eq_true (by omega)
      clear h hN
      go_enter Try.func4, Try.ntmps4
      go_wp2_with (go_at_call 8; (with_reducible refine (awake_any _).mono ?_); rintro e w1 ⟨rfl, hb⟩)
      go_ret
      exact ⟨rfl, hb⟩
    · have d2 : decide ((300 : Int) < (n : Int)) = false := decide_eq_false (by omega)
      have ho := own_c cap h (by omega) hN
      have hbt := fun u => bytes_c s (by omega) u
      have hbr := fun u => rbytes_c s (by omega) u
      have hsm := fun u => same_c s (by omega) u
      have hsr := fun u => rsame_c s (by omega) u
      obtain ⟨hl, hn0, hI⟩ := h
      subst hl
      have hsy := fun (Ah : Option Addr) (ch : Nat) u (hu : IntsAt u u.heap.size Ah xs) => symbols_c (A := Ah) ch most (w := u) ⟨rfl, hn0, hu⟩ (by omega)
      have hry := fun u (hu : Below w.heap.size w u) => rsymbols_c (A := A) cap most (w := u) (Cts.below ⟨rfl, hn0, hI⟩ hu) (by omega)
      have hlB : (ctab 256 (bts s)).length ≤ 9223372036854775807 := by rw [ctab_length]; omega
      have hlX : (symL most xs).length ≤ 9223372036854775807 := by
        unfold symL
        split
        · rw [ctab_length]
          rename_i h0
          unfold symE at h0
          split at h0
          · exact absurd h0 (by decide)
          · omega
        · exact Nat.zero_le _
      generalize ctab 256 (bts s) = B at *
      generalize symL most xs = X at *
      generalize symE most xs = ex at *
      generalize samB s = sb at *
      have H0 := Lib.hid hI
      clear hI hN h1 h2
      go_enter Try.func4, Try.ntmps4
      go_wp2_with (first
        | (go_at_call 9; (with_reducible refine Calls.mono ho ?_); rintro e w1 ⟨Ah, ch, rfl, hh, hb⟩; have HB := hb; clear hb)
        | (go_at_call 27; (with_reducible refine Calls.mono (hbt _) ?_); rintro e w2 ⟨Aa, ca, rfl, ha, hb⟩; replace hh := nextI hh hb; replace HB := below_call HB hb; clear hb)
        | (go_at_call 28; (with_reducible refine Calls.mono (hbr _) ?_); rintro e w3 ⟨Ab, cb, rfl, hab, hb⟩; replace hh := nextI hh hb; replace ha := nextI ha hb; replace HB := below_call HB hb; clear hb)
        | (go_at_call 29; (with_reducible refine Calls.mono (hsy _ _ _ hh) ?_); rintro e w4 ⟨Ax, cx, rfl, hx, hb⟩; replace hh := nextI hh hb; replace ha := nextI ha hb; replace hab := nextI hab hb; replace HB := below_call HB hb; clear hb)
        | (go_at_call 30; (with_reducible refine Calls.mono (hry _ HB) ?_); rintro e w5 ⟨Ay, cy, rfl, hy, hb⟩; replace hh := nextI hh hb; replace ha := nextI ha hb; replace hab := nextI hab hb; replace hx := nextI hx hb; replace HB := below_call HB hb; clear hb)
        | (go_at_call 26; (with_reducible refine Calls.mono (same_any Aa Ab ca cb _ _ B _ hlB ha hab) ?_); rintro e w6 ⟨rfl, hb⟩; replace hh := nextI hh hb; replace hx := nextI hx hb; replace hy := nextI hy hb; replace HB := below_call HB hb; clear hb ha hab)
        | (go_at_call 26; (with_reducible refine Calls.mono (same_any Ax Ay cx cy _ _ X _ hlX hx hy) ?_); rintro e w7 ⟨rfl, hb⟩; replace hh := nextI hh hb; replace HB := below_call HB hb; clear hb hx hy)
        | (go_at_call 31; (with_reducible refine Calls.mono (hsm _) ?_); rintro e w8 ⟨rfl, hb⟩; replace hh := nextI hh hb; replace HB := below_call HB hb; clear hb)
        | (go_at_call 32; (with_reducible refine Calls.mono (hsr _) ?_); rintro e w9 ⟨rfl, hb⟩; replace hh := nextI hh hb; replace HB := below_call HB hb; clear hb)
        | (go_at_call 26; (with_reducible refine Calls.mono (same_any Ah A ch cap _ _ xs _ hn0 hh ((H0.out.below HB))) ?_); rintro e w10 ⟨rfl, hb⟩; replace HB := below_call HB hb; clear hb hh)
        | (go_at_call 8; (with_reducible refine Calls.mono (awake_any _) ?_); rintro e w11 ⟨rfl, hb⟩; replace HB := below_call HB hb; clear hb))
      go_ret
      exact ⟨rfl, HB⟩
end Go.Proofs.Ytpmabmjfininoaa
