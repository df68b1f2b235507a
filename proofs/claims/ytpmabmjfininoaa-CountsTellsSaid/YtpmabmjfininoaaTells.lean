/-
  CountsTells.
-/
import Derived.Test.YtpmabmjfininoaaApb
namespace Go.Proofs.Ytpmabmjfininoaa
open Go.ChangeShapes Go.WideShapes Go.ChangeAt Go.RowKit Go.Shelf
set_option linter.unusedVariables false
set_option linter.unusedSimpArgs false

theorem nextB {w w' : World} {A : Option Addr} {xs : List Bool} (h : BoolsAt w w.heap.size A xs) (hb : Below w.heap.size w w') : BoolsAt w' w'.heap.size A xs := (h.below hb).more hb.size

set_option maxRecDepth 100000 in
set_option maxHeartbeats 4000000 in
theorem countsTells_any (A A' : Option Addr) (n cap m cap' : Nat) (xs : List Int) (bs : List Bool) (w : World) (h : Cts w A n xs) (hN : A = none → n = 0 ∧ cap = 0) (h' : Bls w A' m bs) (hN' : A' = none → m = 0 ∧ cap' = 0) :
    Calls Try.prog 3 #[.slice A n cap, .slice A' m cap'] w fun e w' => e = .returned (.bool true) ∧ Below w.heap.size w w' := by
  by_cases h1 : 260 < n
  · have d1 : decide ((260 : Int) < (n : Int)) = true := decide_eq_true (by omega)
    clear h hN h' hN'
    go_enter Try.func3, Try.ntmps3
    go_wp2_with (go_at_call 8; (with_reducible refine (awake_any _).mono ?_); rintro e w1 ⟨rfl, hb⟩)
    go_ret
    exact ⟨rfl, hb⟩
  · have d1 : decide ((260 : Int) < (n : Int)) = false := decide_eq_false (by omega)
    by_cases h2 : 260 < m
    · have d2 : decide ((260 : Int) < (m : Int)) = true := decide_eq_true (by omega)
      clear h hN h' hN'
      go_enter Try.func3, Try.ntmps3
      go_wp2_with (go_at_call 8; (with_reducible refine (awake_any _).mono ?_); rintro e w1 ⟨rfl, hb⟩)
      go_ret
      exact ⟨rfl, hb⟩
    · have d2 : decide ((260 : Int) < (m : Int)) = false := decide_eq_false (by omega)
      have ho := own_c cap h (by omega) hN
      obtain ⟨hl, hn0, hI⟩ := h
      subst hl
      have cO : ∀ (Ah : Option Addr) u, IntsAt u u.heap.size Ah xs → Cts u Ah xs.length xs := fun Ah u hu => ⟨rfl, hn0, hu⟩
      have cR : ∀ u, Below w.heap.size w u → Cts u A xs.length xs := fun u hu => Cts.below ⟨rfl, hn0, hI⟩ hu
      have a10 := fun (Ah : Option Addr) (ch : Nat) u (hu : IntsAt u u.heap.size Ah xs) => check_c ch (cO Ah u hu)
      have a12 := fun (Ah : Option Addr) (ch : Nat) u (hu : IntsAt u u.heap.size Ah xs) => total_c ch (cO Ah u hu)
      have a14 := fun (Ah : Option Addr) (ch : Nat) u (hu : IntsAt u u.heap.size Ah xs) => distinct_c ch (cO Ah u hu)
      have a16 := fun (Ah : Option Addr) (ch : Nat) u (hu : IntsAt u u.heap.size Ah xs) => last_c ch (cO Ah u hu)
      have a18 := fun (Ah : Option Addr) (ch : Nat) u (hu : IntsAt u u.heap.size Ah xs) => greatest_c ch (cO Ah u hu)
      have a20 := fun (Ah : Option Addr) (ch : Nat) u (hu : IntsAt u u.heap.size Ah xs) => only_c ch (cO Ah u hu)
      have a24 := fun (Ah : Option Addr) (ch : Nat) u (hu : IntsAt u u.heap.size Ah xs) => halve_c ch (cO Ah u hu)
      have a22 := fun (Ah Bh : Option Addr) (ch dh : Nat) u (hu : IntsAt u u.heap.size Ah xs) (hv : BoolsAt u u.heap.size Bh bs) => covers_c (m := bs.length) ch dh (cO Ah u hu) ⟨rfl, by have := h'.1; omega, hv⟩
      have r11 := fun u (hu : Below w.heap.size w u) => rcheck_c cap (cR u hu)
      have r13 := fun u (hu : Below w.heap.size w u) => rtotal_c cap (cR u hu)
      have r15 := fun u (hu : Below w.heap.size w u) => rdistinct_c cap (cR u hu)
      have r17 := fun u (hu : Below w.heap.size w u) => rlast_c cap (cR u hu)
      have r19 := fun u (hu : Below w.heap.size w u) => rgreatest_c cap (cR u hu)
      have r21 := fun u (hu : Below w.heap.size w u) => ronly_c cap (cR u hu)
      have r23 := fun u (hu : Below w.heap.size w u) => rcovers_c cap cap' (cR u hu) (h'.below hu)
      have r25 := fun u (hu : Below w.heap.size w u) => rhalve_c cap (cR u hu)
      have hlH : (halL xs).length ≤ 9223372036854775807 := by
        unfold halL
        split
        · rw [hlv_length]; exact hn0
        · exact Nat.zero_le _
      generalize (if lasE xs = 0 then graN xs else 0) = q1 at *
      generalize (if disN xs = 1 then lasN xs else 0) = q2 at *
      generalize (disN xs == 1) = q3 at *
      generalize graC xs = q4 at *
      generalize lasE xs = q5 at *
      generalize lasN xs = q6 at *
      generalize disN xs = q7 at *
      generalize totN xs = q8 at *
      generalize covB xs bs = q9 at *
      generalize halL xs = H at *
      generalize chk xs = q0 at *
      have H0 := Lib.hid hI
      have HH' := Lib.hid h'
      have hm : m ≤ 1000000 := by omega
      clear hI hN h1 h2 cO cR h'
      go_enter Try.func3, Try.ntmps3
      go_wp2_with (first
        | (go_at_call 9; (with_reducible refine Calls.mono ho ?_); rintro e w1 ⟨Ah, ch, rfl, hh, hb⟩; have HB := hb; clear hb)
        | (at_builtin; refine append_bools rfl (.tmp 30) (.tmp 31) rfl A' m cap' bs (HH'.out.below HB) hN' hm rfl rfl ?_; rintro Bh dh w2 hB hb; replace hh := nextI hh hb; replace HB := below_call HB hb; clear hb)
        | (go_at_call 10; (with_reducible refine Calls.mono (a10 _ _ _ hh) ?_); rintro e w3 ⟨rfl, hb⟩; replace hh := nextI hh hb; replace hB := nextB hB hb; replace HB := below_call HB hb; clear hb)
        | (go_at_call 12; (with_reducible refine Calls.mono (a12 _ _ _ hh) ?_); rintro e w3 ⟨rfl, hb⟩; replace hh := nextI hh hb; replace hB := nextB hB hb; replace HB := below_call HB hb; clear hb)
        | (go_at_call 14; (with_reducible refine Calls.mono (a14 _ _ _ hh) ?_); rintro e w3 ⟨rfl, hb⟩; replace hh := nextI hh hb; replace hB := nextB hB hb; replace HB := below_call HB hb; clear hb)
        | (go_at_call 16; (with_reducible refine Calls.mono (a16 _ _ _ hh) ?_); rintro e w3 ⟨rfl, hb⟩; replace hh := nextI hh hb; replace hB := nextB hB hb; replace HB := below_call HB hb; clear hb)
        | (go_at_call 18; (with_reducible refine Calls.mono (a18 _ _ _ hh) ?_); rintro e w3 ⟨rfl, hb⟩; replace hh := nextI hh hb; replace hB := nextB hB hb; replace HB := below_call HB hb; clear hb)
        | (go_at_call 20; (with_reducible refine Calls.mono (a20 _ _ _ hh) ?_); rintro e w3 ⟨rfl, hb⟩; replace hh := nextI hh hb; replace hB := nextB hB hb; replace HB := below_call HB hb; clear hb)
        | (go_at_call 22; (with_reducible refine Calls.mono (a22 _ _ _ _ _ hh hB) ?_); rintro e w3 ⟨rfl, hb⟩; replace hh := nextI hh hb; replace hB := nextB hB hb; replace HB := below_call HB hb; clear hb)
        | (go_at_call 11; (with_reducible refine Calls.mono (r11 _ HB) ?_); rintro e w3 ⟨rfl, hb⟩; replace hh := nextI hh hb; replace hB := nextB hB hb; replace HB := below_call HB hb; clear hb)
        | (go_at_call 13; (with_reducible refine Calls.mono (r13 _ HB) ?_); rintro e w3 ⟨rfl, hb⟩; replace hh := nextI hh hb; replace hB := nextB hB hb; replace HB := below_call HB hb; clear hb)
        | (go_at_call 15; (with_reducible refine Calls.mono (r15 _ HB) ?_); rintro e w3 ⟨rfl, hb⟩; replace hh := nextI hh hb; replace hB := nextB hB hb; replace HB := below_call HB hb; clear hb)
        | (go_at_call 17; (with_reducible refine Calls.mono (r17 _ HB) ?_); rintro e w3 ⟨rfl, hb⟩; replace hh := nextI hh hb; replace hB := nextB hB hb; replace HB := below_call HB hb; clear hb)
        | (go_at_call 19; (with_reducible refine Calls.mono (r19 _ HB) ?_); rintro e w3 ⟨rfl, hb⟩; replace hh := nextI hh hb; replace hB := nextB hB hb; replace HB := below_call HB hb; clear hb)
        | (go_at_call 21; (with_reducible refine Calls.mono (r21 _ HB) ?_); rintro e w3 ⟨rfl, hb⟩; replace hh := nextI hh hb; replace hB := nextB hB hb; replace HB := below_call HB hb; clear hb)
        | (go_at_call 23; (with_reducible refine Calls.mono (r23 _ HB) ?_); rintro e w3 ⟨rfl, hb⟩; replace hh := nextI hh hb; replace HB := below_call HB hb; clear hb hB)
        | (go_at_call 24; (with_reducible refine Calls.mono (a24 _ _ _ hh) ?_); rintro e w4 ⟨Ax, cx, rfl, hx, hb⟩; replace hh := nextI hh hb; replace HB := below_call HB hb; clear hb)
        | (go_at_call 25; (with_reducible refine Calls.mono (r25 _ HB) ?_); rintro e w5 ⟨Ay, cy, rfl, hy, hb⟩; replace hh := nextI hh hb; replace hx := nextI hx hb; replace HB := below_call HB hb; clear hb)
        | (go_at_call 26; (with_reducible refine Calls.mono (same_any Ax Ay cx cy _ _ H _ hlH hx hy) ?_); rintro e w7 ⟨rfl, hb⟩; replace hh := nextI hh hb; replace HB := below_call HB hb; clear hb hx hy)
        | (go_at_call 26; (with_reducible refine Calls.mono (same_any Ah A ch cap _ _ xs _ hn0 hh ((H0.out.below HB))) ?_); rintro e w10 ⟨rfl, hb⟩; replace HB := below_call HB hb; clear hb hh)
        | (go_at_call 8; (with_reducible refine Calls.mono (awake_any _) ?_); rintro e w11 ⟨rfl, hb⟩; replace HB := below_call HB hb; clear hb))
      go_ret
      exact ⟨rfl, HB⟩
end Go.Proofs.Ytpmabmjfininoaa
