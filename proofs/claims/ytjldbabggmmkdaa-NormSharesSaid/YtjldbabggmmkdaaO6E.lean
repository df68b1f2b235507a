/-
  Last, Greatest and Only of counts.
-/
import Derived.OwnWalk
import Derived.Deep.Cut
import Derived.Test.YtjldbabggmmkdaaO6W
namespace Go.Proofs.Ytjldbabggmmkdaa
open Go.ChangeShapes Go.WideShapes Go.ChangeAt Go.RowKit Go.Shelf
set_option linter.unusedVariables false
set_option linter.unusedSimpArgs false

theorem best_bad {A : Option Addr} {n : Nat} {zs : List Int} (cap : Nat) {w : World} (h : Cts w A n zs) (h0 : chk zs ≠ 0) (g : Nat) :
    Calls Try.prog 55 #[.slice A n cap, .func (.func g) #[] #[]] w fun r w' => r = .returned (.tuple #[.int .i64 0, .int .i64 (chk zs)]) ∧ Below w.heap.size w w' := by
  have hck := check_c cap (h.below ((Below.refl _ w).alloc (Nat.le_refl _) (.cells #[.func (.func g) #[] #[]] 39)))
  have h1 : (chk zs != 0) = true := by simpa using h0
  clear h h0
  generalize chk zs = y at *
  go_enter Try.func55, Try.ntmps55
  go_wp2_with (go_at_call 48; (with_reducible refine hck.mono ?_); rintro r w1 ⟨rfl, hb1⟩)
  go_ret2
  exact ⟨rfl, below_call (below_box (Below.refl _ _) _) hb1⟩

/-- the last one and what is wrong -/
def lasN (zs : List Int) : Int := if chk zs = 0 then symP rk40 (occ zs zs.length) else 0
def lasE (zs : List Int) : Int := if chk zs = 0 then errP (occ zs zs.length) else chk zs
theorem last_c {A : Option Addr} {n : Nat} {zs : List Int} (cap : Nat) {w : World} (h : Cts w A n zs) :
    Calls Try.prog 42 #[.slice A n cap] w fun r w' => r = .returned (.tuple #[.int .i64 (lasN zs), .int .i64 (lasE zs)]) ∧ Below w.heap.size w w' := by
  have hb : Calls Try.prog 55 #[.slice A n cap, .func (.func 56) #[] #[]] w fun r w' => r = .returned (.tuple #[.int .i64 (lasN zs), .int .i64 (lasE zs)]) ∧ Below w.heap.size w w' := by
    unfold lasN lasE
    by_cases h0 : chk zs = 0
    · rw [if_pos h0, if_pos h0, h.1]; exact best_40 cap h h0
    · rw [if_neg h0, if_neg h0]; exact best_bad cap h h0 56
  clear h
  generalize lasN zs = x at *
  generalize lasE zs = y at *
  go_enter Try.func42, Try.ntmps42
  go_wp2_with (go_at_call 55; (with_reducible refine hb.mono ?_); rintro r w1 ⟨rfl, hb1⟩)
  go_ret2
  exact ⟨rfl, hb1⟩

/-- the one that occurs most -/
def graN (zs : List Int) : Int := if chk zs = 0 then symP rk41 (occ zs zs.length) else 0
def graC (zs : List Int) : Int := if lasE zs = 0 then zs.getD (graN zs).toNat 0 else 0
def grst (zs : List Int) : Nat → Nat
  | 0 => 0
  | k + 1 => if zs.getD (grst zs k) 0 < zs.getD k 0 then k else grst zs k
theorem gst_at {zs : List Int} (h0 : ∀ k, 0 ≤ zs.getD k 0) : ∀ k, Gst zs (k + 1) (grst zs (k + 1))
  | 0 => by
    have e : grst zs 1 = 0 := by show (if zs.getD 0 0 < zs.getD 0 0 then 0 else 0) = 0; split <;> rfl
    rw [e]; exact gst_one zs
  | k + 1 => gst_next (gst_at h0 k) (h0 _) (h0 _)
theorem getD_nonneg {zs : List Int} (h : ∀ z ∈ zs, 0 ≤ z ∧ z ≤ 1099511627776) (k : Nat) : 0 ≤ zs.getD k 0 := by
  by_cases hk : k < zs.length
  · have e : zs.getD k 0 = zs[k] := by simp [List.getD, hk]
    rw [e]; exact (h _ (List.getElem_mem hk)).1
  · have e : zs.getD k 0 = 0 := by simp [List.getD, List.getElem?_eq_none (Nat.le_of_not_lt hk)]
    rw [e]; exact Int.le_refl _
theorem lasE_zero {zs : List Int} (h : lasE zs = 0) : chk zs = 0 ∧ errP (occ zs zs.length) = 0 := by
  unfold lasE at h
  by_cases h0 : chk zs = 0
  · rw [if_pos h0] at h; exact ⟨h0, h⟩
  · rw [if_neg h0] at h; exact absurd h h0
theorem gra_at {zs : List Int} (h : lasE zs = 0) : ∃ b : Nat, graN zs = b ∧ b < zs.length ∧ Gst zs zs.length b := by
  obtain ⟨h0, he⟩ := lasE_zero h
  have g := good_of h0
  have hpos : 0 < zs.length := by
    rcases Nat.eq_zero_or_pos zs.length with hz | hz
    · rw [hz] at he; exact absurd he (by rw [occ_zero]; decide)
    · exact hz
  have k := gst_at (getD_nonneg g.2.1) (zs.length - 1)
  rw [show zs.length - 1 + 1 = zs.length by omega] at k
  have e := gst_end k he
  exact ⟨_, by unfold graN; rw [if_pos h0]; exact e.1, e.2, k⟩
/-- the only one -/
theorem disN_one {zs : List Int} (h : disN zs = 1) : chk zs = 0 ∧ lasE zs = 0 := by
  unfold disN at h
  by_cases h0 : chk zs = 0
  · rw [if_pos h0] at h
    refine ⟨h0, ?_⟩
    unfold lasE
    rw [if_pos h0]
    apply errP_some
    intro hz
    have := occ_cnt zs
    rw [hz] at this
    simp at this
    omega
  · rw [if_neg h0] at h; exact absurd h (by decide)
end Go.Proofs.Ytjldbabggmmkdaa
