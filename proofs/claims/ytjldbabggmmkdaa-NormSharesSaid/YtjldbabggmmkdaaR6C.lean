/-
  The reference of package counts: Greatest and Covers.
-/
import Derived.Test.YtjldbabggmmkdaaR6B
namespace Go.Proofs.Ytjldbabggmmkdaa
open Go.ChangeShapes Go.WideShapes Go.ChangeAt Go.RowKit Go.Shelf
set_option linter.unusedVariables false
set_option linter.unusedSimpArgs false

theorem grst_lt (zs : List Int) : ∀ k, grst zs (k + 1) < k + 1
  | 0 => by show (if zs.getD 0 0 < zs.getD 0 0 then 0 else 0) < 1; split <;> omega
  | k + 1 => by
    have ih := grst_lt zs k
    show (if zs.getD (grst zs (k + 1)) 0 < zs.getD (k + 1) 0 then k + 1 else grst zs (k + 1)) < k + 1 + 1
    split <;> omega
theorem gra_end {zs : List Int} (h : lasE zs = 0) : graN zs = (grst zs zs.length : Nat) ∧ 0 < zs.length := by
  obtain ⟨h0, he⟩ := lasE_zero h
  have g := good_of h0
  have hpos : 0 < zs.length := by
    rcases Nat.eq_zero_or_pos zs.length with hz | hz
    · rw [hz] at he; exact absurd he (by rw [occ_zero]; decide)
    · exact hz
  have k := gst_at (getD_nonneg g.2.1) (zs.length - 1)
  rw [show zs.length - 1 + 1 = zs.length by omega] at k
  have e := gst_end k he
  exact ⟨by unfold graN; rw [if_pos h0]; exact e.1, hpos⟩

theorem rgreatest_c {A : Option Addr} {n : Nat} {zs : List Int} (cap : Nat) {w : World} (h : Cts w A n zs) :
    Calls Try.prog 40 #[.slice A n cap] w fun r w' => r = .returned (.tuple #[.int .i64 (if lasE zs = 0 then graN zs else 0), .int .i64 (graC zs), .int .i64 (lasE zs)]) ∧ Below w.heap.size w w' := by
  have hb := rlast_c cap h
  unfold graC
  by_cases h0 : lasE zs = 0
  · obtain ⟨e0, hpos⟩ := gra_end h0
    rw [if_pos h0, if_pos h0, e0, Int.toNat_natCast]
    rw [h0] at hb ⊢
    obtain ⟨hl, hn, hI⟩ := h
    subst hl
    obtain ⟨B, off, rfl, hB, hc⟩ := hI hpos
    have HC := Lib.hid hc
    have HH := Lib.hid hB
    clear hc hI hB h0 e0
    generalize lasN zs = la at *
    go_enter Try.func40, Try.ntmps40
    go_wp2_with (go_at_call 37; (with_reducible refine hb.mono ?_); rintro r w1 ⟨rfl, hb1⟩)
    have HB := Lib.hid hb1
    clear hb1
    go_loopw [7, 8] (fun s i wr => ∃ (k m b : Nat), k + 1 ≤ zs.length ∧ b < k + 1 ∧ Hid (grst zs (k + 1) = b) ∧ s = .int .i64 (b : Int) ∧ i = .int .i64 ((k + 1 : Nat) : Int) ∧ wr = w1.drewN m) (fun _ i _ => zs.length - (intOf i).toNat)
    case atStart => exact ⟨0, 0, 0, by omega, by omega, (by have := grst_lt zs 0; show _ = _; omega), rfl, by go_num, rfl⟩
    case round =>
      obtain ⟨k, m, b, hk, hbk, hs, rfl, rfl, rfl⟩ := hrel
      have c2 : w1.cell? ⟨B, off + b, none⟩ = some (.int .i64 (zs.getD b 0)) := (HB.out.cell (p := ⟨B, off + b, none⟩) HH.out).trans (HC.out b (by omega))
      by_cases hlt : k + 1 < zs.length
      · have c1 : w1.cell? ⟨B, off + (k + 1), none⟩ = some (.int .i64 (zs.getD (k + 1) 0)) := (HB.out.cell (p := ⟨B, off + (k + 1), none⟩) HH.out).trans (HC.out (k + 1) (by omega))
        have hg : grst zs (k + 1 + 1) = if zs.getD b 0 < zs.getD (k + 1) 0 then k + 1 else b := by
          show (if zs.getD (grst zs (k + 1)) 0 < zs.getD (k + 1) 0 then k + 1 else grst zs (k + 1)) = _
          rw [hs.out]
        clear hs
        generalize zs.getD b 0 = x at *
        generalize zs.getD (k + 1) 0 = y at *
        generalize hj : k + 1 = j at *
        by_cases h1 : x < y
        · rw [if_pos h1] at hg
          have HG := Lib.hid hg
          clear hg
          go_wp2
          go_quiet (fail)
          go_wp2
          go_roundw
          case rel => exact ⟨j, _, j, by omega, by omega, HG, rfl, by go_num, rfl⟩
          case measure => simp [intOf]; omega
        · rw [if_neg h1] at hg
          have HG := Lib.hid hg
          clear hg
          go_wp2
          go_quiet (fail)
          go_wp2
          go_roundw
          case rel => exact ⟨j, _, b, by omega, by omega, HG, rfl, by go_num, rfl⟩
          case measure => simp [intOf]; omega
      · have hkl : k + 1 = zs.length := by omega
        have hg : grst zs zs.length = b := by rw [← hkl]; exact hs.out
        have HG := Lib.hid hg
        clear hs hg
        have hbl : b < zs.length := by omega
        have HX := Lib.hid (show zs.getD b 0 = zs.getD b 0 from rfl)
        generalize hj : k + 1 = j at *
        subst hkl
        generalize hx : zs.getD b 0 = x at c2
        have HXX := Lib.hid hx
        clear hx
        go_wp2
        go_quiet (fail)
        go_wp2
        go_ret3
        exact ⟨by rw [HG.out, HXX.out]; rfl, Below.drewN' (Below.drewN' HB.out _) _⟩
  · have h1 : (lasE zs != 0) = true := by simpa using h0
    rw [if_neg h0, if_neg h0]
    clear h h0
    generalize lasN zs = x at *
    generalize lasE zs = y at *
    go_enter Try.func40, Try.ntmps40
    go_wp2_with (go_at_call 37; (with_reducible refine hb.mono ?_); rintro r w1 ⟨rfl, hb1⟩)
    go_ret3
    exact ⟨rfl, hb1⟩

/-- a list of truth values in memory -/
def BoolsAt (w : World) (B : Nat) (A : Option Addr) (hs : List Bool) : Prop :=
  0 < hs.length → ∃ b off, A = some ⟨b, off, none⟩ ∧ b < B ∧ ∀ k, k < hs.length → w.cell? ⟨b, off + k, none⟩ = some (.bool (hs.getD k false))
theorem BoolsAt.below {w w' : World} {B : Nat} {A : Option Addr} {xs : List Bool} (h : BoolsAt w B A xs) (hb : Below B w w') : BoolsAt w' B A xs := fun h0 => by
  obtain ⟨b, off, hA, hlt, hc⟩ := h h0
  exact ⟨b, off, hA, hlt, fun k hk => (hb.cell (p := ⟨b, off + k, none⟩) hlt).trans (hc k hk)⟩
theorem BoolsAt.more {w : World} {B B' : Nat} {A : Option Addr} {xs : List Bool} (h : BoolsAt w B A xs) (hb : B ≤ B') : BoolsAt w B' A xs := fun h0 => by
  obtain ⟨b, off, hA, hlt, hc⟩ := h h0
  exact ⟨b, off, hA, by omega, hc⟩
def Bls (w : World) (A : Option Addr) (n : Nat) (hs : List Bool) : Prop := hs.length = n ∧ n ≤ 9223372036854775807 ∧ BoolsAt w w.heap.size A hs
theorem Bls.below {w w' : World} {A : Option Addr} {n : Nat} {hs : List Bool} (h : Bls w A n hs) (hb : Below w.heap.size w w') : Bls w' A n hs := ⟨h.1, h.2.1, (h.2.2.below hb).more hb.size⟩

def covB (zs : List Int) (hs : List Bool) : Bool := if chk zs = 0 then covK zs hs zs.length else false

end Go.Proofs.Ytjldbabggmmkdaa
