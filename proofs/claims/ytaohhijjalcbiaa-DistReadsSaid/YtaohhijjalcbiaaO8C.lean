/-
  Package dist: Check; the reference's, too.
-/
import Derived.Test.YtaohhijjalcbiaaO8B
namespace Go.Proofs.Ytaohhijjalcbiaa
open Go.ChangeShapes Go.WideShapes Go.ChangeAt Go.RowKit
set_option linter.unusedVariables false
set_option linter.unusedSimpArgs false

/-- what Check answers -/
def chkD (log : Int) (ps : List Int) : Int :=
  if log < 5 ∨ 12 < log then 31 else if ps.length = 0 ∨ 256 < ps.length ∨ ps.getD (ps.length - 1) 0 = 0 ∨ flB (2 ^ log.toNat) ps = false then 23 else 0

theorem ints_last {w : World} {B : Nat} {A : Option Addr} {ps : List Int} (h : IntsAt w B A ps) (hl : 0 < ps.length) : ∃ b off, A = some ⟨b, off, none⟩ ∧ b < B ∧ w.cell? ⟨b, off + (ps.length - 1), none⟩ = some (.int .i64 (ps.getD (ps.length - 1) 0)) := by
  obtain ⟨b, off, rfl, hb, hc⟩ := h hl
  exact ⟨b, off, rfl, hb, hc _ (by omega)⟩
/-- the two cells of a distribution in a box -/
theorem box2 (w : World) (T : TypeId) (x y : Value) : (w.alloc (.cells #[x, y] T)).cell? ⟨w.heap.size, 0, none⟩ = some x ∧ (w.alloc (.cells #[x, y] T)).cell? ⟨w.heap.size, 1, none⟩ = some y :=
  ⟨blk_cell (blk_new w T #[x, y]) 0, blk_cell (blk_new w T #[x, y]) 1⟩

set_option maxHeartbeats 1000000 in
theorem check_c (log : Int) (A : Option Addr) (n cap : Nat) (ps : List Int) (w : World) (h : Prb w A n ps) :
    Calls Try.prog 11 #[.agg #[.int .i64 log, .slice A n cap]] w fun e w' => e = .returned (.int .i64 (chkD log ps)) ∧ Below w.heap.size w w' := by
  have hP := h
  obtain ⟨rfl, hn, hc⟩ := h
  unfold chkD
  by_cases h1 : log < 5
  · rw [if_pos (by omega)]
    go_enter Try.func11, Try.ntmps11
    go_wp2
    go_ret
    exact ⟨rfl, bel_box (Below.refl _ _) _⟩
  by_cases h2 : 12 < log
  · rw [if_pos (by omega)]
    go_enter Try.func11, Try.ntmps11
    go_wp2
    go_ret
    exact ⟨rfl, bel_box (Below.refl _ _) _⟩
  rw [if_neg (by omega)]
  by_cases h3 : ps.length = 0
  · rw [if_pos (by omega)]
    have hi : (((ps.length : Int) - 1) < 0) := by omega
    have hb : decide (((ps.length : Int) - 1) < 0) = true := by simpa using hi
    clear hP hc
    go_enter Try.func11, Try.ntmps11
    go_wp2
    go_quiet (fail)
    go_wp2
    go_ret
    exact ⟨rfl, Below.drewN' (bel_box (Below.refl _ _) _) _⟩
  obtain ⟨b, off, rfl, hb, hc⟩ := ints_last hc (by omega)
  have hi1 : decide (((ps.length : Int) - 1) < 0) = false := by simp; omega
  have hi2 : 0 ≤ ((ps.length : Int) - 1) := by omega
  have hi3 : ((ps.length : Int) - 1).toNat = ps.length - 1 := by omega
  have hi4 : ((ps.length : Int) - 1) < ps.length := by omega
  have hi5 : ps.length - 1 < ps.length := by omega
  by_cases h4 : 256 < ps.length
  · rw [if_pos (by omega)]
    have hd : decide (256 ≤ ((ps.length : Int) - 1)) = true := by simp; omega
    clear hP hc
    go_enter Try.func11, Try.ntmps11
    go_wp2
    go_quiet (fail)
    go_wp2
    go_ret
    exact ⟨rfl, Below.drewN' (bel_box (Below.refl _ _) _) _⟩
  have hd : decide (256 ≤ ((ps.length : Int) - 1)) = false := by simp; omega
  have hc' := fun o => (World.cell?_alloc_lt w o _ hb).trans hc
  by_cases h5 : ps.getD (ps.length - 1) 0 = 0
  · rw [if_pos (by omega)]
    rw [h5] at hc'
    have hc2 := hc' (.cells #[.int .i64 log, .slice (some ⟨b, off, none⟩) ps.length cap] 24)
    clear hP hc hc' h5
    go_enter Try.func11, Try.ntmps11
    go_wp2
    go_quiet (fail)
    go_wp2
    go_ret
    exact ⟨rfl, Below.drewN' (bel_box (Below.refl _ _) _) _⟩
  have h5b : (ps.getD (ps.length - 1) 0 == 0) = false := by simpa using h5
  obtain ⟨L, rfl⟩ : ∃ L : Nat, log = L := ⟨log.toNat, by omega⟩
  rw [Int.toNat_natCast]
  have ha := two12 (L := L) (by omega)
  have hp := pow_pos' L
  have hz : ∀ u, Calls Try.prog 13 #[.agg #[.int .i64 (L : Int), .slice (some ⟨b, off, none⟩) ps.length cap]] u fun e w' => e = .returned (.int .i64 (2 ^ L)) ∧ Below u.heap.size u w' := fun u => by
    have k := size_c (L : Int) (some ⟨b, off, none⟩) ps.length cap u
    unfold sizeD at k
    rwa [if_neg (by omega), Int.toNat_natCast] at k
  have hfl := fun u (hu : Below w.heap.size w u) => fills_c (some ⟨b, off, none⟩) ps.length cap ps (2 ^ L) (Int.le_of_lt hp) ha u (hP.below hu)
  have hc2 := hc' (.cells #[.int .i64 (L : Int), .slice (some ⟨b, off, none⟩) ps.length cap] 24)
  have hx := box2 w 24 (.int .i64 (L : Int)) (.slice (some ⟨b, off, none⟩) ps.length cap)
  have HX := Lib.hid hx
  have HC := Lib.hid hc2
  have H0 := Lib.hid (bel_box (Below.refl w.heap.size w) (.cells #[.int .i64 (L : Int), .slice (some ⟨b, off, none⟩) ps.length cap] 24))
  have H3 := Lib.hid h3
  have H4 := Lib.hid h4
  have H5 := Lib.hid h5
  have HB := Lib.hid hb
  clear hx hc2 hc' h3 h4 h5 hc hb
  have hr : (if ps.length = 0 ∨ 256 < ps.length ∨ ps.getD (ps.length - 1) 0 = 0 ∨ flB (2 ^ L) ps = false then (23 : Int) else 0) = if flB (2 ^ L) ps = false then 23 else 0 := by
    have a := H3.out; have b := H4.out; have c := H5.out
    by_cases hf : flB (2 ^ L) ps = false
    · rw [if_pos hf, if_pos (by simp [hf])]
    · rw [if_neg hf, if_neg (fun hx => by rcases hx with x | x | x | x; exact a x; exact b x; exact c x; exact hf x)]
  rw [hr]
  clear hr
  have hi6 : (1 : Int) ≤ ps.length := by omega
  have hbc : ∀ u u' : World, Below w.heap.size w u → Below u.heap.size u u' → u.cell? ⟨w.heap.size, 0, none⟩ = some (.int .i64 (L : Int)) ∧ u.cell? ⟨w.heap.size, 1, none⟩ = some (.slice (some ⟨b, off, none⟩) ps.length cap) → u.cell? ⟨b, off + (ps.length - 1), none⟩ = some (.int .i64 (ps.getD (ps.length - 1) 0)) → w.heap.size < u.heap.size →
      (u'.cell? ⟨w.heap.size, 0, none⟩ = some (.int .i64 (L : Int)) ∧ u'.cell? ⟨w.heap.size, 1, none⟩ = some (.slice (some ⟨b, off, none⟩) ps.length cap)) ∧ u'.cell? ⟨b, off + (ps.length - 1), none⟩ = some (.int .i64 (ps.getD (ps.length - 1) 0)) := fun u u' hu hu' hx hz hs =>
    ⟨⟨(hu'.cell (p := ⟨w.heap.size, 0, none⟩) hs).trans hx.1, (hu'.cell (p := ⟨w.heap.size, 1, none⟩) hs).trans hx.2⟩, (hu'.cell (p := ⟨b, off + (ps.length - 1), none⟩) (Nat.lt_of_lt_of_le HB.out hu.size)).trans hz⟩
  have HK := Lib.hid hbc
  have H1 := Lib.hid (show w.heap.size < ((w.alloc (.cells #[.int .i64 (L : Int), .slice (some ⟨b, off, none⟩) ps.length cap] 24)).drew).heap.size from by show w.heap.size < (w.alloc _).heap.size; simp)
  clear hbc
  generalize flB (2 ^ L) ps = f at *
  generalize (2 : Int) ^ L = S at *
  generalize ps.getD (ps.length - 1) 0 = z at *
  cases f
  all_goals
    go_enter Try.func11, Try.ntmps11
    go_wp2
    have hx0 := HX.out.1
    have hx1 := HX.out.2
    have hcz := HC.out
    have k0 := Lib.hid (show (((w.alloc (.cells #[.int .i64 (L : Int), .slice (some ⟨b, off, none⟩) ps.length cap] 24)).drew).cell? ⟨w.heap.size, 0, none⟩ = some (.int .i64 (L : Int)) ∧ ((w.alloc (.cells #[.int .i64 (L : Int), .slice (some ⟨b, off, none⟩) ps.length cap] 24)).drew).cell? ⟨w.heap.size, 1, none⟩ = some (.slice (some ⟨b, off, none⟩) ps.length cap)) ∧ ((w.alloc (.cells #[.int .i64 (L : Int), .slice (some ⟨b, off, none⟩) ps.length cap] 24)).drew).cell? ⟨b, off + (ps.length - 1), none⟩ = some (.int .i64 z) from ⟨HX.out, HC.out⟩)
    have k1 := k0
    go_region_held3 (fun w' => (w'.cell? ⟨w.heap.size, 0, none⟩ = some (.int .i64 (L : Int)) ∧ w'.cell? ⟨w.heap.size, 1, none⟩ = some (.slice (some ⟨b, off, none⟩) ps.length cap)) ∧ w'.cell? ⟨b, off + (ps.length - 1), none⟩ = some (.int .i64 z))
      (first | (with_reducible exact k0.out) | (with_reducible exact k1.out))
      (first
        | (go_at_call 13; (with_reducible refine (hz _).mono ?_); rintro r w1 ⟨rfl, hb1⟩; have k1 := Lib.hid (HK.out _ _ H0.out.drew hb1 HX.out HC.out H1.out); have m1 := Lib.hid (bel_call H0.out.drew hb1); have s1 := Lib.hid (Nat.lt_of_lt_of_le H1.out hb1.size); clear hb1)
        | (go_at_call 29; (with_reducible refine (hfl _ m1.out).mono ?_); rintro r w2 ⟨rfl, hb2⟩; have k1 := Lib.hid (HK.out _ _ m1.out hb2 k1.out.1 k1.out.2 s1.out); have m2 := Lib.hid (bel_call m1.out hb2); clear hb2))
    go_wp2
    go_ret
    exact ⟨rfl, m2.out⟩
end Go.Proofs.Ytaohhijjalcbiaa
