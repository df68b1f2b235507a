/-
  Package dist: points are counted by a closure; which distributions are right.
-/
import Derived.Test.YtaohhijjalcbiaaO8A
namespace Go.Proofs.Ytaohhijjalcbiaa
open Go.ChangeShapes Go.WideShapes Go.ChangeAt Go.RowKit
set_option linter.unusedVariables false
set_option linter.unusedSimpArgs false

/-- a box of one number -/
theorem pointsOf_c (left : Int) (w : World) :
    Calls Try.prog 48 #[.int .i64 left] w fun e w' => e = .returned (.func (.func 67) #[] #[.pointer (some ⟨w.heap.size, 0, none⟩)]) ∧ w' = w.alloc (.cells #[.int .i64 left] 3) := by
  go_enter Try.func48, Try.ntmps48
  go_wp2
  go_ret
  exact ⟨rfl, rfl⟩
theorem taken_c (g : Nat) (left p : Int) (h0 : -9223372036854775808 ≤ left - pt p) (h1 : left - pt p ≤ 9223372036854775807) (w : World) (hb : Blk w g 3 #[.int .i64 left]) :
    Calls Try.prog 67 #[.int .i64 p, .pointer (some ⟨g, 0, none⟩)] w fun e w' => e = .returned (.int .i64 (left - pt p)) ∧ w' = w.setCell ⟨g, 0, none⟩ (.int .i64 (left - pt p)) := by
  have hc : w.cell? ⟨g, 0, none⟩ = some (.int .i64 left) := blk_cell hb 0
  have hf := blk_frozen hb 0
  unfold pt at *
  by_cases hp : p = -1
  · subst hp
    rw [if_pos rfl] at *
    go_enter Try.func67, Try.ntmps67
    go_wp2
    go_ret
    exact ⟨rfl, rfl⟩
  · rw [if_neg hp] at *
    have hpb : (p == -1) = false := by simpa using hp
    clear hp
    go_enter Try.func67, Try.ntmps67
    go_wp2
    go_ret
    exact ⟨rfl, rfl⟩

/-- probabilities make up a number of points -/
def flB : Int → List Int → Bool
  | left, [] => decide (left = 0)
  | left, p :: r => if p < -1 ∨ left < p then false else flB (left - pt p) r
theorem pts_le {l : List Int} (h : ∀ p ∈ l, -1 ≤ p) : ∀ p ∈ l, p ≤ pts l := by
  intro p hp
  induction l with
  | nil => simp at hp
  | cons q r ih =>
    have hq := pt_pos (h q (List.mem_cons_self ..))
    have hr := pts_pos (l := r) (fun x hx => h x (List.mem_cons_of_mem _ hx))
    simp only [pts]
    rcases List.mem_cons.1 hp with rfl | hp
    · omega
    · have := ih (fun x hx => h x (List.mem_cons_of_mem _ hx)) hp; omega
theorem flB_iff : ∀ (l : List Int) (left : Int), flB left l = true ↔ (∀ p ∈ l, -1 ≤ p) ∧ pts l = left
  | [], left => by simp [flB, pts]; omega
  | p :: r, left => by
    simp only [flB, pts]
    by_cases h : p < -1 ∨ left < p
    · rw [if_pos h]
      constructor
      · intro h'; cases h'
      · rintro ⟨h1, h2⟩
        have a := pts_le h1 p (List.mem_cons_self ..)
        have b := h1 p (List.mem_cons_self ..)
        simp only [pts] at a
        omega
    · rw [if_neg h, flB_iff r]
      constructor
      · rintro ⟨h1, h2⟩
        refine ⟨fun q hq => ?_, by omega⟩
        rcases List.mem_cons.1 hq with rfl | hq
        · omega
        · exact h1 q hq
      · rintro ⟨h1, h2⟩
        exact ⟨fun q hq => h1 q (List.mem_cons_of_mem _ hq), by omega⟩

set_option maxHeartbeats 1000000 in
theorem fills_c (A : Option Addr) (n cap : Nat) (ps : List Int) (size : Int) (h0 : 0 ≤ size) (h1 : size ≤ 4096) (w : World) (h : Prb w A n ps) :
    Calls Try.prog 29 #[.slice A n cap, .int .i64 size] w fun e w' => e = .returned (.bool (flB size ps)) ∧ Below w.heap.size w w' := by
  obtain ⟨rfl, hn, hc⟩ := h
  have hO := fun u => pointsOf_c size u
  by_cases hz : ps = []
  · subst hz
    have hr : flB size [] = decide (size = 0) := rfl
    rw [hr]
    by_cases hs : size = 0
    · subst hs
      go_enter Try.func29, Try.ntmps29
      go_wp2_with (go_at_call 48; (with_reducible refine (hO _).mono ?_); rintro e w' ⟨rfl, rfl⟩)
      go_loop [4, 5, 8, 14] (fun r l _ i => r = .bool false ∧ l = .int .i64 0 ∧ i = .int .i64 0) (fun _ _ _ _ => 0)
      case atStart => exact ⟨rfl, rfl, rfl⟩
      case round =>
        obtain ⟨rfl, rfl, rfl⟩ := hrel
        go_wp2
        go_ret
        exact ⟨rfl, bel_box (Below.refl _ _) _⟩
    · have hs' : (size == 0) = false := by simpa using hs
      have hd : decide (size = 0) = false := by simpa using hs
      rw [hd]
      clear hs hd
      go_enter Try.func29, Try.ntmps29
      go_wp2_with (go_at_call 48; (with_reducible refine (hO _).mono ?_); rintro e w' ⟨rfl, rfl⟩)
      go_loop [4, 5, 8, 14] (fun r l _ i => r = .bool false ∧ l = .int .i64 size ∧ i = .int .i64 0) (fun _ _ _ _ => 0)
      case atStart => exact ⟨rfl, rfl, rfl⟩
      case round =>
        obtain ⟨rfl, rfl, rfl⟩ := hrel
        go_wp2
        go_ret
        exact ⟨rfl, bel_box (Below.refl _ _) _⟩
  · have hl := List.length_pos_iff.2 hz
    obtain ⟨b, off, rfl, hb, hc⟩ := hc hl
    have HC := Lib.hid hc
    clear hc hz
    go_enter Try.func29, Try.ntmps29
    go_wp2_with (go_at_call 48; (with_reducible refine (hO _).mono ?_); rintro e w' ⟨rfl, rfl⟩)
    go_loopw [4, 5, 8, 14] (fun r l _ i wr => ∃ (k : Nat) (t : Int), k ≤ ps.length ∧ -(k : Int) ≤ t ∧ t ≤ 4096 ∧ Hid (flB size ps = flB t (ps.drop k)) ∧ r = .bool false ∧ l = .int .i64 t ∧ i = .int .i64 (k : Int) ∧ Hid (Blk wr w.heap.size 3 #[.int .i64 t]) ∧ Below w.heap.size w wr) (fun _ _ _ i _ => ps.length - (intOf i).toNat)
    case atStart => exact ⟨0, size, by omega, by omega, by omega, Lib.hid rfl, rfl, rfl, rfl, Lib.hid (blk_new w 3 _), bel_box (Below.refl _ _) _⟩
    case round =>
      obtain ⟨k, t, hk, ht0, ht1, hs, rfl, rfl, rfl, hB, hbr⟩ := hrel
      by_cases hlt : k < ps.length
      · have hcell := (hbr.cell (p := ⟨b, off + k, none⟩) hb).trans (HC.out k hlt)
        generalize hx : ps.getD k 0 = x at hcell
        have hd : flB size ps = if x < -1 ∨ t < x then false else flB (t - pt x) (ps.drop (k + 1)) := by
          rw [hs.out, drop_getD ps k hlt, hx]; rfl
        have HK := Lib.hid hbr
        clear hbr hx hs
        by_cases hx1 : x < -1
        · rw [if_pos (by omega)] at hd
          have HD := Lib.hid hd
          clear hd
          go_wp2
          go_ret
          exact ⟨by rw [HD.out]; rfl, HK.out⟩
        · by_cases hx2 : t < x
          · rw [if_pos (by omega)] at hd
            have HD := Lib.hid hd
            clear hd
            go_wp2
            go_ret
            exact ⟨by rw [HD.out]; rfl, HK.out⟩
          · rw [if_neg (by omega)] at hd
            have hq := pt_pos (p := x) (by omega)
            have hq2 : pt x ≤ 4096 := by unfold pt; split <;> omega
            have hq3 : t - pt x ≥ -((k + 1 : Nat) : Int) := by
              unfold pt at *
              split <;> omega
            have hT := taken_c w.heap.size t x (by omega) (by omega) _ hB.out
            have HD := Lib.hid hd
            have HN := Lib.hid (show Blk _ w.heap.size 3 #[.int .i64 (t - pt x)] from blk_set hB.out 0 (.int .i64 (t - pt x)))
            have HL := Lib.hid (HK.out.setCell (p := ⟨w.heap.size, 0, none⟩) (Nat.le_refl _) (.int .i64 (t - pt x)))
            have hq1 := hq.1
            clear hd hB hq
            generalize pt x = q at *
            go_wp2_with (go_at_call 67; (with_reducible refine hT.mono ?_); rintro e w' ⟨rfl, rfl⟩)
            go_roundw
            case rel => exact ⟨k + 1, t - q, by omega, by omega, by omega, HD, rfl, rfl, by go_num, HN, HL.out⟩
            case measure => simp [intOf]; omega
      · obtain rfl : k = ps.length := by omega
        have hd : flB size ps = decide (t = 0) := by rw [hs.out, List.drop_length]; rfl
        have HK := Lib.hid hbr
        clear hs hbr
        by_cases ht : t = 0
        · subst ht
          have HD := Lib.hid hd
          clear hd
          go_wp2
          go_ret
          exact ⟨by rw [HD.out]; rfl, HK.out⟩
        · have ht' : (t == 0) = false := by simpa using ht
          have hd2 : decide (t = 0) = false := by simpa using ht
          have HD := Lib.hid (hd.trans hd2)
          clear hd hd2 ht
          go_wp2
          go_ret
          exact ⟨by rw [HD.out]; rfl, HK.out⟩
end Go.Proofs.Ytaohhijjalcbiaa
