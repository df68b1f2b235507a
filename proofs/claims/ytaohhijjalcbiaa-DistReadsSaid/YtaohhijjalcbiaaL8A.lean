/-
  The laws of stage 8: what they check at each call; lists of literals.
-/
import Derived.Test.YtaohhijjalcbiaaO8P
import Derived.Test.YtaohhijjalcbiaaO8G
namespace Go.Proofs.Ytaohhijjalcbiaa
open Go.ChangeShapes Go.WideShapes Go.ChangeAt Go.RowKit
set_option linter.unusedVariables false
set_option linter.unusedSimpArgs false

def tabD (xs : List Int) : Array Value := (xs.map (Value.int .i64)).toArray
theorem tabD_cell {w : World} {g : Nat} {t : TypeId} {xs : List Int} (h : Blk w g t (tabD xs)) {k : Nat} (hk : k < xs.length) : w.cell? ⟨g, 0 + k, none⟩ = some (.int .i64 (xs.getD k 0)) := by
  rw [blk_cell h, Nat.zero_add]
  unfold tabD
  simp [List.getD, hk]
theorem prb_blk {w : World} {g : Nat} {t : TypeId} {xs : List Int} (h : Blk w g t (tabD xs)) (hl : xs.length ≤ 1000000) : Prb w (some ⟨g, 0, none⟩) xs.length xs :=
  ⟨rfl, hl, fun _ => ⟨g, 0, rfl, blk_lt h, fun k hk => tabD_cell h hk⟩⟩
theorem prb_lit (w : World) (t : TypeId) (xs : List Int) (n : Nat) (hn : xs.length = n) (hl : n ≤ 1000000) : Prb (w.alloc (.cells (tabD xs) t)) (some ⟨w.heap.size, 0, none⟩) n xs := by
  subst hn
  exact prb_blk (blk_new w t (tabD xs)) hl

theorem lit_dsc : dscR 5 [16, 16] = ⟨#[16, 63]⟩ := by kernel_rfl
theorem lit_chk : chkD 5 [16, 16] = 0 := by kernel_rfl
theorem lit_chk4 : chkD 4 [16] = 31 := by kernel_rfl
theorem awake_c (w : World) : Calls Try.prog 9 #[] w fun r w' => r = .returned (.bool true) ∧ Below w.heap.size w w' := by
  have h1 : ∀ u : World, Calls Try.prog 17 #[.agg #[.int .i64 5, .slice (some ⟨u.heap.size, 0, none⟩) 2 2]] (u.alloc (.cells #[.int .i64 16, .int .i64 16] 3)) fun e w' => e = .returned (.tuple #[.string ⟨#[16, 63]⟩, .int .i64 0]) ∧ Below (u.alloc (.cells #[.int .i64 16, .int .i64 16] 3)).heap.size (u.alloc (.cells #[.int .i64 16, .int .i64 16] 3)) w' := fun u => by
    have k := write_c 5 (some ⟨u.heap.size, 0, none⟩) 2 2 [16, 16] (Nat.le_refl _) _ (prb_lit u 3 [16, 16] 2 rfl (by decide))
    rw [lit_dsc, lit_chk] at k
    exact k
  have h2 : ∀ u : World, Calls Try.prog 11 #[.agg #[.int .i64 4, .slice (some ⟨u.heap.size, 0, none⟩) 1 1]] (u.alloc (.cells #[.int .i64 16] 3)) fun e w' => e = .returned (.int .i64 31) ∧ Below (u.alloc (.cells #[.int .i64 16] 3)).heap.size (u.alloc (.cells #[.int .i64 16] 3)) w' := fun u => by
    have k := check_c 4 (some ⟨u.heap.size, 0, none⟩) 1 1 [16] _ (prb_lit u 3 [16] 1 rfl (by decide))
    rw [lit_chk4] at k
    exact k
  go_enter Try.func9, Try.ntmps9
  go_wp2_with (first
    | (go_at_call 17; (with_reducible refine (h1 _).mono ?_); rintro e w1 ⟨rfl, hb1⟩)
    | (go_at_call 11; (with_reducible refine (h2 _).mono ?_); rintro e w2 ⟨rfl, hb2⟩))
  go_ret
  exact ⟨rfl, bel_call (bel_box (bel_call (bel_box (Below.refl _ _) _) hb1) _) hb2⟩

/-- equal distributions -/
theorem sameDist_c (log : Int) (A A' : Option Addr) (c c' B B' : Nat) (xs : List Int) (w : World) (hn : xs.length ≤ 1000000) (h : IntsAt w B A xs) (h' : IntsAt w B' A' xs) (hB : B ≤ w.heap.size) (hB' : B' ≤ w.heap.size) :
    Calls Try.prog 23 #[.agg #[.int .i64 log, .slice A xs.length c], .agg #[.int .i64 log, .slice A' xs.length c']] w fun e w' => e = .returned (.bool true) ∧ Below w.heap.size w w' := by
  have hI := fun u (hu : Below w.heap.size w u) => same_any A A' c c' w.heap.size w.heap.size xs u (by omega) ((h.more hB).below hu) ((h'.more hB').below hu)
  clear h h'
  go_enter Try.func23, Try.ntmps23
  go_wp2_with (go_at_call 39; (with_reducible refine (hI _ (bel_box (bel_box (Below.refl _ _) _) _)).mono ?_); rintro e w1 ⟨rfl, hb1⟩)
  go_ret
  exact ⟨rfl, bel_call (bel_box (bel_box (Below.refl _ _) _) _) hb1⟩
end Go.Proofs.Ytaohhijjalcbiaa
