/-
  The project's mixing of lanes.
-/
import Derived.Test.YtgiihdgkejhbeaaO5A
import Derived.Laws.DeepStrings4
namespace Go.Proofs.Ytgiihdgkejhbeaa
open Go.ChangeShapes Go.WideShapes Go.ChangeAt Go.RowKit
set_option linter.unusedVariables false

theorem tail_list (s : ByteArray) (a : Nat) : (s.extract a s.size).data.toList = s.data.toList.drop a := by
  rw [ByteArray.data_extract, Array.toList_extract]
  simp only [List.extract]
  exact List.take_of_length_le (by rw [List.length_drop, Array.length_toList]; exact Nat.le_refl _)
theorem ext_le (s : ByteArray) (a b : Nat) : (s.extract a b).size ≤ s.size := by
  rw [ByteArray.size_extract]
  exact Nat.le_trans (Nat.sub_le _ _) (Nat.min_le_right _ _)
theorem number_at (s : ByteArray) (a z : Nat) (hs : s.size ≤ maxLen) (h1 : 1 ≤ z) (h2 : z ≤ 8) (h3 : a + z ≤ s.size) (w : World) :
    Calls Try.prog 46 #[.string (s.extract a s.size), .int .i64 (z : Int)] w fun e w' => e = .returned (.int .u64 (nuB ((s.data.toList.drop a).take z) : Nat)) ∧ Below w.heap.size w w' := by
  have h3' : z ≤ (s.extract a s.size).size := by rw [ByteArray.size_extract, Nat.min_self]; exact Nat.le_sub_of_add_le (by rw [Nat.add_comm]; exact h3)
  have h := number_in (s.extract a s.size) z (Nat.le_trans (ext_le _ _ _) hs) h1 h2 h3' w
  rw [tail_list] at h
  exact h
theorem number8 (s : ByteArray) (a : Nat) (hs : s.size ≤ maxLen) (h3 : a + 8 ≤ s.size) (w : World) :
    Calls Try.prog 46 #[.string (s.extract a s.size), .int .i64 8] w fun e w' => e = .returned (.int .u64 (nuB ((s.data.toList.drop a).take 8) : Nat)) ∧ Below w.heap.size w w' := number_at s a 8 hs (by decide) (by decide) h3 w

/-- the lanes behind k of the four rounds -/
def stg (L M : L4) (k : Nat) : Array Value := #[.int .u64 (if 0 < k then M.a else L.a), .int .u64 (if 1 < k then M.b else L.b), .int .u64 (if 2 < k then M.c else L.c), .int .u64 (if 3 < k then M.d else L.d)]

set_option maxHeartbeats 1000000 in
theorem mixed_any (L : L4) (s : ByteArray) (hs : s.size ≤ maxLen) (h : 32 ≤ s.size) (w : World) :
    Calls Try.prog 34 #[.agg #[.int .u64 L.a, .int .u64 L.b, .int .u64 L.c, .int .u64 L.d], .string s] w fun e w' =>
      e = .returned (.agg #[.int .u64 (mixL L s.data.toList).a, .int .u64 (mixL L s.data.toList).b, .int .u64 (mixL L s.data.toList).c, .int .u64 (mixL L s.data.toList).d]) ∧ Below w.heap.size w w' := by
  have HS := Lib.hid hs
  have hm : s.size ≤ 9223372036854775807 := hs
  have n0 : ∀ u, Calls Try.prog 46 #[.string s, .int .i64 8] u fun e w' => e = .returned (.int .u64 (nuB (s.data.toList.take 8) : Nat)) ∧ Below u.heap.size u w' := fun u => number_in s 8 hs (by decide) (by decide) (by omega) u
  have n1 := fun u => number8 s 8 hs (by omega) u
  have n2 := fun u => number8 s 16 hs (by omega) u
  have n3 := fun u => number8 s 24 hs (by omega) u
  obtain ⟨M, hM⟩ : ∃ M, mixL L s.data.toList = M := ⟨_, rfl⟩
  have m0 : rd L.a (nuB (s.data.toList.take 8) : Nat) = M.a := by rw [← hM]; rfl
  have m1 : rd L.b (nuB ((s.data.toList.drop 8).take 8) : Nat) = M.b := by rw [← hM]; rfl
  have m2 : rd L.c (nuB ((s.data.toList.drop 16).take 8) : Nat) = M.c := by rw [← hM]; rfl
  have m3 : rd L.d (nuB ((s.data.toList.drop 24).take 8) : Nat) = M.d := by rw [← hM]; rfl
  rw [hM]
  have r0 := fun u => round_any L.a (nuB (s.data.toList.take 8) : Nat) u
  have r1 := fun u => round_any L.b (nuB ((s.data.toList.drop 8).take 8) : Nat) u
  have r2 := fun u => round_any L.c (nuB ((s.data.toList.drop 16).take 8) : Nat) u
  have r3 := fun u => round_any L.d (nuB ((s.data.toList.drop 24).take 8) : Nat) u
  rw [m0] at r0
  rw [m1] at r1
  rw [m2] at r2
  rw [m3] at r3
  obtain ⟨a, b, c, d⟩ := L
  clear m0 m1 m2 m3 hM
  have x0 : ∀ u, (Instr.index 30 (.agg #[.int .u64 a, .int .u64 b, .int .u64 c, .int .u64 d]) (.int .i64 0)).run Try.prog u = .ok (.int .u64 a) u := fun u => by kernel_rfl
  have x1 : ∀ u, (Instr.index 30 (.agg #[.int .u64 a, .int .u64 b, .int .u64 c, .int .u64 d]) (.int .i64 1)).run Try.prog u = .ok (.int .u64 b) u := fun u => by kernel_rfl
  have x2 : ∀ u, (Instr.index 30 (.agg #[.int .u64 a, .int .u64 b, .int .u64 c, .int .u64 d]) (.int .i64 2)).run Try.prog u = .ok (.int .u64 c) u := fun u => by kernel_rfl
  have x3 : ∀ u, (Instr.index 30 (.agg #[.int .u64 a, .int .u64 b, .int .u64 c, .int .u64 d]) (.int .i64 3)).run Try.prog u = .ok (.int .u64 d) u := fun u => by kernel_rfl
  go_enter Try.func34, Try.ntmps34
  go_wp2
  go_loopw [5, 6, 8] (fun _ _ i wr => ∃ (k : Nat) (z : Int), z = (k : Int) ∧ k ≤ 4 ∧ i = .int .i64 z ∧ Blk wr w.heap.size 30 (stg ⟨a, b, c, d⟩ M k) ∧ Blk wr (w.heap.size + 1) 30 #[.int .u64 0, .int .u64 0, .int .u64 0, .int .u64 0] ∧ Below w.heap.size w wr) (fun _ _ i _ => 4 - (intOf i).toNat)
  case atStart => exact ⟨0, 0, rfl, by omega, rfl, blk_alloc (blk_new _ _ _) _, blk_new2 _ _ _ _, below_box (below_box (Below.refl _ _) _) _⟩
  case round =>
    obtain ⟨k, z, hz, hk, rfl, k0, k1, hbw⟩ := hrel
    have K0 := Lib.hid k0
    have K1 := Lib.hid k1
    have HB := Lib.hid hbw
    have hk5 : k = 0 ∨ k = 1 ∨ k = 2 ∨ k = 3 ∨ k = 4 := by omega
    clear hk
    rcases hk5 with rfl | rfl | rfl | rfl | rfl
    all_goals
      simp at hz
      subst hz
      simp [stg] at k0
      have c0 := blk_cell k0 0
      have c1 := blk_cell k0 1
      have c2 := blk_cell k0 2
      have c3 := blk_cell k0 3
      have f0 := blk_frozen k0 0
      have f1 := blk_frozen k0 1
      have f2 := blk_frozen k0 2
      have f3 := blk_frozen k0 3
      have J0 := Lib.hid k0
      clear k0
    · clear k1 hbw
      go_wp2_with (first
        | (go_at_call 46; (with_reducible refine (n0 _).mono ?_); rintro e w1 ⟨rfl, hb1⟩)
        | (go_at_call 45; (with_reducible refine (r0 _).mono ?_); rintro e w2 ⟨rfl, hb2⟩; have j0 := blk_next (blk_next J0.out hb1) hb2; have z0 := blk_frozen j0 0; have y0 := blk_cell j0 0; have j1 := Lib.hid (blk_next (blk_next K1.out hb1) hb2); have JJ := Lib.hid j0; have HH := Lib.hid (below_call (below_call HB.out hb1) hb2); clear j0 hb1 hb2))
      go_roundw
      case rel => exact ⟨1, 1, rfl, by omega, by go_num, blk_set JJ.out 0 _, blk_far j1.out (by simp) _, HH.out.setCell (by simp) _⟩
      case measure => simp [intOf]
    · clear k1 hbw
      go_wp2_with (first
        | (go_at_call 46; (with_reducible refine (n1 _).mono ?_); rintro e w1 ⟨rfl, hb1⟩)
        | (go_at_call 45; (with_reducible refine (r1 _).mono ?_); rintro e w2 ⟨rfl, hb2⟩; have j0 := blk_next (blk_next J0.out hb1) hb2; have z0 := blk_frozen j0 1; have y0 := blk_cell j0 1; have j1 := Lib.hid (blk_next (blk_next K1.out hb1) hb2); have JJ := Lib.hid j0; have HH := Lib.hid (below_call (below_call HB.out hb1) hb2); clear j0 hb1 hb2))
      go_roundw
      case rel => exact ⟨2, 2, rfl, by omega, by go_num, blk_set JJ.out 1 _, blk_far j1.out (by simp) _, HH.out.setCell (by simp) _⟩
      case measure => simp [intOf]
    · clear k1 hbw
      go_wp2_with (first
        | (go_at_call 46; (with_reducible refine (n2 _).mono ?_); rintro e w1 ⟨rfl, hb1⟩)
        | (go_at_call 45; (with_reducible refine (r2 _).mono ?_); rintro e w2 ⟨rfl, hb2⟩; have j0 := blk_next (blk_next J0.out hb1) hb2; have z0 := blk_frozen j0 2; have y0 := blk_cell j0 2; have j1 := Lib.hid (blk_next (blk_next K1.out hb1) hb2); have JJ := Lib.hid j0; have HH := Lib.hid (below_call (below_call HB.out hb1) hb2); clear j0 hb1 hb2))
      go_roundw
      case rel => exact ⟨3, 3, rfl, by omega, by go_num, blk_set JJ.out 2 _, blk_far j1.out (by simp) _, HH.out.setCell (by simp) _⟩
      case measure => simp [intOf]
    · clear k1 hbw
      go_wp2_with (first
        | (go_at_call 46; (with_reducible refine (n3 _).mono ?_); rintro e w1 ⟨rfl, hb1⟩)
        | (go_at_call 45; (with_reducible refine (r3 _).mono ?_); rintro e w2 ⟨rfl, hb2⟩; have j0 := blk_next (blk_next J0.out hb1) hb2; have z0 := blk_frozen j0 3; have y0 := blk_cell j0 3; have j1 := Lib.hid (blk_next (blk_next K1.out hb1) hb2); have JJ := Lib.hid j0; have HH := Lib.hid (below_call (below_call HB.out hb1) hb2); clear j0 hb1 hb2))
      go_roundw
      case rel => exact ⟨4, 4, rfl, by omega, by go_num, blk_set JJ.out 3 _, blk_far j1.out (by simp) _, HH.out.setCell (by simp) _⟩
      case measure => simp [intOf]
    · have v1 := blk_cell K1.out 0
      have v2 := blk_cell K1.out 1
      have v3 := blk_cell K1.out 2
      have v4 := blk_cell K1.out 3
      have g0 := blk_frozen K1.out 0
      have g1 := blk_frozen K1.out 1
      have g2 := blk_frozen K1.out 2
      have g3 := blk_frozen K1.out 3
      have zz := fun (a b c d : Int) => blk_set (blk_set (blk_set (blk_set K1.out 0 (.int .u64 a)) 1 (.int .u64 b)) 2 (.int .u64 c)) 3 (.int .u64 d)
      have u0 := blk_cell (zz M.a M.b M.c M.d) 0
      have u1 := blk_cell (zz M.a M.b M.c M.d) 1
      have u2 := blk_cell (zz M.a M.b M.c M.d) 2
      have u3 := blk_cell (zz M.a M.b M.c M.d) 3
      clear k1 hbw zz
      go_wp2
      exact bodyPost_ret (v := .agg #[.int .u64 M.a, .int .u64 M.b, .int .u64 M.c, .int .u64 M.d]) (by simp [results, Try.results34, go_sem, u0, u1, u2, u3]) rfl ⟨rfl, (((HB.out.setCell (by simp) _).setCell (by simp) _).setCell (by simp) _).setCell (by simp) _⟩
end Go.Proofs.Ytgiihdgkejhbeaa
