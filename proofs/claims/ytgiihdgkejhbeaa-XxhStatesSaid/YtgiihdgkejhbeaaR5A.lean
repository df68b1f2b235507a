/-
  The reference's checksum: times, turn, round, merge, lanes, field, take.
-/
import Derived.Test.YtgiihdgkejhbeaaO5K
namespace Go.Proofs.Ytgiihdgkejhbeaa
open Go.ChangeShapes Go.WideShapes Go.ChangeAt Go.RowKit
set_option linter.unusedVariables false

theorem times_any (x y : Int) (w : World) : Calls Try.prog 44 #[.int .u64 x, .int .u64 y] w fun e w' => e = .returned (.int .u64 (IntKind.u64.wrap (x * y))) ∧ w = w' := by
  go_enter Try.func44, Try.ntmps44
  go_wp2
  go_ret
  exact ⟨rfl, rfl⟩
theorem rturn1 (x : Int) (w : World) : Calls Try.prog 42 #[.int .u64 x, .int .u64 1] w fun e w' => e = .returned (.int .u64 (tn x 1)) ∧ w = w' := by
  rw [show tn x 1 = bits .or .u64 (IntKind.u64.wrap (x * 2)) (x / 9223372036854775808) from rfl]
  go_enter Try.func42, Try.ntmps42
  go_wp2
  go_ret
  exact ⟨rfl, rfl⟩
theorem rturn7 (x : Int) (w : World) : Calls Try.prog 42 #[.int .u64 x, .int .u64 7] w fun e w' => e = .returned (.int .u64 (tn x 7)) ∧ w = w' := by
  rw [show tn x 7 = bits .or .u64 (IntKind.u64.wrap (x * 128)) (x / 144115188075855872) from rfl]
  go_enter Try.func42, Try.ntmps42
  go_wp2
  go_ret
  exact ⟨rfl, rfl⟩
theorem rturn12 (x : Int) (w : World) : Calls Try.prog 42 #[.int .u64 x, .int .u64 12] w fun e w' => e = .returned (.int .u64 (tn x 12)) ∧ w = w' := by
  rw [show tn x 12 = bits .or .u64 (IntKind.u64.wrap (x * 4096)) (x / 4503599627370496) from rfl]
  go_enter Try.func42, Try.ntmps42
  go_wp2
  go_ret
  exact ⟨rfl, rfl⟩
theorem rturn18 (x : Int) (w : World) : Calls Try.prog 42 #[.int .u64 x, .int .u64 18] w fun e w' => e = .returned (.int .u64 (tn x 18)) ∧ w = w' := by
  rw [show tn x 18 = bits .or .u64 (IntKind.u64.wrap (x * 262144)) (x / 70368744177664) from rfl]
  go_enter Try.func42, Try.ntmps42
  go_wp2
  go_ret
  exact ⟨rfl, rfl⟩
theorem rturn31 (x : Int) (w : World) : Calls Try.prog 42 #[.int .u64 x, .int .u64 31] w fun e w' => e = .returned (.int .u64 (tn x 31)) ∧ w = w' := by
  rw [show tn x 31 = bits .or .u64 (IntKind.u64.wrap (x * 2147483648)) (x / 8589934592) from rfl]
  go_enter Try.func42, Try.ntmps42
  go_wp2
  go_ret
  exact ⟨rfl, rfl⟩
theorem rturn27 (x : Int) (w : World) : Calls Try.prog 42 #[.int .u64 x, .int .u64 27] w fun e w' => e = .returned (.int .u64 (tn x 27)) ∧ w = w' := by
  rw [show tn x 27 = bits .or .u64 (IntKind.u64.wrap (x * 134217728)) (x / 137438953472) from rfl]
  go_enter Try.func42, Try.ntmps42
  go_wp2
  go_ret
  exact ⟨rfl, rfl⟩
theorem rturn23 (x : Int) (w : World) : Calls Try.prog 42 #[.int .u64 x, .int .u64 23] w fun e w' => e = .returned (.int .u64 (tn x 23)) ∧ w = w' := by
  rw [show tn x 23 = bits .or .u64 (IntKind.u64.wrap (x * 8388608)) (x / 2199023255552) from rfl]
  go_enter Try.func42, Try.ntmps42
  go_wp2
  go_ret
  exact ⟨rfl, rfl⟩
theorem rturn11 (x : Int) (w : World) : Calls Try.prog 42 #[.int .u64 x, .int .u64 11] w fun e w' => e = .returned (.int .u64 (tn x 11)) ∧ w = w' := by
  rw [show tn x 11 = bits .or .u64 (IntKind.u64.wrap (x * 2048)) (x / 9007199254740992) from rfl]
  go_enter Try.func42, Try.ntmps42
  go_wp2
  go_ret
  exact ⟨rfl, rfl⟩

theorem rround_any (a x : Int) (w : World) : Calls Try.prog 40 #[.int .u64 a, .int .u64 x] w fun e w' => e = .returned (.int .u64 (rd a x)) ∧ w = w' := by
  go_enter Try.func40, Try.ntmps40
  go_wp2_with (first
    | (go_at_call 44; (with_reducible refine (times_any _ _ _).mono ?_); rintro e w1 ⟨rfl, rfl⟩)
    | (go_at_call 42; (with_reducible refine (rturn31 _ _).mono ?_); rintro e w1 ⟨rfl, rfl⟩))
  go_ret
  exact ⟨rfl, rfl⟩
theorem rmerge_any (n l : Int) (w : World) : Calls Try.prog 43 #[.int .u64 n, .int .u64 l] w fun e w' => e = .returned (.int .u64 (mg n l)) ∧ w = w' := by
  go_enter Try.func43, Try.ntmps43
  go_wp2_with (first
    | (go_at_call 44; (with_reducible refine (times_any _ _ _).mono ?_); rintro e w1 ⟨rfl, rfl⟩)
    | (go_at_call 40; (with_reducible refine (rround_any _ _ _).mono ?_); rintro e w1 ⟨rfl, rfl⟩))
  go_ret
  exact ⟨rfl, rfl⟩
theorem rlanes_any (s : Int) (w : World) : Calls Try.prog 28 #[.int .u64 s] w fun e w' => e = .returned (.agg #[.int .u64 (fst s).a, .int .u64 (fst s).b, .int .u64 (fst s).c, .int .u64 (fst s).d]) ∧ Below w.heap.size w w' := by
  go_enter Try.func28, Try.ntmps28
  go_wp2
  exact bodyPost_ret (v := .agg #[.int .u64 (fst s).a, .int .u64 (fst s).b, .int .u64 (fst s).c, .int .u64 (fst s).d]) (by simp [results, Try.results28, go_sem, fst]) rfl ⟨rfl, below_box (Below.refl _ _) _⟩
theorem rfield_at (s : ByteArray) (a z : Nat) (hs : s.size ≤ 9223372036854775807) (h1 : 1 ≤ z) (h2 : z ≤ 8) (h3 : a + z ≤ s.size) (w : World) :
    Calls Try.prog 41 #[.string s, .int .i64 (a : Int), .int .i64 (z : Int)] w fun e w' => e = .returned (.int .u64 (nuB ((s.data.toList.drop a).take z) : Nat)) ∧ Below w.heap.size w w' := by
  have hR := fun u => refRead_ok s a z hs h1 h2 h3 u
  go_enter Try.func41, Try.ntmps41
  go_wp2_with (go_at_call 49; (refine (hR _).mono ?_); rintro e w1 ⟨rfl, hb1⟩)
  go_ret
  exact ⟨rfl, below_box hb1 _⟩
theorem rf0 (s : ByteArray) (hs : s.size ≤ 9223372036854775807) (h : 8 ≤ s.size) (w : World) : Calls Try.prog 41 #[.string s, .int .i64 0, .int .i64 8] w fun e w' => e = .returned (.int .u64 (nuB (s.data.toList.take 8) : Nat)) ∧ Below w.heap.size w w' := rfield_at s 0 8 hs (by decide) (by decide) h w
theorem rf8 (s : ByteArray) (hs : s.size ≤ 9223372036854775807) (h : 16 ≤ s.size) (w : World) : Calls Try.prog 41 #[.string s, .int .i64 8, .int .i64 8] w fun e w' => e = .returned (.int .u64 (nuB ((s.data.toList.drop 8).take 8) : Nat)) ∧ Below w.heap.size w w' := rfield_at s 8 8 hs (by decide) (by decide) h w
theorem rf16 (s : ByteArray) (hs : s.size ≤ 9223372036854775807) (h : 24 ≤ s.size) (w : World) : Calls Try.prog 41 #[.string s, .int .i64 16, .int .i64 8] w fun e w' => e = .returned (.int .u64 (nuB ((s.data.toList.drop 16).take 8) : Nat)) ∧ Below w.heap.size w w' := rfield_at s 16 8 hs (by decide) (by decide) h w
theorem rf24 (s : ByteArray) (hs : s.size ≤ 9223372036854775807) (h : 32 ≤ s.size) (w : World) : Calls Try.prog 41 #[.string s, .int .i64 24, .int .i64 8] w fun e w' => e = .returned (.int .u64 (nuB ((s.data.toList.drop 24).take 8) : Nat)) ∧ Below w.heap.size w w' := rfield_at s 24 8 hs (by decide) (by decide) h w
theorem rf4 (s : ByteArray) (hs : s.size ≤ 9223372036854775807) (h : 4 ≤ s.size) (w : World) : Calls Try.prog 41 #[.string s, .int .i64 0, .int .i64 4] w fun e w' => e = .returned (.int .u64 (nuB (s.data.toList.take 4) : Nat)) ∧ Below w.heap.size w w' := rfield_at s 0 4 hs (by decide) (by decide) h w

set_option maxHeartbeats 1000000 in
theorem rtake_any (L : L4) (s : ByteArray) (hs : s.size ≤ 9223372036854775807) (h : 32 ≤ s.size) (w : World) :
    Calls Try.prog 29 #[.agg #[.int .u64 L.a, .int .u64 L.b, .int .u64 L.c, .int .u64 L.d], .string s] w fun e w' =>
      e = .returned (.agg #[.int .u64 (mixL L s.data.toList).a, .int .u64 (mixL L s.data.toList).b, .int .u64 (mixL L s.data.toList).c, .int .u64 (mixL L s.data.toList).d]) ∧ Below w.heap.size w w' := by
  have n0 := fun u => rf0 s hs (by omega) u
  have n1 := fun u => rf8 s hs (by omega) u
  have n2 := fun u => rf16 s hs (by omega) u
  have n3 := fun u => rf24 s hs (by omega) u
  obtain ⟨M, hM⟩ : ∃ M, mixL L s.data.toList = M := ⟨_, rfl⟩
  have m0 : rd L.a (nuB (s.data.toList.take 8) : Nat) = M.a := by rw [← hM]; rfl
  have m1 : rd L.b (nuB ((s.data.toList.drop 8).take 8) : Nat) = M.b := by rw [← hM]; rfl
  have m2 : rd L.c (nuB ((s.data.toList.drop 16).take 8) : Nat) = M.c := by rw [← hM]; rfl
  have m3 : rd L.d (nuB ((s.data.toList.drop 24).take 8) : Nat) = M.d := by rw [← hM]; rfl
  rw [hM]
  have r0 := fun u => rround_any L.a (nuB (s.data.toList.take 8) : Nat) u
  have r1 := fun u => rround_any L.b (nuB ((s.data.toList.drop 8).take 8) : Nat) u
  have r2 := fun u => rround_any L.c (nuB ((s.data.toList.drop 16).take 8) : Nat) u
  have r3 := fun u => rround_any L.d (nuB ((s.data.toList.drop 24).take 8) : Nat) u
  rw [m0] at r0
  rw [m1] at r1
  rw [m2] at r2
  rw [m3] at r3
  obtain ⟨a, b, c, d⟩ := L
  clear m0 m1 m2 m3 hM
  have v0 : IntKind.i64.wrap 0 = 0 := by decide
  have v8 : IntKind.i64.wrap 8 = 8 := by decide
  have v16 : IntKind.i64.wrap 16 = 16 := by decide
  have v24 : IntKind.i64.wrap 24 = 24 := by decide
  go_enter Try.func29, Try.ntmps29
  go_wp2
  go_loopw [5] (fun i wr => ∃ (k : Nat) (z : Int), z = (k : Int) ∧ k ≤ 4 ∧ i = .int .i64 z ∧ Blk wr w.heap.size 30 (stg ⟨a, b, c, d⟩ M k) ∧ Blk wr (w.heap.size + 1) 30 #[.int .u64 0, .int .u64 0, .int .u64 0, .int .u64 0] ∧ Below w.heap.size w wr) (fun i _ => 4 - (intOf i).toNat)
  case atStart => exact ⟨0, 0, rfl, by omega, rfl, blk_alloc (blk_new _ _ _) _, blk_new2 _ _ _ _, below_box (below_box (Below.refl _ _) _) _⟩
  case round =>
    obtain ⟨k, z, hz, hk, rfl, k0, k1, hbw⟩ := hrel
    have K0 := Lib.hid k0
    have K1 := Lib.hid k1
    have HB := Lib.hid hbw
    have hk5 : k = 0 ∨ k = 1 ∨ k = 2 ∨ k = 3 ∨ k = 4 := by omega
    clear hk
    rcases hk5 with rfl | rfl | rfl | rfl | rfl
    all_goals
      simp at hz
      subst hz
      simp [stg] at k0
      have c0 := blk_cell k0 0
      have c1 := blk_cell k0 1
      have c2 := blk_cell k0 2
      have c3 := blk_cell k0 3
      have J0 := Lib.hid k0
      clear k0
    · clear k1 hbw
      go_wp2_with fail
      go_region_with (first
        | (go_at_call 41; (with_reducible refine (n0 _).mono ?_); rintro e w1 ⟨rfl, hb1⟩; have j0 := blk_next (blk_drew J0.out) hb1; have z0 := blk_frozen j0 0; have y0 := blk_cell j0 0; have y1 := blk_cell j0 0; have j1 := Lib.hid (blk_next (blk_drew K1.out) hb1); have JJ := Lib.hid j0; have HH := Lib.hid (below_call HB.out.drew hb1); clear j0 hb1)
        | (go_at_call 40; (with_reducible refine (r0 _).mono ?_); rintro e w2 ⟨rfl, rfl⟩))
      all_goals
        go_wp2_with fail
        go_roundw
        case rel => exact ⟨1, 1, rfl, by omega, by go_num, blk_set JJ.out 0 _, blk_far j1.out (by simp) _, HH.out.setCell (by simp) _⟩
        case measure => simp [intOf]
    · clear k1 hbw
      go_wp2_with fail
      go_region_with (first
        | (go_at_call 41; (with_reducible refine (n1 _).mono ?_); rintro e w1 ⟨rfl, hb1⟩; have j0 := blk_next (blk_drew J0.out) hb1; have z0 := blk_frozen j0 1; have y0 := blk_cell j0 1; have y1 := blk_cell j0 0; have j1 := Lib.hid (blk_next (blk_drew K1.out) hb1); have JJ := Lib.hid j0; have HH := Lib.hid (below_call HB.out.drew hb1); clear j0 hb1)
        | (go_at_call 40; (with_reducible refine (r1 _).mono ?_); rintro e w2 ⟨rfl, rfl⟩))
      all_goals
        go_wp2_with fail
        go_roundw
        case rel => exact ⟨2, 2, rfl, by omega, by go_num, blk_set JJ.out 1 _, blk_far j1.out (by simp) _, HH.out.setCell (by simp) _⟩
        case measure => simp [intOf]
    · clear k1 hbw
      go_wp2_with fail
      go_region_with (first
        | (go_at_call 41; (with_reducible refine (n2 _).mono ?_); rintro e w1 ⟨rfl, hb1⟩; have j0 := blk_next (blk_drew J0.out) hb1; have z0 := blk_frozen j0 2; have y0 := blk_cell j0 2; have y1 := blk_cell j0 0; have j1 := Lib.hid (blk_next (blk_drew K1.out) hb1); have JJ := Lib.hid j0; have HH := Lib.hid (below_call HB.out.drew hb1); clear j0 hb1)
        | (go_at_call 40; (with_reducible refine (r2 _).mono ?_); rintro e w2 ⟨rfl, rfl⟩))
      all_goals
        go_wp2_with fail
        go_roundw
        case rel => exact ⟨3, 3, rfl, by omega, by go_num, blk_set JJ.out 2 _, blk_far j1.out (by simp) _, HH.out.setCell (by simp) _⟩
        case measure => simp [intOf]
    · clear k1 hbw
      go_wp2_with fail
      go_region_with (first
        | (go_at_call 41; (with_reducible refine (n3 _).mono ?_); rintro e w1 ⟨rfl, hb1⟩; have j0 := blk_next (blk_drew J0.out) hb1; have z0 := blk_frozen j0 3; have y0 := blk_cell j0 3; have y1 := blk_cell j0 0; have j1 := Lib.hid (blk_next (blk_drew K1.out) hb1); have JJ := Lib.hid j0; have HH := Lib.hid (below_call HB.out.drew hb1); clear j0 hb1)
        | (go_at_call 40; (with_reducible refine (r3 _).mono ?_); rintro e w2 ⟨rfl, rfl⟩))
      all_goals
        go_wp2_with fail
        go_roundw
        case rel => exact ⟨4, 4, rfl, by omega, by go_num, blk_set JJ.out 3 _, blk_far j1.out (by simp) _, HH.out.setCell (by simp) _⟩
        case measure => simp [intOf]
    · have v1 := blk_cell K1.out 0
      have v2 := blk_cell K1.out 1
      have v3 := blk_cell K1.out 2
      have v4 := blk_cell K1.out 3
      have g0 := blk_frozen K1.out 0
      have g1 := blk_frozen K1.out 1
      have g2 := blk_frozen K1.out 2
      have g3 := blk_frozen K1.out 3
      have zz := fun (a b c d : Int) => blk_set (blk_set (blk_set (blk_set K1.out 0 (.int .u64 a)) 1 (.int .u64 b)) 2 (.int .u64 c)) 3 (.int .u64 d)
      have u0 := blk_cell (zz M.a M.b M.c M.d) 0
      have u1 := blk_cell (zz M.a M.b M.c M.d) 1
      have u2 := blk_cell (zz M.a M.b M.c M.d) 2
      have u3 := blk_cell (zz M.a M.b M.c M.d) 3
      clear k1 hbw zz
      go_wp2
      exact bodyPost_ret (v := .agg #[.int .u64 M.a, .int .u64 M.b, .int .u64 M.c, .int .u64 M.d]) (by simp [results, Try.results29, go_sem, u0, u1, u2, u3]) rfl ⟨rfl, (((HB.out.setCell (by simp) _).setCell (by simp) _).setCell (by simp) _).setCell (by simp) _⟩
end Go.Proofs.Ytgiihdgkejhbeaa
