/-
  CursorReads: the law's walk, for every cursor and all numbers.
-/
import Derived.Test.YtipigfngeiodlaaAwake
import Derived.Deep.RegionHeld3
namespace Go.Proofs.Ytipigfngeiodlaa
open Go.ChangeShapes Go.WideShapes Go.ChangeAt Go.RowKit
set_option linter.unusedVariables false

theorem long3 (S : ByteArray) (A E F n : Int) (w : World) (h1 : decide ((300 : Int) < (S.size : Int)) = true) :
    Calls Try.prog 3 #[.agg #[.string S, .int .i64 A, .int .i64 E, .int .i64 F], .int .i64 n] w fun e w' => e = .returned (.bool true) ∧ Below w.heap.size w w' := by
  go_enter Try.func3, Try.ntmps3
  go_wp2_with (go_at_call 9; (with_reducible refine (awake_any _).mono ?_); rintro e w1 ⟨rfl, hb1⟩)
  go_ret
  exact ⟨rfl, below_call (below_box (Below.refl _ _) _) hb1⟩

theorem c4 {w : World} {g : Nat} {t : TypeId} {s : ByteArray} {a e f : Int} (h : Blk w g t #[.string s, .int .i64 a, .int .i64 e, .int .i64 f]) :
    w.cell? ⟨g, 0, none⟩ = some (.string s) ∧ w.cell? ⟨g, 1, none⟩ = some (.int .i64 a) ∧ w.cell? ⟨g, 2, none⟩ = some (.int .i64 e) ∧ w.cell? ⟨g, 3, none⟩ = some (.int .i64 f) := (blk4 h).1
theorem f4 {w : World} {g : Nat} {t : TypeId} {s : ByteArray} {a e f : Int} (h : Blk w g t #[.string s, .int .i64 a, .int .i64 e, .int .i64 f]) :
    w.frozen? ⟨g, 0, none⟩ = false ∧ w.frozen? ⟨g, 1, none⟩ = false ∧ w.frozen? ⟨g, 2, none⟩ = false ∧ w.frozen? ⟨g, 3, none⟩ = false := (blk4 h).2

theorem c43 {w : World} {g h i : Nat} {t t2 t3 : TypeId} {s s2 s3 : ByteArray} {a e f a2 e2 f2 a3 e3 f3 : Int} (k : Blk w g t (at4 s a e f)) (k2 : Blk w h t2 (at4 s2 a2 e2 f2)) (k3 : Blk w i t3 (at4 s3 a3 e3 f3)) :
    (w.cell? ⟨g, 0, none⟩ = some (.string s) ∧ w.cell? ⟨g, 1, none⟩ = some (.int .i64 a) ∧ w.cell? ⟨g, 2, none⟩ = some (.int .i64 e) ∧ w.cell? ⟨g, 3, none⟩ = some (.int .i64 f)) ∧
    (w.cell? ⟨h, 0, none⟩ = some (.string s2) ∧ w.cell? ⟨h, 1, none⟩ = some (.int .i64 a2) ∧ w.cell? ⟨h, 2, none⟩ = some (.int .i64 e2) ∧ w.cell? ⟨h, 3, none⟩ = some (.int .i64 f2)) ∧
    (w.cell? ⟨i, 0, none⟩ = some (.string s3) ∧ w.cell? ⟨i, 1, none⟩ = some (.int .i64 a3) ∧ w.cell? ⟨i, 2, none⟩ = some (.int .i64 e3) ∧ w.cell? ⟨i, 3, none⟩ = some (.int .i64 f3)) := ⟨(blk4 k).1, (blk4 k2).1, (blk4 k3).1⟩

set_option maxRecDepth 100000 in
set_option maxHeartbeats 2000000 in
theorem reads_inner (S s t s4 : ByteArray) (A E F n ck l a1 e1 f1 x1 a2 e2 f2 x2 a3 e3 f3 a4 f4' : Int) (w : World) (h1 : decide ((300 : Int) < (S.size : Int)) = false)
    (h10 : ∀ u, Calls Try.prog 10 #[.agg #[.string S, .int .i64 A, .int .i64 E, .int .i64 F]] u fun x w' => x = .returned (.int .i64 ck) ∧ Below u.heap.size u w')
    (h11 : ∀ u, Calls Try.prog 11 #[.agg #[.string S, .int .i64 A, .int .i64 E, .int .i64 F]] u fun x w' => x = .returned (.int .i64 ck) ∧ Below u.heap.size u w')
    (h12 : ∀ u, Calls Try.prog 12 #[.agg #[.string S, .int .i64 A, .int .i64 E, .int .i64 F]] u fun x w' => x = .returned (.int .i64 l) ∧ Below u.heap.size u w')
    (h13 : ∀ u, Calls Try.prog 13 #[.agg #[.string S, .int .i64 A, .int .i64 E, .int .i64 F]] u fun x w' => x = .returned (.int .i64 l) ∧ Below u.heap.size u w')
    (h14 : ∀ u, Calls Try.prog 14 #[.agg #[.string S, .int .i64 A, .int .i64 E, .int .i64 F]] u fun x w' => x = .returned (.tuple #[.agg #[.string s, .int .i64 a1, .int .i64 e1, .int .i64 f1], .int .i64 x1]) ∧ Below u.heap.size u w')
    (h15 : ∀ u, Calls Try.prog 15 #[.agg #[.string S, .int .i64 A, .int .i64 E, .int .i64 F]] u fun x w' => x = .returned (.tuple #[.agg #[.string s, .int .i64 a1, .int .i64 e1, .int .i64 f1], .int .i64 x1]) ∧ Below u.heap.size u w')
    (h16 : ∀ u, Calls Try.prog 16 #[.agg #[.string S, .int .i64 A, .int .i64 E, .int .i64 F], .int .i64 n] u fun x w' => x = .returned (.tuple #[.agg #[.string s, .int .i64 a2, .int .i64 e2, .int .i64 f2], .int .u64 x2]) ∧ Below u.heap.size u w')
    (h17 : ∀ u, Calls Try.prog 17 #[.agg #[.string S, .int .i64 A, .int .i64 E, .int .i64 F], .int .i64 n] u fun x w' => x = .returned (.tuple #[.agg #[.string s, .int .i64 a2, .int .i64 e2, .int .i64 f2], .int .u64 x2]) ∧ Below u.heap.size u w')
    (h18 : ∀ u, Calls Try.prog 18 #[.agg #[.string S, .int .i64 A, .int .i64 E, .int .i64 F], .int .i64 n] u fun x w' => x = .returned (.tuple #[.agg #[.string s, .int .i64 a3, .int .i64 e3, .int .i64 f3], .string t]) ∧ Below u.heap.size u w')
    (h19 : ∀ u, Calls Try.prog 19 #[.agg #[.string S, .int .i64 A, .int .i64 E, .int .i64 F], .int .i64 n] u fun x w' => x = .returned (.tuple #[.agg #[.string s, .int .i64 a3, .int .i64 e3, .int .i64 f3], .string t]) ∧ Below u.heap.size u w')
    (h20 : ∀ u, Calls Try.prog 20 #[.agg #[.string S, .int .i64 A, .int .i64 E, .int .i64 F], .int .i64 n] u fun x w' => x = .returned (.agg #[.string s, .int .i64 a3, .int .i64 e3, .int .i64 f3]) ∧ Below u.heap.size u w')
    (h21 : ∀ u, Calls Try.prog 21 #[.agg #[.string S, .int .i64 A, .int .i64 E, .int .i64 F], .int .i64 n] u fun x w' => x = .returned (.agg #[.string s, .int .i64 a3, .int .i64 e3, .int .i64 f3]) ∧ Below u.heap.size u w')
    (h22 : ∀ u, Calls Try.prog 22 #[.agg #[.string S, .int .i64 A, .int .i64 E, .int .i64 F], .int .i64 n] u fun x w' => x = .returned (.tuple #[.agg #[.string s4, .int .i64 a4, .int .i64 e3, .int .i64 f4'], .agg #[.string s, .int .i64 a3, .int .i64 e3, .int .i64 f3]]) ∧ Below u.heap.size u w')
    (h23 : ∀ u, Calls Try.prog 23 #[.agg #[.string S, .int .i64 A, .int .i64 E, .int .i64 F], .int .i64 n] u fun x w' => x = .returned (.tuple #[.agg #[.string s4, .int .i64 a4, .int .i64 e3, .int .i64 f4'], .agg #[.string s, .int .i64 a3, .int .i64 e3, .int .i64 f3]]) ∧ Below u.heap.size u w') :
    Calls Try.prog 3 #[.agg #[.string S, .int .i64 A, .int .i64 E, .int .i64 F], .int .i64 n] w fun e w' => e = .returned (.bool true) ∧ Below w.heap.size w w' := by
  go_enter Try.func3, Try.ntmps3
  go_upto_region 3 with fail
  go_cut [33] from 17 to 123 (fun y wx => y = .bool false ∧ Blk wx w.heap.size 26 (at4 S A E F) ∧ Below w.heap.size w wx)
  case first =>
    have k0 := Lib.hid (blk_drew (blk_new w 26 #[.string S, .int .i64 A, .int .i64 E, .int .i64 F]))
    go_region_held3 (fun w' => w'.cell? ⟨w.heap.size, 0, none⟩ = some (.string S) ∧ w'.cell? ⟨w.heap.size, 1, none⟩ = some (.int .i64 A) ∧ w'.cell? ⟨w.heap.size, 2, none⟩ = some (.int .i64 E) ∧ w'.cell? ⟨w.heap.size, 3, none⟩ = some (.int .i64 F))
      (first | (with_reducible exact c4 k0.out) | (with_reducible exact c4 k1) | (with_reducible exact c4 k2) | (with_reducible exact c4 k3) | (with_reducible exact c4 k4))
      (first
        | (go_at_call 10; (with_reducible refine (h10 _).mono ?_); rintro x w1 ⟨rfl, hb1⟩; have k1 := blk_next k0.out hb1)
        | (go_at_call 11; (with_reducible refine (h11 _).mono ?_); rintro x w2 ⟨rfl, hb2⟩; have k2 := blk_next k1 hb2)
        | (go_at_call 12; (with_reducible refine (h12 _).mono ?_); rintro x w3 ⟨rfl, hb3⟩; have k3 := blk_next k2 hb3)
        | (go_at_call 13; (with_reducible refine (h13 _).mono ?_); rintro x w4 ⟨rfl, hb4⟩; have k4 := blk_next k3 hb4))
    all_goals
      go_wp2_with fail
      go_meet
      exact ⟨rfl, k4, below_call (below_call (below_call (below_call (below_box (Below.refl _ _) _).drew hb1) hb2) hb3) hb4⟩
  case rest =>
    obtain ⟨rfl, k0, hbw⟩ := hcut
    have K0 := Lib.hid k0
    obtain ⟨⟨b0, b1, b2, b3⟩, _⟩ := blk4 k0
    clear k0
    go_upto_region 5 with fail
    go_cut [5, 6] from 17 to 123 (fun p y wx => ∃ g, p = .pointer (some ⟨g, 0, none⟩) ∧ y = .int .i64 x1 ∧ w.heap.size < g ∧ Blk wx g 26 (at4 s a1 e1 f1) ∧ Blk wx w.heap.size 26 (at4 S A E F) ∧ Below w.heap.size w wx)
    case first =>
      go_wp2_with (go_at_call 14; (with_reducible refine (h14 _).mono ?_); rintro x w1 ⟨rfl, hb1⟩)
      go_meet
      exact ⟨_, rfl, rfl, blk_lt (blk_next K0.out hb1), blk_new _ _ _, blk_alloc (blk_next K0.out hb1) _, below_box (below_call hbw hb1) _⟩
    case rest =>
      obtain ⟨g5, rfl, rfl, hg5, k5, k0, hbw⟩ := hcut
      have K0 := Lib.hid k0
      have K5 := Lib.hid k5
      obtain ⟨⟨b0, b1, b2, b3⟩, _⟩ := blk4 k0
      clear k0 k5
      go_upto_region 6 with fail
      go_cut [7, 8] from 17 to 123 (fun p y wx => ∃ g, p = .pointer (some ⟨g, 0, none⟩) ∧ y = .int .i64 x1 ∧ g5 < g ∧ Blk wx g 26 (at4 s a1 e1 f1) ∧ Blk wx g5 26 (at4 s a1 e1 f1) ∧ Blk wx w.heap.size 26 (at4 S A E F) ∧ Below w.heap.size w wx)
      case first =>
        go_wp2_with (go_at_call 15; (with_reducible refine (h15 _).mono ?_); rintro x w1 ⟨rfl, hb1⟩)
        go_meet
        exact ⟨_, rfl, rfl, blk_lt (blk_next K5.out hb1), blk_new _ _ _, blk_alloc (blk_next K5.out hb1) _, blk_alloc (blk_next K0.out hb1) _, below_box (below_call hbw hb1) _⟩
      case rest =>
        obtain ⟨g7, rfl, rfl, hg7, k7, k5, k0, hbw⟩ := hcut
        have K0 := Lib.hid k0
        have K5 := Lib.hid k5
        have K7 := Lib.hid k7
        obtain ⟨⟨b0, b1, b2, b3⟩, _⟩ := blk4 k0
        obtain ⟨⟨u0, u1, u2, u3⟩, _⟩ := blk4 k5
        obtain ⟨⟨v0, v1, v2, v3⟩, _⟩ := blk4 k7
        have ne1 : ¬ g5 = w.heap.size := by omega
        have ne2 : ¬ w.heap.size = g5 := by omega
        have ne3 : ¬ g7 = w.heap.size := by omega
        have ne4 : ¬ w.heap.size = g7 := by omega
        have ne5 : ¬ g7 = g5 := by omega
        have ne6 : ¬ g5 = g7 := by omega
        clear k0 k5 k7
        go_upto_region 9 with fail
        go_cut [9] from 17 to 123 (fun y wx => y = .int .u64 x2 ∧ Blk wx g5 26 (at4 s a2 e2 f2) ∧ Blk wx w.heap.size 26 (at4 S A E F) ∧ Blk wx g7 26 (at4 s a1 e1 f1) ∧ Below w.heap.size w wx)
        case first =>
          go_wp2_with (go_at_call 16; (with_reducible refine (h16 _).mono ?_); rintro x w1 ⟨rfl, hb1⟩; have j5 := Lib.hid (blk_next K5.out hb1); obtain ⟨_, q0, q1, q2, q3⟩ := blk4 j5.out)
          go_meet
          exact ⟨rfl, blk4_set j5.out, blk4_far (blk_next K0.out hb1) (by omega) _ _ _ _, blk4_far (blk_next K7.out hb1) (by omega) _ _ _ _, below4 (below_call hbw hb1) (by omega) _ _ _ _⟩
        case rest =>
          obtain ⟨rfl, k5, k0, k7, hbw⟩ := hcut
          have K0 := Lib.hid k0
          have K5 := Lib.hid k5
          have K7 := Lib.hid k7
          clear u0 u1 u2 u3 v0 v1 v2 v3 b0 b1 b2 b3
          obtain ⟨⟨b0, b1, b2, b3⟩, _⟩ := blk4 k0
          clear k0 k5 k7
          go_upto_region 10 with fail
          go_cut [10] from 17 to 123 (fun y wx => y = .int .u64 x2 ∧ Blk wx g7 26 (at4 s a2 e2 f2) ∧ Blk wx w.heap.size 26 (at4 S A E F) ∧ Blk wx g5 26 (at4 s a2 e2 f2) ∧ Below w.heap.size w wx)
          case first =>
            go_wp2_with (go_at_call 17; (with_reducible refine (h17 _).mono ?_); rintro x w1 ⟨rfl, hb1⟩; have j7 := Lib.hid (blk_next K7.out hb1); obtain ⟨_, q0, q1, q2, q3⟩ := blk4 j7.out)
            go_meet
            exact ⟨rfl, blk4_set j7.out, blk4_far (blk_next K0.out hb1) (by omega) _ _ _ _, blk4_far (blk_next K5.out hb1) (by omega) _ _ _ _, below4 (below_call hbw hb1) (by omega) _ _ _ _⟩
          case rest =>
            obtain ⟨rfl, k7, k0, k5, hbw⟩ := hcut
            have K0 := Lib.hid k0
            have K5 := Lib.hid k5
            have K7 := Lib.hid k7
            clear b0 b1 b2 b3
            obtain ⟨⟨b0, b1, b2, b3⟩, _⟩ := blk4 k0
            obtain ⟨⟨u0, u1, u2, u3⟩, _⟩ := blk4 k5
            obtain ⟨⟨v0, v1, v2, v3⟩, _⟩ := blk4 k7
            clear k0 k5 k7
            go_upto_region 13 with fail
            go_cut [11] from 17 to 123 (fun y wx => y = .string t ∧ Blk wx g5 26 (at4 s a3 e3 f3) ∧ Blk wx w.heap.size 26 (at4 S A E F) ∧ Blk wx g7 26 (at4 s a2 e2 f2) ∧ Below w.heap.size w wx)
            case first =>
              go_wp2_with (go_at_call 18; (with_reducible refine (h18 _).mono ?_); rintro x w1 ⟨rfl, hb1⟩; have j5 := Lib.hid (blk_next K5.out hb1); obtain ⟨_, q0, q1, q2, q3⟩ := blk4 j5.out)
              go_meet
              exact ⟨rfl, blk4_set j5.out, blk4_far (blk_next K0.out hb1) (by omega) _ _ _ _, blk4_far (blk_next K7.out hb1) (by omega) _ _ _ _, below4 (below_call hbw hb1) (by omega) _ _ _ _⟩
            case rest =>
              obtain ⟨rfl, k5, k0, k7, hbw⟩ := hcut
              have K0 := Lib.hid k0
              have K5 := Lib.hid k5
              have K7 := Lib.hid k7
              clear u0 u1 u2 u3 v0 v1 v2 v3 b0 b1 b2 b3
              obtain ⟨⟨b0, b1, b2, b3⟩, _⟩ := blk4 k0
              clear k0 k5 k7
              go_upto_region 14 with fail
              go_cut [12] from 17 to 123 (fun y wx => y = .string t ∧ Blk wx g7 26 (at4 s a3 e3 f3) ∧ Blk wx w.heap.size 26 (at4 S A E F) ∧ Blk wx g5 26 (at4 s a3 e3 f3) ∧ Below w.heap.size w wx)
              case first =>
                go_wp2_with (go_at_call 19; (with_reducible refine (h19 _).mono ?_); rintro x w1 ⟨rfl, hb1⟩; have j7 := Lib.hid (blk_next K7.out hb1); obtain ⟨_, q0, q1, q2, q3⟩ := blk4 j7.out)
                go_meet
                exact ⟨rfl, blk4_set j7.out, blk4_far (blk_next K0.out hb1) (by omega) _ _ _ _, blk4_far (blk_next K5.out hb1) (by omega) _ _ _ _, below4 (below_call hbw hb1) (by omega) _ _ _ _⟩
              case rest =>
                obtain ⟨rfl, k7, k0, k5, hbw⟩ := hcut
                have K0 := Lib.hid (blk_drew k0)
                have K5 := Lib.hid (blk_drew k5)
                have K7 := Lib.hid (blk_drew k7)
                have HB := Lib.hid hbw
                clear b0 b1 b2 b3 hbw k0 k5 k7
                go_upto_region 15 with fail
                go_cut [100] from 17 to 123 (fun y wx => y = .bool false ∧ Blk wx w.heap.size 26 (at4 S A E F) ∧ Below w.heap.size w wx)
                case first =>
                  go_region_held3 (fun w' => (w'.cell? ⟨w.heap.size, 0, none⟩ = some (.string S) ∧ w'.cell? ⟨w.heap.size, 1, none⟩ = some (.int .i64 A) ∧ w'.cell? ⟨w.heap.size, 2, none⟩ = some (.int .i64 E) ∧ w'.cell? ⟨w.heap.size, 3, none⟩ = some (.int .i64 F)) ∧
                      (w'.cell? ⟨g5, 0, none⟩ = some (.string s) ∧ w'.cell? ⟨g5, 1, none⟩ = some (.int .i64 a3) ∧ w'.cell? ⟨g5, 2, none⟩ = some (.int .i64 e3) ∧ w'.cell? ⟨g5, 3, none⟩ = some (.int .i64 f3)) ∧
                      (w'.cell? ⟨g7, 0, none⟩ = some (.string s) ∧ w'.cell? ⟨g7, 1, none⟩ = some (.int .i64 a3) ∧ w'.cell? ⟨g7, 2, none⟩ = some (.int .i64 e3) ∧ w'.cell? ⟨g7, 3, none⟩ = some (.int .i64 f3)))
                    (first | (with_reducible exact c43 K0.out K5.out K7.out) | (with_reducible exact c43 y0 y5 y7) | (with_reducible exact c43 z0 z5 z7))
                    (first
                      | (go_at_call 20; (with_reducible refine (h20 _).mono ?_); rintro x w1 ⟨rfl, hb1⟩; have y0 := blk_next K0.out hb1; have y5 := blk_next K5.out hb1; have y7 := blk_next K7.out hb1)
                      | (go_at_call 21; (with_reducible refine (h21 _).mono ?_); rintro x w2 ⟨rfl, hb2⟩; have z0 := blk_next y0 hb2; have z5 := blk_next y5 hb2; have z7 := blk_next y7 hb2))
                  all_goals
                    go_wp2_with fail
                    go_meet
                    exact ⟨rfl, z0, below_call (below_call HB.out.drew hb1) hb2⟩
                case rest =>
                  clear K0 K5 K7 HB
                  obtain ⟨rfl, k0, hbw⟩ := hcut
                  have K0 := Lib.hid k0
                  obtain ⟨⟨b0, b1, b2, b3⟩, _⟩ := blk4 k0
                  clear k0
                  go_upto_region 17 with fail
                  go_cut [13, 14] from 17 to 123 (fun p q wx => ∃ g h, p = .pointer (some ⟨g, 0, none⟩) ∧ q = .pointer (some ⟨h, 0, none⟩) ∧ Blk wx g 26 (at4 s4 a4 e3 f4') ∧ Blk wx h 26 (at4 s a3 e3 f3) ∧ Blk wx w.heap.size 26 (at4 S A E F) ∧ Below w.heap.size w wx)
                  case first =>
                    go_wp2_with (go_at_call 22; (with_reducible refine (h22 _).mono ?_); rintro x w1 ⟨rfl, hb1⟩)
                    go_meet
                    exact ⟨_, _, rfl, rfl, blk_alloc (blk_new _ _ _) _, blk_new2 _ _ _ _, blk_alloc (blk_alloc (blk_next K0.out hb1) _) _, below_box (below_box (below_call hbw hb1) _) _⟩
                  case rest =>
                    obtain ⟨g13, g14, rfl, rfl, k13, k14, k0, hbw⟩ := hcut
                    have K13 := Lib.hid k13
                    have K14 := Lib.hid k14
                    clear b0 b1 b2 b3
                    obtain ⟨⟨b0, b1, b2, b3⟩, _⟩ := blk4 k0
                    clear k13 k14 k0
                    go_upto_region 18 with fail
                    go_cut [15, 16] from 17 to 123 (fun p q wx => ∃ g h, p = .pointer (some ⟨g, 0, none⟩) ∧ q = .pointer (some ⟨h, 0, none⟩) ∧ Blk wx g 26 (at4 s4 a4 e3 f4') ∧ Blk wx h 26 (at4 s a3 e3 f3) ∧ Blk wx g13 26 (at4 s4 a4 e3 f4') ∧ Blk wx g14 26 (at4 s a3 e3 f3) ∧ Below w.heap.size w wx)
                    case first =>
                      go_wp2_with (go_at_call 23; (with_reducible refine (h23 _).mono ?_); rintro x w1 ⟨rfl, hb1⟩)
                      go_meet
                      exact ⟨_, _, rfl, rfl, blk_alloc (blk_new _ _ _) _, blk_new2 _ _ _ _, blk_alloc (blk_alloc (blk_next K13.out hb1) _) _, blk_alloc (blk_alloc (blk_next K14.out hb1) _) _, below_box (below_box (below_call hbw hb1) _) _⟩
                    case rest =>
                      clear b0 b1 b2 b3
                      obtain ⟨g15, g16, rfl, rfl, k15, k16, k13, k14, hbw⟩ := hcut
                      obtain ⟨⟨b0, b1, b2, b3⟩, _⟩ := blk4 k13
                      obtain ⟨⟨d0, d1, d2, d3⟩, _⟩ := blk4 k14
                      obtain ⟨⟨u0, u1, u2, u3⟩, _⟩ := blk4 k15
                      obtain ⟨⟨v0, v1, v2, v3⟩, _⟩ := blk4 k16
                      clear k13 k14 k15 k16 K13 K14
                      go_wp2_with (go_at_call 9; (with_reducible refine (awake_any _).mono ?_); rintro e w1 ⟨rfl, hb1⟩)
                      go_ret
                      exact ⟨rfl, below_call hbw hb1⟩

theorem reads_any (S : ByteArray) (A E F n : Int) (hS : S.size ≤ 9223372036854775807) (w : World) :
    Calls Try.prog 3 #[.agg #[.string S, .int .i64 A, .int .i64 E, .int .i64 F], .int .i64 n] w fun e w' => e = .returned (.bool true) ∧ Below w.heap.size w w' := by
  by_cases h : 300 < S.size
  · exact long3 S A E F n w (decide_eq_true (by omega))
  · exact reads_inner S _ _ _ A E F n _ _ _ _ _ _ _ _ _ _ _ _ _ _ _ w (decide_eq_false (by omega)) (fun u => ocheck_any S A E F hS u) (fun u => ccheck_any S A E F hS u) (fun u => oleft_any S A E F hS u) (fun u => cleft_any S A E F hS u) (fun u => obyte_all S A E F hS u) (fun u => cbyte_all S A E F hS u) (fun u => olittle_any S A E F n hS u) (fun u => clittle_any S A E F n hS u) (fun u => obytes_any S A E F n hS u) (fun u => cbytes_any S A E F n hS u) (fun u => oskip_any S _ A E F _ _ _ n _ (fun v => obytes_any S A E F n hS v) u) (fun u => cskip_any S _ A E F _ _ _ n _ (fun v => cbytes_any S A E F n hS v) u) (fun u => oinner_any S A E F n hS u) (fun u => cinner_any S A E F n hS u)
end Go.Proofs.Ytipigfngeiodlaa
