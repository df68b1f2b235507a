/-
  CursorStays: the law's walk, for every cursor, every error and all numbers.
-/
import Derived.Test.YtipigfngeiodlaaReads
import Derived.Deep.RegionHeld3
namespace Go.Proofs.Ytipigfngeiodlaa
open Go.ChangeShapes Go.WideShapes Go.ChangeAt Go.RowKit
set_option linter.unusedVariables false

theorem yb_stay (s : ByteArray) (a e f n : Int) (he : e ≠ 0) : ybA s a e n = a ∧ ybE s a e n = e ∧ ybF s a e f n = f ∧ ybT s a e n = ⟨#[]⟩ := by
  have h : ¬ ybOk s a e n := fun h => he h.1
  unfold ybA ybE ybF ybT
  rw [if_neg h, if_neg he, if_neg he, if_neg h]
  exact ⟨rfl, rfl, rfl, rfl⟩
theorem l_stay (s : ByteArray) (a e f n : Int) (he : e ≠ 0) : lA s a e n = a ∧ lE s a e n = e ∧ lF s a e f n = f ∧ ((lV s a e n : Nat) : Int) = 0 := by
  obtain ⟨h1, h2, h3, h4⟩ := yb_stay s a e f n he
  unfold lA lE lF lV
  by_cases h : lOk n
  · rw [if_pos h, if_pos h, if_pos h, if_pos h, h1, h2, h3, h4]
    exact ⟨rfl, rfl, rfl, rfl⟩
  · rw [if_neg h, if_neg h, if_neg h, if_neg h, if_neg he, if_neg he]
    exact ⟨rfl, rfl, rfl, rfl⟩

theorem stay_byte {s : ByteArray} {a e f : Int} (hS : s.size ≤ 9223372036854775807) (hc : curOk s a e f) (he : e ≠ 0) (w : World) : Calls Try.prog 14 #[.agg #[.string s, .int .i64 a, .int .i64 e, .int .i64 f]] w fun r w' => r = .returned (.tuple #[.agg #[.string s, .int .i64 a, .int .i64 e, .int .i64 f], .int .i64 0]) ∧ Below w.heap.size w w' := by
  have h := obyte_all s a e f hS w
  obtain ⟨r1, r2, r3, r4⟩ := cr_right s a e f hc
  obtain ⟨h1, h2, h3, h4⟩ := yb_stay s a e f 1 he
  rw [r1, r2, r3, r4, h1, h2, h3, h4] at h
  exact h
theorem stay_bytes {s : ByteArray} {a e f : Int} (hS : s.size ≤ 9223372036854775807) (hc : curOk s a e f) (he : e ≠ 0) (n : Int) (w : World) : Calls Try.prog 18 #[.agg #[.string s, .int .i64 a, .int .i64 e, .int .i64 f], .int .i64 n] w fun r w' => r = .returned (.tuple #[.agg #[.string s, .int .i64 a, .int .i64 e, .int .i64 f], .string ⟨#[]⟩]) ∧ Below w.heap.size w w' := by
  have h := obytes_any s a e f n hS w
  obtain ⟨r1, r2, r3, r4⟩ := cr_right s a e f hc
  obtain ⟨h1, h2, h3, h4⟩ := yb_stay s a e f n he
  rw [r1, r2, r3, r4, h1, h2, h3, h4] at h
  exact h
theorem stay_skip {s : ByteArray} {a e f : Int} (hS : s.size ≤ 9223372036854775807) (hc : curOk s a e f) (he : e ≠ 0) (n : Int) (w : World) : Calls Try.prog 20 #[.agg #[.string s, .int .i64 a, .int .i64 e, .int .i64 f], .int .i64 n] w fun r w' => r = .returned (.agg #[.string s, .int .i64 a, .int .i64 e, .int .i64 f]) ∧ Below w.heap.size w w' :=
  oskip_any s s a e f a e f n _ (fun u => stay_bytes hS hc he n u) w
theorem stay_little {s : ByteArray} {a e f : Int} (hS : s.size ≤ 9223372036854775807) (hc : curOk s a e f) (he : e ≠ 0) (n : Int) (w : World) : Calls Try.prog 16 #[.agg #[.string s, .int .i64 a, .int .i64 e, .int .i64 f], .int .i64 n] w fun r w' => r = .returned (.tuple #[.agg #[.string s, .int .i64 a, .int .i64 e, .int .i64 f], .int .u64 0]) ∧ Below w.heap.size w w' := by
  have h := olittle_any s a e f n hS w
  obtain ⟨r1, r2, r3, r4⟩ := cr_right s a e f hc
  obtain ⟨h1, h2, h3, h4⟩ := l_stay s a e f n he
  rw [r1, r2, r3, r4, h1, h2, h3, h4] at h
  exact h
theorem stay_inner {s : ByteArray} {a e f : Int} (hS : s.size ≤ 9223372036854775807) (hc : curOk s a e f) (he : e ≠ 0) (n : Int) (w : World) : Calls Try.prog 22 #[.agg #[.string s, .int .i64 a, .int .i64 e, .int .i64 f], .int .i64 n] w fun r w' => r = .returned (.tuple #[.agg #[.string s, .int .i64 a, .int .i64 e, .int .i64 f], .agg #[.string s, .int .i64 a, .int .i64 e, .int .i64 f]]) ∧ Below w.heap.size w w' := by
  have h := oinner_any s a e f n hS w
  obtain ⟨r1, r2, r3, r4⟩ := cr_right s a e f hc
  obtain ⟨h1, h2, h3, h4⟩ := yb_stay s a e f n he
  unfold iS iA iF at h
  rw [r1, r2, r3, r4, h1, h2, h3, if_neg he, if_neg he, if_neg he] at h
  exact h
theorem stay_fail {s : ByteArray} {a e f : Int} (hS : s.size ≤ 9223372036854775807) (hc : curOk s a e f) (he : e ≠ 0) (x p : Int) (w : World) : Calls Try.prog 26 #[.agg #[.string s, .int .i64 a, .int .i64 e, .int .i64 f], .int .i64 x, .int .i64 p] w fun r w' => r = .returned (.agg #[.string s, .int .i64 a, .int .i64 e, .int .i64 f]) ∧ Below w.heap.size w w' := by
  have h := ofail_any s a e f x p hS w
  obtain ⟨r1, r2, r3, r4⟩ := cr_right s a e f hc
  rw [r1, r2, r3, r4, if_neg he, if_neg he] at h
  exact h
theorem stay_left {s : ByteArray} {a e f : Int} (hS : s.size ≤ 9223372036854775807) (hc : curOk s a e f) (he : e ≠ 0) (w : World) : Calls Try.prog 12 #[.agg #[.string s, .int .i64 a, .int .i64 e, .int .i64 f]] w fun r w' => r = .returned (.int .i64 0) ∧ Below w.heap.size w w' := by
  have h := oleft_any s a e f hS w
  obtain ⟨r1, r2, r3, r4⟩ := cr_right s a e f hc
  unfold ylX at h
  rw [r1, r2, r3, if_neg he] at h
  exact h
theorem stay_end {s : ByteArray} {a e f : Int} (hS : s.size ≤ 9223372036854775807) (hc : curOk s a e f) (he : e ≠ 0) (w : World) : Calls Try.prog 28 #[.agg #[.string s, .int .i64 a, .int .i64 e, .int .i64 f]] w fun r w' => r = .returned (.agg #[.int .i64 e, .int .i64 f]) ∧ Below w.heap.size w w' := by
  have h := oend_any s a e f hS w
  obtain ⟨r1, r2, r3, r4⟩ := cr_right s a e f hc
  unfold yeE yeF at h
  rw [r1, r2, r3, r4, if_neg (fun k => he k.1), if_neg (fun k => he k.1)] at h
  exact h
theorem long7 (S : ByteArray) (A E F x p : Int) (w : World) (h1 : decide ((100 : Int) < (S.size : Int)) = true) :
    Calls Try.prog 7 #[.agg #[.string S, .int .i64 A, .int .i64 E, .int .i64 F], .int .i64 x, .int .i64 p] w fun e w' => e = .returned (.bool true) ∧ Below w.heap.size w w' := by
  go_enter Try.func7, Try.ntmps7
  go_wp2_with (go_at_call 9; (with_reducible refine (awake_any _).mono ?_); rintro e w1 ⟨rfl, hb1⟩)
  go_ret
  exact ⟨rfl, below_call (below_box (Below.refl _ _) _) hb1⟩

/-- six cursors that are all equal -/
def Six (w : World) (g7 g8 g10 g12 g14 g15 : Nat) (s : ByteArray) (a e f : Int) : Prop :=
  Blk w g7 26 (at4 s a e f) ∧ Blk w g8 26 (at4 s a e f) ∧ Blk w g10 26 (at4 s a e f) ∧ Blk w g12 26 (at4 s a e f) ∧ Blk w g14 26 (at4 s a e f) ∧ Blk w g15 26 (at4 s a e f)
theorem six_next {w w1 : World} {g7 g8 g10 g12 g14 g15 : Nat} {s : ByteArray} {a e f : Int} (h : Six w g7 g8 g10 g12 g14 g15 s a e f) (hb : Below w.heap.size w w1) : Six w1 g7 g8 g10 g12 g14 g15 s a e f :=
  ⟨blk_next h.1 hb, blk_next h.2.1 hb, blk_next h.2.2.1 hb, blk_next h.2.2.2.1 hb, blk_next h.2.2.2.2.1 hb, blk_next h.2.2.2.2.2 hb⟩
theorem six_drew {w : World} {g7 g8 g10 g12 g14 g15 : Nat} {s : ByteArray} {a e f : Int} (h : Six w g7 g8 g10 g12 g14 g15 s a e f) : Six w.drew g7 g8 g10 g12 g14 g15 s a e f := h
theorem c46 {w' : World} {g7 g8 g10 g12 g14 g15 : Nat} {s : ByteArray} {a e f : Int} (h : Six w' g7 g8 g10 g12 g14 g15 s a e f) :
    (w'.cell? ⟨g7, 0, none⟩ = some (.string s) ∧ w'.cell? ⟨g7, 1, none⟩ = some (.int .i64 a) ∧ w'.cell? ⟨g7, 2, none⟩ = some (.int .i64 e) ∧ w'.cell? ⟨g7, 3, none⟩ = some (.int .i64 f)) ∧
              (w'.cell? ⟨g8, 0, none⟩ = some (.string s) ∧ w'.cell? ⟨g8, 1, none⟩ = some (.int .i64 a) ∧ w'.cell? ⟨g8, 2, none⟩ = some (.int .i64 e) ∧ w'.cell? ⟨g8, 3, none⟩ = some (.int .i64 f)) ∧
              (w'.cell? ⟨g10, 0, none⟩ = some (.string s) ∧ w'.cell? ⟨g10, 1, none⟩ = some (.int .i64 a) ∧ w'.cell? ⟨g10, 2, none⟩ = some (.int .i64 e) ∧ w'.cell? ⟨g10, 3, none⟩ = some (.int .i64 f)) ∧
              (w'.cell? ⟨g12, 0, none⟩ = some (.string s) ∧ w'.cell? ⟨g12, 1, none⟩ = some (.int .i64 a) ∧ w'.cell? ⟨g12, 2, none⟩ = some (.int .i64 e) ∧ w'.cell? ⟨g12, 3, none⟩ = some (.int .i64 f)) ∧
              (w'.cell? ⟨g14, 0, none⟩ = some (.string s) ∧ w'.cell? ⟨g14, 1, none⟩ = some (.int .i64 a) ∧ w'.cell? ⟨g14, 2, none⟩ = some (.int .i64 e) ∧ w'.cell? ⟨g14, 3, none⟩ = some (.int .i64 f)) ∧
              (w'.cell? ⟨g15, 0, none⟩ = some (.string s) ∧ w'.cell? ⟨g15, 1, none⟩ = some (.int .i64 a) ∧ w'.cell? ⟨g15, 2, none⟩ = some (.int .i64 e) ∧ w'.cell? ⟨g15, 3, none⟩ = some (.int .i64 f)) :=
  ⟨(blk4 h.1).1, (blk4 h.2.1).1, (blk4 h.2.2.1).1, (blk4 h.2.2.2.1).1, (blk4 h.2.2.2.2.1).1, (blk4 h.2.2.2.2.2).1⟩

set_option maxRecDepth 100000 in
set_option maxHeartbeats 2000000 in
theorem stays_inner (S s : ByteArray) (A E F x p a e f : Int) (w : World) (h1 : decide ((100 : Int) < (S.size : Int)) = false)
    (hS : s.size ≤ 9223372036854775807) (hc : curOk s a e f) (he : e ≠ 0)
    (h26 : ∀ u, Calls Try.prog 26 #[.agg #[.string S, .int .i64 A, .int .i64 E, .int .i64 F], .int .i64 x, .int .i64 p] u fun r w' => r = .returned (.agg #[.string s, .int .i64 a, .int .i64 e, .int .i64 f]) ∧ Below u.heap.size u w') :
    Calls Try.prog 7 #[.agg #[.string S, .int .i64 A, .int .i64 E, .int .i64 F], .int .i64 x, .int .i64 p] w fun r w' => r = .returned (.bool true) ∧ Below w.heap.size w w' := by
  have t0 : (e != 0) = true := by simp [he]
  have HC := Lib.hid (And.intro hS (And.intro hc he))
  clear hS hc he
  go_enter Try.func7, Try.ntmps7
  go_upto_region 3 with fail
  go_cut [7] from 16 to 116 (fun q wx => ∃ g, q = .pointer (some ⟨g, 0, none⟩) ∧ Blk wx g 26 (at4 s a e f) ∧ Below w.heap.size w wx)
  case first =>
    go_wp2_with (go_at_call 26; (with_reducible refine (h26 _).mono ?_); rintro r w1 ⟨rfl, hb1⟩)
    go_meet
    exact ⟨_, rfl, blk_new _ _ _, below_box (below_call (below_box (Below.refl _ _) _) hb1) _⟩
  case rest =>
    obtain ⟨g7, rfl, k7, hbw⟩ := hcut
    have K7 := Lib.hid k7
    obtain ⟨⟨b0, b1, b2, b3⟩, _⟩ := blk4 k7
    clear k7
    go_upto_region 4 with fail
    go_cut [8, 9] from 16 to 116 (fun q y wx => ∃ g, q = .pointer (some ⟨g, 0, none⟩) ∧ y = .int .i64 0 ∧ Blk wx g 26 (at4 s a e f) ∧ Blk wx g7 26 (at4 s a e f) ∧ Below w.heap.size w wx)
    case first =>
      go_wp2_with (go_at_call 14; (with_reducible refine (stay_byte HC.out.1 HC.out.2.1 HC.out.2.2 _).mono ?_); rintro r w1 ⟨rfl, hb1⟩)
      go_meet
      exact ⟨_, rfl, rfl, blk_new _ _ _, blk_alloc (blk_next K7.out hb1) _, below_box (below_call hbw hb1) _⟩
    case rest =>
      obtain ⟨g8, rfl, rfl, k8, k7, hbw⟩ := hcut
      have K7 := Lib.hid k7
      have K8 := Lib.hid k8
      clear b0 b1 b2 b3
      obtain ⟨⟨b0, b1, b2, b3⟩, _⟩ := blk4 k7
      clear k7 k8
      go_upto_region 5 with fail
      go_cut [10, 11] from 16 to 116 (fun q y wx => ∃ g, q = .pointer (some ⟨g, 0, none⟩) ∧ y = .string ⟨#[]⟩ ∧ Blk wx g 26 (at4 s a e f) ∧ Blk wx g7 26 (at4 s a e f) ∧ Blk wx g8 26 (at4 s a e f) ∧ Below w.heap.size w wx)
      case first =>
        go_wp2_with (go_at_call 18; (with_reducible refine (stay_bytes HC.out.1 HC.out.2.1 HC.out.2.2 _ _).mono ?_); rintro r w1 ⟨rfl, hb1⟩)
        go_meet
        exact ⟨_, rfl, rfl, blk_new _ _ _, blk_alloc (blk_next K7.out hb1) _, blk_alloc (blk_next K8.out hb1) _, below_box (below_call hbw hb1) _⟩
      case rest =>
        obtain ⟨g10, rfl, rfl, k10, k7, k8, hbw⟩ := hcut
        have K7 := Lib.hid k7
        have K8 := Lib.hid k8
        have K10 := Lib.hid k10
        clear b0 b1 b2 b3
        obtain ⟨⟨b0, b1, b2, b3⟩, _⟩ := blk4 k7
        clear k7 k8 k10
        go_upto_region 6 with fail
        go_cut [12, 13] from 16 to 116 (fun q y wx => ∃ g, q = .pointer (some ⟨g, 0, none⟩) ∧ y = .int .u64 0 ∧ Blk wx g 26 (at4 s a e f) ∧ Blk wx g7 26 (at4 s a e f) ∧ Blk wx g8 26 (at4 s a e f) ∧ Blk wx g10 26 (at4 s a e f) ∧ Below w.heap.size w wx)
        case first =>
          go_wp2_with (go_at_call 16; (with_reducible refine (stay_little HC.out.1 HC.out.2.1 HC.out.2.2 _ _).mono ?_); rintro r w1 ⟨rfl, hb1⟩)
          go_meet
          exact ⟨_, rfl, rfl, blk_new _ _ _, blk_alloc (blk_next K7.out hb1) _, blk_alloc (blk_next K8.out hb1) _, blk_alloc (blk_next K10.out hb1) _, below_box (below_call hbw hb1) _⟩
        case rest =>
          obtain ⟨g12, rfl, rfl, k12, k7, k8, k10, hbw⟩ := hcut
          have K7 := Lib.hid k7
          have K8 := Lib.hid k8
          have K10 := Lib.hid k10
          have K12 := Lib.hid k12
          have HB := Lib.hid hbw
          clear b0 b1 b2 b3 hbw
          obtain ⟨⟨b0, b1, b2, b3⟩, _⟩ := blk4 k7
          clear k7 k8 k10 k12
          go_upto_region 7 with fail
          go_cut [14, 15] from 16 to 116 (fun p q wx => ∃ g h, p = .pointer (some ⟨g, 0, none⟩) ∧ q = .pointer (some ⟨h, 0, none⟩) ∧ Six wx g7 g8 g10 g12 g h s a e f ∧ Below w.heap.size w wx)
          case first =>
            go_wp2_with (go_at_call 22; (with_reducible refine (stay_inner HC.out.1 HC.out.2.1 HC.out.2.2 _ _).mono ?_); rintro r w1 ⟨rfl, hb1⟩)
            go_meet
            exact ⟨_, _, rfl, rfl, ⟨blk_alloc (blk_alloc (blk_next K7.out hb1) _) _, blk_alloc (blk_alloc (blk_next K8.out hb1) _) _, blk_alloc (blk_alloc (blk_next K10.out hb1) _) _, blk_alloc (blk_alloc (blk_next K12.out hb1) _) _, blk_alloc (blk_new _ _ _) _, blk_new2 _ _ _ _⟩, below_box (below_box (below_call HB.out hb1) _) _⟩
          case rest =>
            clear b0 b1 b2 b3 K7 K8 K10 K12 HB
            obtain ⟨g14, g15, rfl, rfl, k, hbw⟩ := hcut
            have K0 := Lib.hid (six_drew k)
            have HB0 := Lib.hid hbw.drew
            clear k hbw
            go_upto_region 8 with fail
            simp only [List.append_eq, List.cons_append, List.nil_append]
            go_region_held3 (fun w' => (w'.cell? ⟨g7, 0, none⟩ = some (.string s) ∧ w'.cell? ⟨g7, 1, none⟩ = some (.int .i64 a) ∧ w'.cell? ⟨g7, 2, none⟩ = some (.int .i64 e) ∧ w'.cell? ⟨g7, 3, none⟩ = some (.int .i64 f)) ∧
              (w'.cell? ⟨g8, 0, none⟩ = some (.string s) ∧ w'.cell? ⟨g8, 1, none⟩ = some (.int .i64 a) ∧ w'.cell? ⟨g8, 2, none⟩ = some (.int .i64 e) ∧ w'.cell? ⟨g8, 3, none⟩ = some (.int .i64 f)) ∧
              (w'.cell? ⟨g10, 0, none⟩ = some (.string s) ∧ w'.cell? ⟨g10, 1, none⟩ = some (.int .i64 a) ∧ w'.cell? ⟨g10, 2, none⟩ = some (.int .i64 e) ∧ w'.cell? ⟨g10, 3, none⟩ = some (.int .i64 f)) ∧
              (w'.cell? ⟨g12, 0, none⟩ = some (.string s) ∧ w'.cell? ⟨g12, 1, none⟩ = some (.int .i64 a) ∧ w'.cell? ⟨g12, 2, none⟩ = some (.int .i64 e) ∧ w'.cell? ⟨g12, 3, none⟩ = some (.int .i64 f)) ∧
              (w'.cell? ⟨g14, 0, none⟩ = some (.string s) ∧ w'.cell? ⟨g14, 1, none⟩ = some (.int .i64 a) ∧ w'.cell? ⟨g14, 2, none⟩ = some (.int .i64 e) ∧ w'.cell? ⟨g14, 3, none⟩ = some (.int .i64 f)) ∧
              (w'.cell? ⟨g15, 0, none⟩ = some (.string s) ∧ w'.cell? ⟨g15, 1, none⟩ = some (.int .i64 a) ∧ w'.cell? ⟨g15, 2, none⟩ = some (.int .i64 e) ∧ w'.cell? ⟨g15, 3, none⟩ = some (.int .i64 f)))
              (first | (with_reducible exact c46 K0.out) | (with_reducible exact c46 K1.out) | (with_reducible exact c46 K2.out) | (with_reducible exact c46 K3.out) | (with_reducible exact c46 K4.out) | (with_reducible exact c46 K5.out))
              (first
              | (go_at_call 20; (with_reducible refine (stay_skip HC.out.1 HC.out.2.1 HC.out.2.2 _ _).mono ?_); rintro r w1 ⟨rfl, hb1⟩; have K1 := Lib.hid (six_next K0.out hb1); have HB1 := Lib.hid (below_call HB0.out hb1); clear hb1)
              | (go_at_call 26; (with_reducible refine (stay_fail HC.out.1 HC.out.2.1 HC.out.2.2 _ _ _).mono ?_); rintro r w2 ⟨rfl, hb2⟩; have K2 := Lib.hid (six_next K1.out hb2); have HB2 := Lib.hid (below_call HB1.out hb2); clear hb2)
              | (go_at_call 12; (with_reducible refine (stay_left HC.out.1 HC.out.2.1 HC.out.2.2 _).mono ?_); rintro r w3 ⟨rfl, hb3⟩; have K3 := Lib.hid (six_next K2.out hb3); have HB3 := Lib.hid (below_call HB2.out hb3); clear hb3)
              | (go_at_call 28; (with_reducible refine (stay_end HC.out.1 HC.out.2.1 HC.out.2.2 _).mono ?_); rintro r w4 ⟨rfl, hb4⟩; have K4 := Lib.hid (six_next K3.out hb4); have HB4 := Lib.hid (below_call HB3.out hb4); clear hb4)
              | (go_at_call 9; (with_reducible refine (awake_any _).mono ?_); rintro r w5 ⟨rfl, hb5⟩; have K5 := Lib.hid (six_next K4.out hb5); have HB5 := Lib.hid (below_call HB4.out hb5); clear hb5))
            all_goals
              go_wp2_with fail
              go_ret
              exact ⟨rfl, HB5.out⟩

theorem stays_any (S : ByteArray) (A E F x p : Int) (hS : S.size ≤ 9223372036854775807) (w : World) :
    Calls Try.prog 7 #[.agg #[.string S, .int .i64 A, .int .i64 E, .int .i64 F], .int .i64 x, .int .i64 p] w fun e w' => e = .returned (.bool true) ∧ Below w.heap.size w w' := by
  by_cases h : 100 < S.size
  · exact long7 S A E F x p w (decide_eq_true (by omega))
  · have hc := cr_ok S A E F
    refine stays_inner S _ A E F x p _ _ _ w (decide_eq_false (by omega)) (Nat.le_trans (cr_size S A E F) hS) ?_ ?_ (fun u => ofail_any S A E F x p hS u)
    · obtain ⟨c1, c2, c3, c4, c5, c6, c7⟩ := hc
      by_cases he : crE S A E F = 0
      · rw [if_pos he, if_pos he]
        unfold yfE yfP
        refine ⟨c1, c2, ?_, ?_, ?_, ?_, ?_⟩ <;> (repeat' split) <;> omega
      · rw [if_neg he, if_neg he]
        exact ⟨c1, c2, c3, c4, c5, c6, c7⟩
    · by_cases he : crE S A E F = 0
      · rw [if_pos he]; unfold yfE; split <;> omega
      · rw [if_neg he]; exact he
end Go.Proofs.Ytipigfngeiodlaa
