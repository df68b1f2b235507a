/-
  The chapter's examples in XxhKnown.
-/
import Derived.Test.YtgiihdgkejhbeaaAwake
namespace Go.Proofs.Ytgiihdgkejhbeaa
open Go.ChangeShapes Go.WideShapes Go.ChangeAt Go.RowKit
set_option linter.unusedVariables false

theorem a1 (u : World) : Calls Try.prog 16 #[.agg #[.int .u64 (sL 0 ⟨#[]⟩).a, .int .u64 (sL 0 ⟨#[]⟩).b, .int .u64 (sL 0 ⟨#[]⟩).c, .int .u64 (sL 0 ⟨#[]⟩).d, .int .i64 0, .string (sT ⟨#[]⟩), .int .u64 0], .string ⟨#[97]⟩] u fun e w' => e = .returned (.tuple #[.agg #[.int .u64 (sL 0 ⟨#[97]⟩).a, .int .u64 (sL 0 ⟨#[97]⟩).b, .int .u64 (sL 0 ⟨#[97]⟩).c, .int .u64 (sL 0 ⟨#[97]⟩).d, .int .i64 1, .string (sT ⟨#[97]⟩), .int .u64 0], .int .i64 0]) ∧ Below u.heap.size u w' := add_s 0 ⟨#[]⟩ ⟨#[97]⟩ ⟨#[97]⟩ (by decide) 1 (by decide) (by decide) u
theorem a2 (u : World) : Calls Try.prog 16 #[.agg #[.int .u64 (sL 0 ⟨#[97]⟩).a, .int .u64 (sL 0 ⟨#[97]⟩).b, .int .u64 (sL 0 ⟨#[97]⟩).c, .int .u64 (sL 0 ⟨#[97]⟩).d, .int .i64 1, .string (sT ⟨#[97]⟩), .int .u64 0], .string ⟨#[98, 99]⟩] u fun e w' => e = .returned (.tuple #[.agg #[.int .u64 (sL 0 ⟨#[97, 98, 99]⟩).a, .int .u64 (sL 0 ⟨#[97, 98, 99]⟩).b, .int .u64 (sL 0 ⟨#[97, 98, 99]⟩).c, .int .u64 (sL 0 ⟨#[97, 98, 99]⟩).d, .int .i64 3, .string (sT ⟨#[97, 98, 99]⟩), .int .u64 0], .int .i64 0]) ∧ Below u.heap.size u w' := add_s 0 ⟨#[97]⟩ ⟨#[98, 99]⟩ ⟨#[97, 98, 99]⟩ (by decide) 3 (by decide) (by decide) u
theorem a33 (u : World) : Calls Try.prog 16 #[.agg #[.int .u64 (sL 0 ⟨#[]⟩).a, .int .u64 (sL 0 ⟨#[]⟩).b, .int .u64 (sL 0 ⟨#[]⟩).c, .int .u64 (sL 0 ⟨#[]⟩).d, .int .i64 0, .string (sT ⟨#[]⟩), .int .u64 0], .string ⟨#[97, 98, 99, 100, 101, 102, 103, 104, 105, 106, 107, 108, 109, 110, 111, 112, 113, 114, 115, 116, 117, 118, 119, 120, 121, 122, 97, 98, 99, 100, 101, 102, 103]⟩] u fun e w' => e = .returned (.tuple #[.agg #[.int .u64 (sL 0 ⟨#[97, 98, 99, 100, 101, 102, 103, 104, 105, 106, 107, 108, 109, 110, 111, 112, 113, 114, 115, 116, 117, 118, 119, 120, 121, 122, 97, 98, 99, 100, 101, 102, 103]⟩).a, .int .u64 (sL 0 ⟨#[97, 98, 99, 100, 101, 102, 103, 104, 105, 106, 107, 108, 109, 110, 111, 112, 113, 114, 115, 116, 117, 118, 119, 120, 121, 122, 97, 98, 99, 100, 101, 102, 103]⟩).b, .int .u64 (sL 0 ⟨#[97, 98, 99, 100, 101, 102, 103, 104, 105, 106, 107, 108, 109, 110, 111, 112, 113, 114, 115, 116, 117, 118, 119, 120, 121, 122, 97, 98, 99, 100, 101, 102, 103]⟩).c, .int .u64 (sL 0 ⟨#[97, 98, 99, 100, 101, 102, 103, 104, 105, 106, 107, 108, 109, 110, 111, 112, 113, 114, 115, 116, 117, 118, 119, 120, 121, 122, 97, 98, 99, 100, 101, 102, 103]⟩).d, .int .i64 33, .string (sT ⟨#[97, 98, 99, 100, 101, 102, 103, 104, 105, 106, 107, 108, 109, 110, 111, 112, 113, 114, 115, 116, 117, 118, 119, 120, 121, 122, 97, 98, 99, 100, 101, 102, 103]⟩), .int .u64 0], .int .i64 0]) ∧ Below u.heap.size u w' := add_s 0 ⟨#[]⟩ ⟨#[97, 98, 99, 100, 101, 102, 103, 104, 105, 106, 107, 108, 109, 110, 111, 112, 113, 114, 115, 116, 117, 118, 119, 120, 121, 122, 97, 98, 99, 100, 101, 102, 103]⟩ ⟨#[97, 98, 99, 100, 101, 102, 103, 104, 105, 106, 107, 108, 109, 110, 111, 112, 113, 114, 115, 116, 117, 118, 119, 120, 121, 122, 97, 98, 99, 100, 101, 102, 103]⟩ (by decide) 33 (by decide) (by decide) u
theorem low0 (u : World) : Calls Try.prog 14 #[.string ⟨#[]⟩] u fun e w' => e = .returned (.int .u32 1373170073) ∧ Below u.heap.size u w' := by
  have h := low_any ⟨#[]⟩ (by decide) u
  rw [v0, show IntKind.u32.wrap 17241709254077376921 = 1373170073 by decide +kernel] at h
  exact h
theorem n5 (u : World) : Calls Try.prog 22 #[.int .u64 5] u fun e w' => e = .returned (.agg #[.int .u64 (sL 5 ⟨#[]⟩).a, .int .u64 (sL 5 ⟨#[]⟩).b, .int .u64 (sL 5 ⟨#[]⟩).c, .int .u64 (sL 5 ⟨#[]⟩).d, .int .i64 0, .string (sT ⟨#[]⟩), .int .u64 5]) ∧ Below u.heap.size u w' := new_s 5 u
theorem ck5 (u : World) : Calls Try.prog 20 #[.agg #[.int .u64 (sL 5 ⟨#[]⟩).a, .int .u64 (sL 5 ⟨#[]⟩).b, .int .u64 (sL 5 ⟨#[]⟩).c, .int .u64 (sL 5 ⟨#[]⟩).d, .int .i64 0, .string (sT ⟨#[]⟩), .int .u64 5]] u fun e w' => e = .returned (.int .i64 0) ∧ Below u.heap.size u w' := check_s 5 ⟨#[]⟩ 0 (by decide) (by decide) u
theorem ck1 (p0 p1 p2 p3 : Int) (u : World) : Calls Try.prog 20 #[.agg #[.int .u64 p0, .int .u64 p1, .int .u64 p2, .int .u64 p3, .int .i64 1, .string ⟨#[]⟩, .int .u64 0]] u fun e w' => e = .returned (.int .i64 10) ∧ Below u.heap.size u w' := by
  have h := check_any p0 p1 p2 p3 1 ⟨#[]⟩ 0 u
  rw [if_neg (fun hh => absurd hh.2.2.1 (by decide))] at h
  exact h
theorem ckm (p0 p1 p2 p3 : Int) (u : World) : Calls Try.prog 20 #[.agg #[.int .u64 p0, .int .u64 p1, .int .u64 p2, .int .u64 p3, .int .i64 (-1), .string ⟨#[]⟩, .int .u64 0]] u fun e w' => e = .returned (.int .i64 10) ∧ Below u.heap.size u w' := by
  have h := check_any p0 p1 p2 p3 (-1) ⟨#[]⟩ 0 u
  rw [if_neg (fun hh => absurd hh.1 (by decide))] at h
  exact h
theorem z33 : ((sT ⟨#[97, 98, 99, 100, 101, 102, 103, 104, 105, 106, 107, 108, 109, 110, 111, 112, 113, 114, 115, 116, 117, 118, 119, 120, 121, 122, 97, 98, 99, 100, 101, 102, 103]⟩).size : Int) = 1 := by decide +kernel

set_option maxRecDepth 100000 in
set_option maxHeartbeats 2000000 in
theorem known_walk (p0 p1 p2 p3 q0 q1 q2 q3 r0 r1 r2 r3 m0 m1 m2 m3 f0 f1 f2 f3 : Int) (t1 t2 t3 t5 : ByteArray) (w : World) (hz : (t3.size : Int) = 1)
    (h1 : ∀ u, Calls Try.prog 22 #[.int .u64 0] u fun e w' => e = .returned (.agg #[.int .u64 p0, .int .u64 p1, .int .u64 p2, .int .u64 p3, .int .i64 0, .string ⟨#[]⟩, .int .u64 0]) ∧ Below u.heap.size u w')
    (h2 : ∀ u, Calls Try.prog 16 #[.agg #[.int .u64 p0, .int .u64 p1, .int .u64 p2, .int .u64 p3, .int .i64 0, .string ⟨#[]⟩, .int .u64 0], .string ⟨#[97]⟩] u fun e w' => e = .returned (.tuple #[.agg #[.int .u64 q0, .int .u64 q1, .int .u64 q2, .int .u64 q3, .int .i64 1, .string t1, .int .u64 0], .int .i64 0]) ∧ Below u.heap.size u w')
    (h3 : ∀ u, Calls Try.prog 16 #[.agg #[.int .u64 q0, .int .u64 q1, .int .u64 q2, .int .u64 q3, .int .i64 1, .string t1, .int .u64 0], .string ⟨#[98, 99]⟩] u fun e w' => e = .returned (.tuple #[.agg #[.int .u64 r0, .int .u64 r1, .int .u64 r2, .int .u64 r3, .int .i64 3, .string t2, .int .u64 0], .int .i64 0]) ∧ Below u.heap.size u w')
    (h4 : ∀ u, Calls Try.prog 18 #[.agg #[.int .u64 r0, .int .u64 r1, .int .u64 r2, .int .u64 r3, .int .i64 3, .string t2, .int .u64 0]] u fun e w' => e = .returned (.tuple #[.int .u64 4952883123889572249, .int .i64 0]) ∧ Below u.heap.size u w')
    (h5 : ∀ u, Calls Try.prog 16 #[.agg #[.int .u64 p0, .int .u64 p1, .int .u64 p2, .int .u64 p3, .int .i64 0, .string ⟨#[]⟩, .int .u64 0], .string ⟨#[97, 98, 99, 100, 101, 102, 103, 104, 105, 106, 107, 108, 109, 110, 111, 112, 113, 114, 115, 116, 117, 118, 119, 120, 121, 122, 97, 98, 99, 100, 101, 102, 103]⟩] u fun e w' => e = .returned (.tuple #[.agg #[.int .u64 m0, .int .u64 m1, .int .u64 m2, .int .u64 m3, .int .i64 33, .string t3, .int .u64 0], .int .i64 0]) ∧ Below u.heap.size u w')
    (h6 : ∀ u, Calls Try.prog 22 #[.int .u64 5] u fun e w' => e = .returned (.agg #[.int .u64 f0, .int .u64 f1, .int .u64 f2, .int .u64 f3, .int .i64 0, .string t5, .int .u64 5]) ∧ Below u.heap.size u w')
    (h7 : ∀ u, Calls Try.prog 20 #[.agg #[.int .u64 f0, .int .u64 f1, .int .u64 f2, .int .u64 f3, .int .i64 0, .string t5, .int .u64 5]] u fun e w' => e = .returned (.int .i64 0) ∧ Below u.heap.size u w')
    (h8 : ∀ u, Calls Try.prog 20 #[.agg #[.int .u64 p0, .int .u64 p1, .int .u64 p2, .int .u64 p3, .int .i64 1, .string ⟨#[]⟩, .int .u64 0]] u fun e w' => e = .returned (.int .i64 10) ∧ Below u.heap.size u w')
    (h9 : ∀ u, Calls Try.prog 20 #[.agg #[.int .u64 p0, .int .u64 p1, .int .u64 p2, .int .u64 p3, .int .i64 (-1), .string ⟨#[]⟩, .int .u64 0]] u fun e w' => e = .returned (.int .i64 10) ∧ Below u.heap.size u w') :
    Calls Try.prog 5 #[] w fun e w' => e = .returned (.bool true) ∧ Below w.heap.size w w' := by
  go_enter Try.func5, Try.ntmps5
  go_upto_region 1 with fail
  go_cut [1, 2] from 10 to 89 (fun p y wx => ∃ g, p = .pointer (some ⟨g, 0, none⟩) ∧ y = .int .i64 0 ∧ w.heap.size ≤ g ∧ Blk wx g 32 #[.int .u64 q0, .int .u64 q1, .int .u64 q2, .int .u64 q3, .int .i64 1, .string t1, .int .u64 0] ∧ Below w.heap.size w wx)
  case first =>
    go_wp2_with (first
      | (go_at_call 22; (with_reducible refine (h1 _).mono ?_); rintro e w1 ⟨rfl, hb1⟩)
      | (go_at_call 16; (with_reducible refine (h2 _).mono ?_); rintro e w2 ⟨rfl, hb2⟩))
    go_meet
    exact ⟨_, rfl, rfl, (below_call hb1 hb2).size, blk_new _ _ _, below_box (below_call hb1 hb2) _⟩
  case rest =>
    obtain ⟨g, rfl, rfl, hg, k, hbw⟩ := hcut
    have K := Lib.hid k
    obtain ⟨c0, c1, c2, c3, c4, c5, c6⟩ := c7 k
    clear k
    go_upto_region 2 with fail
    go_cut [3] from 10 to 89 (fun y wx => y = .int .i64 0 ∧ Blk wx g 32 #[.int .u64 r0, .int .u64 r1, .int .u64 r2, .int .u64 r3, .int .i64 3, .string t2, .int .u64 0] ∧ Below w.heap.size w wx)
    case first =>
      go_wp2_with (go_at_call 16; (with_reducible refine (h3 _).mono ?_); rintro e w1 ⟨rfl, hb1⟩; have J := Lib.hid (blk_next K.out hb1); obtain ⟨e0, e1, e2, e3, e4, e5, e6⟩ := c7 J.out; obtain ⟨b0, b1, b2, b3, b4, b5, b6, _⟩ := z7 J.out)
      go_meet
      exact ⟨rfl, set7 J.out _ _ _ _ _ _ _, below7 (below_call hbw hb1) hg _ _ _ _ _ _ _⟩
    case rest =>
      clear c0 c1 c2 c3 c4 c5 c6
      obtain ⟨rfl, k, hbw⟩ := hcut
      obtain ⟨c0, c1, c2, c3, c4, c5, c6⟩ := c7 k
      clear k
      go_upto_region 4 with (go_at_call 18; (with_reducible refine (h4 _).mono ?_); rintro e w1 ⟨rfl, hb⟩; replace hbw := below_call hbw hb; clear hb)
      go_cut [6, 7] from 10 to 89 (fun p y wx => ∃ g, p = .pointer (some ⟨g, 0, none⟩) ∧ y = .int .i64 0 ∧ w.heap.size ≤ g ∧ Blk wx g 32 #[.int .u64 m0, .int .u64 m1, .int .u64 m2, .int .u64 m3, .int .i64 33, .string t3, .int .u64 0] ∧ Below w.heap.size w wx)
      case first =>
        go_wp2_with (first
          | (go_at_call 22; (with_reducible refine (h1 _).mono ?_); rintro e w1 ⟨rfl, hb1⟩)
          | (go_at_call 16; (with_reducible refine (h5 _).mono ?_); rintro e w2 ⟨rfl, hb2⟩))
        go_meet
        exact ⟨_, rfl, rfl, (below_call (below_call hbw hb1) hb2).size, blk_new _ _ _, below_box (below_call (below_call hbw hb1) hb2) _⟩
      case rest =>
        clear c0 c1 c2 c3 c4 c5 c6 K
        obtain ⟨g6, rfl, rfl, hg6, k, hbw⟩ := hcut
        have K6 := Lib.hid k
        clear k
        go_upto_region 5 with fail
        go_cut [8, 9] from 10 to 89 (fun p q wx => ∃ g h, p = .pointer (some ⟨g, 0, none⟩) ∧ q = .pointer (some ⟨h, 0, none⟩) ∧ g6 < g ∧ g < h ∧ Blk wx g 32 #[.int .u64 p0, .int .u64 p1, .int .u64 p2, .int .u64 p3, .int .i64 0, .string ⟨#[]⟩, .int .u64 0] ∧ Blk wx h 32 #[.int .u64 p0, .int .u64 p1, .int .u64 p2, .int .u64 p3, .int .i64 0, .string ⟨#[]⟩, .int .u64 0] ∧ Blk wx g6 32 #[.int .u64 m0, .int .u64 m1, .int .u64 m2, .int .u64 m3, .int .i64 33, .string t3, .int .u64 0] ∧ Below w.heap.size w wx)
        case first =>
          go_wp2_with (go_at_call 22; (with_reducible refine (h1 _).mono ?_); rintro e w1 ⟨rfl, hb1⟩; have K6 := Lib.hid (blk_next K6.out hb1); replace hbw := below_call hbw hb1; clear hb1)
          go_meet
          exact ⟨_, _, rfl, rfl, blk_lt K6.out, by simp, blk_alloc (blk_new _ _ _) _, blk_new2 _ _ _ _, blk_alloc (blk_alloc K6.out _) _, below_box (below_box hbw _) _⟩
        case rest =>
          clear K6
          obtain ⟨g8, g9, rfl, rfl, l1, l2, k8, k9, k6, hbw⟩ := hcut
          have K8 := Lib.hid k8
          have K9 := Lib.hid k9
          have K6 := Lib.hid k6
          obtain ⟨e0, e1, e2, e3, e4, e5, e6⟩ := c7 k8
          obtain ⟨c0, c1, c2, c3, c4, c5, c6⟩ := c7 k9
          have b4 := blk_frozen k8 4
          have d4 := blk_frozen k9 4
          have hA : w.heap.size ≤ g8 := by omega
          have hB : w.heap.size ≤ g9 := by omega
          have n68 : g6 ≠ g8 := by omega
          have n69 : g6 ≠ g9 := by omega
          have ne1 : ¬ g9 = g8 := by omega
          have ne2 : ¬ g8 = g9 := by omega
          clear k8 k9 k6
          go_upto_region 6 with fail
          go_cut [] from 10 to 89 (fun wx => Blk wx g8 32 #[.int .u64 p0, .int .u64 p1, .int .u64 p2, .int .u64 p3, .int .i64 1, .string ⟨#[]⟩, .int .u64 0] ∧ Blk wx g9 32 #[.int .u64 p0, .int .u64 p1, .int .u64 p2, .int .u64 p3, .int .i64 (-1), .string ⟨#[]⟩, .int .u64 0] ∧ Blk wx g6 32 #[.int .u64 m0, .int .u64 m1, .int .u64 m2, .int .u64 m3, .int .i64 33, .string t3, .int .u64 0] ∧ Below w.heap.size w wx)
          case first =>
            go_wp2_with fail
            go_meet
            exact ⟨blk_far (blk_set K8.out 4 _) ne2 _, blk_set (blk_far K9.out ne1 _) 4 _, blk_far (blk_far K6.out n68 _) n69 _, (hbw.setCell hA _).setCell hB _⟩
          case rest =>
            clear e0 e1 e2 e3 e4 e5 e6 c0 c1 c2 c3 c4 c5 c6 b4 d4 K8 K9 K6
            obtain ⟨k8, k9, k6, hbw⟩ := hcut
            go_wp2_with (first
              | (go_at_call 8; (with_reducible refine (awake_any _).mono ?_); rintro e w2 ⟨rfl, hb⟩; replace hbw := below_call hbw hb; replace k8 := blk_next k8 hb; replace k9 := blk_next k9 hb; replace k6 := blk_next k6 hb; clear hb)
              | (go_at_call 14; (with_reducible refine (low0 _).mono ?_); rintro e w2 ⟨rfl, hb⟩; replace hbw := below_call hbw hb; replace k8 := blk_next k8 hb; replace k9 := blk_next k9 hb; replace k6 := blk_next k6 hb; clear hb)
              | (go_at_call 10; (with_reducible refine (ovabc _).mono ?_); rintro e w2 ⟨rfl, hb⟩; replace hbw := below_call hbw hb; replace k8 := blk_next k8 hb; replace k9 := blk_next k9 hb; replace k6 := blk_next k6 hb; clear hb; obtain ⟨_, _, _, _, m4, m5, _⟩ := c7 k6)
              | (go_at_call 22; (with_reducible refine (h6 _).mono ?_); rintro e w2 ⟨rfl, hb⟩; replace hbw := below_call hbw hb; replace k8 := blk_next k8 hb; replace k9 := blk_next k9 hb; replace k6 := blk_next k6 hb; clear hb)
              | (go_at_call 20; (with_reducible refine (h7 _).mono ?_); rintro e w2 ⟨rfl, hb⟩; replace hbw := below_call hbw hb; replace k8 := blk_next k8 hb; replace k9 := blk_next k9 hb; replace k6 := blk_next k6 hb; clear hb; obtain ⟨e0, e1, e2, e3, e4, e5, e6⟩ := c7 k8)
              | (go_at_call 20; (with_reducible refine (h8 _).mono ?_); rintro e w2 ⟨rfl, hb⟩; replace hbw := below_call hbw hb; replace k8 := blk_next k8 hb; replace k9 := blk_next k9 hb; replace k6 := blk_next k6 hb; clear hb; obtain ⟨c0, c1, c2, c3, c4, c5, c6⟩ := c7 k9)
              | (go_at_call 20; (with_reducible refine (h9 _).mono ?_); rintro e w2 ⟨rfl, hb⟩; replace hbw := below_call hbw hb; replace k8 := blk_next k8 hb; replace k9 := blk_next k9 hb; replace k6 := blk_next k6 hb; clear hb))
            go_ret
            exact ⟨rfl, hbw⟩
theorem known_any (w : World) : Calls Try.prog 5 #[] w fun e w' => e = .returned (.bool true) ∧ Below w.heap.size w w' :=
  known_walk _ _ _ _ _ _ _ _ _ _ _ _ _ _ _ _ _ _ _ _ _ _ _ _ w z33 n0 a1 a2 sabc a33 n5 ck5 (ck1 _ _ _ _) (ckm _ _ _ _)
end Go.Proofs.Ytgiihdgkejhbeaa
