/-
  The reference's cursors: Little.
-/
import Derived.Test.YtipigfngeiodlaaB4Fail
import Derived.Test.YtipigfngeiodlaaLeN
namespace Go.Proofs.Ytipigfngeiodlaa
open Go.ChangeShapes Go.WideShapes Go.ChangeAt Go.RowKit
set_option linter.unusedVariables false

/-- one byte more ahead of a number -/
theorem leN_front (S : ByteArray) (f c : Nat) : leN S f (c + 1) = byteAt S f + 256 * leN S (f + 1) c := by
  induction c with
  | zero => simp [leN]
  | succ c ih =>
    have e1 : leN S f (c + 1 + 1) = leN S f (c + 1) + byteAt S (f + (c + 1)) * 2 ^ (8 * (c + 1)) := rfl
    have e2 : leN S (f + 1) (c + 1) = leN S (f + 1) c + byteAt S (f + 1 + c) * 2 ^ (8 * c) := rfl
    rw [e1, ih, e2, show f + 1 + c = f + (c + 1) by omega, show 8 * (c + 1) = 8 * c + 8 by omega, Nat.pow_add, show (2 : Nat) ^ 8 = 256 from rfl]
    generalize byteAt S (f + (c + 1)) = b
    generalize 2 ^ (8 * c) = q
    rw [Nat.mul_add, Nat.add_assoc, Nat.mul_comm 256 (b * q), Nat.mul_assoc b q 256]
theorem or_front (x q : Nat) (hx : x < 72057594037927936) (hq : q < 256) : bits BinOp.or IntKind.u64 (IntKind.u64.wrap ((x : Int) * 256)) (q : Int) = ((q + 256 * x : Nat) : Int) := by
  have e : (x : Int) * 256 = ((x * 256 : Nat) : Int) := by omega
  rw [e, IntWalk.u64_in _ ⟨by omega, by omega⟩, u64_or_nat _ _ (by omega) (by omega)]
  congr 1
  have h := Nat.two_pow_add_eq_or_of_lt (b := q) (i := 8) (by omega) x
  rw [show (2 : Nat) ^ 8 = 256 from rfl] at h
  rw [Nat.mul_comm x 256, ← h]
  omega

theorem clittle_bad (S s : ByteArray) (A E F a e f n P Q : Int) (w : World) (hn : n < 1 ∨ (1 ≤ n ∧ 8 < n))
    (hR : ∀ u, Calls Try.prog 34 #[.agg #[.string S, .int .i64 A, .int .i64 E, .int .i64 F]] u fun e0 w' => e0 = .returned (.agg #[.string s, .int .i64 a, .int .i64 e, .int .i64 f]) ∧ Below u.heap.size u w')
    (hF : ∀ u, Calls Try.prog 36 #[.agg #[.string s, .int .i64 a, .int .i64 e, .int .i64 f], .int .i64 2, .int .i64 a] u fun e0 w' => e0 = .returned (.agg #[.string s, .int .i64 a, .int .i64 P, .int .i64 Q]) ∧ Below u.heap.size u w') :
    Calls Try.prog 17 #[.agg #[.string S, .int .i64 A, .int .i64 E, .int .i64 F], .int .i64 n] w fun e0 w' => e0 = .returned (.tuple #[.agg #[.string s, .int .i64 a, .int .i64 P, .int .i64 Q], .int .u64 0]) ∧ Below w.heap.size w w' := by
  rcases hn with hn | ⟨hn, hn2⟩
  all_goals
    go_enter Try.func17, Try.ntmps17
    go_upto_region 1 with fail
    go_cut [] from 9 to 42 (fun wx => Blk wx w.heap.size 26 (at4 s a e f) ∧ Blk wx (w.heap.size + 1) 26 (at4 ⟨#[]⟩ 0 0 0) ∧ Below w.heap.size w wx)
    case first =>
      go_wp2_with ((go_at_call 34; (with_reducible refine (hR _).mono ?_); rintro e0 w1 ⟨rfl, hb1⟩; obtain ⟨i0, i1, i2, i3⟩ := box_store (s := s) (a := a) (e := e) (f := f) hb1; have I1 := Lib.hid i1; have I2 := Lib.hid i2; have I3 := Lib.hid i3; obtain ⟨⟨p0, p1, p2, p3⟩, q0, q1, q2, q3⟩ := blk4 i0; clear i0 i1 i2 i3))
      go_meet
      exact ⟨I1.out, I2.out, I3.out⟩
    case rest =>
      obtain ⟨k0, k1, hbw⟩ := hcut
      obtain ⟨⟨b0, b1, b2, b3⟩, _⟩ := blk4 k0
      have K1 := Lib.hid k1
      clear k0 k1
      go_wp2_with ((go_at_call 36; (with_reducible refine (hF _).mono ?_); rintro e0 w2 ⟨rfl, hb2⟩; have k1 := blk_next K1.out hb2; obtain ⟨⟨d0, d1, d2, d3⟩, f0, f1, f2, f3⟩ := blk4 k1))
      obtain ⟨⟨v0, v1, v2, v3⟩, _⟩ := blk4 (blk4_set (s' := s) (a' := a) (e' := P) (f' := Q) k1)
      exact bodyPost_ret (v := .tuple #[.agg #[.string s, .int .i64 a, .int .i64 P, .int .i64 Q], .int .u64 0]) (by simp [results, Try.results17, go_sem, v0, v1, v2, v3]) rfl ⟨rfl, below4 (below_call hbw hb2) (by simp) _ _ _ _⟩

theorem clittle_good (S s s2 : ByteArray) (A E F a e f a2 e2 f2 n : Int) (t : ByteArray) (ht : t.size ≤ 8) (w : World) (hn : 1 ≤ n) (hn2 : n ≤ 8)
    (hR : ∀ u, Calls Try.prog 34 #[.agg #[.string S, .int .i64 A, .int .i64 E, .int .i64 F]] u fun e0 w' => e0 = .returned (.agg #[.string s, .int .i64 a, .int .i64 e, .int .i64 f]) ∧ Below u.heap.size u w')
    (hB : ∀ u, Calls Try.prog 19 #[.agg #[.string s, .int .i64 a, .int .i64 e, .int .i64 f], .int .i64 n] u fun e0 w' => e0 = .returned (.tuple #[.agg #[.string s2, .int .i64 a2, .int .i64 e2, .int .i64 f2], .string t]) ∧ Below u.heap.size u w') :
    Calls Try.prog 17 #[.agg #[.string S, .int .i64 A, .int .i64 E, .int .i64 F], .int .i64 n] w fun e0 w' => e0 = .returned (.tuple #[.agg #[.string s2, .int .i64 a2, .int .i64 e2, .int .i64 f2], .int .u64 (leN t 0 t.size : Nat)]) ∧ Below w.heap.size w w' := by
  go_enter Try.func17, Try.ntmps17
  go_upto_region 1 with fail
  go_cut [] from 9 to 42 (fun wx => Blk wx w.heap.size 26 (at4 s a e f) ∧ Blk wx (w.heap.size + 1) 26 (at4 ⟨#[]⟩ 0 0 0) ∧ Below w.heap.size w wx)
  case first =>
    go_wp2_with ((go_at_call 34; (with_reducible refine (hR _).mono ?_); rintro e0 w1 ⟨rfl, hb1⟩; obtain ⟨i0, i1, i2, i3⟩ := box_store (s := s) (a := a) (e := e) (f := f) hb1; have I1 := Lib.hid i1; have I2 := Lib.hid i2; have I3 := Lib.hid i3; obtain ⟨⟨p0, p1, p2, p3⟩, q0, q1, q2, q3⟩ := blk4 i0; clear i0 i1 i2 i3))
    go_meet
    exact ⟨I1.out, I2.out, I3.out⟩
  case rest =>
    obtain ⟨k0, k1, hbw⟩ := hcut
    obtain ⟨⟨b0, b1, b2, b3⟩, _⟩ := blk4 k0
    have K0 := Lib.hid k0
    have K1 := Lib.hid k1
    clear k0 k1
    go_upto_region 4 with fail
    go_cut [6] from 9 to 42 (fun y wx => y = .string t ∧ Blk wx w.heap.size 26 (at4 s2 a2 e2 f2) ∧ Blk wx (w.heap.size + 1) 26 (at4 ⟨#[]⟩ 0 0 0) ∧ Below w.heap.size w wx)
    case first =>
      go_wp2_with ((go_at_call 19; (with_reducible refine (hB _).mono ?_); rintro e0 w2 ⟨rfl, hb2⟩; have i0 := blk_next K0.out hb2; have i1 := blk_next K1.out hb2; have I0 := Lib.hid i0; have I1 := Lib.hid i1; obtain ⟨⟨p0, p1, p2, p3⟩, q0, q1, q2, q3⟩ := blk4 i0; clear i0 i1))
      go_meet
      exact ⟨rfl, blk4_set I0.out, blk4_far I1.out (by simp) _ _ _ _, below4 (below_call hbw hb2) (Nat.le_refl _) _ _ _ _⟩
    case rest =>
      obtain ⟨rfl, k0, k1, hbw2⟩ := hcut
      obtain ⟨⟨x0, x1, x2, x3⟩, _⟩ := blk4 k0
      obtain ⟨⟨d0, d1, d2, d3⟩, r0, r1, r2, r3⟩ := blk4 k1
      obtain ⟨⟨v0, v1, v2, v3⟩, _⟩ := blk4 (blk4_set (s' := s2) (a' := a2) (e' := e2) (f' := f2) k1)
      clear k0 k1 b0 b1 b2 b3
      go_wp2
      go_loop [7, 8] (fun x i => ∃ (j y : Nat) (z : Int), j ≤ t.size ∧ y < 2 ^ (8 * (t.size - j)) ∧ Hid (y = leN t j (t.size - j)) ∧ z = (j : Int) - 1 ∧ x = .int .u64 (y : Int) ∧ i = .int .i64 z) (fun _ i => (intOf i + 1).toNat)
      case atStart => exact ⟨t.size, 0, (t.size : Int) - 1, by omega, by simp, by show _ = _; simp [leN], rfl, rfl, rfl⟩
      case round =>
        obtain ⟨j, y, z, hj, hy0, hy, hz, rfl, rfl⟩ := hrel
        by_cases hj0 : 0 < j
        · obtain ⟨i, rfl⟩ : ∃ i, j = i + 1 := ⟨j - 1, by omega⟩
          obtain rfl : z = (i : Int) := by omega
          clear hz
          have hq : i < t.size := by omega
          have hq1 := (t[i]'hq).toNat_lt
          have h56 : 2 ^ (8 * (t.size - (i + 1))) ≤ 2 ^ 56 := Nat.pow_le_pow_right (by omega) (by omega)
          have hor := or_front y (t[i]'hq).toNat (by omega) hq1
          have hnew : (t[i]'hq).toNat + 256 * y = leN t i (t.size - i) := by
            rw [show t.size - i = t.size - (i + 1) + 1 by omega, leN_front, ← hy.out, byteAt_of t i hq]
          have HN := Lib.hid (And.intro hor hnew)
          have hlt2 := leN_lt t i (t.size - i)
          rw [← hnew] at hlt2
          have HL := Lib.hid hlt2
          clear hor hnew hlt2 h56 hy0 hy
          go_wp2
          go_round
          case rel => exact ⟨i, (t[i]'hq).toNat + 256 * y, (i : Int) - 1, by omega, HL.out, HN.out.2, rfl, by rw [HN.out.1], by go_num⟩
          case measure => first | (simp [intOf]; done) | (simp [intOf]; omega)
        · obtain rfl : j = 0 := by omega
          obtain rfl : z = -1 := by omega
          have hfin : (y : Int) = (leN t 0 t.size : Nat) := by rw [hy.out]; rfl
          have HF := Lib.hid hfin
          clear hz hy hy0 hfin
          go_wp2
          exact bodyPost_ret (v := .tuple #[.agg #[.string s2, .int .i64 a2, .int .i64 e2, .int .i64 f2], .int .u64 (y : Int)]) (by simp [results, Try.results17, go_sem, v0, v1, v2, v3]) rfl ⟨by rw [HF.out], below4 hbw2 (by simp) _ _ _ _⟩
end Go.Proofs.Ytipigfngeiodlaa
