/-
  CursorParts: the law's walk, for every string and all numbers.
-/
import Derived.Test.YtipigfngeiodlaaInner
import Derived.Test.YtipigfngeiodlaaStays
namespace Go.Proofs.Ytipigfngeiodlaa
open Go.ChangeShapes Go.WideShapes Go.ChangeAt Go.RowKit
set_option linter.unusedVariables false

theorem byteAt_cut (S : ByteArray) (p m j : Nat) (hm : m ≤ S.size) (hj : p + j < m) : byteAt (S.extract p m) j = byteAt S (p + j) := by
  have h2 : j < (S.extract p m).size := by rw [ByteArray.size_extract]; omega
  rw [byteAt_of _ _ h2, byteAt_of _ _ (show p + j < S.size by omega), ByteArray.getElem_extract]
theorem leN_cut (S : ByteArray) (p n j : Nat) (h : p + n ≤ S.size) (hj : j ≤ n) : leN (S.extract p (p + n)) 0 j = leN S p j := by
  induction j with
  | zero => rfl
  | succ j ih =>
    have e1 : leN (S.extract p (p + n)) 0 (j + 1) = leN (S.extract p (p + n)) 0 j + byteAt (S.extract p (p + n)) (0 + j) * 2 ^ (8 * j) := rfl
    have e2 : leN S p (j + 1) = leN S p j + byteAt S (p + j) * 2 ^ (8 * j) := rfl
    rw [e1, e2, ih (by omega), Nat.zero_add, byteAt_cut S p (p + n) j h (by omega)]

theorem good_little (S : ByteArray) (a z : Nat) (hS : S.size ≤ 9223372036854775807) (hz : 1 ≤ z) (hz8 : z ≤ 8) (h : a + z ≤ S.size) (w : World) :
    Calls Try.prog 16 #[.agg #[.string S, .int .i64 (a : Int), .int .i64 0, .int .i64 0], .int .i64 (z : Int)] w fun r w' => r = .returned (.tuple #[.agg #[.string S, .int .i64 ((a + z : Nat) : Int), .int .i64 0, .int .i64 0], .int .u64 ((leN S a z : Nat) : Int)]) ∧ Below w.heap.size w w' := by
  have h0 := olittle_any S a 0 0 z hS w
  obtain ⟨r1, r2, r3, r4⟩ := cr_right S a 0 0 ⟨by omega, by omega, by omega, by omega, by omega, by omega, fun _ => rfl⟩
  have hl : lOk (z : Int) := ⟨by omega, by omega⟩
  have hk : ybOk S a 0 z := ⟨rfl, by omega, by omega⟩
  have e1 : ybA S a 0 z = ((a + z : Nat) : Int) := by unfold ybA; rw [if_pos hk]; omega
  have e2 : ybE S a 0 z = 0 := by unfold ybE; rw [if_pos rfl, if_neg (by omega), if_neg (by omega)]
  have e3 : ybF S a 0 0 z = 0 := by unfold ybF; rw [if_pos rfl, if_neg (by omega), if_neg (by omega)]
  have e4 : ybT S a 0 z = S.extract a (a + z) := by unfold ybT; rw [if_pos hk, show (a : Int).toNat = a by omega, show ((a : Int) + z).toNat = a + z by omega]
  have e5 : (S.extract a (a + z)).size = z := by rw [ByteArray.size_extract]; omega
  unfold lA lE lF lV at h0
  rw [r1, r2, r3, r4, if_pos hl, if_pos hl, if_pos hl, if_pos hl, e1, e2, e3, e4, e5, leN_cut S a z z h (Nat.le_refl _)] at h0
  exact h0
theorem short_little (S : ByteArray) (a z : Nat) (hS : S.size ≤ 9223372036854775807) (hz : 1 ≤ z) (hz8 : z ≤ 8) (ha : a ≤ S.size) (h : S.size < a + z) (w : World) :
    Calls Try.prog 16 #[.agg #[.string S, .int .i64 (a : Int), .int .i64 0, .int .i64 0], .int .i64 (z : Int)] w fun r w' => r = .returned (.tuple #[.agg #[.string S, .int .i64 (a : Int), .int .i64 5, .int .i64 (S.size : Int)], .int .u64 0]) ∧ Below w.heap.size w w' := by
  have h0 := olittle_any S a 0 0 z hS w
  obtain ⟨r1, r2, r3, r4⟩ := cr_right S a 0 0 ⟨by omega, by omega, by omega, by omega, by omega, by omega, fun _ => rfl⟩
  have hl : lOk (z : Int) := ⟨by omega, by omega⟩
  have hk : ¬ ybOk S a 0 z := by unfold ybOk; omega
  have e1 : ybA S a 0 z = a := by unfold ybA; rw [if_neg hk]
  have e2 : ybE S a 0 z = 5 := by unfold ybE; rw [if_pos rfl, if_neg (by omega), if_pos (by omega)]
  have e3 : ybF S a 0 0 z = S.size := by unfold ybF; rw [if_pos rfl, if_neg (by omega), if_pos (by omega)]
  have e4 : ybT S a 0 z = ⟨#[]⟩ := by unfold ybT; rw [if_neg hk]
  unfold lA lE lF lV at h0
  rw [r1, r2, r3, r4, if_pos hl, if_pos hl, if_pos hl, if_pos hl, e1, e2, e3, e4] at h0
  exact h0

theorem sum_step (S : ByteArray) (p j : Nat) (y : Int) (hy : y = IntKind.u64.wrap ((256 ^ j : Nat) : Int)) (hj : j ≤ 7) (hs : p + j < S.size) :
    IntKind.u64.wrap (((leN S p j : Nat) : Int) + IntKind.u64.wrap (y * IntKind.u64.wrap ((S[p + j]'hs).toNat : Int))) = (leN S p (j + 1) : Nat) := by
  have h1 := (S[p + j]'hs).toNat_lt
  have e0 : (256 : Nat) ^ j = 2 ^ (8 * j) := by rw [Nat.pow_mul]
  have h2 : 2 ^ (8 * j) ≤ 2 ^ 56 := Nat.pow_le_pow_right (by omega) (by omega)
  have h4 := leN_lt S p j
  have h3 : 2 ^ (8 * j) * (S[p + j]'hs).toNat ≤ 2 ^ (8 * j) * 255 := Nat.mul_le_mul_left _ (by omega)
  have e5 : leN S p (j + 1) = leN S p j + (S[p + j]'hs).toNat * 2 ^ (8 * j) := by
    show leN S p j + byteAt S (p + j) * 2 ^ (8 * j) = _
    rw [byteAt_of S (p + j) hs]
  rw [hy, e0, IntWalk.u64_in ((2 ^ (8 * j) : Nat) : Int) ⟨by omega, by omega⟩, IntWalk.u64_in ((S[p + j]'hs).toNat : Int) ⟨by omega, by omega⟩]
  have e1 : ((2 ^ (8 * j) : Nat) : Int) * ((S[p + j]'hs).toNat : Int) = ((2 ^ (8 * j) * (S[p + j]'hs).toNat : Nat) : Int) := by simp
  rw [e1, e5, Nat.mul_comm (S[p + j]'hs).toNat, IntWalk.u64_in ((2 ^ (8 * j) * (S[p + j]'hs).toNat : Nat) : Int) ⟨by omega, by omega⟩, IntWalk.u64_in _ ⟨by omega, by omega⟩]
  omega
theorem by_step (j : Nat) (y : Int) (hy : y = IntKind.u64.wrap ((256 ^ j : Nat) : Int)) (hj : j ≤ 7) : IntKind.u64.wrap (y * 256) = IntKind.u64.wrap ((256 ^ (j + 1) : Nat) : Int) := by
  have e0 : (256 : Nat) ^ j = 2 ^ (8 * j) := by rw [Nat.pow_mul]
  have h2 : 2 ^ (8 * j) ≤ 2 ^ 56 := Nat.pow_le_pow_right (by omega) (by omega)
  have h56 : (2 : Nat) ^ 56 = 72057594037927936 := by decide
  rw [h56] at h2
  rw [hy, Nat.pow_succ, e0]
  generalize 2 ^ (8 * j) = m at h2
  rw [IntWalk.u64_in (m : Int) ⟨by omega, by omega⟩]
  congr 1

theorem wr_nat (m k : Nat) (h : m + k ≤ 1000) : wrap64 ((m : Int) + k) = (m : Int) + k := by
  rw [IntWalk.wrap64_in _ ⟨by omega, by omega⟩]

set_option maxRecDepth 100000 in
theorem long6 (S : ByteArray) (x y z : Int) (w : World) (h1 : decide ((100 : Int) < (S.size : Int)) = true) :
    Calls Try.prog 6 #[.string S, .int .i64 x, .int .i64 y, .int .i64 z] w fun e w' => e = .returned (.bool true) ∧ Below w.heap.size w w' := by
  go_enter Try.func6, Try.ntmps6
  go_wp2_with (go_at_call 9; (with_reducible refine (awake_any _).mono ?_); rintro e w1 ⟨rfl, hb1⟩)
  go_ret
  exact ⟨rfl, hb1⟩

set_option maxRecDepth 100000 in
set_option maxHeartbeats 4000000 in
theorem parts_law (S pp q t : ByteArray) (x y z : Int) (p a b n : Nat) (xa xe xf ya ye yf la le lf za ze zf v : Int) (w : World) (h1 : decide ((100 : Int) < (S.size : Int)) = false)
    (hx : x % ((S.size : Int) + 1) = p) (hy : y % ((S.size : Int) + 2) = a) (hz : z % ((S.size : Int) + 2) = b) (hn : (a : Int) % 8 + 1 = n)
    (hx0 : -9223372036854775808 ≤ x) (hx1 : x ≤ 9223372036854775807) (hy0 : -9223372036854775808 ≤ y) (hy1 : y ≤ 9223372036854775807) (hz0 : -9223372036854775808 ≤ z) (hz1 : z ≤ 9223372036854775807)
    (hs : S.size ≤ 100) (hp : p ≤ S.size) (ha : a ≤ S.size + 1) (hb : b ≤ S.size + 1)
    (h24 : ∀ u, Calls Try.prog 24 #[.string S, .int .i64 (p : Int)] u fun r w' => r = .returned (.agg #[.string S, .int .i64 (p : Int), .int .i64 0, .int .i64 0]) ∧ Below u.heap.size u w')
    (h18a : ∀ u, Calls Try.prog 18 #[.agg #[.string S, .int .i64 (p : Int), .int .i64 0, .int .i64 0], .int .i64 (a : Int)] u fun r w' => r = .returned (.tuple #[.agg #[.string S, .int .i64 xa, .int .i64 xe, .int .i64 xf], .string pp]) ∧ Below u.heap.size u w')
    (h18b : ∀ u, Calls Try.prog 18 #[.agg #[.string S, .int .i64 xa, .int .i64 xe, .int .i64 xf], .int .i64 (b : Int)] u fun r w' => r = .returned (.tuple #[.agg #[.string S, .int .i64 ya, .int .i64 ye, .int .i64 yf], .string q]) ∧ Below u.heap.size u w')
    (h18c : ∀ u, Calls Try.prog 18 #[.agg #[.string S, .int .i64 (p : Int), .int .i64 0, .int .i64 0], .int .i64 ((a : Int) + b)] u fun r w' => r = .returned (.tuple #[.agg #[.string S, .int .i64 la, .int .i64 le, .int .i64 lf], .string t]) ∧ Below u.heap.size u w')
    (h16 : ∀ u, Calls Try.prog 16 #[.agg #[.string S, .int .i64 (p : Int), .int .i64 0, .int .i64 0], .int .i64 (n : Int)] u fun r w' => r = .returned (.tuple #[.agg #[.string S, .int .i64 za, .int .i64 ze, .int .i64 zf], .int .u64 v]) ∧ Below u.heap.size u w')
    (ho1 : (p : Int) ≤ xa) (ho2 : xa ≤ ya) (ho3 : ya ≤ (S.size : Int))
    (hC : (le = 0 ∧ p + a + b ≤ S.size ∧ pp ++ q = t ∧ S.extract p (p + a + b) = t ∧ la = ya ∧ ye = 0 ∧ lf = yf) ∨ (le = 5 ∧ ye = 5 ∧ lf = yf ∧ S.size < p + a + b))
    (hD : (ze = 5 ∧ S.size < p + n ∧ v = 0) ∨ (ze = 0 ∧ p + n ≤ S.size ∧ za = (p : Int) + n ∧ v = (leN S p n : Nat))) :
    Calls Try.prog 6 #[.string S, .int .i64 x, .int .i64 y, .int .i64 z] w fun e w' => e = .returned (.bool true) ∧ Below w.heap.size w w' := by
  have HC := Lib.hid hC
  have HD := Lib.hid hD
  clear hC hD
  have hm1 := fun v => mod_any x ((S.size : Int) + 1) hx0 hx1 (by omega) (by omega) v
  have hm2 := fun v => mod_any y ((S.size : Int) + 2) hy0 hy1 (by omega) (by omega) v
  have hm3 := fun v => mod_any z ((S.size : Int) + 2) hz0 hz1 (by omega) (by omega) v
  have hm4 := fun v => mod_any (a : Int) 8 (by omega) (by omega) (by omega) (by omega) v
  rw [hx] at hm1
  rw [hy] at hm2
  rw [hz] at hm3
  rw [show (a : Int) % 8 = (n : Int) - 1 by omega] at hm4
  have hn8 : n ≤ 8 := by omega
  have hn1 : 1 ≤ n := by omega
  clear hx hy hz hx0 hx1 hy0 hy1 hz0 hz1 hn
  have s1 : wrap64 ((a : Int) + b) = (a : Int) + b := wr_nat a b (by omega)
  have s2 : wrap64 ((p : Int) + a) = (p : Int) + a := wr_nat p a (by omega)
  have s3 : wrap64 ((p : Int) + a + b) = (p : Int) + a + b := by have h := wr_nat (p + a) b (by omega); rw [show ((p + a : Nat) : Int) = (p : Int) + a by omega] at h; exact h
  have s4 : wrap64 ((n : Int) - 1 + 1) = (n : Int) := by rw [show (n : Int) - 1 + 1 = n by omega, IntWalk.wrap64_in _ ⟨by omega, by omega⟩]
  have s5 : wrap64 ((p : Int) + n) = (p : Int) + n := wr_nat p n (by omega)
  have d1 : decide (xa < (p : Int)) = false := decide_eq_false (Int.not_lt.2 ho1)
  have d2 : decide (ya < xa) = false := decide_eq_false (Int.not_lt.2 ho2)
  have d3 : decide ((S.size : Int) < ya) = false := decide_eq_false (Int.not_lt.2 ho3)
  clear ho1 ho2 ho3
  go_enter Try.func6, Try.ntmps6
  go_upto_region 5 with (go_at_call 30; first | ((with_reducible refine (hm1 _).mono ?_); rintro e w1 ⟨rfl, rfl⟩) | ((with_reducible refine (hm2 _).mono ?_); rintro e w1 ⟨rfl, rfl⟩) | ((with_reducible refine (hm3 _).mono ?_); rintro e w1 ⟨rfl, rfl⟩))
  go_cut [9] from 22 to 180 (fun p' wx => ∃ g, p' = .pointer (some ⟨g, 0, none⟩) ∧ Blk wx g 26 (at4 S p 0 0) ∧ Below w.heap.size w wx)
  case first =>
    go_wp2_with (go_at_call 24; (with_reducible refine (h24 _).mono ?_); rintro r w1 ⟨rfl, hb1⟩)
    go_meet
    exact ⟨_, rfl, blk_new _ _ _, below_box hb1 _⟩
  case rest =>
    obtain ⟨g9, rfl, k9, hbw⟩ := hcut
    have K9 := Lib.hid k9
    obtain ⟨⟨c0, c1, c2, c3⟩, _⟩ := blk4 k9
    clear k9
    go_upto_region 6 with fail
    go_cut [10, 11] from 22 to 180 (fun p' y' wx => ∃ g, p' = .pointer (some ⟨g, 0, none⟩) ∧ y' = .string pp ∧ Blk wx g 26 (at4 S xa xe xf) ∧ Blk wx g9 26 (at4 S p 0 0) ∧ Below w.heap.size w wx)
    case first =>
      go_wp2_with (go_at_call 18; (with_reducible refine (h18a _).mono ?_); rintro r w1 ⟨rfl, hb1⟩)
      go_meet
      exact ⟨_, rfl, rfl, blk_new _ _ _, blk_alloc (blk_next K9.out hb1) _, below_box (below_call hbw hb1) _⟩
    case rest =>
      obtain ⟨g10, rfl, rfl, k10, k9, hbw⟩ := hcut
      have K9 := Lib.hid k9
      have K10 := Lib.hid k10
      clear c0 c1 c2 c3
      obtain ⟨⟨c0, c1, c2, c3⟩, _⟩ := blk4 k10
      clear k9 k10
      go_upto_region 7 with fail
      go_cut [12, 13] from 22 to 180 (fun p' y' wx => ∃ g, p' = .pointer (some ⟨g, 0, none⟩) ∧ y' = .string q ∧ Blk wx g 26 (at4 S ya ye yf) ∧ Blk wx g9 26 (at4 S p 0 0) ∧ Blk wx g10 26 (at4 S xa xe xf) ∧ Below w.heap.size w wx)
      case first =>
        go_wp2_with (go_at_call 18; (with_reducible refine (h18b _).mono ?_); rintro r w1 ⟨rfl, hb1⟩)
        go_meet
        exact ⟨_, rfl, rfl, blk_new _ _ _, blk_alloc (blk_next K9.out hb1) _, blk_alloc (blk_next K10.out hb1) _, below_box (below_call hbw hb1) _⟩
      case rest =>
        obtain ⟨g12, rfl, rfl, k12, k9, k10, hbw⟩ := hcut
        have K9 := Lib.hid k9
        have K10 := Lib.hid k10
        have K12 := Lib.hid k12
        clear c0 c1 c2 c3
        obtain ⟨⟨c0, c1, c2, c3⟩, _⟩ := blk4 k9
        clear k9 k10 k12
        go_upto_region 8 with fail
        go_cut [14, 15] from 22 to 180 (fun p' y' wx => ∃ g, p' = .pointer (some ⟨g, 0, none⟩) ∧ y' = .string t ∧ Blk wx g 26 (at4 S la le lf) ∧ Blk wx g9 26 (at4 S p 0 0) ∧ Blk wx g10 26 (at4 S xa xe xf) ∧ Blk wx g12 26 (at4 S ya ye yf) ∧ Below w.heap.size w wx)
        case first =>
          go_wp2_with (go_at_call 18; (with_reducible refine (h18c _).mono ?_); rintro r w1 ⟨rfl, hb1⟩)
          go_meet
          exact ⟨_, rfl, rfl, blk_new _ _ _, blk_alloc (blk_next K9.out hb1) _, blk_alloc (blk_next K10.out hb1) _, blk_alloc (blk_next K12.out hb1) _, below_box (below_call hbw hb1) _⟩
        case rest =>
          obtain ⟨g14, rfl, rfl, k14, k9, k10, k12, hbw⟩ := hcut
          have K9 := Lib.hid k9
          clear c0 c1 c2 c3
          obtain ⟨⟨c0, c1, c2, c3⟩, _⟩ := blk4 k9
          obtain ⟨⟨u0, u1, u2, u3⟩, _⟩ := blk4 k10
          obtain ⟨⟨v0, v1, v2, v3⟩, _⟩ := blk4 k12
          obtain ⟨⟨x0, x1, x2, x3⟩, _⟩ := blk4 k14
          clear k9 k10 k12 k14
          rcases HC.out with ⟨rfl, hpab, hcat, hext, rfl, rfl, rfl⟩ | ⟨rfl, rfl, rfl, hpab⟩
          · have hsl : ∀ u, (Instr.slice 9 (.string S) (some (.int .i64 (p : Int))) (some (.int .i64 ((p : Int) + a + b))) none).run Try.prog u = .ok (.string t) u := fun u => by
              have h := str_cut u S p (a + b) (by omega)
              rw [show (p : Int) + ((a + b : Nat) : Int) = (p : Int) + a + b by omega, show p + (a + b) = p + a + b by omega, hext] at h
              exact h
            have hcs : ¬ 9223372036854775807 < pp.size + q.size := by
              have e1 : t.size = pp.size + q.size := by rw [← hcat, ByteArray.size_append]
              have e2 : t.size ≤ S.size := by rw [← hext, ByteArray.size_extract]; omega
              omega
            clear hext
            go_upto_region 17 with (go_at_call 30; (with_reducible refine (hm4 _).mono ?_); rintro e w1 ⟨rfl, rfl⟩)
            go_cut [17, 18] from 22 to 180 (fun p' y' wx => ∃ g, p' = .pointer (some ⟨g, 0, none⟩) ∧ y' = .int .u64 v ∧ Blk wx g 26 (at4 S za ze zf) ∧ Below w.heap.size w wx)
            case first =>
              go_wp2_with (go_at_call 16; (with_reducible refine (h16 _).mono ?_); rintro r w1 ⟨rfl, hb1⟩)
              go_meet
              exact ⟨_, rfl, rfl, blk_new _ _ _, below_box (below_call hbw hb1) _⟩
            case rest =>
              clear c0 c1 c2 c3 u0 u1 u2 u3 v0 v1 v2 v3 x0 x1 x2 x3 hbw K9 HC hpab
              obtain ⟨g17, rfl, rfl, k17, hbw⟩ := hcut
              obtain ⟨⟨c0, c1, c2, c3⟩, _⟩ := blk4 k17
              clear k17
              rcases HD.out with ⟨rfl, hpn, rfl⟩ | ⟨rfl, hpn, rfl, rfl⟩
              · have d7 : decide ((S.size : Int) - p < (n : Int)) = true := decide_eq_true (by omega)
                clear HD
                go_wp2_with (go_at_call 9; (with_reducible refine (awake_any _).mono ?_); rintro r w2 ⟨rfl, hb2⟩)
                go_ret
                exact ⟨rfl, below_call hbw hb2⟩
              · clear HD
                go_wp2_with fail
                go_loop [19, 20, 21] (fun sm by' i => ∃ (j : Nat) (yy : Int), j ≤ n ∧ Hid (yy = IntKind.u64.wrap ((256 ^ j : Nat) : Int)) ∧ sm = .int .u64 ((leN S p j : Nat) : Int) ∧ by' = .int .u64 yy ∧ i = .int .i64 (j : Int)) (fun _ _ i => n - (intOf i).toNat)
                case atStart => exact ⟨0, 1, by omega, by show _ = _; decide, rfl, rfl, rfl⟩
                case round =>
                  obtain ⟨j, yy, hj, hyy, rfl, rfl, rfl⟩ := hrel
                  by_cases hlt : j < n
                  · have hq : p + j < S.size := by omega
                    have e1 := sum_step S p j yy hyy.out (by omega) hq
                    have e2 := by_step j yy hyy.out (by omega)
                    have E1 := Lib.hid e1
                    have E2 := Lib.hid e2
                    clear e1 e2
                    go_wp2_with fail
                    go_round
                    case rel => exact ⟨j + 1, _, by omega, E2.out, by rw [E1.out], rfl, by go_num⟩
                    case measure => simp [intOf]; omega
                  · obtain rfl : j = n := by omega
                    clear hyy
                    go_wp2_with (go_at_call 9; (with_reducible refine (awake_any _).mono ?_); rintro r w2 ⟨rfl, hb2⟩)
                    go_ret
                    exact ⟨rfl, below_call hbw hb2⟩
          · have d5 : decide ((p : Int) + a + b ≤ (S.size : Int)) = false := decide_eq_false (by omega)
            go_upto_region 17 with (go_at_call 30; (with_reducible refine (hm4 _).mono ?_); rintro e w1 ⟨rfl, rfl⟩)
            go_cut [17, 18] from 22 to 180 (fun p' y' wx => ∃ g, p' = .pointer (some ⟨g, 0, none⟩) ∧ y' = .int .u64 v ∧ Blk wx g 26 (at4 S za ze zf) ∧ Below w.heap.size w wx)
            case first =>
              go_wp2_with (go_at_call 16; (with_reducible refine (h16 _).mono ?_); rintro r w1 ⟨rfl, hb1⟩)
              go_meet
              exact ⟨_, rfl, rfl, blk_new _ _ _, below_box (below_call hbw hb1) _⟩
            case rest =>
              clear c0 c1 c2 c3 u0 u1 u2 u3 v0 v1 v2 v3 x0 x1 x2 x3 hbw K9 HC hpab
              obtain ⟨g17, rfl, rfl, k17, hbw⟩ := hcut
              obtain ⟨⟨c0, c1, c2, c3⟩, _⟩ := blk4 k17
              clear k17
              rcases HD.out with ⟨rfl, hpn, rfl⟩ | ⟨rfl, hpn, rfl, rfl⟩
              · have d7 : decide ((S.size : Int) - p < (n : Int)) = true := decide_eq_true (by omega)
                clear HD
                go_wp2_with (go_at_call 9; (with_reducible refine (awake_any _).mono ?_); rintro r w2 ⟨rfl, hb2⟩)
                go_ret
                exact ⟨rfl, below_call hbw hb2⟩
              · clear HD
                go_wp2_with fail
                go_loop [19, 20, 21] (fun sm by' i => ∃ (j : Nat) (yy : Int), j ≤ n ∧ Hid (yy = IntKind.u64.wrap ((256 ^ j : Nat) : Int)) ∧ sm = .int .u64 ((leN S p j : Nat) : Int) ∧ by' = .int .u64 yy ∧ i = .int .i64 (j : Int)) (fun _ _ i => n - (intOf i).toNat)
                case atStart => exact ⟨0, 1, by omega, by show _ = _; decide, rfl, rfl, rfl⟩
                case round =>
                  obtain ⟨j, yy, hj, hyy, rfl, rfl, rfl⟩ := hrel
                  by_cases hlt : j < n
                  · have hq : p + j < S.size := by omega
                    have e1 := sum_step S p j yy hyy.out (by omega) hq
                    have e2 := by_step j yy hyy.out (by omega)
                    have E1 := Lib.hid e1
                    have E2 := Lib.hid e2
                    clear e1 e2
                    go_wp2_with fail
                    go_round
                    case rel => exact ⟨j + 1, _, by omega, E2.out, by rw [E1.out], rfl, by go_num⟩
                    case measure => simp [intOf]; omega
                  · obtain rfl : j = n := by omega
                    clear hyy
                    go_wp2_with (go_at_call 9; (with_reducible refine (awake_any _).mono ?_); rintro r w2 ⟨rfl, hb2⟩)
                    go_ret
                    exact ⟨rfl, below_call hbw hb2⟩

theorem parts_any (S : ByteArray) (x y z : Int) (hS : S.size ≤ 9223372036854775807) (hx0 : -9223372036854775808 ≤ x) (hx1 : x ≤ 9223372036854775807) (hy0 : -9223372036854775808 ≤ y) (hy1 : y ≤ 9223372036854775807) (hz0 : -9223372036854775808 ≤ z) (hz1 : z ≤ 9223372036854775807) (w : World) :
    Calls Try.prog 6 #[.string S, .int .i64 x, .int .i64 y, .int .i64 z] w fun e w' => e = .returned (.bool true) ∧ Below w.heap.size w w' := by
  by_cases h : 100 < S.size
  · exact long6 S x y z w (decide_eq_true (by omega))
  · have hxn := Int.emod_nonneg x (show (S.size : Int) + 1 ≠ 0 by omega)
    have hxl := Int.emod_lt_of_pos x (show 0 < (S.size : Int) + 1 by omega)
    obtain ⟨p, hp⟩ := Int.eq_ofNat_of_zero_le hxn
    have hyn := Int.emod_nonneg y (show (S.size : Int) + 2 ≠ 0 by omega)
    have hyl := Int.emod_lt_of_pos y (show 0 < (S.size : Int) + 2 by omega)
    obtain ⟨a, ha⟩ := Int.eq_ofNat_of_zero_le hyn
    have hzn := Int.emod_nonneg z (show (S.size : Int) + 2 ≠ 0 by omega)
    have hzl := Int.emod_lt_of_pos z (show 0 < (S.size : Int) + 2 by omega)
    obtain ⟨b, hb⟩ := Int.eq_ofNat_of_zero_le hzn
    have hp1 : p ≤ S.size := by omega
    have ha1 : a ≤ S.size + 1 := by omega
    have hb1 : b ≤ S.size + 1 := by omega
    obtain ⟨n, hn⟩ : ∃ n : Nat, n = a % 8 + 1 := ⟨_, rfl⟩
    have hn1 : 1 ≤ n := by omega
    have hn8 : n ≤ 8 := by omega
    have hni : (a : Int) % 8 + 1 = n := by omega
    have d0 : decide ((100 : Int) < (S.size : Int)) = false := decide_eq_false (by omega)
    have hs : S.size ≤ 100 := by omega
    have h24 := fun u => onew_ok S p hS (by omega) (by omega) u
    clear hxn hxl hyn hyl hzn hzl
    have hD : ∃ za ze zf v, (∀ u, Calls Try.prog 16 #[.agg #[.string S, .int .i64 (p : Int), .int .i64 0, .int .i64 0], .int .i64 (n : Int)] u fun r w' => r = .returned (.tuple #[.agg #[.string S, .int .i64 za, .int .i64 ze, .int .i64 zf], .int .u64 v]) ∧ Below u.heap.size u w') ∧
        ((ze = 5 ∧ S.size < p + n ∧ v = 0) ∨ (ze = 0 ∧ p + n ≤ S.size ∧ za = (p : Int) + n ∧ v = (leN S p n : Nat))) := by
      by_cases hpn : p + n ≤ S.size
      · exact ⟨_, _, _, _, fun u => good_little S p n hS hn1 hn8 hpn u, .inr ⟨rfl, hpn, by omega, rfl⟩⟩
      · exact ⟨_, _, _, _, fun u => short_little S p n hS hn1 hn8 hp1 (by omega) u, .inl ⟨rfl, by omega, rfl⟩⟩
    obtain ⟨za, ze, zf, v, h16, hD⟩ := hD
    have hab : (((a + b : Nat)) : Int) = (a : Int) + b := by omega
    by_cases h2 : p + a ≤ S.size
    · have c1 := fun u => good_bytes S p a hS h2 u
      by_cases h3 : p + a + b ≤ S.size
      · have c2 := fun u => good_bytes S (p + a) b hS h3 u
        have c3 := fun u => good_bytes S p (a + b) hS (by omega) u
        rw [hab] at c3
        refine parts_law S _ _ _ x y z p a b n _ _ _ _ _ _ _ _ _ za ze zf v w d0 hp ha hb hni hx0 hx1 hy0 hy1 hz0 hz1 hs hp1 ha1 hb1 h24 c1 c2 c3 h16 (by omega) (by omega) (by omega) (.inl ⟨rfl, h3, ?_, ?_, ?_, rfl, rfl⟩) hD
        · rw [show p + (a + b) = p + a + b by omega]
          rw [ByteArray.extract_append_extract]
          congr 1 <;> omega
        · rw [show p + (a + b) = p + a + b by omega]
        · omega
      · have c2 := fun u => short_bytes S (p + a) b hS h2 (by omega) u
        have c3 := fun u => short_bytes S p (a + b) hS hp1 (by omega) u
        rw [hab] at c3
        refine parts_law S _ _ _ x y z p a b n _ _ _ _ _ _ _ _ _ za ze zf v w d0 hp ha hb hni hx0 hx1 hy0 hy1 hz0 hz1 hs hp1 ha1 hb1 h24 c1 c2 c3 h16 ?_ ?_ ?_ (.inr ⟨rfl, rfl, rfl, by omega⟩) hD <;> omega
    · have c1 := fun u => short_bytes S p a hS hp1 (by omega) u
      have c2 := fun u => stay_bytes (s := S) (a := (p : Int)) (e := 5) (f := (S.size : Int)) hS ⟨by omega, by omega, by omega, by omega, by omega, by omega, fun h => by omega⟩ (by omega) b u
      have c3 := fun u => short_bytes S p (a + b) hS hp1 (by omega) u
      rw [hab] at c3
      refine parts_law S _ _ _ x y z p a b n _ _ _ _ _ _ _ _ _ za ze zf v w d0 hp ha hb hni hx0 hx1 hy0 hy1 hz0 hz1 hs hp1 ha1 hb1 h24 c1 c2 c3 h16 ?_ ?_ ?_ (.inr ⟨rfl, rfl, rfl, by omega⟩) hD <;> omega
end Go.Proofs.Ytipigfngeiodlaa
