/-
  The project's writer of package back: a number that can be written is added.
-/
import Derived.Test.YteopglkehlckoaaT2
import Derived.Test.YteopglkehlckoaaFill
import Derived.BigRegion
namespace Go.Proofs.Yteopglkehlckoaa
open Go.ChangeShapes Go.WideShapes Go.ChangeAt Go.RowKit
set_option linter.unusedVariables false

theorem kk {w : World} {g h : Nat} {t t2 : TypeId} {s : ByteArray} {p q c n v : Int} (hb : Blk w g t (at4 s p q c)) (hh : Blk w h t2 #[.int .i64 n, .int .u64 v]) :
    w.cell? ⟨g, 0, none⟩ = some (.string s) ∧ w.cell? ⟨h, 0, none⟩ = some (.int .i64 n) ∧ w.cell? ⟨h, 1, none⟩ = some (.int .u64 v) := ⟨blk_cell hb 0, blk_cell hh 0, blk_cell hh 1⟩

theorem bor_sum (P v N : Nat) (hP : P < 2 ^ N) (hN : N ≤ 7) (hv : v < 4294967296) (p : Int) (hp : (2 : Int) ^ N = p) : bits BinOp.or IntKind.u64 (IntKind.u64.wrap (P : Int)) (IntKind.u64.wrap ((v : Int) * p)) = ((P + v * 2 ^ N : Nat) : Int) := or_sum P v N hP hN hv p hp

set_option maxRecDepth 100000 in
set_option maxHeartbeats 1000000 in
theorem add_walk (g : Nat) (S : ByteArray) (P N n v : Nat) (c p : Int) (hn : n ≤ 32) (hN : N ≤ 7) (hP : P < 2 ^ N) (hp : (2 : Int) ^ N = p) (hp0 : 1 ≤ p) (hp1 : p ≤ 128) (hv2 : v < 2 ^ n) (hv : v < 4294967296) (hS : S.size ≤ 1048576) (w : World) (hb : Blk w g 66 (at4 S P N c)) :
    Calls Try.prog 47 #[.pointer (some ⟨g, 0, none⟩), .agg #[.int .i64 (n : Int), .int .u64 (v : Int)]] w fun e w' => e = .returned (.tuple #[]) ∧ Blk w' g 66 (at4 (S ++ ⟨(putL P N n v).toArray⟩) (putP P N n v : Nat) ((N + n) % 8 : Nat) c) ∧ w.grownBy w' (some g) := by
  have hg := blk_lt hb
  have HB := Lib.hid hb
  obtain ⟨k, hk⟩ : ∃ k, k = (N + n) / 8 := ⟨_, rfl⟩
  have hW := fun (u : World) (hu : Blk u g 66 (at4 S P N c)) => whole_any g S P N c n v hS (by omega) (by omega) (by omega) (by omega) u hu
  rw [show (S.size : Int) + ((N : Int) + n) / 8 = (S.size : Int) + k by omega] at hW
  have hk4 : k ≤ 4 := by omega
  have HK := Lib.hid hk
  have HW := Lib.hid hW
  have hmk := run_make_row' (P := Try.prog) 53 5 (.int .u8 0) 1 Try.underlying53 infoByte rfl .i64 .i64 k (by omega) (by omega)
  have hwr : IntKind.i64.wrap ((S.size : Int) + k - (S.size : Int)) = (k : Int) := by rw [IntWalk.i64_in _ ⟨by omega, by omega⟩]; omega
  have hnn : (0 : Int) ≤ (S.size : Int) := by omega
  obtain ⟨T, hT⟩ : ∃ T, T = P + v * 2 ^ N := ⟨_, rfl⟩
  have hor := or_sum P v N hP hN hv p hp
  rw [← hT] at hor
  have HT := Lib.hid hT
  obtain ⟨⟨c0, c1, c2, c3⟩, _⟩ := blk4 hb
  have KB := Lib.hid (blk_alloc hb (.cells #[.int .i64 (n : Int), .int .u64 (v : Int)] 62))
  have KN := Lib.hid (blk_new w 62 #[.int .i64 (n : Int), .int .u64 (v : Int)])
  clear hT hk hW hb
  go_enter Try.func47, Try.ntmps47
  go_wp2
  go_quiet (fail)
  go_wp2_with fail
  go_region_held3 (fun w' => w'.cell? ⟨g, 0, none⟩ = some (.string S) ∧ w'.cell? ⟨w.heap.size, 0, none⟩ = some (.int .i64 (n : Int)) ∧ w'.cell? ⟨w.heap.size, 1, none⟩ = some (.int .u64 (v : Int)))
    (first
      | (with_reducible exact kk (blk_drew (blk_drewN KB.out _)) (blk_drew (blk_drewN KN.out _)))
      | (with_reducible exact kk k1 k2)
      | (with_reducible exact kk (blk_alloc k1 _) (blk_alloc k2 _)))
    (first
      | (go_at_call 46; (refine (HW.out _ (blk_drew (blk_drewN KB.out _))).mono ?_); rintro e w1 ⟨rfl, hb1⟩; have k1 := blk_next (blk_drew (blk_drewN KB.out _)) hb1; have k2 := blk_next (blk_drew (blk_drewN KN.out _)) hb1))
  have B1 := Lib.hid (below_call (((below_drewN (below_box (Below.refl w.heap.size w) (.cells #[.int .i64 (n : Int), .int .u64 (v : Int)] 62)) _).drew)) hb1)
  have K1 := Lib.hid k1
  have K2 := Lib.hid k2
  have hw1 : w.heap.size < w1.heap.size := blk_lt k2
  clear k1 k2 hb1 c0 c1 c2 c3
  go_wp2_with fail
  go_loopw [35] (fun i wr => ∃ (j : Nat), j ≤ k ∧ i = .int .i64 (j : Int) ∧ Blk wr w1.heap.size 5 (fillB T k j) ∧ Blk wr g 66 (at4 S P N c) ∧ Blk wr w.heap.size 62 #[.int .i64 (n : Int), .int .u64 (v : Int)] ∧ Below w.heap.size w wr) (fun i _ => k - (intOf i).toNat)
  case atStart => exact ⟨0, by omega, rfl, by rw [← fillB_zero]; exact blk_new _ _ _, blk_alloc K1.out _, blk_alloc K2.out _, below_box B1.out _⟩
  case round =>
    obtain ⟨j, hj, rfl, hB, hG, hN2, hbw⟩ := hrel
    have hbl := blk_lt hB
    by_cases hlt : j < k
    · have hcell : wr.cell? ⟨w1.heap.size, j, none⟩ = some (.int .u8 0) := by rw [blk_cell hB, fillB_get T k j j hlt, if_neg (by omega)]
      have hfroz := blk_frozen hB j
      obtain ⟨x, hx⟩ : ∃ x, x = T / 2 ^ (8 * j) := ⟨_, rfl⟩
      have hxx : (T : Int) / 2 ^ (8 * j) = (x : Int) := by rw [hx]; simp
      have HX := Lib.hid hx
      have XB := Lib.hid hB
      have XG := Lib.hid hG
      have XN := Lib.hid hN2
      clear hB hG hN2 hx
      go_wp2
      go_roundw
      case rel => exact ⟨j + 1, by omega, by go_num, fill_blk XB.out HX.out hlt, blk_far XG.out (by simp; omega) _, blk_far XN.out (by simp; omega) _, hbw.setCell (by simp; omega) _⟩
      case measure => simp [intOf]; omega
    · obtain rfl : j = k := by omega
      have hcv := fill_string wr w1.heap.size T j hB
      have hcv1 := fill_string wr.drew w1.heap.size T j hB
      obtain ⟨B, hBq⟩ : ∃ B : ByteArray, B = ⟨(leB T j).toArray⟩ := ⟨_, rfl⟩
      rw [← hBq] at hcv hcv1
      have hBs : B.size ≤ 4 := by rw [hBq]; show (leB T j).toArray.size ≤ 4; simp [leB_length]; omega
      have HQ := Lib.hid hBq
      have HG := Lib.hid hG
      obtain ⟨⟨d0, d1, d2, d3⟩, f0, f1, f2, f3⟩ := blk4 hG
      have m0 := blk_cell hN2 0
      have ne1 : ¬ w.heap.size = g := by omega
      have ne2 : ¬ g = w.heap.size := by omega
      obtain ⟨x, hx⟩ : ∃ x, x = T / 2 ^ (8 * j) := ⟨_, rfl⟩
      have hxx : (T : Int) / 2 ^ (8 * j) = (x : Int) := by rw [hx]; simp
      have hxb : x ≤ 1099511627776 := by
        have h1 : x ≤ T := by rw [hx]; exact Nat.div_le_self _ _
        have h2 := HT.out
        have h3 : 2 ^ N ≤ 2 ^ 7 := Nat.pow_le_pow_right (by omega) hN
        have h4 : v * 2 ^ N ≤ 4294967296 * 2 ^ N := Nat.mul_le_mul_right _ (by omega)
        omega
      have hfin : (⟨(leB T j).toArray⟩ : ByteArray) = ⟨(putL P N n v).toArray⟩ ∧ (x : Int) = (putP P N n v : Nat) ∧ ((N : Int) + n) % 8 = ((N + n) % 8 : Nat) := by
        have e : putT P N n v = T := by unfold putT; rw [Nat.mod_eq_of_lt hv2, HT.out]
        refine ⟨?_, ?_, by omega⟩
        · unfold putL; rw [e, HK.out]
        · unfold putP; rw [e, ← HK.out, hx]
      have HF := Lib.hid hfin
      clear hfin hBq hB hG hN2 hx
      go_wp2
      go_region
      go_wp2
      go_region
      go_wp2
      go_end0
      obtain ⟨e1, e2, e3⟩ := HF.out
      rw [← e1, ← e2, ← e3, ← HQ.out]
      exact ⟨rfl, blk_drew (blk_drew (blk4_set HG.out)), grown_drew (grown_drew (grown_set (grown_set (grown_set (grown_below hbw _) _ _) _ _) _ _))⟩
theorem add_any (g : Nat) (S : ByteArray) (P N n v : Nat) (c : Int) (hn : n ≤ 32) (hN : N ≤ 7) (hP : P < 2 ^ N) (hv2 : v < 2 ^ n) (hS : S.size ≤ 1048576) (w : World) (hb : Blk w g 66 (at4 S P N c)) :
    Calls Try.prog 47 #[.pointer (some ⟨g, 0, none⟩), .agg #[.int .i64 (n : Int), .int .u64 (v : Int)]] w fun e w' => e = .returned (.tuple #[]) ∧ Blk w' g 66 (at4 (S ++ ⟨(putL P N n v).toArray⟩) (putP P N n v : Nat) ((N + n) % 8 : Nat) c) ∧ w.grownBy w' (some g) := by
  have h32 : 2 ^ n ≤ 2 ^ 32 := Nat.pow_le_pow_right (by omega) hn
  have h7 : 2 ^ N ≤ 2 ^ 7 := Nat.pow_le_pow_right (by omega) hN
  have hc := pow_cast N
  have h1 := Nat.two_pow_pos N
  exact add_walk g S P N n v c _ hn hN hP rfl (by omega) (by omega) hv2 (by omega) hS w hb

end Go.Proofs.Yteopglkehlckoaa
