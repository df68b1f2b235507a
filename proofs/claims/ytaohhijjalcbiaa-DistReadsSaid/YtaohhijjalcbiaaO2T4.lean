/-
  The project's writer of bits: a number that is not refused is added.
-/
import Derived.Test.YtaohhijjalcbiaaO2T3
import Derived.Test.YtaohhijjalcbiaaFill
namespace Go.Proofs.Ytaohhijjalcbiaa
open Go.ChangeShapes Go.WideShapes Go.ChangeAt Go.RowKit
set_option linter.unusedVariables false

theorem add_walk (g : Nat) (S : ByteArray) (P N n v : Nat) (c p : Int) (hn : n ≤ 32) (hN : N ≤ 7) (hP : P < 2 ^ N) (hp : (2 : Int) ^ N = p) (hp0 : 1 ≤ p) (hp1 : p ≤ 128) (hv2 : v < 2 ^ n) (hv : v < 4294967296) (hS : S.size ≤ 1048576) (w : World) (hb : Blk w g 109 (at4 S P N c)) :
    Calls Try.prog 90 #[.pointer (some ⟨g, 0, none⟩), .agg #[.int .i64 (n : Int), .int .i64 (v : Int)]] w fun e w' => e = .returned (.tuple #[]) ∧ Blk w' g 109 (at4 (S ++ ⟨(putL P N n v).toArray⟩) (putP P N n v : Nat) ((N + n) % 8 : Nat) c) ∧ w.grownBy w' (some g) := by
  have hg := blk_lt hb
  obtain ⟨⟨c0, c1, c2, c3⟩, _⟩ := blk4 hb
  have HB := Lib.hid hb
  clear hb
  obtain ⟨k, hk⟩ : ∃ k, k = (N + n) / 8 := ⟨_, rfl⟩
  have hW := fun u => ownWhole ((N : Int) + n) (by omega) (by omega) u
  rw [show ((N : Int) + n) / 8 = (k : Int) by omega] at hW
  have hk4 : k ≤ 4 := by omega
  have HK := Lib.hid hk
  have hmk := run_make_row' (P := Try.prog) 128 5 (.int .u8 0) 1 Try.underlying128 infoByte rfl .i64 .i64 k (by omega) (by omega)
  clear hk
  obtain ⟨T, hT⟩ : ∃ T, T = P + v * 2 ^ N := ⟨_, rfl⟩
  have hor := or_sum P v N hP hN hv p hp
  rw [← hT] at hor
  have HT := Lib.hid hT
  clear hT
  go_enter Try.func90, Try.ntmps90
  go_wp2
  go_quiet (fail)
  go_wp2
  go_quiet (fail)
  go_wp2_with (go_at_call 63; (with_reducible refine (hW _).mono ?_); rintro e w1 ⟨rfl, rfl⟩)
  go_loopw [4, 37] (fun b i wr => ∃ (j x : Nat), j ≤ k ∧ Hid (x = T / 2 ^ (8 * j)) ∧ b = .int .u64 (x : Int) ∧ i = .int .i64 (j : Int) ∧ Blk wr (w.heap.size + 1) 5 (fillB T k j) ∧ Below w.heap.size w wr) (fun _ i _ => k - (intOf i).toNat)
  case atStart => exact ⟨0, T, by omega, by show T = _; simp, rfl, rfl, by rw [← fillB_zero]; exact blk_new2 _ _ _ _, (below_drewN ((Below.refl _ _).alloc (Nat.le_refl _) _) _).alloc (by simp) _⟩
  case round =>
    obtain ⟨j, x, hj, hx, rfl, rfl, hB, hbw⟩ := hrel
    have hbl := blk_lt hB
    by_cases hlt : j < k
    · have hcell : wr.cell? ⟨w.heap.size + 1, j, none⟩ = some (.int .u8 0) := by rw [blk_cell hB, fillB_get T k j j hlt, if_neg (by omega)]
      have hfroz := blk_frozen hB j
      have HX := Lib.hid hB
      clear hB
      go_wp2
      go_roundw
      case rel => exact ⟨j + 1, x / 256, by omega, next_byte T x j hx.out, by go_num, by go_num, fill_blk HX.out hx.out hlt, hbw.setCell (by simp) _⟩
      case measure => simp [intOf]; omega
    · obtain rfl : j = k := by omega
      have hcv := fill_string wr (w.heap.size + 1) T j hB
      have hcv1 := fill_string wr.drew (w.heap.size + 1) T j hB
      obtain ⟨B, hBq⟩ : ∃ B : ByteArray, B = ⟨(leB T j).toArray⟩ := ⟨_, rfl⟩
      rw [← hBq] at hcv hcv1
      have hBs : B.size ≤ 4 := by rw [hBq]; show (leB T j).toArray.size ≤ 4; simp [leB_length]; omega
      have HQ := Lib.hid hBq
      have HX := Lib.hid hB
      have hgr : Blk wr g 109 (at4 S P N c) := blk_below HB.out hbw hg
      have HG := Lib.hid hgr
      obtain ⟨⟨d0, d1, d2, d3⟩, f0, f1, f2, f3⟩ := blk4 hgr
      clear hBq hB hgr c0 c1 c2 c3
      have hxb : x ≤ 1099511627776 := by
        have h1 : x ≤ T := by rw [hx.out]; exact Nat.div_le_self _ _
        have h2 := HT.out
        have h3 : 2 ^ N ≤ 2 ^ 7 := Nat.pow_le_pow_right (by omega) hN
        have h4 : v * 2 ^ N ≤ 4294967296 * 2 ^ N := Nat.mul_le_mul_right _ (by omega)
        omega
      have hfin : (⟨(leB T j).toArray⟩ : ByteArray) = ⟨(putL P N n v).toArray⟩ ∧ (x : Int) = (putP P N n v : Nat) ∧ ((N : Int) + n) % 8 = ((N + n) % 8 : Nat) := by
        have e : putT P N n v = T := by unfold putT; rw [Nat.mod_eq_of_lt hv2, HT.out]
        refine ⟨?_, ?_, by omega⟩
        · unfold putL; rw [e, HK.out]
        · unfold putP; rw [e, ← HK.out, hx.out]
      have HF := Lib.hid hfin
      clear hfin
      go_wp2
      go_region
      go_wp2
      go_end0
      obtain ⟨e1, e2, e3⟩ := HF.out
      rw [← e1, ← e2, ← e3, ← HQ.out]
      exact ⟨rfl, blk4_set (blk_drew HG.out), grown_set (grown_set (grown_set (grown_drew (grown_below hbw _)) _ _) _ _) _ _⟩
theorem add_any (g : Nat) (S : ByteArray) (P N n v : Nat) (c : Int) (hn : n ≤ 32) (hN : N ≤ 7) (hP : P < 2 ^ N) (hv2 : v < 2 ^ n) (hS : S.size ≤ 1048576) (w : World) (hb : Blk w g 109 (at4 S P N c)) :
    Calls Try.prog 90 #[.pointer (some ⟨g, 0, none⟩), .agg #[.int .i64 (n : Int), .int .i64 (v : Int)]] w fun e w' => e = .returned (.tuple #[]) ∧ Blk w' g 109 (at4 (S ++ ⟨(putL P N n v).toArray⟩) (putP P N n v : Nat) ((N + n) % 8 : Nat) c) ∧ w.grownBy w' (some g) := by
  have h32 : 2 ^ n ≤ 2 ^ 32 := Nat.pow_le_pow_right (by omega) hn
  have h7 : 2 ^ N ≤ 2 ^ 7 := Nat.pow_le_pow_right (by omega) hN
  have hc := pow_cast N
  have h1 := Nat.two_pow_pos N
  exact add_walk g S P N n v c _ hn hN hP rfl (by omega) (by omega) hv2 (by omega) hS w hb

end Go.Proofs.Ytaohhijjalcbiaa
