/-
  The project's writer of bits: one number put, kept back behind an error, refused or added.
-/
import Derived.Test.YtaohhijjalcbiaaO2T4
namespace Go.Proofs.Ytaohhijjalcbiaa
open Go.ChangeShapes Go.WideShapes Go.ChangeAt Go.RowKit
set_option linter.unusedVariables false

theorem put_keep (g h : Nat) (S : ByteArray) (P N c n v : Int) (w : World) (hc : c ≠ 0) (hne : h ≠ g) (hb : Blk w g 109 (at4 S P N c)) (hh : Blk w h 104 #[.int .i64 n, .int .i64 v]) :
    Calls Try.prog 74 #[.pointer (some ⟨g, 0, none⟩), .slice (some ⟨h, 0, none⟩) 1 1] w fun e w' => e = .returned (.tuple #[]) ∧ Blk w' g 109 (at4 S P N c) ∧ w.grownBy w' (some g) := by
  have t2 : (c == 0) = false := by simp [hc]
  have HB := Lib.hid hb
  have HH := Lib.hid hh
  clear hb hh hc
  go_enter Try.func74, Try.ntmps74
  go_wp2
  go_loopw [8] (fun i wr => ∃ k : Nat, k ≤ 1 ∧ i = .int .i64 (k : Int) ∧ Blk wr g 109 (at4 S P N c) ∧ Blk wr h 104 #[.int .i64 n, .int .i64 v] ∧ w.grownBy wr (some g)) (fun i _ => 1 - (intOf i).toNat)
  case atStart => exact ⟨0, by omega, rfl, HB.out, HH.out, grown_refl _ _⟩
  case round =>
    obtain ⟨k, hk, rfl, hb, hh, hgr⟩ := hrel
    by_cases hlt : k < 1
    · obtain rfl : k = 0 := by omega
      obtain ⟨⟨c0, c1, c2, c3⟩, _⟩ := blk4 hb
      have h0 := blk_cell hh 0
      have h1 := blk_cell hh 1
      have hgl := blk_lt hb
      have hhl := blk_lt hh
      have HB2 := Lib.hid hb
      have HH2 := Lib.hid hh
      clear hb hh
      go_wp2
      go_roundw
      case rel => exact ⟨1, by omega, by go_num, blk_alloc HB2.out _, blk_alloc HH2.out _, grown_alloc hgr _⟩
      case measure => simp [intOf]
    · obtain rfl : k = 1 := by omega
      have HB2 := Lib.hid hb
      clear hb hh
      go_wp2
      go_end0
      exact ⟨rfl, HB2.out, hgr⟩
theorem put_refuse (g h : Nat) (S : ByteArray) (P N n v r : Int) (w : World) (hS : S.size ≤ 1048576) (hN0 : 0 ≤ N) (hN : N ≤ 7) (he : refE S N n v = r) (hr : r ≠ 0) (hne : h ≠ g) (hb : Blk w g 109 (at4 S P N 0)) (hh : Blk w h 104 #[.int .i64 n, .int .i64 v]) :
    Calls Try.prog 74 #[.pointer (some ⟨g, 0, none⟩), .slice (some ⟨h, 0, none⟩) 1 1] w fun e w' => e = .returned (.tuple #[]) ∧ Blk w' g 109 (at4 S P N r) ∧ w.grownBy w' (some g) := by
  have t2 : (r == 0) = false := by simp [hr]
  have hR := fun u => ownRefuse_any S P N n v hS hN0 hN u
  rw [he] at hR
  have HB := Lib.hid hb
  have HH := Lib.hid hh
  clear hb hh hr he
  go_enter Try.func74, Try.ntmps74
  go_wp2
  go_loopw [8] (fun i wr => ∃ k : Nat, k ≤ 1 ∧ i = .int .i64 (k : Int) ∧ Blk wr g 109 (at4 S P N (if k = 0 then 0 else r)) ∧ Blk wr h 104 #[.int .i64 n, .int .i64 v] ∧ w.grownBy wr (some g)) (fun i _ => 1 - (intOf i).toNat)
  case atStart => exact ⟨0, by omega, rfl, HB.out, HH.out, grown_refl _ _⟩
  case round =>
    obtain ⟨k, hk, rfl, hb, hh, hgr⟩ := hrel
    by_cases hlt : k < 1
    · obtain rfl : k = 0 := by omega
      rw [if_pos rfl] at hb
      obtain ⟨⟨c0, c1, c2, c3⟩, f0, f1, f2, f3⟩ := blk4 hb
      have h0 := blk_cell hh 0
      have h1 := blk_cell hh 1
      have hgl := blk_lt hb
      have hhl := blk_lt hh
      have HB2 := Lib.hid hb
      have HH2 := Lib.hid hh
      clear hb hh
      go_wp2_with fail
      go_region_with ((go_at_call 89; (with_reducible refine (hR _).mono ?_); rintro e w1 ⟨rfl, hb1⟩; obtain ⟨hc1, hf1⟩ := bcell hb1))
      all_goals
        have n0 := blk4_err (c' := r) (blk_below (blk_drew (blk_alloc HB2.out _)) hb1 (by simp; omega))
        have y3 := (blk4 n0).1.2.2.2
        have HN := Lib.hid n0
        clear n0 hc1 hf1
        go_wp2
        go_roundw
        case rel => exact ⟨1, by omega, by go_num, HN.out, blk_far (blk_below (blk_drew (blk_alloc HH2.out _)) hb1 (by simp; omega)) (by simpa using hne) _, grown_set (grown_trans (grown_drew (grown_alloc hgr _)) (grown_below hb1 _)) _ _⟩
        case measure => simp [intOf]
    · obtain rfl : k = 1 := by omega
      have HB2 := Lib.hid hb
      clear hb hh
      go_wp2
      go_end0
      exact ⟨rfl, HB2.out, hgr⟩

theorem put_add (g h : Nat) (S : ByteArray) (P N n v : Nat) (w : World) (hS : S.size ≤ 1048576) (hN : N ≤ 7) (hn : n ≤ 32) (hP : P < 2 ^ N) (hv2 : v < 2 ^ n) (he : refE S N n v = 0) (hne : h ≠ g) (hb : Blk w g 109 (at4 S P N 0)) (hh : Blk w h 104 #[.int .i64 (n : Int), .int .i64 (v : Int)]) :
    Calls Try.prog 74 #[.pointer (some ⟨g, 0, none⟩), .slice (some ⟨h, 0, none⟩) 1 1] w fun e w' => e = .returned (.tuple #[]) ∧ Blk w' g 109 (at4 (S ++ ⟨(putL P N n v).toArray⟩) (putP P N n v : Nat) ((N + n) % 8 : Nat) 0) ∧ w.grownBy w' (some g) := by
  have hR := fun u => ownRefuse_any S P N n v hS (by omega) (by omega) u
  rw [he] at hR
  have hA := fun u (hu : Blk u g 109 (at4 S P N 0)) => add_any g S P N n v 0 hn hN hP hv2 hS u hu
  have HB := Lib.hid hb
  have HH := Lib.hid hh
  have HA := Lib.hid hA
  clear hb hh he hA
  generalize (S ++ ⟨(putL P N n v).toArray⟩ : ByteArray) = S' at HA ⊢
  generalize putP P N n v = P' at HA ⊢
  generalize (N + n) % 8 = N' at HA ⊢
  go_enter Try.func74, Try.ntmps74
  go_wp2
  go_loopw [8] (fun i wr => ∃ k : Nat, k ≤ 1 ∧ i = .int .i64 (k : Int) ∧ Blk wr g 109 (if k = 0 then at4 S P N 0 else at4 S' P' N' 0) ∧ Blk wr h 104 #[.int .i64 n, .int .i64 v] ∧ w.grownBy wr (some g)) (fun i _ => 1 - (intOf i).toNat)
  case atStart => exact ⟨0, by omega, rfl, HB.out, HH.out, grown_refl _ _⟩
  case round =>
    obtain ⟨k, hk, rfl, hb, hh, hgr⟩ := hrel
    by_cases hlt : k < 1
    · obtain rfl : k = 0 := by omega
      rw [if_pos rfl] at hb
      obtain ⟨⟨c0, c1, c2, c3⟩, f0, f1, f2, f3⟩ := blk4 hb
      have h0 := blk_cell hh 0
      have h1 := blk_cell hh 1
      have hgl := blk_lt hb
      have hhl := blk_lt hh
      have HB2 := Lib.hid hb
      have HH2 := Lib.hid hh
      clear hb hh
      go_wp2_with fail
      go_region_with ((go_at_call 89; (with_reducible refine (hR _).mono ?_); rintro e w1 ⟨rfl, hb1⟩; obtain ⟨hc1, hf1⟩ := bcell hb1))
      all_goals
        have n0 := blk4_err (c' := 0) (blk_below (blk_drew (blk_alloc HB2.out _)) hb1 (by simp; omega))
        have y3 := (blk4 n0).1.2.2.2
        have x0 := blk_cell (blk_far (p := ⟨g, 3, none⟩) (blk_below (blk_drew (blk_new wr 104 #[.int .i64 (n : Int), .int .i64 (v : Int)])) hb1 (by simp)) (by simp; omega) (.int .i64 0)) 0
        have x1 := blk_cell (blk_far (p := ⟨g, 3, none⟩) (blk_below (blk_drew (blk_new wr 104 #[.int .i64 (n : Int), .int .i64 (v : Int)])) hb1 (by simp)) (by simp; omega) (.int .i64 0)) 1
        have m0 := blk_far (blk_below (blk_drew (blk_alloc HH2.out (.cells #[.int .i64 (n : Int), .int .i64 (v : Int)] 104))) hb1 (by simp; omega)) (p := ⟨g, 3, none⟩) (by simpa using hne) (.int .i64 0)
        have q0 := grown_set (grown_trans (grown_drew (grown_alloc hgr _)) (grown_below hb1 (some g))) 3 (.int .i64 0)
        have HN := Lib.hid n0
        have HM := Lib.hid m0
        have HQ := Lib.hid q0
        clear n0 hc1 hf1 hb1 m0 q0
        go_wp2_with fail
        go_region_with ((go_at_call 90; (with_reducible refine (HA.out _ (blk_drew HN.out)).mono ?_); rintro e w2 ⟨rfl, hb2, hg2⟩))
        all_goals
          have m1 := blk_grown (blk_drew HM.out) hg2 hne
          have HG2 := Lib.hid (grown_trans (grown_drew HQ.out) hg2)
          have HB3 := Lib.hid hb2
          have HM1 := Lib.hid m1
          clear hb2 hg2 m1
          go_wp2
          go_roundw
          case rel => exact ⟨1, by omega, by go_num, HB3.out, HM1.out, HG2.out⟩
          case measure => simp [intOf]
    · obtain rfl : k = 1 := by omega
      have HB2 := Lib.hid hb
      clear hb hh
      go_wp2
      go_end0
      exact ⟨rfl, HB2.out, hgr⟩

end Go.Proofs.Ytaohhijjalcbiaa
