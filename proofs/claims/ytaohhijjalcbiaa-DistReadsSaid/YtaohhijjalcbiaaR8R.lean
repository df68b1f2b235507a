/-
  The reference of package dist: bits taken, values.
-/
import Derived.Test.YtaohhijjalcbiaaR8A
import Derived.Test.YtaohhijjalcbiaaO8N
import Derived.Test.YtaohhijjalcbiaaB2Take
import Derived.Test.YtaohhijjalcbiaaBits
namespace Go.Proofs.Ytaohhijjalcbiaa
open Go.ChangeShapes Go.WideShapes Go.ChangeAt Go.RowKit
set_option linter.unusedVariables false
set_option linter.unusedSimpArgs false

/-- the reference's reader in memory -/
def rrA (S : ByteArray) (B e : Int) : Array Value := #[.string S, .int .i64 B, .int .i64 e]
theorem rr_cells {w : World} {g : Nat} {t : TypeId} {S : ByteArray} {B e : Int} (h : Blk w g t (rrA S B e)) :
    (w.cell? ⟨g, 0, none⟩ = some (.string S) ∧ w.cell? ⟨g, 1, none⟩ = some (.int .i64 B) ∧ w.cell? ⟨g, 2, none⟩ = some (.int .i64 e)) ∧ (w.frozen? ⟨g, 0, none⟩ = false ∧ w.frozen? ⟨g, 1, none⟩ = false ∧ w.frozen? ⟨g, 2, none⟩ = false) :=
  ⟨⟨blk_cell h 0, blk_cell h 1, blk_cell h 2⟩, blk_frozen h 0, blk_frozen h 1, blk_frozen h 2⟩
theorem rtake_ok (g : Nat) (S : ByteArray) (B n : Nat) (hS : S.size ≤ 1048576) (hn : n ≤ 32) (hB : B + n ≤ 8 * S.size) (w : World) (h : Blk w g 78 (rrA S B 0)) :
    Calls Try.prog 44 #[.pointer (some ⟨g, 0, none⟩), .int .i64 (n : Int)] w fun r w' => r = .returned (.int .i64 (numB S B n : Nat)) ∧ Blk w' g 78 (rrA S (B + n : Nat) 0) ∧ w.grownBy w' (some g) := by
  obtain ⟨t1, t2, t3, t4⟩ := (tak_vals (B := B) (n := n) hS hn (by omega)).1 hB
  have hT := fun u => refTake_any S B n (max_len hS) u
  rw [t1, t2, t3, t4] at hT
  obtain ⟨⟨c0, c1, c2⟩, f0, f1, f2⟩ := rr_cells h
  have HA := Lib.hid h
  have hgl := blk_lt h
  generalize hB' : ((B + n : Nat) : Int) = B' at *
  generalize ((numB S B n : Nat) : Int) = x at *
  have HS := Lib.hid (fun (w1 : World) (hb : Below w.heap.size w w1) (o : Obj) => (show Blk (((w1.setCell ⟨g, 0, none⟩ (.string S)).setCell ⟨g, 1, none⟩ (.int .i64 B')).alloc o) g 78 (rrA S B' 0) ∧ w.grownBy (((w1.setCell ⟨g, 0, none⟩ (.string S)).setCell ⟨g, 1, none⟩ (.int .i64 B')).alloc o) (some g) from
    ⟨blk_alloc (blk_set (blk_set (blk_below HA.out hb hgl) 0 _) 1 _) o, grown_alloc (grown_set (grown_set (grown_below hb (some g)) 0 _) 1 _) o⟩))
  clear t1 t2 t3 t4 h hB'
  go_enter Try.func44, Try.ntmps44
  go_wp2_with (go_at_call 64; (with_reducible refine (hT _).mono ?_); rintro e w1 ⟨rfl, hb1⟩; have HK := Lib.hid (HS.out _ hb1 (.cells #[.string S, .int .i64 B'] 67)); obtain ⟨_, g0, g1, g2⟩ := rr_cells (blk_below HA.out hb1 hgl); have hsz := Nat.lt_of_lt_of_le hgl hb1.size)
  go_ret
  exact ⟨rfl, HK.out⟩
theorem rtake_bad (g : Nat) (S : ByteArray) (B n : Nat) (hS : S.size ≤ 1048576) (hn : n ≤ 32) (hB0 : B ≤ 8 * S.size) (hB : 8 * S.size < B + n) (w : World) (h : Blk w g 78 (rrA S B 0)) :
    Calls Try.prog 44 #[.pointer (some ⟨g, 0, none⟩), .int .i64 (n : Int)] w fun r w' => r = .returned (.int .i64 0) ∧ Blk w' g 78 (rrA S B 23) ∧ w.grownBy w' (some g) := by
  obtain ⟨t1, t2, t3, t4⟩ := (tak_vals (B := B) (n := n) hS hn (by omega)).2 hB
  have hT := fun u => refTake_any S B n (max_len hS) u
  rw [t1, t2, t3, t4] at hT
  obtain ⟨⟨c0, c1, c2⟩, f0, f1, f2⟩ := rr_cells h
  have HA := Lib.hid h
  have hgl := blk_lt h
  have HS := Lib.hid (fun (w1 : World) (hb : Below w.heap.size w w1) (o : Obj) => (show Blk ((w1.setCell ⟨g, 2, none⟩ (.int .i64 23)).alloc o) g 78 (rrA S B 23) ∧ w.grownBy ((w1.setCell ⟨g, 2, none⟩ (.int .i64 23)).alloc o) (some g) from
    ⟨blk_alloc (blk_set (blk_below HA.out hb hgl) 2 _) o, grown_alloc (grown_set (grown_below hb (some g)) 2 _) o⟩))
  clear t1 t2 t3 t4 h
  go_enter Try.func44, Try.ntmps44
  go_wp2_with (go_at_call 64; (with_reducible refine (hT _).mono ?_); rintro e w1 ⟨rfl, hb1⟩; have HK := Lib.hid (HS.out _ hb1 (.cells #[.string ⟨#[]⟩, .int .i64 0] 67)); obtain ⟨_, g0, g1, g2⟩ := rr_cells (blk_below HA.out hb1 hgl); have hsz := Nat.lt_of_lt_of_le hgl hb1.size)
  go_ret
  exact ⟨rfl, HK.out⟩
theorem rtake_st (g : Nat) (S : ByteArray) (B n : Nat) (hS : S.size ≤ 1048576) (hn : n ≤ 32) (hB0 : B ≤ 8 * S.size) (w : World) (h : Blk w g 78 (rrA S B 0)) :
    Calls Try.prog 44 #[.pointer (some ⟨g, 0, none⟩), .int .i64 (n : Int)] w fun r w' => ∃ x : Nat, r = .returned (.int .i64 (x : Int)) ∧ w.grownBy w' (some g) ∧
      ((8 * S.size < B + n ∧ x = 0 ∧ Blk w' g 78 (rrA S B 23)) ∨ (B + n ≤ 8 * S.size ∧ x = numB S B n ∧ Blk w' g 78 (rrA S (B + n : Nat) 0))) := by
  by_cases c : 8 * S.size < B + n
  · exact (rtake_bad g S B n hS hn hB0 c w h).mono fun r w' k => ⟨0, k.1, k.2.2, .inl ⟨c, rfl, k.2.1⟩⟩
  · exact (rtake_ok g S B n hS hn (by omega) w h).mono fun r w' k => ⟨_, k.1, k.2.2, .inr ⟨by omega, rfl, k.2.1⟩⟩

/-- what a value leaves -/
def ValLeft (g : Nat) (S : ByteArray) (B : Nat) (left : Int) (w : World) (r : Ending) (w' : World) : Prop := ∃ x : Int, r = .returned (.int .i64 x) ∧ 0 ≤ x ∧ x ≤ 8192 ∧ w.grownBy w' (some g) ∧
  ((rdP S B left = none ∧ ∃ B2 : Int, Blk w' g 78 (rrA S B2 23)) ∨ (∃ B', rdP S B left = some (x - 1, B') ∧ Blk w' g 78 (rrA S ((B' : Nat) : Int) 0)))
set_option maxHeartbeats 1000000 in
theorem rvalue_c (g : Nat) (S : ByteArray) (B : Nat) (left : Int) (hS : S.size ≤ 1048576) (h1 : 1 ≤ left) (h2 : left ≤ 4096) (hB : B ≤ 8 * S.size) (w : World) (h : Blk w g 78 (rrA S B 0)) :
    Calls Try.prog 65 #[.pointer (some ⟨g, 0, none⟩), .int .i64 left] w (ValLeft g S B left w) := by
  obtain ⟨b, H, e1, e2, e3, e4, e5, e6, e7, e8, e9, e10, e11, e12⟩ := wb_all h1 h2
  have hBt : ∀ u, Calls Try.prog 54 #[.int .i64 (left + 1)] u fun e w' => e = .returned (.int .i64 ((b + 1 : Nat) : Int)) ∧ u = w' := fun u => by
    have k := refBits_any (left + 1) (by omega) (by omega) u
    rwa [show nb (left + 1) = b + 1 from e1] at k
  have hw2 : Value.int .i64 (wrap64 ((2 : Int) ^ (b + 1))) = .int .i64 (2 * H) := by
    refine congrArg _ ?_
    have := pow_cast (b + 1)
    unfold wrap64; omega
  have hw3 : Value.int .i64 (wrap64 ((2 : Int) ^ b)) = .int .i64 H := by
    refine congrArg _ ?_
    have := pow_cast b
    unfold wrap64; omega
  have hc := pow_cast b
  have l1 := numB_lt S B b
  have l2 := numB_lt S B (b + 1)
  rw [e4] at l1
  rw [e5] at l2
  have hP : rdP S B left = (if 8 * S.size < B + b then none else if ((numB S B b : Nat) : Int) < 2 * H - 2 - left then some (((numB S B b : Nat) : Int) - 1, B + b) else if 8 * S.size < B + (b + 1) then none else some ((if (H : Int) ≤ ((numB S B (b + 1) : Nat) : Int) then ((numB S B (b + 1) : Nat) : Int) - (2 * H - 2 - left) else ((numB S B (b + 1) : Nat) : Int)) - 1, B + (b + 1))) := by
    unfold rdP
    rw [e1, Nat.add_sub_cancel, e8, show (2 : Int) ^ b = H by omega]
  have hm3 : ((b + 1 : Nat) : Int) - 1 = (b : Int) := by omega
  have hT1 := rtake_st g S B b hS (by omega) hB
  have hT2 := rtake_st g S B (b + 1) hS (by omega) hB
  rw [show ((b + 1 : Nat) : Int) = (b : Int) + 1 by push_cast; rfl] at hT2
  have HP := Lib.hid hP
  have hm1 : (1 : Int) ≤ ((b + 1 : Nat) : Int) := by omega
  have hm2 : ((b + 1 : Nat) : Int) ≤ 13 := by omega
  have HT1 := Lib.hid hT1
  have HT2 := Lib.hid hT2
  have HA := Lib.hid h
  obtain ⟨⟨c0, c1, c2⟩, f0, f1, f2⟩ := rr_cells h
  have hgl := blk_lt h
  have L1 := Lib.hid l1
  have L2 := Lib.hid l2
  clear hT1 hT2 hP hm3 hc l1 l2 e1 e4 e5 e8 e9 e10 h
  generalize numB S B b = x1 at *
  generalize numB S B (b + 1) = x2 at *
  go_enter Try.func65, Try.ntmps65
  go_upto_region 5 with (first
    | (go_at_call 54; (with_reducible refine (hBt _).mono ?_); rintro e w1 ⟨rfl, rfl⟩)
    | (go_at_call 44; (with_reducible refine (HT1.out _ (blk_alloc HA.out (.cells #[.string S, .int .i64 B] 67))).mono ?_); rintro e w2 ⟨x, rfl, hg2, hc2⟩))
  have hkb := Lib.hid (blk_grown (blk_new w 67 #[.string S, .int .i64 B]) hg2 (by omega))
  have HG2 := Lib.hid (grown_trans (grown_alloc (grown_refl w (some g)) (.cells #[.string S, .int .i64 B] 67)) hg2)
  have hlb := blk_lt hkb.out
  rcases hc2 with ⟨q1, rfl, q2⟩ | ⟨q1, rfl, q2⟩
  · obtain ⟨⟨c0, c1, c2⟩, f0, f1, f2⟩ := rr_cells q2
    have HQ := Lib.hid q2
    clear q2 hg2
    go_wp2
    go_ret
    exact ⟨0, rfl, by omega, by omega, HG2.out, .inl ⟨by rw [HP.out, if_pos q1], _, HQ.out⟩⟩
  · obtain ⟨⟨c0, c1, c2⟩, f0, f1, f2⟩ := rr_cells q2
    have HQ := Lib.hid q2
    have hx0 : (0 : Int) ≤ (x : Int) := by omega
    have hx1 : (x : Int) < H := by have := L1.out; omega
    clear q2 hg2
    by_cases c3 : (x : Int) < 2 * H - 2 - left
    · go_wp2
      go_ret
      exact ⟨x, rfl, by omega, by omega, HG2.out, .inr ⟨B + b, by rw [HP.out, if_neg (by omega), if_pos (show (x : Int) < 2 * H - 2 - left by omega)], HQ.out⟩⟩
    · have y0 := blk_cell hkb.out 0
      have y1 := blk_cell hkb.out 1
      have HQ2 := Lib.hid (show Blk ((w2.setCell ⟨g, 0, none⟩ (.string S)).setCell ⟨g, 1, none⟩ (.int .i64 (B : Int))) g 78 (rrA S B 0) from blk_set (blk_set HQ.out 0 _) 1 _)
      have HG3 := Lib.hid (grown_set (grown_set HG2.out 0 (.string S)) 1 (.int .i64 (B : Int)))
      go_upto_region 9 with (go_at_call 44; (with_reducible refine (HT2.out _ HQ2.out).mono ?_); rintro e w4 ⟨y, rfl, hg4, hc4⟩)
      have HG4 := Lib.hid (grown_trans HG3.out hg4)
      clear hg4
      rcases hc4 with ⟨q3, rfl, q4⟩ | ⟨q3, rfl, q4⟩
      · have HQ4 := Lib.hid q4
        clear q4
        have hH : (0 : Int) < H := by omega
        go_wp2
        go_ret
        exact ⟨0, rfl, by omega, by omega, HG4.out, .inl ⟨by rw [HP.out, if_neg (by omega), if_neg (show ¬ (x : Int) < 2 * H - 2 - left by omega), if_pos q3], _, HQ4.out⟩⟩
      · have HQ4 := Lib.hid q4
        have hy0 : (0 : Int) ≤ (y : Int) := by omega
        have hy1 : (y : Int) < 2 * H := by have := L2.out; omega
        clear q4
        by_cases c4 : (H : Int) ≤ (y : Int)
        · go_wp2
          go_ret
          exact ⟨(y : Int) - (2 * H - 1 - (left + 1)), rfl, by omega, by omega, HG4.out, .inr ⟨B + (b + 1), by rw [HP.out, if_neg (by omega), if_neg (show ¬ (x : Int) < 2 * H - 2 - left by omega), if_neg (by omega), if_pos (show (H : Int) ≤ (y : Int) by omega), show (2 * (H : Int) - 1 - (left + 1)) = 2 * H - 2 - left by omega], HQ4.out⟩⟩
        · go_wp2
          go_ret
          exact ⟨y, rfl, by omega, by omega, HG4.out, .inr ⟨B + (b + 1), by rw [HP.out, if_neg (by omega), if_neg (show ¬ (x : Int) < 2 * H - 2 - left by omega), if_neg (by omega), if_neg (show ¬ (H : Int) ≤ (y : Int) by omega)], HQ4.out⟩⟩
end Go.Proofs.Ytaohhijjalcbiaa
