/-
  The project's cursors: passing a field of n bytes, whatever the reader's cursor holds.
-/
import Derived.Test.YtipigfngeiodlaaO4C
namespace Go.Proofs.Ytipigfngeiodlaa
open Go.ChangeShapes Go.WideShapes Go.ChangeAt Go.RowKit
set_option linter.unusedVariables false

theorem pass_new (w : World) (g : Nat) (hl : g < w.heap.size) (S : ByteArray) (A E F e x : Int) (hb : Blk w g 53 (at4 S A E F)) :
    ((w.alloc (.cells #[.pointer (some ⟨g, 0, none⟩)] 49)).alloc (.cells #[.int .i64 e, .int .i64 x] 24)).cell? ⟨w.heap.size, 0, none⟩ = some (.pointer (some ⟨g, 0, none⟩)) ∧
    Blk ((w.alloc (.cells #[.pointer (some ⟨g, 0, none⟩)] 49)).alloc (.cells #[.int .i64 e, .int .i64 x] 24)) (w.heap.size + 1) 24 #[.int .i64 e, .int .i64 x] ∧
    Blk ((w.alloc (.cells #[.pointer (some ⟨g, 0, none⟩)] 49)).alloc (.cells #[.int .i64 e, .int .i64 x] 24)) g 53 (at4 S A E F) ∧
    w.grownBy ((w.alloc (.cells #[.pointer (some ⟨g, 0, none⟩)] 49)).alloc (.cells #[.int .i64 e, .int .i64 x] 24)) (some g) :=
  ⟨blk_cell (blk_alloc (blk_new w 49 #[.pointer (some ⟨g, 0, none⟩)]) _) 0, blk_new2 w _ 24 _, blk_alloc (blk_alloc hb _) _, grown_alloc (grown_alloc (grown_refl _ _) _) _⟩

theorem pass_neg (g : Nat) (S : ByteArray) (A E F n P Q : Int) (hn : n < 0) (hP : (if E = 0 then 2 else E) = P) (hQ : (if E = 0 then A else F) = Q) (w : World) (hb : Blk w g 53 (at4 S A E F)) :
    Calls Try.prog 37 #[.pointer (some ⟨g, 0, none⟩), .int .i64 1, .int .i64 n] w fun r w' => r = .returned (.string ⟨#[]⟩) ∧ Blk w' g 53 (at4 S A P Q) ∧ w.grownBy w' (some g) := by
  have hmf : ∀ (fn : Fn) (first cap : Array Value) (w : World), (Instr.makeFunc fn first cap).run Try.prog w = .ok (.func fn first cap) w := fun _ _ _ _ => rfl
  have hl := blk_lt hb
  have HB := Lib.hid hb
  have HP := Lib.hid hP
  have HQ := Lib.hid hQ
  obtain ⟨⟨c0, c1, c2, c3⟩, _⟩ := blk4 hb
  clear hb hP hQ
  go_enter_defers Try.func37, Try.ntmps37
  go_wp2
  obtain ⟨a1, a2, a3, a4⟩ := pass_new w g hl S A E F 2 A HB.out
  exact pass_leaves w _ g S ⟨#[]⟩ A E F 2 A _ P Q HP.out HQ.out hl rfl a1 a2 a3 a4

theorem pass_bad (g : Nat) (S : ByteArray) (A E F n P Q : Int) (hn : n < 1 ∨ (1 ≤ n ∧ 8 < n)) (hP : (if E = 0 then 2 else E) = P) (hQ : (if E = 0 then A else F) = Q) (w : World) (hb : Blk w g 53 (at4 S A E F)) :
    Calls Try.prog 37 #[.pointer (some ⟨g, 0, none⟩), .int .i64 0, .int .i64 n] w fun r w' => r = .returned (.string ⟨#[]⟩) ∧ Blk w' g 53 (at4 S A P Q) ∧ w.grownBy w' (some g) := by
  have hmf : ∀ (fn : Fn) (first cap : Array Value) (w : World), (Instr.makeFunc fn first cap).run Try.prog w = .ok (.func fn first cap) w := fun _ _ _ _ => rfl
  have hl := blk_lt hb
  have HB := Lib.hid hb
  have HP := Lib.hid hP
  have HQ := Lib.hid hQ
  obtain ⟨⟨c0, c1, c2, c3⟩, _⟩ := blk4 hb
  clear hb hP hQ
  rcases hn with hn | ⟨hn, hn2⟩
  all_goals
    go_enter_defers Try.func37, Try.ntmps37
    go_wp2
    obtain ⟨a1, a2, a3, a4⟩ := pass_new w g hl S A E F 2 A HB.out
    exact pass_leaves w _ g S ⟨#[]⟩ A E F 2 A _ P Q HP.out HQ.out hl rfl a1 a2 a3 a4

theorem pass_mid {w w1 : World} {g : Nat} (hl : g < w.heap.size) {S : ByteArray} {A E F : Int} (hb : Blk w g 53 (at4 S A E F))
    (hb1 : Below ((w.alloc (.cells #[.pointer (some ⟨g, 0, none⟩)] 49)).alloc (.cells #[.int .i64 0, .int .i64 0] 24)).heap.size ((w.alloc (.cells #[.pointer (some ⟨g, 0, none⟩)] 49)).alloc (.cells #[.int .i64 0, .int .i64 0] 24)) w1) :
    Blk w1 w.heap.size 49 #[.pointer (some ⟨g, 0, none⟩)] ∧ Blk w1 (w.heap.size + 1) 24 #[.int .i64 0, .int .i64 0] ∧ Blk w1 g 53 (at4 S A E F) ∧ w.grownBy w1 (some g) := by
  obtain ⟨a1, a2, a3, a4⟩ := pass_new w g hl S A E F 0 0 hb
  exact ⟨blk_next (blk_alloc (blk_new w 49 #[.pointer (some ⟨g, 0, none⟩)]) _) hb1, blk_next a2 hb1, blk_next a3 hb1, grown_trans a4 (grown_below hb1 _)⟩
theorem grown_new {w u : World} {row : Option Nat} (h : w.grownBy u row) {b : Nat} (hb : w.heap.size ≤ b) (i : Nat) (v : Value) : w.grownBy (u.setCell ⟨b, i, none⟩ v) row :=
  ⟨h.os, h.tape, h.output, by simpa [World.setCell] using h.size, fun k hk hne => (Below.heap_setCell u ⟨b, i, none⟩ v k (by simp; omega)).trans (h.block k hk hne)⟩

theorem pass_short (g : Nat) (S : ByteArray) (A E F n k L P Q : Int) (hk : k = 1 ∨ (k = 0 ∧ 1 ≤ n ∧ n ≤ 8)) (hn : 0 ≤ n) (hL : L < n)
    (hC : ∀ u, Calls Try.prog 33 #[.agg #[.string S, .int .i64 A, .int .i64 E, .int .i64 F]] u fun e w' => e = .returned (.int .i64 L) ∧ Below u.heap.size u w')
    (hP : (if E = 0 then 5 else E) = P) (hQ : (if E = 0 then (S.size : Int) else F) = Q) (w : World) (hb : Blk w g 53 (at4 S A E F)) :
    Calls Try.prog 37 #[.pointer (some ⟨g, 0, none⟩), .int .i64 k, .int .i64 n] w fun r w' => r = .returned (.string ⟨#[]⟩) ∧ Blk w' g 53 (at4 S A P Q) ∧ w.grownBy w' (some g) := by
  have hmf : ∀ (fn : Fn) (first cap : Array Value) (w : World), (Instr.makeFunc fn first cap).run Try.prog w = .ok (.func fn first cap) w := fun _ _ _ _ => rfl
  have hl := blk_lt hb
  have HB := Lib.hid hb
  have HP := Lib.hid hP
  have HQ := Lib.hid hQ
  obtain ⟨⟨c0, c1, c2, c3⟩, _⟩ := blk4 hb
  clear hb hP hQ
  rcases hk with rfl | ⟨rfl, h1, h2⟩
  all_goals
    go_enter_defers Try.func37, Try.ntmps37
    go_wp2_with ((go_at_call 33; (with_reducible refine (hC _).mono ?_); rintro e w1 ⟨rfl, hb1⟩; obtain ⟨k1, k2, k3, k4⟩ := pass_mid hl HB.out hb1; have K1 := Lib.hid k1; have K2 := Lib.hid k2; have K3 := Lib.hid k3; have K4 := Lib.hid k4; obtain ⟨⟨p0, p1, p2, p3⟩, _⟩ := blk4 k3; have p4 := blk_cell k1 0; have q0 := blk_cell k2 0; have q1 := blk_cell k2 1; have f0 := blk_frozen k2 0; have f1 := blk_frozen k2 1; clear k1 k2 k3 k4))
    exact pass_leaves w _ g S ⟨#[]⟩ A E F 5 S.size _ P Q HP.out HQ.out hl rfl (blk_cell (blk_far (blk_far K1.out (by simp) _) (by simp) _) 0) (blk_set (blk_set K2.out 0 _) 1 _) (blk_far (blk_far K3.out (by simp; omega) _) (by simp; omega) _) (grown_new (grown_new K4.out (by omega) _ _) (by omega) _ _)

theorem pass_ok (g : Nat) (S : ByteArray) (a z : Nat) (E F k L : Int) (hS : S.size ≤ 9223372036854775807) (hk : k = 1 ∨ (k = 0 ∧ 1 ≤ (z : Int) ∧ (z : Int) ≤ 8)) (haz : a + z ≤ S.size) (hL : (z : Int) ≤ L) (hEF : E = 0 → F = 0)
    (hC : ∀ u, Calls Try.prog 33 #[.agg #[.string S, .int .i64 (a : Int), .int .i64 E, .int .i64 F]] u fun e w' => e = .returned (.int .i64 L) ∧ Below u.heap.size u w')
    (w : World) (hb : Blk w g 53 (at4 S a E F)) :
    Calls Try.prog 37 #[.pointer (some ⟨g, 0, none⟩), .int .i64 k, .int .i64 (z : Int)] w fun r w' => r = .returned (.string (S.extract a (a + z))) ∧ Blk w' g 53 (at4 S ((a : Int) + z) E F) ∧ w.grownBy w' (some g) := by
  have hmf : ∀ (fn : Fn) (first cap : Array Value) (w : World), (Instr.makeFunc fn first cap).run Try.prog w = .ok (.func fn first cap) w := fun _ _ _ _ => rfl
  have hsl := fun u => str_cut u S a z haz
  have hn : (0 : Int) ≤ (z : Int) := by omega
  have hwr : wrap64 ((a : Int) + z) = (a : Int) + z := IntWalk.wrap64_in _ ⟨by omega, by omega⟩
  have hl := blk_lt hb
  have HB := Lib.hid hb
  have HE := Lib.hid (show (if E = 0 then 0 else E) = E ∧ (if E = 0 then 0 else F) = F by
    by_cases h : E = 0
    · rw [if_pos h, if_pos h]; exact ⟨h.symm, (hEF h).symm⟩
    · rw [if_neg h, if_neg h]; exact ⟨rfl, rfl⟩)
  have HAZ := Lib.hid haz
  obtain ⟨⟨c0, c1, c2, c3⟩, _⟩ := blk4 hb
  clear hb hEF haz
  rcases hk with rfl | ⟨rfl, h1, h2⟩
  all_goals
    go_enter_defers Try.func37, Try.ntmps37
    go_wp2_with ((go_at_call 33; (with_reducible refine (hC _).mono ?_); rintro e w1 ⟨rfl, hb1⟩; obtain ⟨k1, k2, k3, k4⟩ := pass_mid hl HB.out hb1; have K1 := Lib.hid k1; have K2 := Lib.hid k2; have K3 := Lib.hid k3; have K4 := Lib.hid k4; obtain ⟨⟨p0, p1, p2, p3⟩, r0, r1, r2, r3⟩ := blk4 k3; have p4 := blk_cell k1 0; have q0 := blk_cell k2 0; have q1 := blk_cell k2 1; clear k1 k2 k3 k4))
    go_quiet (fail)
    go_wp2_with fail
    exact pass_leaves w _ g S _ ((a : Int) + z) E F 0 0 _ E F HE.out.1 HE.out.2 hl rfl (blk_cell (blk_far (blk_drewN K1.out _) (by simp; omega) _) 0) (blk_far (blk_drewN K2.out _) (by simp; omega) _) (blk4_a (blk_drewN K3.out _)) (grown_set (grown_drewN K4.out _) _ _)

/-- a field of bytes -/
theorem pass_any (g : Nat) (S : ByteArray) (A E F n k : Int) (hS : S.size ≤ 9223372036854775807) (hk : k = 1 ∨ (k = 0 ∧ 1 ≤ n ∧ n ≤ 8)) (hc : curOk S A E F) (w : World) (hb : Blk w g 53 (at4 S A E F)) :
    Calls Try.prog 37 #[.pointer (some ⟨g, 0, none⟩), .int .i64 k, .int .i64 n] w fun r w' =>
      r = .returned (.string (ybT S A E n)) ∧ Blk w' g 53 (at4 S (ybA S A E n) (ybE S A E n) (ybF S A E F n)) ∧ w.grownBy w' (some g) := by
  obtain ⟨c1, c2, c3, c4, c5, c6, c7⟩ := hc
  have hC := fun u => ownLeftK S A E F (fun _ => ⟨c1, c2⟩) hS u
  by_cases hn : n < 0
  · rcases hk with rfl | ⟨rfl, h1, h2⟩
    · have e1 : ybT S A E n = ⟨#[]⟩ := by unfold ybT; rw [if_neg (by unfold ybOk; omega)]
      have e2 : ybA S A E n = A := by unfold ybA; rw [if_neg (by unfold ybOk; omega)]
      rw [e1, e2]
      refine pass_neg g S A E F n _ _ hn ?_ ?_ w hb
      · unfold ybE
        by_cases h : E = 0
        · rw [if_pos h, if_pos h, if_pos hn]
        · rw [if_neg h, if_neg h]
      · unfold ybF
        by_cases h : E = 0
        · rw [if_pos h, if_pos h, if_pos hn]
        · rw [if_neg h, if_neg h]
    · exact absurd hn (by omega)
  · by_cases hL : ylX S A E < n
    · have hno : ¬ ybOk S A E n := by
        unfold ybOk
        unfold ylX at hL
        by_cases h : E = 0
        · rw [if_pos h] at hL; omega
        · omega
      have e1 : ybT S A E n = ⟨#[]⟩ := by unfold ybT; rw [if_neg hno]
      have e2 : ybA S A E n = A := by unfold ybA; rw [if_neg hno]
      rw [e1, e2]
      refine pass_short g S A E F n k _ _ _ hk (by omega) hL hC ?_ ?_ w hb
      · unfold ybE
        by_cases h : E = 0
        · unfold ylX at hL
          rw [if_pos h] at hL
          rw [if_pos h, if_pos h, if_neg hn, if_pos hL]
        · rw [if_neg h, if_neg h]
      · unfold ybF
        by_cases h : E = 0
        · unfold ylX at hL
          rw [if_pos h] at hL
          rw [if_pos h, if_pos h, if_neg hn, if_pos hL]
        · rw [if_neg h, if_neg h]
    · obtain ⟨a, rfl⟩ := Int.eq_ofNat_of_zero_le c1
      obtain ⟨z, rfl⟩ := Int.eq_ofNat_of_zero_le (show 0 ≤ n by omega)
      have haz : a + z ≤ S.size := by
        unfold ylX at hL
        by_cases h : E = 0
        · rw [if_pos h] at hL; omega
        · rw [if_neg h] at hL; omega
      have e1 : ybT S a E z = S.extract a (a + z) := by
        unfold ybT
        by_cases h : E = 0
        · rw [if_pos (by unfold ybOk; omega)]
          congr 1 <;> omega
        · have hz : z = 0 := by
            unfold ylX at hL
            rw [if_neg h] at hL; omega
          subst hz
          rw [if_neg (by unfold ybOk; omega)]
          simp
          rfl
      have e2 : ybA S a E z = (a : Int) + z := by
        unfold ybA
        by_cases h : E = 0
        · rw [if_pos (by unfold ybOk; omega)]
        · have hz : z = 0 := by
            unfold ylX at hL
            rw [if_neg h] at hL; omega
          subst hz
          rw [if_neg (by unfold ybOk; omega)]
          simp
      have e3 : ybE S a E z = E := by
        unfold ybE
        by_cases h : E = 0
        · rw [if_pos h, if_neg (by omega), if_neg (by omega), h]
        · rw [if_neg h]
      have e4 : ybF S a E F z = F := by
        unfold ybF
        by_cases h : E = 0
        · rw [if_pos h, if_neg (by omega), if_neg (by omega), c7 h]
        · rw [if_neg h]
      rw [e1, e2, e3, e4]
      exact pass_ok g S a z E F k _ hS hk haz (by omega) c7 hC w hb
end Go.Proofs.Ytipigfngeiodlaa
