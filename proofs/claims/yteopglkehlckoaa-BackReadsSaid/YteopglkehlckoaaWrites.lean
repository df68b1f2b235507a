/-
  BackWrites: the law's walk, for every writer and all numbers.
-/
import Derived.Test.YteopglkehlckoaaKnown
import Derived.Test.YteopglkehlckoaaB3Put2
import Derived.Deep.RegionHeld3
namespace Go.Proofs.Yteopglkehlckoaa
open Go.ChangeShapes Go.WideShapes Go.ChangeAt Go.RowKit
set_option linter.unusedVariables false

theorem size_tests (m : Nat) : (40 < m → decide ((40 : Int) < (m : Int)) = true) ∧ (m ≤ 40 → decide ((40 : Int) < (m : Int)) = false) ∧ (m < 1048575 → decide ((m : Int) < 1048575) = true) ∧ (1048575 ≤ m → decide ((m : Int) < 1048575) = false) ∧
    (1048577 < m → decide ((1048577 : Int) < (m : Int)) = true) ∧ (m ≤ 1048577 → decide ((1048577 : Int) < (m : Int)) = false) ∧ (m < 1048576 → decide ((m : Int) < 1048576) = true) ∧ (1048576 ≤ m → decide ((m : Int) < 1048576) = false) := by
  refine ⟨fun h => ?_, fun h => ?_, fun h => ?_, fun h => ?_, fun h => ?_, fun h => ?_, fun h => ?_, fun h => ?_⟩
  · exact decide_eq_true (by omega)
  · exact decide_eq_false (by omega)
  · exact decide_eq_true (by omega)
  · exact decide_eq_false (by omega)
  · exact decide_eq_true (by omega)
  · exact decide_eq_false (by omega)
  · exact decide_eq_true (by omega)
  · exact decide_eq_false (by omega)

theorem writes_long1 (S : ByteArray) (P N n v : Int) (w : World) (h1 : decide ((40 : Int) < (S.size : Int)) = true) (h2 : decide ((S.size : Int) < 1048575) = true) :
    Calls Try.prog 4 #[.agg #[.string S, .int .i64 P, .int .i64 N], .int .i64 n, .int .u64 v] w fun e w' => e = .returned (.bool true) ∧ Below w.heap.size w w' := by
  go_enter Try.func4, Try.ntmps4
  go_wp2_with (go_at_call 19; (with_reducible refine (awake_any _).mono ?_); rintro e w1 ⟨rfl, hb1⟩)
  go_ret
  exact ⟨rfl, below_call (below_box (Below.refl _ _) _) hb1⟩

theorem writes_long2 (S : ByteArray) (P N n v : Int) (w : World) (h1 : decide ((40 : Int) < (S.size : Int)) = true) (h2 : decide ((S.size : Int) < 1048575) = false) (h3 : decide ((1048577 : Int) < (S.size : Int)) = true) :
    Calls Try.prog 4 #[.agg #[.string S, .int .i64 P, .int .i64 N], .int .i64 n, .int .u64 v] w fun e w' => e = .returned (.bool true) ∧ Below w.heap.size w w' := by
  go_enter Try.func4, Try.ntmps4
  go_wp2_with (go_at_call 19; (with_reducible refine (awake_any _).mono ?_); rintro e w1 ⟨rfl, hb1⟩)
  go_ret
  exact ⟨rfl, below_call (below_box (Below.refl _ _) _) hb1⟩

theorem kw {w : World} {a b c : Nat} {t t2 t3 : TypeId} {S s : ByteArray} {P N q r : Int} (h1 : Blk w a t #[.string S, .int .i64 P, .int .i64 N]) (h2 : Blk w b t2 #[.string s, .int .i64 q, .int .i64 r]) (h3 : Blk w c t3 #[.string s, .int .i64 q, .int .i64 r]) :
    (w.cell? ⟨a, 0, none⟩ = some (.string S) ∧ w.cell? ⟨a, 1, none⟩ = some (.int .i64 P) ∧ w.cell? ⟨a, 2, none⟩ = some (.int .i64 N)) ∧
    (w.cell? ⟨b, 0, none⟩ = some (.string s) ∧ w.cell? ⟨b, 1, none⟩ = some (.int .i64 q) ∧ w.cell? ⟨b, 2, none⟩ = some (.int .i64 r)) ∧
    (w.cell? ⟨c, 0, none⟩ = some (.string s) ∧ w.cell? ⟨c, 1, none⟩ = some (.int .i64 q) ∧ w.cell? ⟨c, 2, none⟩ = some (.int .i64 r)) :=
  ⟨⟨blk_cell h1 0, blk_cell h1 1, blk_cell h1 2⟩, ⟨blk_cell h2 0, blk_cell h2 1, blk_cell h2 2⟩, ⟨blk_cell h3 0, blk_cell h3 1, blk_cell h3 2⟩⟩

set_option maxRecDepth 100000 in
set_option maxHeartbeats 1000000 in
theorem writes_inner (S : ByteArray) (P N n v c : Int) (s s2 : ByteArray) (q r e e2 : Int) (w : World) (h : (decide ((40 : Int) < (S.size : Int)) = false) ∨ (decide ((40 : Int) < (S.size : Int)) = true ∧ decide ((S.size : Int) < 1048575) = false)) (h3 : decide ((1048577 : Int) < (S.size : Int)) = false)
    (hC : ∀ u, Calls Try.prog 18 #[.agg #[.string S, .int .i64 P, .int .i64 N]] u fun e w' => e = .returned (.int .i64 c) ∧ Below u.heap.size u w')
    (hC' : ∀ u, Calls Try.prog 21 #[.agg #[.string S, .int .i64 P, .int .i64 N]] u fun e w' => e = .returned (.int .i64 c) ∧ Below u.heap.size u w')
    (hP : ∀ u, Calls Try.prog 9 #[.agg #[.string S, .int .i64 P, .int .i64 N], .int .i64 n, .int .u64 v] u fun x w' => x = .returned (.tuple #[.agg #[.string s, .int .i64 q, .int .i64 r], .int .i64 e]) ∧ Below u.heap.size u w')
    (hP' : ∀ u, Calls Try.prog 20 #[.agg #[.string S, .int .i64 P, .int .i64 N], .int .i64 n, .int .u64 v] u fun x w' => x = .returned (.tuple #[.agg #[.string s, .int .i64 q, .int .i64 r], .int .i64 e]) ∧ Below u.heap.size u w')
    (hD : ∀ u, Calls Try.prog 22 #[.agg #[.string S, .int .i64 P, .int .i64 N]] u fun x w' => x = .returned (.tuple #[.string s2, .int .i64 e2]) ∧ Below u.heap.size u w')
    (hD' : ∀ u, Calls Try.prog 23 #[.agg #[.string S, .int .i64 P, .int .i64 N]] u fun x w' => x = .returned (.tuple #[.string s2, .int .i64 e2]) ∧ Below u.heap.size u w') :
    Calls Try.prog 4 #[.agg #[.string S, .int .i64 P, .int .i64 N], .int .i64 n, .int .u64 v] w fun e w' => e = .returned (.bool true) ∧ Below w.heap.size w w' := by
  rcases h with h1 | ⟨h1, h2⟩
  all_goals
    go_enter Try.func4, Try.ntmps4
    go_wp2_with (first
      | (go_at_call 9; (with_reducible refine (hP _).mono ?_); rintro x w1 ⟨rfl, hb1⟩; have k3 := blk_next (blk_new w 23 #[.string S, .int .i64 P, .int .i64 N]) hb1; obtain ⟨⟨p0, p1, p2⟩, _⟩ := blk3 (s := S) (p := P) (n := N) k3; have l3 := blk_lt k3)
      | (go_at_call 20; (with_reducible refine (hP' _).mono ?_); rintro x w2 ⟨rfl, hb2⟩; have k3 := blk_next (blk_alloc k3 _) hb2; have k7 := blk_next (blk_new w1 23 #[.string s, .int .i64 q, .int .i64 r]) hb2))
    have K3 := Lib.hid k3
    have K7 := Lib.hid k7
    have k9 := Lib.hid (blk_new w2 23 #[.string s, .int .i64 q, .int .i64 r])
    clear k3 k7
    go_region_held3 (fun w' => (w'.cell? ⟨w.heap.size, 0, none⟩ = some (.string S) ∧ w'.cell? ⟨w.heap.size, 1, none⟩ = some (.int .i64 P) ∧ w'.cell? ⟨w.heap.size, 2, none⟩ = some (.int .i64 N)) ∧
        (w'.cell? ⟨w1.heap.size, 0, none⟩ = some (.string s) ∧ w'.cell? ⟨w1.heap.size, 1, none⟩ = some (.int .i64 q) ∧ w'.cell? ⟨w1.heap.size, 2, none⟩ = some (.int .i64 r)) ∧
        (w'.cell? ⟨w2.heap.size, 0, none⟩ = some (.string s) ∧ w'.cell? ⟨w2.heap.size, 1, none⟩ = some (.int .i64 q) ∧ w'.cell? ⟨w2.heap.size, 2, none⟩ = some (.int .i64 r)))
      (first | (with_reducible exact kw (blk_drew (blk_alloc K3.out _)) (blk_drew (blk_alloc K7.out _)) (blk_drew k9.out)) | (with_reducible exact kw a3 a7 a9) | (with_reducible exact kw b3 b7 b9))
      (first
        | (go_at_call 18; (with_reducible refine (hC _).mono ?_); rintro x w3 ⟨rfl, hb3⟩; have a3 := blk_next (blk_drew (blk_alloc K3.out _)) hb3; have a7 := blk_next (blk_drew (blk_alloc K7.out _)) hb3; have a9 := blk_next (blk_drew k9.out) hb3)
        | (go_at_call 21; (with_reducible refine (hC' _).mono ?_); rintro x w4 ⟨rfl, hb4⟩; have b3 := blk_next a3 hb4; have b7 := blk_next a7 hb4; have b9 := blk_next a9 hb4))
  all_goals
    obtain ⟨⟨p0, p1, p2⟩, _⟩ := blk3 (s := S) (p := P) (n := N) b3
    go_wp2_with (first
      | (go_at_call 22; (with_reducible refine (hD _).mono ?_); rintro x w7 ⟨rfl, hb7⟩; have b3 := blk_next b3 hb7; obtain ⟨⟨p0, p1, p2⟩, _⟩ := blk3 (s := S) (p := P) (n := N) b3)
      | (go_at_call 23; (with_reducible refine (hD' _).mono ?_); rintro x w8 ⟨rfl, hb8⟩)
      | (go_at_call 19; (with_reducible refine (awake_any _).mono ?_); rintro x w9 ⟨rfl, hb9⟩))
    go_ret
    have c1 := below_call (below_box (Below.refl w.heap.size w) _) hb1
    have c2 := below_call (below_box c1 _) hb2
    have c4 := below_call (below_call (below_box c2 _).drew hb3) hb4
    exact ⟨rfl, below_call (below_call (below_call c4 hb7) hb8) hb9⟩

theorem writes_any (S : ByteArray) (P N n v : Int) (hS : S.size ≤ maxLen) (h0 : -9223372036854775808 ≤ P ∧ P ≤ 9223372036854775807) (hv : 0 ≤ v) (w : World) :
    Calls Try.prog 4 #[.agg #[.string S, .int .i64 P, .int .i64 N], .int .i64 n, .int .u64 v] w fun e w' => e = .returned (.bool true) ∧ Below w.heap.size w w' := by
  unfold maxLen at hS
  obtain ⟨h0, h1⟩ := h0
  obtain ⟨t1, t2, t3, t4, t5, t6, _⟩ := size_tests S.size
  have hS' : S.size ≤ 9223372036854775807 := by omega
  have A1 := ownCheck_any S P N hS' h0 h1
  have A2 := fun u => bch_any S P N hS' u
  have A3 := ownPut_any S P N n v hS' h0 h1 hv
  have A4 := fun u => bput_any S P N n v hS' hv u
  have A5 := ownDone_any S P N hS' h0 h1
  have A6 := fun u => bdone_any S P N hS' u
  by_cases h1 : 40 < S.size
  · by_cases h2 : S.size < 1048575
    · exact writes_long1 S P N n v w (t1 h1) (t3 h2)
    · by_cases h3 : 1048577 < S.size
      · exact writes_long2 S P N n v w (t1 h1) (t4 (by omega)) (t5 h3)
      · exact writes_inner S P N n v _ _ _ _ _ _ _ w (.inr ⟨t1 h1, t4 (by omega)⟩) (t6 (by omega)) A1 A2 A3 A4 A5 A6
  · exact writes_inner S P N n v _ _ _ _ _ _ _ w (.inl (t2 (by omega))) (t6 (by omega)) A1 A2 A3 A4 A5 A6
end Go.Proofs.Yteopglkehlckoaa
