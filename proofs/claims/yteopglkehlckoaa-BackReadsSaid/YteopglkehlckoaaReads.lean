/-
  BackReads: the law's walk, for every reader and all numbers.
-/
import Derived.Test.YteopglkehlckoaaWrites
import Derived.Test.YteopglkehlckoaaB3Take
namespace Go.Proofs.Yteopglkehlckoaa
open Go.ChangeShapes Go.WideShapes Go.ChangeAt Go.RowKit
set_option linter.unusedVariables false

theorem reads_long1 (S : ByteArray) (L n : Int) (w : World) (h1 : decide ((40 : Int) < (S.size : Int)) = true) (h2 : decide ((S.size : Int) < 1048576) = true) :
    Calls Try.prog 5 #[.agg #[.string S, .int .i64 L], .int .i64 n] w fun e w' => e = .returned (.bool true) ∧ Below w.heap.size w w' := by
  go_enter Try.func5, Try.ntmps5
  go_wp2_with (go_at_call 19; (with_reducible refine (awake_any _).mono ?_); rintro e w1 ⟨rfl, hb1⟩)
  go_ret
  exact ⟨rfl, below_call (below_box (Below.refl _ _) _) hb1⟩
theorem reads_long2 (S : ByteArray) (L n : Int) (w : World) (h1 : decide ((40 : Int) < (S.size : Int)) = true) (h2 : decide ((S.size : Int) < 1048576) = false) (h3 : decide ((1048577 : Int) < (S.size : Int)) = true) :
    Calls Try.prog 5 #[.agg #[.string S, .int .i64 L], .int .i64 n] w fun e w' => e = .returned (.bool true) ∧ Below w.heap.size w w' := by
  go_enter Try.func5, Try.ntmps5
  go_wp2_with (go_at_call 19; (with_reducible refine (awake_any _).mono ?_); rintro e w1 ⟨rfl, hb1⟩)
  go_ret
  exact ⟨rfl, below_call (below_box (Below.refl _ _) _) hb1⟩

theorem kr {w : World} {a b c : Nat} {t t2 t3 : TypeId} {S s : ByteArray} {L l : Int} (h1 : Blk w a t #[.string S, .int .i64 L]) (h2 : Blk w b t2 #[.string s, .int .i64 l]) (h3 : Blk w c t3 #[.string s, .int .i64 l]) :
    (w.cell? ⟨a, 0, none⟩ = some (.string S) ∧ w.cell? ⟨a, 1, none⟩ = some (.int .i64 L)) ∧
    (w.cell? ⟨b, 0, none⟩ = some (.string s) ∧ w.cell? ⟨b, 1, none⟩ = some (.int .i64 l)) ∧
    (w.cell? ⟨c, 0, none⟩ = some (.string s) ∧ w.cell? ⟨c, 1, none⟩ = some (.int .i64 l)) :=
  ⟨⟨blk_cell h1 0, blk_cell h1 1⟩, ⟨blk_cell h2 0, blk_cell h2 1⟩, ⟨blk_cell h3 0, blk_cell h3 1⟩⟩

set_option maxRecDepth 100000 in
set_option maxHeartbeats 2000000 in
theorem reads_inner (S : ByteArray) (L n c : Int) (k0 e0 : Int) (s s2 : ByteArray) (l e l2 x2 e2 x3 e3 : Int) (w : World) (h : (decide ((40 : Int) < (S.size : Int)) = false) ∨ (decide ((40 : Int) < (S.size : Int)) = true ∧ decide ((S.size : Int) < 1048576) = false)) (h3 : decide ((1048577 : Int) < (S.size : Int)) = false)
    (hB : ∀ u, Calls Try.prog 24 #[.string S] u fun x w' => x = .returned (.tuple #[.int .i64 k0, .int .i64 e0]) ∧ u = w')
    (hB' : ∀ u, Calls Try.prog 25 #[.string S] u fun x w' => x = .returned (.tuple #[.int .i64 k0, .int .i64 e0]) ∧ u = w')
    (hR : ∀ u, Calls Try.prog 13 #[.string S] u fun x w' => x = .returned (.tuple #[.agg #[.string s, .int .i64 l], .int .i64 e]) ∧ Below u.heap.size u w')
    (hR' : ∀ u, Calls Try.prog 26 #[.string S] u fun x w' => x = .returned (.tuple #[.agg #[.string s, .int .i64 l], .int .i64 e]) ∧ Below u.heap.size u w')
    (hC : ∀ u, Calls Try.prog 17 #[.agg #[.string S, .int .i64 L]] u fun x w' => x = .returned (.int .i64 c) ∧ Below u.heap.size u w')
    (hC' : ∀ u, Calls Try.prog 27 #[.agg #[.string S, .int .i64 L]] u fun x w' => x = .returned (.int .i64 c) ∧ Below u.heap.size u w')
    (hT : ∀ u, Calls Try.prog 14 #[.agg #[.string S, .int .i64 L], .int .i64 n] u fun x w' => x = .returned (.tuple #[.agg #[.string s2, .int .i64 l2], .int .u64 x2, .int .i64 e2]) ∧ Below u.heap.size u w')
    (hT' : ∀ u, Calls Try.prog 28 #[.agg #[.string S, .int .i64 L], .int .i64 n] u fun x w' => x = .returned (.tuple #[.agg #[.string s2, .int .i64 l2], .int .u64 x2, .int .i64 e2]) ∧ Below u.heap.size u w')
    (hP : ∀ u, Calls Try.prog 29 #[.agg #[.string S, .int .i64 L], .int .i64 n] u fun x w' => x = .returned (.tuple #[.int .u64 x3, .int .i64 e3]) ∧ Below u.heap.size u w')
    (hP' : ∀ u, Calls Try.prog 30 #[.agg #[.string S, .int .i64 L], .int .i64 n] u fun x w' => x = .returned (.tuple #[.int .u64 x3, .int .i64 e3]) ∧ Below u.heap.size u w')
    (hK : ∀ u, Calls Try.prog 16 #[.agg #[.string S, .int .i64 L], .int .i64 n] u fun x w' => x = .returned (.tuple #[.agg #[.string s2, .int .i64 l2], .int .i64 e2]) ∧ Below u.heap.size u w')
    (hK' : ∀ u, Calls Try.prog 31 #[.agg #[.string S, .int .i64 L], .int .i64 n] u fun x w' => x = .returned (.tuple #[.agg #[.string s2, .int .i64 l2], .int .i64 e2]) ∧ Below u.heap.size u w') :
    Calls Try.prog 5 #[.agg #[.string S, .int .i64 L], .int .i64 n] w fun e w' => e = .returned (.bool true) ∧ Below w.heap.size w w' := by
  rcases h with h1 | ⟨h1, h2⟩
  all_goals
    go_enter Try.func5, Try.ntmps5
    go_wp2_with (first
      | (go_at_call 24; (with_reducible refine (hB _).mono ?_); rintro x w0 ⟨rfl, rfl⟩)
      | (go_at_call 25; (with_reducible refine (hB' _).mono ?_); rintro x w0 ⟨rfl, rfl⟩)
      | (go_at_call 13; (with_reducible refine (hR _).mono ?_); rintro x w1 ⟨rfl, hb1⟩; have k2 := blk_next (blk_new w 32 #[.string S, .int .i64 L]) hb1; obtain ⟨p0, p1, _⟩ := blk2 k2; have lk2 := blk_lt k2)
      | (go_at_call 26; (with_reducible refine (hR' _).mono ?_); rintro x w2 ⟨rfl, hb2⟩; have k2 := blk_next (blk_alloc k2 _) hb2; have k9 := blk_next (blk_new w1 32 #[.string s, .int .i64 l]) hb2))
    have K2 := Lib.hid k2
    have K9 := Lib.hid k9
    have k11 := Lib.hid (blk_new w2 32 #[.string s, .int .i64 l])
    clear k2 k9
    go_region_held3 (fun w' => (w'.cell? ⟨w.heap.size, 0, none⟩ = some (.string S) ∧ w'.cell? ⟨w.heap.size, 1, none⟩ = some (.int .i64 L)) ∧
        (w'.cell? ⟨w1.heap.size, 0, none⟩ = some (.string s) ∧ w'.cell? ⟨w1.heap.size, 1, none⟩ = some (.int .i64 l)) ∧
        (w'.cell? ⟨w2.heap.size, 0, none⟩ = some (.string s) ∧ w'.cell? ⟨w2.heap.size, 1, none⟩ = some (.int .i64 l)))
      (first | (with_reducible exact kr (blk_drew (blk_alloc K2.out _)) (blk_drew (blk_alloc K9.out _)) (blk_drew k11.out)) | (with_reducible exact kr a2 a9 a11) | (with_reducible exact kr b2 b9 b11))
      (first
        | (go_at_call 17; (with_reducible refine (hC _).mono ?_); rintro x w3 ⟨rfl, hb3⟩; have a2 := blk_next (blk_drew (blk_alloc K2.out _)) hb3; have a9 := blk_next (blk_drew (blk_alloc K9.out _)) hb3; have a11 := blk_next (blk_drew k11.out) hb3)
        | (go_at_call 27; (with_reducible refine (hC' _).mono ?_); rintro x w4 ⟨rfl, hb4⟩; have b2 := blk_next a2 hb4; have b9 := blk_next a9 hb4; have b11 := blk_next a11 hb4))
  all_goals
    obtain ⟨p0, p1, _⟩ := blk2 b2
    have c1 := below_call (below_box (Below.refl w.heap.size w) (.cells #[.string S, .int .i64 L] 32)) hb1
    have c2 := below_call (below_box c1 _) hb2
    have c4 := below_call (below_call (below_box c2 _).drew hb3) hb4
    have z1 := c1.size
    have z2 := c2.size
    have z12 := hb2.size
    simp at z12
    have C4 := Lib.hid c4
    have B9 := Lib.hid b9
    have B11 := Lib.hid b11
    clear a2 a9 a11 K2 K9 k11 c1 c2 c4 hb1 hb2 hb3 hb4 b9 b11
    go_wp2_with (first
      | (go_at_call 14; (with_reducible refine (hT _).mono ?_); rintro x w5 ⟨rfl, hb5⟩; have b2 := blk_next b2 hb5; obtain ⟨p0, p1, _⟩ := blk2 b2; have lb := blk_lt b2)
      | (go_at_call 28; (with_reducible refine (hT' _).mono ?_); rintro x w6 ⟨rfl, hb6⟩; have b2 := blk_next (blk_alloc b2 _) hb6; obtain ⟨p0, p1, _⟩ := blk2 b2; have lb := blk_lt b2; have k13 := blk_next (blk_new w5 32 #[.string s2, .int .i64 l2]) hb6; obtain ⟨y0, y1, _⟩ := blk2 k13; have l13 := blk_lt k13)
      | (go_at_call 29; (with_reducible refine (hP _).mono ?_); rintro x w7 ⟨rfl, hb7⟩; have b2 := blk_next (blk_alloc b2 _) hb7; obtain ⟨p0, p1, _⟩ := blk2 b2)
      | (go_at_call 30; (with_reducible refine (hP' _).mono ?_); rintro x w8 ⟨rfl, hb8⟩; have b2 := blk_next b2 hb8; obtain ⟨p0, p1, _⟩ := blk2 b2)
      | (go_at_call 16; (with_reducible refine (hK _).mono ?_); rintro x w9 ⟨rfl, hb9⟩; have b2 := blk_next b2 hb9; have b9 := blk_next (blk_next (blk_next (blk_alloc (blk_next (blk_alloc (blk_next B9.out hb5) _) hb6) _) hb7) hb8) hb9; have b11 := blk_next (blk_next (blk_next (blk_alloc (blk_next (blk_alloc (blk_next B11.out hb5) _) hb6) _) hb7) hb8) hb9; obtain ⟨q0, q1, f0, f1⟩ := blk2 b9; have b2 := blk2_far b2 (h := w1.heap.size) (by omega) (.string s2) (.int .i64 l2); have b11 := blk2_far b11 (h := w1.heap.size) (by omega) (.string s2) (.int .i64 l2); have b9 := blk2_set s2 l2 b9; obtain ⟨p0, p1, _⟩ := blk2 b2)
      | (go_at_call 31; (with_reducible refine (hK' _).mono ?_); rintro x w10 ⟨rfl, hb10⟩; have b9 := blk_next b9 hb10; have b11 := blk_next b11 hb10; obtain ⟨r0, r1, g0, g1⟩ := blk2 b11; have b9 := blk2_far b9 (h := w2.heap.size) (by omega) (.string s2) (.int .i64 l2); have b11 := blk2_set s2 l2 b11; obtain ⟨u0, u1, _⟩ := blk2 b9; obtain ⟨v0, v1, _⟩ := blk2 b11)
      | (go_at_call 19; (with_reducible refine (awake_any _).mono ?_); rintro x w11 ⟨rfl, hb11⟩))
    go_ret
    have d6 := below_call (below_box (below_call C4.out hb5) _) hb6
    have d9 := below_call (below_call (below_call (below_box d6 _) hb7) hb8) hb9
    have d10 := below_call (below2 d9 (by omega) _ _) hb10
    exact ⟨rfl, below_call (below2 d10 (by omega) _ _) hb11⟩

theorem reads_any (S : ByteArray) (L n : Int) (hS : S.size ≤ maxLen) (w : World) :
    Calls Try.prog 5 #[.agg #[.string S, .int .i64 L], .int .i64 n] w fun e w' => e = .returned (.bool true) ∧ Below w.heap.size w w' := by
  unfold maxLen at hS
  obtain ⟨t1, t2, t3, t4, t5, t6, t7, t8⟩ := size_tests S.size
  have hS' : S.size ≤ 9223372036854775807 := by omega
  have A1 := fun u => ownBits_any S hS' u
  have A2 := fun u => bbits_any S hS' u
  have A3 := fun u => ownRead_any S hS' u
  have A4 := fun u => bread_any S hS' u
  have A5 := fun u => ownRight3_any S L hS' u
  have A6 := fun u => bright_any S L hS' u
  have A7 := fun u => ownTake_any S L n hS' u
  have A8 := fun u => btake_any S L n hS' u
  have A9 := fun u => ownPeek_any S L n hS' u
  have A10 := fun u => bpeek_any S L n hS' u
  have A11 := fun u => ownSkip_any S L n hS' u
  have A12 := fun u => bskip_any S L n hS' u
  by_cases h1 : 40 < S.size
  · by_cases h2 : S.size < 1048576
    · exact reads_long1 S L n w (t1 h1) (t7 h2)
    · by_cases h3 : 1048577 < S.size
      · exact reads_long2 S L n w (t1 h1) (t8 (by omega)) (t5 h3)
      · exact reads_inner S L n _ _ _ _ _ _ _ _ _ _ _ _ w (.inr ⟨t1 h1, t8 (by omega)⟩) (t6 (by omega)) A1 A2 A3 A4 A5 A6 A7 A8 A9 A10 A11 A12
  · exact reads_inner S L n _ _ _ _ _ _ _ _ _ _ _ _ w (.inl (t2 (by omega))) (t6 (by omega)) A1 A2 A3 A4 A5 A6 A7 A8 A9 A10 A11 A12
end Go.Proofs.Yteopglkehlckoaa
