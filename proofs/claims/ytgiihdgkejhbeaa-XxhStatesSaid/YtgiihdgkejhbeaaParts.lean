/-
  XxhParts: the law's walk, for every string, seed and all numbers.
-/
import Derived.Test.YtgiihdgkejhbeaaKnown
import Derived.Test.YtgiihdgkejhbeaaModK
namespace Go.Proofs.Ytgiihdgkejhbeaa
open Go.ChangeShapes Go.WideShapes Go.ChangeAt Go.RowKit
set_option linter.unusedVariables false

theorem long_any (s : ByteArray) (b : Bool) (hs : s.size ≤ 200) (w : World) :
    Calls Try.prog 9 #[.string s, .bool b] w fun e w' => e = .returned (.string (if b then s ++ s else s)) ∧ w = w' := by
  have hcs : ¬ 9223372036854775807 < s.size + s.size := by omega
  cases b
  · go_enter Try.func9, Try.ntmps9
    go_wp2
    go_ret
    exact ⟨rfl, rfl⟩
  · go_enter Try.func9, Try.ntmps9
    go_wp2
    go_ret
    exact ⟨rfl, rfl⟩

theorem long6 (s : ByteArray) (b : Bool) (e x y : Int) (w : World) (h1 : decide ((200 : Int) < (s.size : Int)) = true) :
    Calls Try.prog 6 #[.string s, .bool b, .int .u64 e, .int .i64 x, .int .i64 y] w fun r w' => r = .returned (.bool true) ∧ Below w.heap.size w w' := by
  go_enter Try.func6, Try.ntmps6
  go_wp2_with (go_at_call 5; (with_reducible refine (known_any _).mono ?_); rintro e w1 ⟨rfl, hb1⟩)
  go_ret
  exact ⟨rfl, hb1⟩

theorem two7 {w : World} {g h : Nat} {t t2 : TypeId} {v0 v1 v2 v3 v4 v5 v6 u0 u1 u2 u3 u4 u5 u6 : Value} (k : Blk w g t #[v0, v1, v2, v3, v4, v5, v6]) (l : Blk w h t2 #[u0, u1, u2, u3, u4, u5, u6]) :
    (w.cell? ⟨g, 0, none⟩ = some v0 ∧ w.cell? ⟨g, 1, none⟩ = some v1 ∧ w.cell? ⟨g, 2, none⟩ = some v2 ∧ w.cell? ⟨g, 3, none⟩ = some v3 ∧ w.cell? ⟨g, 4, none⟩ = some v4 ∧ w.cell? ⟨g, 5, none⟩ = some v5 ∧ w.cell? ⟨g, 6, none⟩ = some v6) ∧
    (w.cell? ⟨h, 0, none⟩ = some u0 ∧ w.cell? ⟨h, 1, none⟩ = some u1 ∧ w.cell? ⟨h, 2, none⟩ = some u2 ∧ w.cell? ⟨h, 3, none⟩ = some u3 ∧ w.cell? ⟨h, 4, none⟩ = some u4 ∧ w.cell? ⟨h, 5, none⟩ = some u5 ∧ w.cell? ⟨h, 6, none⟩ = some u6) := ⟨c7 k, c7 l⟩

set_option maxRecDepth 100000 in
set_option maxHeartbeats 4000000 in
theorem parts_law (s t : ByteArray) (b : Bool) (e x y N : Int) (p r q m : Nat) (F0 F1 F2 F3 P0 P1 P2 P3 Q0 Q1 Q2 Q3 R0 R1 R2 R3 : Int) (sz sa sb : ByteArray) (w : World) (h1 : decide ((200 : Int) < (s.size : Int)) = false)
    (hx : x % ((t.size : Int) + 1) = p) (hy : y % ((t.size : Int) - p + 1) = r) (hq : (p : Int) + r = q)
    (hx0 : -9223372036854775808 ≤ x) (hx1 : x ≤ 9223372036854775807) (hy0 : -9223372036854775808 ≤ y) (hy1 : y ≤ 9223372036854775807)
    (ht : t.size ≤ 400) (hp : p ≤ t.size) (hpq : p ≤ q) (hqt : q ≤ t.size) (hm : m = t.size - t.size % 32)
    (h9 : ∀ u, Calls Try.prog 9 #[.string s, .bool b] u fun e w' => e = .returned (.string t) ∧ u = w')
    (h22 : ∀ u, Calls Try.prog 22 #[.int .u64 e] u fun x w' => x = .returned (.agg #[.int .u64 F0, .int .u64 F1, .int .u64 F2, .int .u64 F3, .int .i64 0, .string sz, .int .u64 e]) ∧ Below u.heap.size u w')
    (h16a : ∀ u, Calls Try.prog 16 #[.agg #[.int .u64 F0, .int .u64 F1, .int .u64 F2, .int .u64 F3, .int .i64 0, .string sz, .int .u64 e], .string (t.extract 0 p)] u fun x w' => x = .returned (.tuple #[.agg #[.int .u64 P0, .int .u64 P1, .int .u64 P2, .int .u64 P3, .int .i64 (p : Int), .string sa, .int .u64 e], .int .i64 0]) ∧ Below u.heap.size u w')
    (h16b : ∀ u, Calls Try.prog 16 #[.agg #[.int .u64 P0, .int .u64 P1, .int .u64 P2, .int .u64 P3, .int .i64 (p : Int), .string sa, .int .u64 e], .string (t.extract p q)] u fun x w' => x = .returned (.tuple #[.agg #[.int .u64 Q0, .int .u64 Q1, .int .u64 Q2, .int .u64 Q3, .int .i64 (q : Int), .string sb, .int .u64 e], .int .i64 0]) ∧ Below u.heap.size u w')
    (h16c : ∀ u, Calls Try.prog 16 #[.agg #[.int .u64 Q0, .int .u64 Q1, .int .u64 Q2, .int .u64 Q3, .int .i64 (q : Int), .string sb, .int .u64 e], .string (t.extract q t.size)] u fun x w' => x = .returned (.tuple #[.agg #[.int .u64 R0, .int .u64 R1, .int .u64 R2, .int .u64 R3, .int .i64 (t.size : Int), .string (t.extract m t.size), .int .u64 e], .int .i64 0]) ∧ Below u.heap.size u w')
    (h16d : ∀ u, Calls Try.prog 16 #[.agg #[.int .u64 F0, .int .u64 F1, .int .u64 F2, .int .u64 F3, .int .i64 0, .string sz, .int .u64 e], .string t] u fun x w' => x = .returned (.tuple #[.agg #[.int .u64 R0, .int .u64 R1, .int .u64 R2, .int .u64 R3, .int .i64 (t.size : Int), .string (t.extract m t.size), .int .u64 e], .int .i64 0]) ∧ Below u.heap.size u w')
    (h18 : ∀ u, Calls Try.prog 18 #[.agg #[.int .u64 R0, .int .u64 R1, .int .u64 R2, .int .u64 R3, .int .i64 (t.size : Int), .string (t.extract m t.size), .int .u64 e]] u fun x w' => x = .returned (.tuple #[.int .u64 N, .int .i64 0]) ∧ Below u.heap.size u w')
    (h20 : ∀ u, Calls Try.prog 20 #[.agg #[.int .u64 R0, .int .u64 R1, .int .u64 R2, .int .u64 R3, .int .i64 (t.size : Int), .string (t.extract m t.size), .int .u64 e]] u fun x w' => x = .returned (.int .i64 0) ∧ Below u.heap.size u w')
    (h12 : ∀ u, Calls Try.prog 12 #[.string t, .int .u64 e] u fun x w' => x = .returned (.int .u64 N) ∧ Below u.heap.size u w') :
    Calls Try.prog 6 #[.string s, .bool b, .int .u64 e, .int .i64 x, .int .i64 y] w fun r w' => r = .returned (.bool true) ∧ Below w.heap.size w w' := by
  have hm1 := fun v => mod_any x ((t.size : Int) + 1) hx0 hx1 (by omega) (by omega) v
  have hm2 := fun v => mod_any y ((t.size : Int) - p + 1) hy0 hy1 (by omega) (by omega) v
  rw [hx] at hm1
  rw [hy] at hm2
  clear hx hy hx0 hx1 hy0 hy1
  have s1 : wrap64 ((p : Int) + r) = (q : Int) := by rw [hq, IntWalk.wrap64_in _ ⟨by omega, by omega⟩]
  have s2 : ((t.size : Int)).tmod 32 = (t.size : Int) - m := by rw [Int.tmod_eq_emod_of_nonneg (by omega)]; omega
  have s3 : wrap64 ((t.size : Int) - ((t.size : Int) - m)) = (m : Int) := by rw [show (t.size : Int) - ((t.size : Int) - m) = m by omega, IntWalk.wrap64_in _ ⟨by omega, by omega⟩]
  have s4 : IntKind.i64.wrap ((t.size : Int) - ((t.size : Int) - m)) = (m : Int) := by rw [show (t.size : Int) - ((t.size : Int) - m) = m by omega]; exact wraps_i64 _ (by omega) (by omega)
  have s5 : IntKind.i64.wrap (m : Int) = (m : Int) := wraps_i64 _ (by omega) (by omega)
  have s6 : (t.size : Int) - ((t.size : Int) - m) = m := by omega
  have hmt : (m : Int) ≤ (t.size : Int) := by omega
  have hpt : (p : Int) ≤ (t.size : Int) := by omega
  have hqt2 : (q : Int) ≤ (t.size : Int) := by omega
  have hpq2 : (p : Int) ≤ (q : Int) := by omega
  have hs2 : ∀ u, (Instr.slice 9 (.string t) (some (.int .i64 (p : Int))) (some (.int .i64 (q : Int))) none).run Try.prog u = .ok (.string (t.extract p q)) u := fun u => by
    have h := str_cut u t p (q - p) (by omega)
    rw [show (p : Int) + ((q - p : Nat) : Int) = q by omega, show p + (q - p) = q by omega] at h
    exact h
  have hq9 := fun u => eq_arr9999 R0 R1 R2 R3 R0 R1 R2 R3 u
  clear hq hm
  go_enter Try.func6, Try.ntmps6
  go_upto_region 6 with (first
    | (go_at_call 5; (with_reducible refine (known_any _).mono ?_); rintro e w1 ⟨rfl, hb1⟩)
    | (go_at_call 9; (with_reducible refine (h9 _).mono ?_); rintro e w1 ⟨rfl, rfl⟩)
    | (go_at_call 24; (with_reducible refine (hm1 _).mono ?_); rintro e w1 ⟨rfl, rfl⟩))
  go_cut [4] from 21 to 138 (fun y' wx => y' = .int .i64 (q : Int) ∧ Below w.heap.size w wx)
  case first =>
    go_wp2_with (go_at_call 24; (with_reducible refine (hm2 _).mono ?_); rintro e w1 ⟨rfl, rfl⟩)
    go_meet
    exact ⟨by rw [s1], hb1⟩
  case rest =>
   obtain ⟨rfl, hb1⟩ := hcut
   go_upto_region 7 with fail
   go_cut [13, 14] from 21 to 138 (fun p' y' wx => ∃ g, p' = .pointer (some ⟨g, 0, none⟩) ∧ y' = .int .i64 0 ∧ w.heap.size ≤ g ∧ Blk wx g 32 #[.int .u64 P0, .int .u64 P1, .int .u64 P2, .int .u64 P3, .int .i64 (p : Int), .string sa, .int .u64 e] ∧ Below w.heap.size w wx)
   case first =>
     go_region_with (first
       | (go_at_call 22; (with_reducible refine (h22 _).mono ?_); rintro z w2 ⟨rfl, hb2⟩; first | (have A2 := Lib.hid (And.intro (blk_next (blk_drew (blk_new _ 32 #[.int .u64 0, .int .u64 0, .int .u64 0, .int .u64 0, .int .i64 0, .string ⟨#[]⟩, .int .u64 0])) hb2) (below_call (below_box hb1 _).drew hb2))) | (have A2 := Lib.hid (below_call hb1.drew hb2)))
       | (go_at_call 16; (with_reducible refine (h16a _).mono ?_); rintro z w3 ⟨rfl, hb3⟩; first
           | (have J := Lib.hid (And.intro (blk_next A2.out.1 hb3) (below_call A2.out.2 hb3)); obtain ⟨e0, e1, e2, e3, e4, e5, e6⟩ := c7 J.out.1; obtain ⟨b0, b1, b2, b3, b4, b5, b6, _⟩ := z7 J.out.1)
           | (have J := Lib.hid (And.intro (blk_next (blk_new _ 32 #[.int .u64 0, .int .u64 0, .int .u64 0, .int .u64 0, .int .i64 0, .string ⟨#[]⟩, .int .u64 0]) hb3) (below_call (below_box A2.out _) hb3)); obtain ⟨e0, e1, e2, e3, e4, e5, e6⟩ := c7 J.out.1; obtain ⟨b0, b1, b2, b3, b4, b5, b6, _⟩ := z7 J.out.1)
           | (have J := Lib.hid (below_call A2.out hb3))))
     all_goals
       go_wp2_with fail
       simp only [Act.put, List.getElem_toArray, List.getElem_cons_succ, List.getElem_cons_zero, List.setIfInBounds_toArray, List.set_cons_zero, List.set_cons_succ]
       go_meet
       first
         | exact ⟨_, rfl, rfl, by have h1 := hb1.size; have h2 := hb2.size; simp at h2; omega, set7 J.out.1 _ _ _ _ _ _ _, below7 J.out.2 (by have h1 := hb1.size; have h2 := hb2.size; simp at h2; omega) _ _ _ _ _ _ _⟩
         | exact ⟨_, rfl, rfl, J.out.size, blk_new _ _ _, below_box J.out _⟩
   case rest =>
     obtain ⟨g13, rfl, rfl, hg, k, hbw⟩ := hcut
     have K := Lib.hid k
     obtain ⟨c0, c1, c2, c3, c4, c5, c6⟩ := c7 k
     clear k
     go_upto_region 8 with fail
     go_cut [15] from 21 to 138 (fun y' wx => y' = .int .i64 0 ∧ Blk wx g13 32 #[.int .u64 Q0, .int .u64 Q1, .int .u64 Q2, .int .u64 Q3, .int .i64 (q : Int), .string sb, .int .u64 e] ∧ Below w.heap.size w wx)
     case first =>
       go_region_with (go_at_call 16; (with_reducible refine (h16b _).mono ?_); rintro z w2 ⟨rfl, hb2⟩; have J := Lib.hid (blk_next (blk_drew K.out) hb2); obtain ⟨e0, e1, e2, e3, e4, e5, e6⟩ := c7 J.out; obtain ⟨b0, b1, b2, b3, b4, b5, b6, _⟩ := z7 J.out)
       all_goals
         go_wp2_with fail
         simp only [Act.put, List.getElem_toArray, List.getElem_cons_succ, List.getElem_cons_zero, List.setIfInBounds_toArray, List.set_cons_zero, List.set_cons_succ]
         go_meet
         exact ⟨rfl, set7 J.out _ _ _ _ _ _ _, below7 (below_call hbw.drew hb2) hg _ _ _ _ _ _ _⟩
     case rest =>
       clear c0 c1 c2 c3 c4 c5 c6 K
       obtain ⟨rfl, k, hbw⟩ := hcut
       have K := Lib.hid k
       obtain ⟨c0, c1, c2, c3, c4, c5, c6⟩ := c7 k
       clear k
       go_upto_region 9 with fail
       go_cut [16] from 21 to 138 (fun y' wx => y' = .int .i64 0 ∧ Blk wx g13 32 #[.int .u64 R0, .int .u64 R1, .int .u64 R2, .int .u64 R3, .int .i64 (t.size : Int), .string (t.extract m t.size), .int .u64 e] ∧ Below w.heap.size w wx)
       case first =>
         go_region_with (go_at_call 16; (with_reducible refine (h16c _).mono ?_); rintro z w2 ⟨rfl, hb2⟩; have J := Lib.hid (blk_next (blk_drew K.out) hb2); obtain ⟨e0, e1, e2, e3, e4, e5, e6⟩ := c7 J.out; obtain ⟨b0, b1, b2, b3, b4, b5, b6, _⟩ := z7 J.out)
         all_goals
           go_wp2_with fail
           simp only [Act.put, List.getElem_toArray, List.getElem_cons_succ, List.getElem_cons_zero, List.setIfInBounds_toArray, List.set_cons_zero, List.set_cons_succ]
           go_meet
           exact ⟨rfl, set7 J.out _ _ _ _ _ _ _, below7 (below_call hbw.drew hb2) hg _ _ _ _ _ _ _⟩
       case rest =>
         clear c0 c1 c2 c3 c4 c5 c6 K
         obtain ⟨rfl, k, hbw⟩ := hcut
         have K := Lib.hid k
         clear k
         go_upto_region 10 with fail
         go_cut [17, 18] from 21 to 138 (fun p' y' wx => ∃ g, p' = .pointer (some ⟨g, 0, none⟩) ∧ y' = .int .i64 0 ∧ Blk wx g 32 #[.int .u64 R0, .int .u64 R1, .int .u64 R2, .int .u64 R3, .int .i64 (t.size : Int), .string (t.extract m t.size), .int .u64 e] ∧ Blk wx g13 32 #[.int .u64 R0, .int .u64 R1, .int .u64 R2, .int .u64 R3, .int .i64 (t.size : Int), .string (t.extract m t.size), .int .u64 e] ∧ Below w.heap.size w wx)
         case first =>
           go_wp2_with (first
             | (go_at_call 22; (with_reducible refine (h22 _).mono ?_); rintro z w2 ⟨rfl, hb2⟩)
             | (go_at_call 16; (with_reducible refine (h16d _).mono ?_); rintro z w3 ⟨rfl, hb3⟩))
           go_meet
           exact ⟨_, rfl, rfl, blk_new _ _ _, blk_alloc (blk_next (blk_next K.out hb2) hb3) _, below_box (below_call (below_call hbw hb2) hb3) _⟩
         case rest =>
           clear K
           obtain ⟨g17, rfl, rfl, k17, k13, hbw⟩ := hcut
           obtain ⟨c0, c1, c2, c3, c4, c5, c6⟩ := c7 k13
           go_upto_region 12 with (go_at_call 18; (with_reducible refine (h18 _).mono ?_); rintro z w2 ⟨rfl, hb2⟩)
           have K13 := Lib.hid (blk_drew (blk_next k13 hb2))
           have K17 := Lib.hid (blk_drew (blk_next k17 hb2))
           have HB := Lib.hid (below_call hbw hb2)
           clear c0 c1 c2 c3 c4 c5 c6 k13 k17 hbw hb2
           go_region_held3 (fun w' => (w'.cell? ⟨g13, 0, none⟩ = some (.int .u64 R0) ∧ w'.cell? ⟨g13, 1, none⟩ = some (.int .u64 R1) ∧ w'.cell? ⟨g13, 2, none⟩ = some (.int .u64 R2) ∧ w'.cell? ⟨g13, 3, none⟩ = some (.int .u64 R3) ∧ w'.cell? ⟨g13, 4, none⟩ = some (.int .i64 (t.size : Int)) ∧ w'.cell? ⟨g13, 5, none⟩ = some (.string (t.extract m t.size)) ∧ w'.cell? ⟨g13, 6, none⟩ = some (.int .u64 e)) ∧ (w'.cell? ⟨g17, 0, none⟩ = some (.int .u64 R0) ∧ w'.cell? ⟨g17, 1, none⟩ = some (.int .u64 R1) ∧ w'.cell? ⟨g17, 2, none⟩ = some (.int .u64 R2) ∧ w'.cell? ⟨g17, 3, none⟩ = some (.int .u64 R3) ∧ w'.cell? ⟨g17, 4, none⟩ = some (.int .i64 (t.size : Int)) ∧ w'.cell? ⟨g17, 5, none⟩ = some (.string (t.extract m t.size)) ∧ w'.cell? ⟨g17, 6, none⟩ = some (.int .u64 e)))
             (first | (with_reducible exact two7 K13.out K17.out) | (with_reducible exact two7 y13 y17) | (with_reducible exact two7 z13 z17))
             (first
               | (go_at_call 20; (with_reducible refine (h20 _).mono ?_); rintro z w3 ⟨rfl, hb3⟩; have y13 := blk_next K13.out hb3; have y17 := blk_next K17.out hb3)
               | (go_at_call 12; (with_reducible refine (h12 _).mono ?_); rintro z w4 ⟨rfl, hb4⟩; have z13 := blk_next y13 hb4; have z17 := blk_next y17 hb4))
           all_goals
             go_wp2_with fail
             go_ret
             exact ⟨rfl, below_call (below_call HB.out.drew hb3) hb4⟩

theorem parts_any (s : ByteArray) (b : Bool) (e x y : Int) (hS : s.size ≤ 9223372036854775807) (hx0 : -9223372036854775808 ≤ x) (hx1 : x ≤ 9223372036854775807) (hy0 : -9223372036854775808 ≤ y) (hy1 : y ≤ 9223372036854775807) (w : World) :
    Calls Try.prog 6 #[.string s, .bool b, .int .u64 e, .int .i64 x, .int .i64 y] w fun r w' => r = .returned (.bool true) ∧ Below w.heap.size w w' := by
  by_cases h : 200 < s.size
  · exact long6 s b e x y w (decide_eq_true (by omega))
  · have hl := fun u => long_any s b (by omega) u
    obtain ⟨t, ht⟩ : ∃ t, (if b then s ++ s else s) = t := ⟨_, rfl⟩
    have hts : t.size ≤ 400 := by
      rw [← ht]
      cases b
      · simp; omega
      · simp [ByteArray.size_append]; omega
    rw [ht] at hl
    clear ht
    have hxn := Int.emod_nonneg x (show (t.size : Int) + 1 ≠ 0 by omega)
    have hxl := Int.emod_lt_of_pos x (show 0 < (t.size : Int) + 1 by omega)
    obtain ⟨p, hp⟩ := Int.eq_ofNat_of_zero_le hxn
    have hyn := Int.emod_nonneg y (show (t.size : Int) - p + 1 ≠ 0 by omega)
    have hyl := Int.emod_lt_of_pos y (show 0 < (t.size : Int) - p + 1 by omega)
    obtain ⟨r, hr⟩ := Int.eq_ofNat_of_zero_le hyn
    have hp1 : p ≤ t.size := by omega
    have hq1 : p + r ≤ t.size := by omega
    have e1 : (⟨#[]⟩ : ByteArray) ++ t.extract 0 p = t.extract 0 p := ByteArray.empty_append
    have e2 : t.extract 0 p ++ t.extract p (p + r) = t.extract 0 (p + r) := by
      rw [ByteArray.extract_append_extract]; congr 1 <;> omega
    have e3 : t.extract 0 (p + r) ++ t.extract (p + r) t.size = t := by
      rw [ByteArray.extract_append_extract, show min 0 (p + r) = 0 by omega, show max (p + r) t.size = t.size by omega]; simp
    have e4 : (⟨#[]⟩ : ByteArray) ++ t = t := ByteArray.empty_append
    have z1 : (t.extract 0 p).size = p := by rw [ByteArray.size_extract]; omega
    have z2 : (t.extract 0 (p + r)).size = p + r := by rw [ByteArray.size_extract]; omega
    have hst : sT t = t.extract (t.size - t.size % 32) t.size := by
      have h1 := sT_list t
      rw [tl_drop t.size t.data.toList (Nat.le_refl _)] at h1
      rw [← ba_list (sT t), h1, ← ba_list (t.extract _ _), tail_list]
      rfl
    have c1 := fun u => add_s e ⟨#[]⟩ _ _ e1 (p : Int) (by rw [z1]) (by rw [z1]; omega) u
    have c2 := fun u => add_s e _ _ _ e2 ((p + r : Nat) : Int) (by rw [z2]) (by rw [z2]; omega) u
    have c3 := fun u => add_s e _ _ _ e3 (t.size : Int) rfl (by omega) u
    have c4 := fun u => add_s e ⟨#[]⟩ _ _ e4 (t.size : Int) rfl (by omega) u
    have c5 := fun u => sum_s e t (t.size : Int) rfl (by omega) u
    have c6 := fun u => check_s e t (t.size : Int) rfl (by omega) u
    rw [z1] at c2
    rw [z2] at c3
    rw [hst] at c3 c4 c5 c6
    exact parts_law s t b e x y _ p r (p + r) _ _ _ _ _ _ _ _ _ _ _ _ _ _ _ _ _ _ _ _ w (decide_eq_false (by omega)) hp hr (by omega) hx0 hx1 hy0 hy1 hts hp1 (by omega) hq1 rfl hl (fun u => new_s e u) c1 c2 c3 c4 c5 c6 (fun u => seeded_any t e (by omega) u)
end Go.Proofs.Ytgiihdgkejhbeaa
