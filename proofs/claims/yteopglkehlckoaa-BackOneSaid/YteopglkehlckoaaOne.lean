/-
  BackOne: one number put behind the bits of any stream is what is read first, and the rest is as before.
-/
import Derived.Test.YteopglkehlckoaaWrN
import Derived.Deep.RegionHeld3
namespace Go.Proofs.Yteopglkehlckoaa
open Go.ChangeShapes Go.WideShapes Go.ChangeAt Go.RowKit
set_option linter.unusedVariables false

theorem kw1 {w : World} {g : Nat} {t : TypeId} {s : ByteArray} {p q : Int} (h : Blk w g t (at3 s p q)) :
    w.cell? ⟨g, 0, none⟩ = some (.string s) ∧ w.cell? ⟨g, 1, none⟩ = some (.int .i64 p) ∧ w.cell? ⟨g, 2, none⟩ = some (.int .i64 q) := ⟨blk_cell h 0, blk_cell h 1, blk_cell h 2⟩

theorem below_one2 {w u : World} (h : Below w.heap.size w u) (x y : Value) : Below w.heap.size w ((u.setCell ⟨w.heap.size, 1, none⟩ x).setCell ⟨w.heap.size, 2, none⟩ y) := (h.setCell (Nat.le_refl _) _).setCell (Nat.le_refl _) _

set_option maxRecDepth 100000 in
set_option maxHeartbeats 4000000 in
theorem one_inner (S : ByteArray) (part x : Int) (m0 n : Nat) (w : World) (h1 : decide ((20 : Int) < (S.size : Int)) = false) (hS : S.size ≤ 20) (hm0 : m0 ≤ 254) (hn : n ≤ 32)
    (hM : ∀ u, Calls Try.prog 34 #[.int .i64 part, .int .i64 255] u fun e w' => e = .returned (.int .i64 (m0 : Int)) ∧ u = w')
    (hW : ∀ u, Calls Try.prog 32 #[.int .i64 x] u fun e w' => e = .returned (.int .i64 (n : Int)) ∧ u = w')
    (v : Nat) (hv : v < 2 ^ n) (hVl : ∀ u, Calls Try.prog 33 #[.int .i64 x, .int .i64 (n : Int)] u fun e w' => e = .returned (.int .u64 (v : Int)) ∧ u = w') :
    Calls Try.prog 8 #[.string S, .int .i64 part, .int .i64 x] w fun e w' => e = .returned (.bool true) ∧ Below w.heap.size w w' := by
  have HV := Lib.hid hv
  clear hv
  go_enter Try.func8, Try.ntmps8
  go_wp2_with (go_at_call 34; (with_reducible refine (hM _).mono ?_); rintro e w' ⟨rfl, rfl⟩)
  go_loopw [7] (fun i wr => ∃ (m P N : Nat), 1 ≤ m ∧ m ≤ 255 ∧ N ≤ 7 ∧ P ≤ 255 ∧ Hid (m * 2 ^ N ≤ 255 ∧ P < 2 ^ N) ∧ i = .int .i64 (m : Int) ∧ Blk wr w.heap.size 23 (at3 S (P : Int) (N : Int)) ∧ Below w.heap.size w wr) (fun i _ => (intOf i).toNat)
  case atStart => exact ⟨m0 + 1, 0, 0, by omega, by omega, by omega, by omega, ⟨by simp; omega, by simp⟩, by go_num, blk_new w 23 (at3 S 0 0), below_box (Below.refl _ _) _⟩
  case round =>
    obtain ⟨m, P, N, hm1, hm2, hN, hP, hH, rfl, hB, hbw⟩ := hrel
    obtain ⟨⟨d0, d1, d2⟩, f0, f1, f2⟩ := blk3 hB
    by_cases hlt : 2 ≤ m
    · obtain ⟨r1, r2, r3⟩ := part_round m P N hH.out.1 hH.out.2 hlt
      have h2 : 2 ^ (N + 1) ≤ 2 ^ 7 := Nat.pow_le_pow_right (by omega) (by omega)
      have hlt' : (1 : Int) < (m : Int) := by omega
      obtain ⟨p, hp⟩ : ∃ p : Int, (2 : Int) ^ N = p := ⟨_, rfl⟩
      obtain ⟨q, hq⟩ : ∃ q : Nat, q = m % 2 * 2 ^ N := ⟨_, rfl⟩
      have hq2 : (m : Int) % 2 * p = (q : Int) := by rw [← hp, hq]; simp
      rw [← hq] at r3
      have hq3 : q ≤ 128 := by omega
      have hp0 : 0 ≤ p := by have := pow_cast N; omega
      have hp1 : p ≤ 128 := by have := pow_cast N; rw [Nat.pow_succ] at h2; omega
      have hP2 : P + q ≤ 255 := by omega
      have KB := Lib.hid hB
      have HR := Lib.hid (And.intro r2 r3)
      clear r2 r3 hq hB h2 hH
      go_wp2_with fail
      go_roundw
      case rel => exact ⟨m / 2, P + q, N + 1, by omega, by omega, by omega, hP2, HR.out, by go_num, by rw [show ((P + q : Nat) : Int) = (P : Int) + q by omega, show ((N + 1 : Nat) : Int) = (N : Int) + 1 by omega]; exact blk_set (blk_set KB.out 1 _) 2 _, below_one2 hbw _ _⟩
      case measure => simp [intOf]; omega
    · obtain rfl : m = 1 := by omega
      obtain ⟨V, hV, hVS, hVP⟩ := wr_num S P N hN hH.out.2
      obtain ⟨t, ht⟩ : ∃ t, t = 8 * S.size + N := ⟨_, rfl⟩
      rw [← ht] at hV hVS hVP
      have ht1 : t ≤ 200 := by omega
      have htN : t % 8 = N := by omega
      have hv := HV.out
      have hV2 := more_lt V v t n hV hv
      have hPt := fun u => put_step V t n v hV (by omega) hn hv u
      have hDa := fun u => done_step V t hV (by omega) u
      have hDb := fun u => done_step (V + v * 2 ^ t) (t + n) hV2 (by omega) u
      have hRa := fun u => read_step V t 0 hV (by omega) (by omega) u
      have hRb := fun u => read_step (V + v * 2 ^ t) (t + n) 0 hV2 (by omega) (by omega) u
      have hTa := fun a c hc h u => take_step V t 0 a c hV (by omega) (by omega) hc h u
      have hTb := fun a c hc h u => take_step (V + v * 2 ^ t) (t + n) 0 a c hV2 (by omega) (by omega) hc h u
      have hTy := hTb t n hn (Nat.le_refl _)
      rw [more_top V v t n hV hv] at hTy
      simp only [Nat.mul_zero, Nat.zero_add] at hRa hRb hTa hTb hTy
      rw [hVS, hVP, htN] at hPt hDa
      obtain ⟨s', hs'⟩ : ∃ s', s' = WrS (V + v * 2 ^ t) (t + n) := ⟨_, rfl⟩
      obtain ⟨p', hp'⟩ : ∃ p' : Int, p' = (WrP (V + v * 2 ^ t) (t + n) : Nat) := ⟨_, rfl⟩
      obtain ⟨q', hq'⟩ : ∃ q' : Int, q' = ((t + n) % 8 : Nat) := ⟨_, rfl⟩
      rw [← hs', ← hp', ← hq'] at hPt hDb
      have hTc : ∀ a c, c ≤ 32 → a + c ≤ t → ∀ (u : World), Calls Try.prog 14 #[.agg #[.string (StS (V + v * 2 ^ t) (t + n) 0), .int .i64 ((a + c : Nat) : Int)], .int .i64 (c : Int)] u fun x w' =>
          x = .returned (.tuple #[.agg #[.string (StS (V + v * 2 ^ t) (t + n) 0), .int .i64 (a : Int)], .int .u64 ((V / 2 ^ a % 2 ^ c : Nat) : Int), .int .i64 0]) ∧ Below u.heap.size u w' := fun a c hc h u => by
        have k := hTb a c hc (by omega) u
        rw [more_num V v t a c h] at k
        exact k
      obtain ⟨sa, hsa⟩ : ∃ sa, sa = StS V t 0 := ⟨_, rfl⟩
      obtain ⟨sb, hsb⟩ : ∃ sb, sb = StS (V + v * 2 ^ t) (t + n) 0 := ⟨_, rfl⟩
      rw [← hsa] at hDa hRa hTa
      rw [← hsb] at hDb hRb hTc hTy
      obtain ⟨T2, hT2⟩ : ∃ T2, T2 = t + n := ⟨_, rfl⟩
      rw [← hT2] at hRb hTy
      have hT3 : T2 ≤ 240 := by omega
      clear hT2
      have HTA := Lib.hid hTa
      have HTC := Lib.hid hTc
      have KB := Lib.hid hB
      have hgl := blk_lt hB
      clear hTa hTc hTb hV hVS hVP hV2 hv hs' hp' hq' hsa hsb hH hB hlt ht htN
      go_wp2_with (go_at_call 32; (with_reducible refine (hW _).mono ?_); rintro e w' ⟨rfl, rfl⟩)
      go_region_held3 (fun w' => w'.cell? ⟨w.heap.size, 0, none⟩ = some (.string S) ∧ w'.cell? ⟨w.heap.size, 1, none⟩ = some (.int .i64 (P : Int)) ∧ w'.cell? ⟨w.heap.size, 2, none⟩ = some (.int .i64 (N : Int))) (first | (with_reducible exact kw1 KB.out) | (with_reducible exact kw1 (blk_drew KB.out)) | (with_reducible exact kw1 (blk_drew (blk_alloc KB.out _))) | (with_reducible exact kw1 n2) | (with_reducible exact kw1 (blk_alloc n2 _)) | (with_reducible exact kw1 (blk3_far n2 (by omega) _ _ _)))
        (first
          | (go_at_call 33; (with_reducible refine (hVl _).mono ?_); rintro e w' ⟨rfl, rfl⟩)
          | (go_at_call 9; (with_reducible refine (hPt _).mono ?_); rintro e w2 ⟨rfl, hb2⟩; have z2 : Blk w2 wr.heap.size 23 #[.string ⟨#[]⟩, .int .i64 0, .int .i64 0] := (by with_reducible exact blk_next (blk_drew (blk_new wr 23 #[.string ⟨#[]⟩, .int .i64 0, .int .i64 0])) hb2); have n2 : Blk w2 w.heap.size 23 (at3 S (P : Int) (N : Int)) := blk_next (blk_drew (blk_alloc KB.out _)) hb2; obtain ⟨⟨z20, z21, z22⟩, z23, z24, z25⟩ := blk3 (s := ⟨#[]⟩) (p := 0) (n := 0) z2)
          | (go_at_call 9; (with_reducible refine (hPt _).mono ?_); rintro e w2 ⟨rfl, hb2⟩; have n2 : Blk w2 w.heap.size 23 (at3 S (P : Int) (N : Int)) := blk_next (blk_drew KB.out) hb2))
      all_goals
        first
          | (have tA := blk3_set (s' := s') (p' := p') (n' := q') z2
             have nA := blk3_far (h := wr.heap.size) n2 (by omega) (.string s') (.int .i64 p') (.int .i64 q')
             have bA := below3 (h := wr.heap.size) (below_call ((below_box hbw _).drew) hb2) hbw.size (.string s') (.int .i64 p') (.int .i64 q')
             clear z20 z21 z22 z23 z24 z25 z2)
          | (have tA := blk_new w2 23 (at3 s' p' q')
             have nA := blk_alloc n2 (.cells (at3 s' p' q') 23)
             have bA := below_box (below_call hbw.drew hb2) (.cells (at3 s' p' q') 23))
        obtain ⟨⟨e0, e1, e2⟩, _⟩ := blk3 nA
        have TA := Lib.hid tA
        have BA := Lib.hid bA
        clear tA nA bA n2 hb2
        go_wp2_with (first
          | (go_at_call 22; (with_reducible refine (hDa _).mono ?_); rintro e w3 ⟨rfl, hb3⟩; have k10 := blk_next TA.out hb3; obtain ⟨⟨a0, a1, a2⟩, _⟩ := blk3 k10)
          | (go_at_call 22; (with_reducible refine (hDb _).mono ?_); rintro e w4 ⟨rfl, hb4⟩)
          | (go_at_call 13; (with_reducible refine (hRa _).mono ?_); rintro e w5 ⟨rfl, hb5⟩)
          | (go_at_call 13; (with_reducible refine (hRb _).mono ?_); rintro e w6 ⟨rfl, hb6⟩; have k16 := blk_next (blk_new w5 32 #[.string sa, .int .i64 (t : Int)]) hb6; have l16 := blk_lt k16)
          | (go_at_call 14; (with_reducible refine (hTy _).mono ?_); rintro e w7 ⟨rfl, hb7⟩; have k16 := blk_next (blk_alloc k16 _) hb7; obtain ⟨x0, x1, _⟩ := blk2 k16; have k17 := blk_next (blk_new w6 32 #[.string sb, .int .i64 (T2 : Int)]) hb7; obtain ⟨y0, y1, y2, y3⟩ := blk2 k17)
          | (go_at_call 33; (with_reducible refine (hVl _).mono ?_); rintro e w' ⟨rfl, rfl⟩))
        have b4 := below_call (below_call BA.out hb3) hb4
        have b5 := below_call b4 hb5
        have b6 := below_call (below_box b5 _) hb6
        have b7 := below_call (below_box b6 _) hb7
        have hg5 : w.heap.size ≤ w5.heap.size := b5.size
        have hg6 : w.heap.size ≤ w6.heap.size := b6.size
        have hne : w5.heap.size < w6.heap.size := by have := hb6.size; simp at this; omega
        have K16 := Lib.hid (blk2_far k16 (h := w6.heap.size) (by omega) (.string sb) (.int .i64 (t : Int)))
        have K17 := Lib.hid (blk2_set sb (t : Int) k17)
        have B7 := Lib.hid (below2 (h := w6.heap.size) b7 hg6 (.string sb) (.int .i64 (t : Int)))
        clear b4 b5 b6 b7 hb3 hb4 hb5 hb6 hb7 k16 k17 x0 x1 y0 y1 y2 y3 k10 a0 a1 a2 e0 e1 e2 TA BA hDa hDb hRa hRb hTy hPt hVl hW hM KB
        go_loopw [] (fun wr => ∃ l : Nat, l ≤ t ∧ Blk wr w5.heap.size 32 #[.string sa, .int .i64 (l : Int)] ∧ Blk wr w6.heap.size 32 #[.string sb, .int .i64 (l : Int)] ∧ Below w.heap.size w wr) (fun wr => (intOf ((wr.cell? ⟨w5.heap.size, 1, none⟩).getD undef)).toNat)
        case atStart => exact ⟨t, by omega, K16.out, K17.out, B7.out⟩
        case round =>
          obtain ⟨l, hl, hA, hB, hbw⟩ := hrel
          obtain ⟨d0, d1, d2, d3⟩ := blk2 hA
          obtain ⟨e0, e1, e2, e3⟩ := blk2 hB
          by_cases hl0 : 0 < l
          · obtain ⟨c, hc⟩ : ∃ c, c = min l 13 := ⟨_, rfl⟩
            obtain ⟨a, ha⟩ : ∃ a, l = a + c := ⟨l - c, by omega⟩
            have hc32 : c ≤ 32 := by omega
            have hal : a < l := by omega
            have hA1 := HTA.out a c hc32 (by omega)
            have hB1 := HTC.out a c hc32 (by omega)
            rw [← ha] at hA1 hB1
            obtain ⟨X, hX⟩ : ∃ X, X = V / 2 ^ a % 2 ^ c := ⟨_, rfl⟩
            rw [← hX] at hA1 hB1
            have hmin : ∀ ts ty w, (Builtin.min_ ts ty #[.int .i64 (l : Int), .int .i64 13]).run Try.prog w = .ok (.int .i64 (c : Int)) w := fun ts ty w => by
              rw [run_min_int2]
              congr 2
              split <;> omega
            have hl0' : (0 : Int) < (l : Int) := by omega
            have hal' : (a : Int) < (l : Int) := by omega
            have KA := Lib.hid hA
            have KB := Lib.hid hB
            have la := blk_lt hA
            have lb := blk_lt hB
            clear hc ha hX hA hB
            go_wp2_with (first
              | (go_at_call 14; (with_reducible refine (hA1 _).mono ?_); rintro e w8 ⟨rfl, hb8⟩; have kA := blk_next KA.out hb8; have kB := blk_next KB.out hb8; obtain ⟨m0, m1, _⟩ := blk2 kA; obtain ⟨n0, n1, _⟩ := blk2 kB; have la8 := blk_lt kA; have lb8 := blk_lt kB)
              | (go_at_call 14; (with_reducible refine (hB1 _).mono ?_); rintro e w9 ⟨rfl, hb9⟩; have kA := blk_alloc (blk_next (blk_alloc kA _) hb9) (.cells #[.string sb, .int .i64 (a : Int)] 32); have kB := blk_alloc (blk_next (blk_alloc kB _) hb9) (.cells #[.string sb, .int .i64 (a : Int)] 32); have k19 := blk_alloc (blk_next (blk_new w8 32 #[.string sa, .int .i64 (a : Int)]) hb9) (.cells #[.string sb, .int .i64 (a : Int)] 32); obtain ⟨p0, p1, p2, p3⟩ := blk2 kA; obtain ⟨q0, q1, q2, q3⟩ := blk2 kB; obtain ⟨r0, r1, _⟩ := blk2 k19; have l19 := blk_lt k19))
            have hbw9 := below_box (below_call (below_box (below_call hbw hb8) (.cells #[.string sa, .int .i64 (a : Int)] 32)) hb9) (.cells #[.string sb, .int .i64 (a : Int)] 32)
            have B9 := Lib.hid hbw9
            have A9 := Lib.hid kA
            have C9 := Lib.hid kB
            have hs9 := (blk_cell k19 0)
            have hs9' := (blk_cell k19 1)
            have k22 := blk_new w9 32 #[.string sb, .int .i64 (a : Int)]
            obtain ⟨t0, t1, _⟩ := blk2 k22
            have z9 := hb9.size
            simp at z9
            have ne1 : ¬ w5.heap.size = w6.heap.size := by omega
            have ne2 : ¬ w6.heap.size = w5.heap.size := by omega
            have ne3 : ¬ w5.heap.size = w9.heap.size := by omega
            have ne4 : ¬ w9.heap.size = w5.heap.size := by omega
            have ne5 : ¬ w6.heap.size = w9.heap.size := by omega
            have ne6 : ¬ w9.heap.size = w6.heap.size := by omega
            have ne7 : ¬ w5.heap.size = w8.heap.size := by omega
            have ne8 : ¬ w8.heap.size = w5.heap.size := by omega
            have ne9 : ¬ w6.heap.size = w8.heap.size := by omega
            have ne10 : ¬ w8.heap.size = w6.heap.size := by omega
            clear kA kB k19 k22 hb8 hb9 hbw hbw9 KA KB m0 m1 n0 n1
            go_region
            all_goals
              go_wp2
              go_roundw
              case rel => exact ⟨a, by omega, by first | (with_reducible exact blk_drew (blk2_far (blk2_set sa _ A9.out) (by omega) _ _)) | (with_reducible exact blk_drew (blk2_set sa _ (blk2_far A9.out (by omega) _ _))), by first | (with_reducible exact blk_drew (blk2_set sb _ (blk2_far C9.out (by omega) _ _))) | (with_reducible exact blk_drew (blk2_far (blk2_set sb _ C9.out) (by omega) _ _)), by first | (with_reducible exact (below2 (below2 B9.out hg5 _ _) hg6 _ _).drew) | (with_reducible exact (below2 (below2 B9.out hg6 _ _) hg5 _ _).drew)⟩
              case measure =>
                have hm := (blk2 (blk_drew (blk2_far (h := w6.heap.size) (blk2_set sa (a : Int) A9.out) (by omega) (.string sb) (.int .i64 (a : Int))))).2.1
                have hm2 := (blk2 (blk_drew (blk2_set sa (a : Int) (blk2_far (h := w6.heap.size) A9.out (by omega) (.string sb) (.int .i64 (a : Int)))))).2.1
                first
                  | (rw [hm, d1]; simp [intOf]; omega)
                  | (rw [hm2, d1]; simp [intOf]; omega)
          · obtain rfl : l = 0 := by omega
            go_wp2_with (go_at_call 19; (with_reducible refine (awake_any _).mono ?_); rintro e w8 ⟨rfl, hb8⟩)
            go_ret
            exact ⟨rfl, below_call hbw hb8⟩

theorem one_any (S : ByteArray) (part x : Int) (hS : S.size ≤ maxLen) (r1 : -9223372036854775808 ≤ part ∧ part ≤ 9223372036854775807) (r2 : -9223372036854775808 ≤ x ∧ x ≤ 9223372036854775807) (w : World) :
    Calls Try.prog 8 #[.string S, .int .i64 part, .int .i64 x] w fun e w' => e = .returned (.bool true) ∧ Below w.heap.size w w' := by
  by_cases h1 : 20 < S.size
  · exact one_long S part x w (decide_eq_true (by omega))
  · have hM := fun u => mod_any part 255 r1.1 r1.2 (by omega) (by omega) u
    obtain ⟨m, hm⟩ := Int.eq_ofNat_of_zero_le (show 0 ≤ part % 255 by omega)
    rw [hm] at hM
    exact one_inner S part x m (szN x) w (decide_eq_false (by omega)) (by omega) (by omega) (szN_le x) hM (fun u => width_any x r2.1 r2.2 u) (vmN x (szN x)) (vmN_lt _ _) (fun u => value_any x (szN x) (szN_le x) r2.1 r2.2 u)
end Go.Proofs.Yteopglkehlckoaa
