/-
  BackTurns: what was written is read in the opposite order; at most 12 numbers, of any list.
-/
import Derived.Test.YteopglkehlckoaaVal
import Derived.Deep.RegionHeld3
namespace Go.Proofs.Yteopglkehlckoaa
open Go.ChangeShapes Go.WideShapes Go.ChangeAt Go.RowKit
set_option linter.unusedVariables false

theorem kt {w : World} {g : Nat} {t : TypeId} {s : ByteArray} {p : Int} (h : Blk w g t #[.string s, .int .i64 p]) : w.cell? ⟨g, 0, none⟩ = some (.string s) ∧ w.cell? ⟨g, 1, none⟩ = some (.int .i64 p) := ⟨blk_cell h 0, blk_cell h 1⟩

set_option maxRecDepth 100000 in
set_option maxHeartbeats 4000000 in
theorem turns_inner (A : Option Addr) (len cap : Nat) (zeros : Int) (z : Nat) (xs : List Int) (w : World) (hl : xs.length = len) (hlm : len ≤ 9223372036854775807) (hat : RowAt w w.heap.size A xs) (hr : ∀ x ∈ xs, -9223372036854775808 ≤ x ∧ x ≤ 9223372036854775807)
    (hz : z ≤ 9) (hZ : ∀ u, Calls Try.prog 34 #[.int .i64 zeros, .int .i64 10] u fun e w' => e = .returned (.int .i64 (z : Int)) ∧ u = w') :
    Calls Try.prog 6 #[.slice A len cap, .int .i64 zeros] w fun e w' => e = .returned (.bool true) ∧ Below w.heap.size w w' := by
  have hmk := run_make_row' (P := Try.prog) 53 5 (.int .u8 0) 1 Try.underlying53 infoByte rfl .i64 .i64 z (by omega) (by omega)
  have HL := Lib.hid hl
  have HAT := Lib.hid hat
  have HR := Lib.hid hr
  clear hl hat hr
  go_enter Try.func6, Try.ntmps6
  go_wp2_with fail
  go_loopw [6, 7] (fun m i wr => ∃ (k t V : Nat) (s : ByteArray) (p q : Int), k ≤ len ∧ k ≤ 12 ∧ t ≤ 32 * k ∧ Hid (t = totL (xs.take k)) ∧ Hid (V = valM (xs.take k)) ∧ Hid (s = WrS V t) ∧ Hid (p = (WrP V t : Nat)) ∧ Hid (q = (t % 8 : Nat)) ∧ m = .int .i64 (t : Int) ∧ i = .int .i64 (k : Int) ∧ Blk wr w.heap.size 23 (at3 s p q) ∧ Below w.heap.size w wr) (fun _ i _ => 12 - (intOf i).toNat)
  case atStart => exact ⟨0, 0, 0, ⟨#[]⟩, 0, 0, by omega, by omega, by omega, rfl, rfl, ws0, wp0, rfl, rfl, rfl, blk_new w 23 (at3 ⟨#[]⟩ 0 0), below_box (Below.refl _ _) _⟩
  case round =>
    obtain ⟨k, t, V, s, p, q, hk, hk2, ht, hT, hV, hs, hp, hq, rfl, rfl, hB, hbw⟩ := hrel
    have hgl := blk_lt hB
    by_cases hlt : k < len ∧ k < 12
    · obtain ⟨hlt, h12⟩ := hlt
      obtain ⟨b, off, rfl, hbb, hc⟩ := HAT.out (by rw [HL.out]; omega)
      obtain ⟨x, hx⟩ : ∃ x, x = xs.getD k 0 := ⟨_, rfl⟩
      have hcx : wr.cell? ⟨b, off + k, none⟩ = some (.int .i64 x) := by rw [hx]; exact (hbw.cell (p := ⟨b, off + k, none⟩) hbb).trans (hc k (by rw [HL.out]; omega))
      obtain ⟨x0, x1⟩ := HR.out x (by rw [hx, List.getD_eq_getElem?_getD, List.getElem?_eq_getElem (by rw [HL.out]; omega)]; simp)
      have hlt' : (k : Int) < (len : Int) := by omega
      obtain ⟨n, hn⟩ : ∃ n, n = szN x := ⟨_, rfl⟩
      have hn1 : n ≤ 32 := by rw [hn]; exact szN_le x
      obtain ⟨v, hv⟩ : ∃ v, v = vmN x n := ⟨_, rfl⟩
      have hSz := fun u => width_any x x0 x1 u
      have hVl := fun u => value_any x n hn1 x0 x1 u
      rw [← hn] at hSz
      rw [← hv] at hVl
      have hPt := fun u => put_step V t n v (by rw [hV.out, hT.out]; exact valM_lt _) (by omega) hn1 (by rw [hv]; exact vmN_lt x n) u
      rw [show WrS V t = s from hs.out.symm, show (WrP V t : Int) = p from hp.out.symm, show ((t % 8 : Nat) : Int) = q from hq.out.symm] at hPt
      obtain ⟨s', hs'⟩ : ∃ s', s' = WrS (V + v * 2 ^ t) (t + n) := ⟨_, rfl⟩
      obtain ⟨p', hp'⟩ : ∃ p' : Int, p' = (WrP (V + v * 2 ^ t) (t + n) : Nat) := ⟨_, rfl⟩
      obtain ⟨q', hq'⟩ : ∃ q' : Int, q' = ((t + n) % 8 : Nat) := ⟨_, rfl⟩
      rw [← hs', ← hp', ← hq'] at hPt
      have HN := Lib.hid (And.intro hx (And.intro hn hv))
      have HS := Lib.hid (And.intro hs' (And.intro hp' hq'))
      have KB := Lib.hid hB
      have KC := Lib.hid hcx
      have hbl : b < wr.heap.size := World.block_lt_of_cell? wr _ hcx
      clear hx hn hv hs' hp' hq' hB
      go_wp2_with ((go_at_call 32; (with_reducible refine (hSz _).mono ?_); rintro e w' ⟨rfl, rfl⟩))
      clear hcx
      go_region_held3 (fun w' => w'.cell? ⟨w.heap.size, 0, none⟩ = some (.string s) ∧ w'.cell? ⟨w.heap.size, 1, none⟩ = some (.int .i64 p) ∧ w'.cell? ⟨w.heap.size, 2, none⟩ = some (.int .i64 q) ∧ w'.cell? ⟨b, off + k, none⟩ = some (.int .i64 x)) (first | (with_reducible exact kc KB.out KC.out) | (with_reducible exact kc (blk_drew KB.out) (cell_drew KC.out)) | (with_reducible exact kc (blk_drew (blk_alloc KB.out _)) (cell_drew (cell_alloc KC.out _))) | (with_reducible exact kc n2 c2) | (with_reducible exact kc (blk_alloc n2 _) (cell_alloc c2 _)) | (with_reducible exact kc (blk3_far n2 (by omega) _ _ _) (cell3_far c2 (by omega) _ _ _)))
        (first
          | (go_at_call 33; (with_reducible refine (hVl _).mono ?_); rintro e w' ⟨rfl, rfl⟩)
          | (go_at_call 9; (with_reducible refine (hPt _).mono ?_); rintro e w2 ⟨rfl, hb2⟩; have z2 : Blk w2 wr.heap.size 23 #[.string ⟨#[]⟩, .int .i64 0, .int .i64 0] := (by with_reducible exact blk_next (blk_drew (blk_new wr 23 #[.string ⟨#[]⟩, .int .i64 0, .int .i64 0])) hb2); have n2 : Blk w2 w.heap.size 23 (at3 s p q) := blk_next (blk_drew (blk_alloc KB.out _)) hb2; have c2 : w2.cell? ⟨b, off + k, none⟩ = some (.int .i64 x) := cell_next (cell_drew (cell_alloc KC.out _)) hb2; obtain ⟨⟨z20, z21, z22⟩, z23, z24, z25⟩ := blk3 (s := ⟨#[]⟩) (p := 0) (n := 0) z2)
          | (go_at_call 9; (with_reducible refine (hPt _).mono ?_); rintro e w2 ⟨rfl, hb2⟩; have n2 : Blk w2 w.heap.size 23 (at3 s p q) := blk_next (blk_drew KB.out) hb2; have c2 : w2.cell? ⟨b, off + k, none⟩ = some (.int .i64 x) := cell_next (cell_drew KC.out) hb2))
      all_goals
        first
          | (have tA := blk3_set (s' := s') (p' := p') (n' := q') z2
             have nA := blk3_far (h := wr.heap.size) n2 (by omega) (.string s') (.int .i64 p') (.int .i64 q')
             have bA := below3 (h := wr.heap.size) (below_call ((below_box hbw _).drew) hb2) hbw.size (.string s') (.int .i64 p') (.int .i64 q')
             have BB := Lib.hid bA
             have N2 := Lib.hid nA
             clear z20 z21 z22 z23 z24 z25 z2 c2)
          | (have tA := blk_new w2 23 (at3 s' p' q')
             have nA := blk_alloc n2 (.cells (at3 s' p' q') 23)
             have bA := below_box (below_call hbw.drew hb2) (.cells (at3 s' p' q') 23)
             obtain ⟨_, g0, g1, g2⟩ := blk3 n2
             have l2 := blk_lt n2
             have BB := Lib.hid (below_call hbw.drew hb2)
             have N2 := Lib.hid n2
             clear c2)
        obtain ⟨⟨a0, a1, a2⟩, _⟩ := blk3 tA
        obtain ⟨_, f0, f1, f2⟩ := blk3 nA
        have e0 := blk_cell nA 0
        have e1 := blk_cell nA 1
        have e2 := blk_cell nA 2
        have NA := Lib.hid nA
        have BA := Lib.hid bA
        clear tA nA bA n2 hb2
        go_wp2_with fail
        go_roundw
        case rel =>
          obtain ⟨hx, hn, hv⟩ := HN.out
          obtain ⟨hs', hp', hq'⟩ := HS.out
          have hkx : k < xs.length := by rw [HL.out]; exact hlt
          have hxx : x = xs[k] := by rw [hx, List.getD_eq_getElem?_getD, List.getElem?_eq_getElem hkx]; rfl
          exact ⟨k + 1, t + n, V + v * 2 ^ t, s', p', q', by omega, by omega, by omega, by show _ = _; rw [tot_take xs k hkx, hT.out, hn, hxx], by show _ = _; rw [valM_take xs k hkx, hV.out, hv, hT.out, hn, hxx], hs', hp', hq', by go_num, by go_num, by first | (with_reducible exact blk3_set NA.out) | (with_reducible exact blk_alloc (blk3_set N2.out) _), by first | (with_reducible exact below3 BA.out (Nat.le_refl _) _ _ _) | (with_reducible exact below_box (below3 BB.out (Nat.le_refl _) _ _ _) _)⟩
        case measure => simp [intOf]; omega
    · have hVt : V < 2 ^ t := by rw [hV.out, hT.out]; exact valM_lt _
      have hD := fun u => done_step V t hVt (by omega) u
      rw [← hs.out, ← hp.out, ← hq.out] at hD
      have hBt := fun u => bits_step V t hVt (by omega) u
      have hRd := fun u => read_step V t z hVt (by omega) hz u
      have hTk := fun a n hn h u => take_step V t z a n hVt (by omega) hz hn h u
      have hcv := fun u => zeros_string z u
      rw [← StS_zero] at hRd
      have hz0 : ((StS V t 0).size : Int) = (t : Int) / 8 + 1 := by rw [StS_size]; omega
      obtain ⟨Z0, hZ0⟩ : ∃ Z0, Z0 = StS V t 0 := ⟨_, rfl⟩
      obtain ⟨B, hB0⟩ : ∃ B : ByteArray, B = ⟨(leB 0 z).toArray⟩ := ⟨_, rfl⟩
      have hBs : B.size ≤ 9 := by rw [hB0]; show (leB 0 z).toArray.size ≤ 9; simp [leB_length]; omega
      rw [← hZ0] at hD hBt hRd hz0
      rw [← hB0] at hcv hRd
      have hZZ : B ++ Z0 = StS V t z := by rw [hB0, hZ0]; exact StS_zero V t z
      obtain ⟨ZZ, hZZ2⟩ : ∃ ZZ, ZZ = StS V t z := ⟨_, rfl⟩
      have hRd2 : ∀ u, Calls Try.prog 13 #[.string (B ++ Z0)] u fun x w' => x = .returned (.tuple #[.agg #[.string ZZ, .int .i64 ((8 * z + t : Nat) : Int)], .int .i64 0]) ∧ Below u.heap.size u w' := by
        rw [hZZ2, ← hZZ]; exact hRd
      rw [← hZZ2] at hTk
      obtain ⟨L, hL⟩ : ∃ L, L = 8 * z + t := ⟨_, rfl⟩
      rw [← hL] at hRd2
      have hz1 : Z0.size ≤ 100 := by omega
      have hchk : ((Z0.size : Int) != (t : Int) / 8 + 1) = false := by rw [bne_eq_false_iff_eq]; exact hz0
      have HTK := Lib.hid hTk
      have HLL := Lib.hid hL
      have HV2 := Lib.hid hV.out
      have HT2 := Lib.hid hT.out
      obtain ⟨⟨c0, c1, c2⟩, _⟩ := blk3 hB
      have hstop : len ≤ k ∨ (k < len ∧ 12 ≤ k) := by omega
      clear hs hp hq hB hT hV hVt hRd hTk hZ0 hB0 hZZ hZZ2 hL hz0 hlt
      rcases hstop with hst | ⟨hst, hst2⟩
      all_goals
        go_wp2_with (first
          | (go_at_call 22; (with_reducible refine (hD _).mono ?_); rintro e w2 ⟨rfl, hb2⟩)
          | (go_at_call 24; (with_reducible refine (hBt _).mono ?_); rintro e w' ⟨rfl, rfl⟩)
          | (go_at_call 34; (with_reducible refine (hZ _).mono ?_); rintro e w' ⟨rfl, rfl⟩)
          | (go_at_call 13; (with_reducible refine (hRd2 _).mono ?_); rintro e w3 ⟨rfl, hb3⟩))
        have b2 := below_call hbw hb2
        have b3 := below_call (below_box b2 _) hb3
        have hg3 : w.heap.size ≤ w3.heap.size := b3.size
        clear hb2 hb3 hbw b2 c0 c1 c2
        go_loopw [16] (fun i wr => ∃ (j l : Nat) (y : Int), j ≤ k ∧ y = (j : Int) - 1 ∧ l ≤ 1000 ∧ Hid (l = 8 * z + totL (xs.take j)) ∧ i = .int .i64 y ∧ Blk wr w3.heap.size 32 #[.string ZZ, .int .i64 (l : Int)] ∧ Below w.heap.size w wr) (fun i _ => (intOf i + 1).toNat)
        case atStart => exact ⟨k, L, (k : Int) - 1, by omega, rfl, by have := HLL.out; omega, by show _ = _; rw [HLL.out, HT2.out], rfl, blk_new w3 32 #[.string ZZ, .int .i64 (L : Int)], below_box b3 _⟩
        case round =>
          obtain ⟨j, l, y, hj, hy, hl0, hl, rfl, hB, hbw⟩ := hrel
          have hgl := blk_lt hB
          obtain ⟨d0, d1, f0, f1⟩ := blk2 hB
          by_cases hj0 : 0 < j
          · obtain ⟨j, rfl⟩ : ∃ i, j = i + 1 := ⟨j - 1, by omega⟩
            obtain rfl : y = (j : Int) := by omega
            clear hy
            obtain ⟨b, off, rfl, hbb, hc⟩ := HAT.out (by rw [HL.out]; omega)
            obtain ⟨x, hx⟩ : ∃ x, x = xs.getD j 0 := ⟨_, rfl⟩
            have hcx : wr.cell? ⟨b, off + j, none⟩ = some (.int .i64 x) := by rw [hx]; exact (hbw.cell (p := ⟨b, off + j, none⟩) hbb).trans (hc j (by rw [HL.out]; omega))
            obtain ⟨x0, x1⟩ := HR.out x (by rw [hx, List.getD_eq_getElem?_getD, List.getElem?_eq_getElem (by rw [HL.out]; omega)]; simp)
            have hlt' : (j : Int) < (len : Int) := by omega
            have hkx : j < xs.length := by rw [HL.out]; omega
            have hxx : x = xs[j] := by rw [hx, List.getD_eq_getElem?_getD, List.getElem?_eq_getElem hkx]; rfl
            obtain ⟨n, hn⟩ : ∃ n, n = szN x := ⟨_, rfl⟩
            have hn1 : n ≤ 32 := by rw [hn]; exact szN_le x
            obtain ⟨v, hv⟩ : ∃ v, v = vmN x n := ⟨_, rfl⟩
            have hSz := fun u => width_any x x0 x1 u
            have hVl := fun u => value_any x n hn1 x0 x1 u
            rw [← hn] at hSz
            rw [← hv] at hVl
            obtain ⟨a, ha⟩ : ∃ a, a = totL (xs.take j) := ⟨_, rfl⟩
            have hla : l = 8 * z + a + n := by rw [hl.out, tot_take xs j hkx, ha, hn, hxx]; omega
            have han : a + n = totL ((xs.take k).take (j + 1)) := by rw [List.take_take, Nat.min_eq_left (by omega), tot_take xs j hkx, ha, hn, hxx]
            have htt : a + n ≤ t := by
              rw [han, HT2.out]
              have h := totL_append ((xs.take k).take (j + 1)) ((xs.take k).drop (j + 1))
              rw [List.take_append_drop] at h
              omega
            have hTk := fun u => HTK.out a n hn1 htt u
            have hky : j < (xs.take k).length := by rw [List.length_take]; omega
            have hnum : V / 2 ^ a % 2 ^ n = v := by
              have h := valM_read (xs.take k) j hky
              rw [List.take_take, Nat.min_eq_left (by omega), List.getElem_take, ← ha, ← hxx, ← hn, ← hv, ← HV2.out] at h
              exact h
            rw [hnum, ← hla] at hTk
            obtain ⟨l', hl'⟩ : ∃ l', l' = 8 * z + a := ⟨_, rfl⟩
            rw [← hl'] at hTk
            have hl0' : l' ≤ 1000 := by omega
            have HN := Lib.hid (And.intro hl' ha)
            have KB := Lib.hid hB
            have KC := Lib.hid hcx
            have hbl : b < wr.heap.size := World.block_lt_of_cell? wr _ hcx
            clear hx hn hv hxx hB ha hla han htt hkx hky hnum hl' hl
            go_wp2_with (first
              | (go_at_call 32; (with_reducible refine (hSz _).mono ?_); rintro e w' ⟨rfl, rfl⟩)
              | (go_at_call 33; (with_reducible refine (hVl _).mono ?_); rintro e w' ⟨rfl, rfl⟩)
              | (go_at_call 14; (with_reducible refine (hTk _).mono ?_); rintro e w4 ⟨rfl, hb4⟩; have k4 := blk_alloc (blk_next KB.out hb4) (.cells #[.string ZZ, .int .i64 (l' : Int)] 32); have c4 := cell_alloc (cell_next KC.out hb4) (.cells #[.string ZZ, .int .i64 (l' : Int)] 32); have c5 := cell_next KC.out hb4; obtain ⟨m0, m1, g0, g1⟩ := blk2 k4; have l4 := hb4.size; have K4 := Lib.hid k4; clear k4))
            go_roundw
            case rel => exact ⟨j, l', (j : Int) - 1, by omega, rfl, hl0', by show _ = _; rw [HN.out.1, HN.out.2], by go_num, blk2_set ZZ _ K4.out, below2 (below_box (below_call hbw hb4) _) hg3 _ _⟩
            case measure => first | (simp [intOf]; done) | (simp [intOf]; omega)
          · obtain rfl : j = 0 := by omega
            obtain rfl : y = -1 := by omega
            clear hy
            have hl2 : l = 8 * z := by rw [hl.out]; simp [totL]
            obtain ⟨c, hc⟩ : ∃ c : Int, c = (l : Int) := ⟨_, rfl⟩
            have hwr : IntKind.i64.wrap (8 * (z : Int)) = c := by rw [IntWalk.i64_in _ ⟨by omega, by omega⟩]; omega
            rw [← hc] at hB d1
            have KB := Lib.hid hB
            clear hl hB hl2 hc
            clear hD hBt hRd2 hcv hmk hchk HTK HLL HV2 HT2 HL HAT HR b3 hz1 hBs hl0 hj0 hj hk ht hk2
            go_wp2_with fail
            go_region_held3 (fun w' => w'.cell? ⟨w3.heap.size, 0, none⟩ = some (.string ZZ) ∧ w'.cell? ⟨w3.heap.size, 1, none⟩ = some (.int .i64 c)) (first | (with_reducible exact kt KB.out) | (with_reducible exact kt (blk_drew KB.out)) | (with_reducible exact kt n2))
              (first
                | (go_at_call 34; (with_reducible refine (hZ _).mono ?_); rintro e w' ⟨rfl, rfl⟩)
                | (go_at_call 19; (with_reducible refine (awake_any _).mono ?_); rintro e w5 ⟨rfl, hb5⟩; have n2 := blk_next (blk_drew KB.out) hb5))
            go_wp2
            go_ret
            exact ⟨rfl, below_call hbw.drew hb5⟩

theorem turns_any (A : Option Addr) (len cap : Nat) (zeros : Int) (xs : List Int) (w : World) (hl : xs.length = len) (hlm : len ≤ 9223372036854775807) (hat : RowAt w w.heap.size A xs) (hr : ∀ x ∈ xs, -9223372036854775808 ≤ x ∧ x ≤ 9223372036854775807)
    (r : -9223372036854775808 ≤ zeros ∧ zeros ≤ 9223372036854775807) :
    Calls Try.prog 6 #[.slice A len cap, .int .i64 zeros] w fun e w' => e = .returned (.bool true) ∧ Below w.heap.size w w' := by
  have hZ := fun u => mod_any zeros 10 r.1 r.2 (by omega) (by omega) u
  obtain ⟨z, hz⟩ := Int.eq_ofNat_of_zero_le (show 0 ≤ zeros % 10 by omega)
  rw [hz] at hZ
  exact turns_inner A len cap zeros z xs w hl hlm hat hr (by omega) hZ
end Go.Proofs.Yteopglkehlckoaa
