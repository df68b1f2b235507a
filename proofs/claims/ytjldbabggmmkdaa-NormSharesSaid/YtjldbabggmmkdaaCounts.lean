/-
  Counts made of numbers.
-/
import Derived.Test.YtjldbabggmmkdaaAwake
import Derived.Test.YtjldbabggmmkdaaModK
import Derived.Test.YtjldbabggmmkdaaApn
namespace Go.Proofs.Ytjldbabggmmkdaa
open Go.ChangeShapes Go.WideShapes Go.ChangeAt Go.RowKit Go.Shelf
set_option linter.unusedVariables false
set_option linter.unusedSimpArgs false

/-- counts made of numbers -/
def Cn (m : Nat) (L : List Int) : Prop := L.length = m ∧ m ≤ 40 ∧ 1 ≤ L.getD 0 0 ∧ ∀ k, k < m → 0 ≤ L.getD k 0 ∧ L.getD k 0 ≤ 1048576
theorem cn_one (x : Int) (h0 : 1 ≤ x) (h1 : x ≤ 1048576) : Cn 1 [x] := ⟨rfl, by omega, h0, fun k hk => by
  obtain rfl : k = 0 := by omega
  exact ⟨by show 0 ≤ x; omega, h1⟩⟩
theorem cn_snoc {m : Nat} {L : List Int} (h : Cn m L) (hm : 1 ≤ m) (hm2 : m < 40) (x : Int) (h0 : 0 ≤ x) (h1 : x ≤ 1048576) : Cn (m + 1) (L ++ [x]) := by
  have hl := h.1
  refine ⟨by rw [List.length_append, hl]; rfl, by omega, ?_, fun k hk => ?_⟩
  · have e : (L ++ [x]).getD 0 0 = L.getD 0 0 := by rw [List.getD_eq_getElem?_getD, List.getElem?_append_left (show 0 < L.length by omega), ← List.getD_eq_getElem?_getD]
    rw [e]; exact h.2.2.1
  · by_cases hkn : k < m
    · have e : (L ++ [x]).getD k 0 = L.getD k 0 := by simp [List.getD, List.getElem?_append_left (show k < L.length by omega)]
      rw [e]; exact h.2.2.2 k hkn
    · obtain rfl : k = m := by omega
      have e : (L ++ [x]).getD k 0 = x := by simp [List.getD, List.getElem?_append_right (show L.length ≤ k by omega), hl]
      rw [e]; exact ⟨h0, h1⟩
theorem own_one {w : World} {base g : Nat} {x : Int} (h : Blk w g 3 #[.int .i64 x]) (hb : base ≤ g) : w.ownsRow base 3 1 (.slice (some ⟨g, 0, none⟩) 1 1) 1 (([x] : List Int).map (Value.int .i64)) :=
  ⟨rfl, .inr ⟨g, 1, #[.int .i64 x], rfl, hb, h, Nat.le_refl _, by decide, rfl, rfl⟩⟩

set_option maxHeartbeats 1000000 in
theorem counts_c (A : Option Addr) (n cap : Nat) (xs : List Int) (w : World) (h : Cts w A n xs) (hr : ∀ x ∈ xs, -9223372036854775808 ≤ x ∧ x ≤ 9223372036854775807) :
    Calls Try.prog 22 #[.slice A n cap] w fun e w' => ∃ (A0 : Option Addr) (c0 m : Nat) (L : List Int), e = .returned (.tuple #[.slice A0 m c0, .int .i64 L.sum]) ∧ Cn m L ∧ 1 ≤ m ∧ IntsAt w' w'.heap.size A0 L ∧ Below w.heap.size w w' := by
  obtain ⟨hl, hn, hI⟩ := h
  subst hl
  have HI := Lib.hid hI
  have HR := Lib.hid hr
  clear hI hr
  have hk0 := blk_new w 3 #[.int .i64 1]
  have hB0 := below_box (Below.refl w.heap.size w) (.cells #[.int .i64 1] 3)
  have HK0 := Lib.hid hk0
  have HB0 := Lib.hid hB0
  clear hk0 hB0
  go_enter Try.func22, Try.ntmps22
  go_wp2
  go_loopw [4, 5, 6, 7, 31, 33] (fun v i _ _ _ _ wr => ∃ k : Nat, k ≤ xs.length ∧ k ≤ 40 ∧ i = .int .i64 (k : Int) ∧ Below w.heap.size w wr ∧ ((k = 0 ∧ v = .slice (some ⟨w.heap.size, 0, none⟩) 1 1 ∧ Blk wr w.heap.size 3 #[.int .i64 1]) ∨ (1 ≤ k ∧ ∃ L : List Int, Cn k L ∧ wr.ownsRow w.heap.size 3 1 v k (L.map (Value.int .i64))))) (fun _ i _ _ _ _ _ => 40 - (intOf i).toNat)
  case atStart => exact ⟨0, by omega, by omega, rfl, HB0.out, .inl ⟨rfl, rfl, HK0.out⟩⟩
  case round =>
    obtain ⟨k, hk, hk6, rfl, hbw, hst⟩ := hrel
    by_cases hgo : k < xs.length ∧ k < 40
    · obtain ⟨hlt, hl6⟩ := hgo
      obtain ⟨b, off, hA, hb, hc⟩ := HI.out (by omega)
      subst hA
      have hcell := (hbw.cell (p := ⟨b, off + k, none⟩) hb).trans (hc k hlt)
      have hz := HR.out (xs.getD k 0) (mem_getD hlt)
      clear hc
      generalize xs.getD k 0 = z at *
      have hM := mod_any z 1048576 hz.1 hz.2 (by omega) (by omega)
      have hy0 : 0 ≤ z % 1048576 := by omega
      have hy1 : z % 1048576 < 1048576 := by omega
      generalize z % 1048576 = y at *
      clear hz
      by_cases c0 : y % 4 = 0
      · have e0 : (y % 4 == 0) = true := by simpa using c0
        rcases hst with ⟨hk0, rfl, hbk⟩ | ⟨hk1, L, hcn, hown⟩
        · have hkb : ((k : Int) == 0) = true := by simp; omega
          have HKZ := Lib.hid hk0
          clear hk0
          have y0 := blk_cell hbk 0
          have z0 := blk_frozen hbk 0
          have hb2 := blk_set hbk 0 (.int .i64 1)
          have hb3 : Blk (wr.setCell ⟨w.heap.size, 0, none⟩ (.int .i64 1)) w.heap.size 3 #[.int .i64 1] := hb2
          have HO := Lib.hid (own_one hb3 (Nat.le_refl _))
          have HB := Lib.hid (hbw.setCell (p := ⟨w.heap.size, 0, none⟩) (Nat.le_refl _) (.int .i64 1))
          clear hb2 hb3 hbk
          go_wp2_with (go_at_call 23; (with_reducible refine Calls.mono (hM _) ?_); rintro e w' ⟨rfl, rfl⟩)
          go_roundw
          case rel => exact ⟨k + 1, by omega, by omega, by go_num, HB.out, .inr ⟨by omega, [1], by rw [HKZ.out]; exact cn_one _ (by omega) (by omega), by rw [HKZ.out]; exact HO.out⟩⟩
          case measure => simp [intOf]; omega
        · have hkb : ((k : Int) == 0) = false := by simp; omega
          have hc2 : Hid (Cn (k + 1) (L ++ [0])) := Lib.hid (cn_snoc hcn hk1 hl6 _ (by omega) (by omega))
          clear hcn
          go_wp2_with (first
            | (go_at_call 23; (with_reducible refine Calls.mono (hM _) ?_); rintro e w' ⟨rfl, rfl⟩)
            | (at_builtin; refine append_one rfl (.tmp 42) (.tmp 44) rfl w.heap.size u4 k L (0) rfl hown rfl ?c1 ?c2 ?_))
          case c1 => omega
          case c2 => exact hbw.size
          intro v' w2 hown2 hg
          have hlt' := hown.lt
          have hb' := (hbw.alloc hbw.size (.cells #[.int .i64 (0)] 3)).grown hg (by have := hbw.size; simp; omega) (fun q hq => (hlt' q hq).1)
          have hown3 := Lib.hid hown2
          clear hown2 hown hg hlt'
          go_wp2
          go_roundw
          case rel => exact ⟨k + 1, by omega, by omega, by go_num, hb', .inr ⟨by omega, _, hc2.out, by rw [List.map_append]; exact hown3.out⟩⟩
          case measure => simp [intOf]; omega
      · have e0 : (y % 4 == 0) = false := by simpa using c0
        by_cases c1 : y % 4 = 1
        · have e1 : (y % 4 == 1) = true := by simpa using c1
          rcases hst with ⟨hk0, rfl, hbk⟩ | ⟨hk1, L, hcn, hown⟩
          · have hkb : ((k : Int) == 0) = true := by simp; omega
            have HKZ := Lib.hid hk0
            clear hk0
            have y0 := blk_cell hbk 0
            have z0 := blk_frozen hbk 0
            have hb2 := blk_set hbk 0 (.int .i64 (y + 1))
            have hb3 : Blk (wr.setCell ⟨w.heap.size, 0, none⟩ (.int .i64 (y + 1))) w.heap.size 3 #[.int .i64 (y + 1)] := hb2
            have HO := Lib.hid (own_one hb3 (Nat.le_refl _))
            have HB := Lib.hid (hbw.setCell (p := ⟨w.heap.size, 0, none⟩) (Nat.le_refl _) (.int .i64 (y + 1)))
            clear hb2 hb3 hbk
            go_wp2_with (go_at_call 23; (with_reducible refine Calls.mono (hM _) ?_); rintro e w' ⟨rfl, rfl⟩)
            go_roundw
            case rel => exact ⟨k + 1, by omega, by omega, by go_num, HB.out, .inr ⟨by omega, [y + 1], by rw [HKZ.out]; exact cn_one _ (by omega) (by omega), by rw [HKZ.out]; exact HO.out⟩⟩
            case measure => simp [intOf]; omega
          · have hkb : ((k : Int) == 0) = false := by simp; omega
            have hc2 : Hid (Cn (k + 1) (L ++ [y])) := Lib.hid (cn_snoc hcn hk1 hl6 _ (by omega) (by omega))
            clear hcn
            go_wp2_with (first
              | (go_at_call 23; (with_reducible refine Calls.mono (hM _) ?_); rintro e w' ⟨rfl, rfl⟩)
              | (at_builtin; refine append_one rfl (.tmp 42) (.tmp 44) rfl w.heap.size u4 k L (y) rfl hown rfl ?c1 ?c2 ?_))
            case c1 => omega
            case c2 => exact hbw.size
            intro v' w2 hown2 hg
            have hlt' := hown.lt
            have hb' := (hbw.alloc hbw.size (.cells #[.int .i64 (y)] 3)).grown hg (by have := hbw.size; simp; omega) (fun q hq => (hlt' q hq).1)
            have hown3 := Lib.hid hown2
            clear hown2 hown hg hlt'
            go_wp2
            go_roundw
            case rel => exact ⟨k + 1, by omega, by omega, by go_num, hb', .inr ⟨by omega, _, hc2.out, by rw [List.map_append]; exact hown3.out⟩⟩
            case measure => simp [intOf]; omega
        · have e1 : (y % 4 == 1) = false := by simpa using c1
          rcases hst with ⟨hk0, rfl, hbk⟩ | ⟨hk1, L, hcn, hown⟩
          · have hkb : ((k : Int) == 0) = true := by simp; omega
            have HKZ := Lib.hid hk0
            clear hk0
            have y0 := blk_cell hbk 0
            have z0 := blk_frozen hbk 0
            have hb2 := blk_set hbk 0 (.int .i64 (y / 4 % 20 + 1))
            have hb3 : Blk (wr.setCell ⟨w.heap.size, 0, none⟩ (.int .i64 (y / 4 % 20 + 1))) w.heap.size 3 #[.int .i64 (y / 4 % 20 + 1)] := hb2
            have HO := Lib.hid (own_one hb3 (Nat.le_refl _))
            have HB := Lib.hid (hbw.setCell (p := ⟨w.heap.size, 0, none⟩) (Nat.le_refl _) (.int .i64 (y / 4 % 20 + 1)))
            clear hb2 hb3 hbk
            go_wp2_with (go_at_call 23; (with_reducible refine Calls.mono (hM _) ?_); rintro e w' ⟨rfl, rfl⟩)
            go_roundw
            case rel => exact ⟨k + 1, by omega, by omega, by go_num, HB.out, .inr ⟨by omega, [y / 4 % 20 + 1], by rw [HKZ.out]; exact cn_one _ (by omega) (by omega), by rw [HKZ.out]; exact HO.out⟩⟩
            case measure => simp [intOf]; omega
          · have hkb : ((k : Int) == 0) = false := by simp; omega
            have hc2 : Hid (Cn (k + 1) (L ++ [y / 4 % 20])) := Lib.hid (cn_snoc hcn hk1 hl6 _ (by omega) (by omega))
            clear hcn
            go_wp2_with (first
              | (go_at_call 23; (with_reducible refine Calls.mono (hM _) ?_); rintro e w' ⟨rfl, rfl⟩)
              | (at_builtin; refine append_one rfl (.tmp 42) (.tmp 44) rfl w.heap.size u4 k L (y / 4 % 20) rfl hown rfl ?c1 ?c2 ?_))
            case c1 => omega
            case c2 => exact hbw.size
            intro v' w2 hown2 hg
            have hlt' := hown.lt
            have hb' := (hbw.alloc hbw.size (.cells #[.int .i64 (y / 4 % 20)] 3)).grown hg (by have := hbw.size; simp; omega) (fun q hq => (hlt' q hq).1)
            have hown3 := Lib.hid hown2
            clear hown2 hown hg hlt'
            go_wp2
            go_roundw
            case rel => exact ⟨k + 1, by omega, by omega, by go_num, hb', .inr ⟨by omega, _, hc2.out, by rw [List.map_append]; exact hown3.out⟩⟩
            case measure => simp [intOf]; omega
    · have hfin : ∃ (A0 : Option Addr) (c0 m : Nat) (L : List Int), u4 = .slice A0 m c0 ∧ Cn m L ∧ 1 ≤ m ∧ IntsAt wr wr.heap.size A0 L := by
        rcases hst with ⟨hk0, hv, hbk⟩ | ⟨hk1, L, hcn, hown⟩
        · obtain ⟨A0, c0, hv2, hI2⟩ := ints_of_own (xs := [1]) (own_one hbk (Nat.le_refl w.heap.size))
          exact ⟨_, 1, 1, [1], hv, cn_one 1 (by omega) (by omega), by omega, by
            have e := hv2
            simp only [List.length_cons, List.length_nil, Value.slice.injEq] at e
            rw [e.1]; exact hI2⟩
        · obtain ⟨A0, c0, hv2, hI2⟩ := ints_of_own hown
          rw [hcn.1] at hv2
          exact ⟨A0, c0, k, L, hv2, hcn, hk1, hI2⟩
      obtain ⟨A0, c0, m, L, rfl, hcn, hm, hI2⟩ := hfin
      have HCN := Lib.hid hcn
      have HI2 := Lib.hid hI2
      have HBW := Lib.hid hbw
      have hlL := hcn.1
      have hm40 := hcn.2.1
      clear hst hcn hI2 hbw
      by_cases hgl : k < xs.length
      all_goals
        go_wp2
        go_loop [8, 9] (fun s i => ∃ (j : Nat) (t : Int), j ≤ m ∧ Hid ((L.take j).sum = t) ∧ 0 ≤ t ∧ t ≤ (j : Int) * 1048576 ∧ s = .int .i64 t ∧ i = .int .i64 (j : Int)) (fun _ i => m - (intOf i).toNat)
        case atStart => exact ⟨0, 0, by omega, (show _ = _ by rw [List.take_zero]; rfl), by omega, by omega, rfl, rfl⟩
        case round =>
          obtain ⟨j, t, hj, ht, h0, h1, rfl, rfl⟩ := hrel
          by_cases hjm : j < m
          · obtain ⟨b2, off2, hA2, _, hc⟩ := HI2.out (by omega)
            subst hA2
            have hcell := hc j (by omega)
            have hs : (L.take (j + 1)).sum = t + L.getD j 0 := by rw [take_snoc (by omega), List.sum_append, ht.out]; simp
            have hbd := HCN.out.2.2.2 j hjm
            clear hc ht
            generalize L.getD j 0 = x at *
            have HS := Lib.hid hs
            clear hs
            go_wp2
            go_round
            case rel => exact ⟨j + 1, t + x, by omega, HS, by omega, by push_cast; omega, by go_num, by go_num⟩
            case measure => simp [intOf]; omega
          · obtain rfl : j = m := by omega
            have hz := ht.out
            rw [List.take_of_length_le (by omega)] at hz
            have HZ := Lib.hid hz
            clear ht hz
            go_wp2
            go_ret2
            exact ⟨A0, c0, j, L, by rw [HZ.out]; rfl, HCN.out, hm, HI2.out, HBW.out⟩
end Go.Proofs.Ytjldbabggmmkdaa
