/-
  Package dist: the writer of descriptions.
-/
import Derived.Test.YtaohhijjalcbiaaO8C
import Derived.Test.YtaohhijjalcbiaaD8W
namespace Go.Proofs.Ytaohhijjalcbiaa
open Go.ChangeShapes Go.WideShapes Go.ChangeAt Go.RowKit
set_option linter.unusedVariables false
set_option linter.unusedSimpArgs false

/-- a writer in memory -/
def wrA (V t : Nat) : Array Value := at3 (wrS V t) (wrQ V t) (wrN t)
/-- what a call that writes leaves -/
def WrLeft (g V t : Nat) (r : Value) (w : World) (e : Ending) (w' : World) : Prop := e = .returned r ∧ Blk w' g 55 (wrA V t) ∧ w.grownBy w' (some g)
theorem wput_c (g V t n v : Nat) (hV : V < 2 ^ t) (hn : n ≤ 32) (hv : v < 2 ^ n) (ht : t + n ≤ 7000000) (w : World) (hb : Blk w g 55 (wrA V t)) :
    Calls Try.prog 49 #[.pointer (some ⟨g, 0, none⟩), .int .i64 (n : Int), .int .i64 (v : Int)] w (WrLeft g (V + v * 2 ^ t) (t + n) (.tuple #[]) w) := by
  have hP := fun u => ownPut_any (wrS V t) (wrQ V t) (wrN t) n v (by rw [wrS_size]; omega) u
  obtain ⟨e1, e2, e3, e4⟩ := wr_put hV hn hv (by omega)
  rw [e1, e2, e3, e4] at hP
  have hB := hb
  unfold wrA at hB
  unfold WrLeft wrA
  generalize wrS (V + v * 2 ^ t) (t + n) = S' at *
  generalize wrQ (V + v * 2 ^ t) (t + n) = Q' at *
  generalize wrN (t + n) = N' at *
  generalize wrS V t = S at *
  generalize wrQ V t = Q at *
  generalize wrN t = N at *
  obtain ⟨⟨c0, c1, c2⟩, f0, f1, f2⟩ := blk3 hB
  have HB := Lib.hid hB
  clear hb hB e1 e2 e3 e4
  go_enter Try.func49, Try.ntmps49
  go_wp2_with (go_at_call 68; (with_reducible refine (hP _).mono ?_); rintro e w1 ⟨rfl, hb1⟩; have k1 := blk_below HB.out hb1 (blk_lt HB.out); obtain ⟨⟨d0, d1, d2⟩, z0, z1, z2⟩ := blk3 k1)
  go_end0
  exact ⟨rfl, blk3_set k1, grown_set (grown_set (grown_set (grown_below hb1 _) _ _) _ _) _ _⟩

theorem wprob_c (g V t : Nat) (left p : Int) (h1 : 1 ≤ left) (h2 : left ≤ 4096) (hp : -1 ≤ p) (hl : p ≤ left) (hV : V < 2 ^ t) (ht : t ≤ 6000000) (w : World) (hb : Blk w g 55 (wrA V t)) :
    Calls Try.prog 50 #[.pointer (some ⟨g, 0, none⟩), .int .i64 p, .int .i64 left] w (WrLeft g (V + (enc left p).2 * 2 ^ t) (t + (enc left p).1) (.tuple #[]) w) := by
  have hW := fun u => width_c left h1 h2 u
  have hF := enc_fits h1 h2 hp hl
  obtain ⟨b, H, e1, e2, e3, e4, e5, e6, e7, e8, e9, e10, e11, e12⟩ := wb_all h1 h2
  have hc := pow_cast b
  have hH := fun u => half_c (b + 1) (wt left) (by omega) (by omega) u
  rw [Nat.add_sub_cancel] at hH
  have hP : ∀ n' x' : Int, n' = ((enc left p).1 : Int) → x' = ((enc left p).2 : Int) → ∀ u (hu : Blk u g 55 (wrA V t)), Calls Try.prog 49 #[.pointer (some ⟨g, 0, none⟩), .int .i64 n', .int .i64 x'] u (WrLeft g (V + (enc left p).2 * 2 ^ t) (t + (enc left p).1) (.tuple #[]) u) := by
    rintro _ _ rfl rfl u hu
    exact wput_c g V t (enc left p).1 (enc left p).2 hV (by omega) hF.2.2 (by omega) u hu
  have hE : ((enc left p).1 : Int) = (if p + 1 < wt left then (b : Int) else b + 1) ∧ ((enc left p).2 : Int) = (if p + 1 < wt left then p + 1 else if p + 1 < H then p + 1 else p + 1 + wt left) := by
    unfold enc
    rw [e1, Nat.add_sub_cancel]
    by_cases c1 : p + 1 < wt left
    · rw [if_pos c1, if_pos c1, if_pos c1]
      exact ⟨rfl, by show ((p + 1).toNat : Int) = _; omega⟩
    · rw [if_neg c1, if_neg c1, if_neg c1]
      by_cases c2 : p + 1 < 2 ^ b
      · rw [if_pos c2, if_pos (by omega)]
        exact ⟨by push_cast; rfl, by show ((p + 1).toNat : Int) = _; omega⟩
      · rw [if_neg c2, if_neg (by omega)]
        exact ⟨by push_cast; rfl, by show ((p + 1 + wt left).toNat : Int) = _; omega⟩
  unfold WrLeft at *
  have hgl := blk_lt hb
  have HB := Lib.hid hb
  rw [e1] at hW
  have e4' : (2 : Int) ^ b = H := by omega
  rw [e4'] at hH
  obtain ⟨hE1, hE2⟩ := hE
  rw [hE1, hE2] at hP
  clear hb hF e1 e5 e4 e4' hc hE1 hE2 e8
  have hbb : ((b + 1 : Nat) : Int) = (b : Int) + 1 := by push_cast; rfl
  generalize V + (enc left p).2 * 2 ^ t = V' at *
  generalize t + (enc left p).1 = t' at *
  generalize wt left = T at *
  have hb1 : 1 ≤ ((b + 1 : Nat) : Int) := by omega
  have hb2 : ((b + 1 : Nat) : Int) ≤ 13 := by omega
  have hP1 : p + 1 < T → ∀ u (hu : Blk u g 55 (wrA V t)), _ := fun c => hP (((b + 1 : Nat) : Int) - 1) (p + 1) (by rw [if_pos c]; omega) (by rw [if_pos c])
  have hP2 : ¬ p + 1 < T → p + 1 < H → ∀ u (hu : Blk u g 55 (wrA V t)), _ := fun c d => hP ((b + 1 : Nat) : Int) (p + 1) (by rw [if_neg c]; omega) (by rw [if_neg c, if_pos d])
  have hP3 : ¬ p + 1 < T → ¬ p + 1 < H → ∀ u (hu : Blk u g 55 (wrA V t)), _ := fun c d => hP ((b + 1 : Nat) : Int) (p + 1 + T) (by rw [if_neg c]; omega) (by rw [if_neg c, if_neg d])
  clear hP hbb
  generalize ((b + 1 : Nat) : Int) = bb at *
  have HW := Lib.hid hW
  have HH := Lib.hid hH
  clear hW hH
  by_cases c1 : p + 1 < T
  · have HP := Lib.hid (hP1 c1)
    clear hP1 hP2 hP3
    go_enter Try.func50, Try.ntmps50
    go_wp2_with (first
      | (go_at_call 69; (with_reducible refine (HW.out _).mono ?_); rintro e w1 ⟨rfl, hb1⟩; have k1 := blk_alloc (blk_below HB.out hb1 hgl) (.cells #[.int .i64 bb, .int .i64 T] 96))
      | (go_at_call 49; (with_reducible refine (HP.out _ k1).mono ?_); rintro e w2 ⟨rfl, hb2, hg2⟩))
    go_end0
    exact ⟨rfl, hb2, grown_trans (grown_alloc (grown_below hb1 _) _) hg2⟩
  · by_cases c2 : p + 1 < H
    · have HP := Lib.hid (hP2 c1 c2)
      clear hP1 hP2 hP3
      go_enter Try.func50, Try.ntmps50
      go_wp2_with (first
        | (go_at_call 69; (with_reducible refine (HW.out _).mono ?_); rintro e w1 ⟨rfl, hb1⟩; have k1 := blk_alloc (blk_below HB.out hb1 hgl) (.cells #[.int .i64 bb, .int .i64 T] 96); have j1 := blk_new w1 96 #[.int .i64 bb, .int .i64 T])
        | (go_at_call 70; (with_reducible refine (HH.out _).mono ?_); rintro e w3 ⟨rfl, hb3⟩; have k3 := blk_below k1 hb3 (blk_lt k1); have j3 := blk_below j1 hb3 (blk_lt j1); have y0 := blk_cell j3 0; have y1 := blk_cell j3 1; have HK := Lib.hid k3; clear k1 j1 k3 j3)
        | (go_at_call 49; (with_reducible refine (HP.out _ HK.out).mono ?_); rintro e w2 ⟨rfl, hb2, hg2⟩))
      go_end0
      exact ⟨rfl, hb2, grown_trans (grown_below (bel_call (bel_box hb1 _) hb3) (some g)) hg2⟩
    · have HP := Lib.hid (hP3 c1 c2)
      clear hP1 hP2 hP3
      go_enter Try.func50, Try.ntmps50
      go_wp2_with (first
        | (go_at_call 69; (with_reducible refine (HW.out _).mono ?_); rintro e w1 ⟨rfl, hb1⟩; have k1 := blk_alloc (blk_below HB.out hb1 hgl) (.cells #[.int .i64 bb, .int .i64 T] 96); have j1 := blk_new w1 96 #[.int .i64 bb, .int .i64 T])
        | (go_at_call 70; (with_reducible refine (HH.out _).mono ?_); rintro e w3 ⟨rfl, hb3⟩; have k3 := blk_below k1 hb3 (blk_lt k1); have j3 := blk_below j1 hb3 (blk_lt j1); have y0 := blk_cell j3 0; have y1 := blk_cell j3 1; have HK := Lib.hid k3; clear k1 j1 k3 j3)
        | (go_at_call 49; (with_reducible refine (HP.out _ HK.out).mono ?_); rintro e w2 ⟨rfl, hb2, hg2⟩))
      go_end0
      exact ⟨rfl, hb2, grown_trans (grown_below (bel_call (bel_box hb1 _) hb3) (some g)) hg2⟩
end Go.Proofs.Ytaohhijjalcbiaa
