/-
  The reference of package dist: points, Check.
-/
import Derived.Test.YtaohhijjalcbiaaO8C
namespace Go.Proofs.Ytaohhijjalcbiaa
open Go.ChangeShapes Go.WideShapes Go.ChangeAt Go.RowKit
set_option linter.unusedVariables false
set_option linter.unusedSimpArgs false

theorem pts_append : ∀ (a b : List Int), pts (a ++ b) = pts a + pts b
  | [], b => by simp [pts]
  | p :: r, b => by simp only [List.cons_append, pts, pts_append r b]; omega
theorem pts_take (ps : List Int) (k : Nat) (h : k < ps.length) : pts (ps.take (k + 1)) = pts (ps.take k) + pt (ps.getD k 0) := by
  rw [List.take_succ_eq_append_getElem h, pts_append]
  simp [pts, List.getD, h]
theorem pts_bound : ∀ {l : List Int}, (∀ p ∈ l, -1 ≤ p ∧ p ≤ 4096) → 0 ≤ pts l ∧ pts l ≤ 4096 * l.length
  | [], _ => ⟨Int.le_refl _, by simp [pts]⟩
  | p :: r, h => by
    have a := h p (List.mem_cons_self ..)
    have b := pts_bound (l := r) (fun q hq => h q (List.mem_cons_of_mem _ hq))
    simp only [pts, List.length_cons]
    unfold pt
    push_cast
    split <;> omega
theorem mem_getD8 {ps : List Int} {k : Nat} (h : k < ps.length) : ps.getD k 0 ∈ ps := by
  have e : ps.getD k 0 = ps[k] := by simp [List.getD, h]
  rw [e]; exact List.getElem_mem h

theorem points_c (A : Option Addr) (n cap B : Nat) (ps : List Int) (w : World) (hl : ps.length = n) (hn : n ≤ 1000) (hP : ∀ p ∈ ps, -1 ≤ p ∧ p ≤ 4096) (h : IntsAt w B A ps) :
    Calls Try.prog 30 #[.slice A n cap] w fun e w' => e = .returned (.int .i64 (pts ps)) ∧ w = w' := by
  subst hl
  by_cases hz : ps = []
  · subst hz
    go_enter Try.func30, Try.ntmps30
    go_wp2
    go_loop [3, 4] (fun l i => l = .int .i64 0 ∧ i = .int .i64 0) (fun _ _ => 0)
    case atStart => exact ⟨rfl, rfl⟩
    case round =>
      obtain ⟨rfl, rfl⟩ := hrel
      go_wp2
      go_ret
      exact ⟨rfl, rfl⟩
  · have hl := List.length_pos_iff.2 hz
    obtain ⟨b, off, rfl, hb, hc⟩ := h hl
    have HC := Lib.hid hc
    have HP := Lib.hid hP
    clear hc hz h hP
    go_enter Try.func30, Try.ntmps30
    go_wp2
    go_loop [3, 4] (fun l i => ∃ (k : Nat) (t : Int), k ≤ ps.length ∧ 0 ≤ t ∧ t ≤ 4096 * k ∧ Hid (pts (ps.take k) = t) ∧ l = .int .i64 t ∧ i = .int .i64 (k : Int)) (fun _ i => ps.length - (intOf i).toNat)
    case atStart => exact ⟨0, 0, by omega, by omega, by omega, Lib.hid (by simp [pts]), rfl, rfl⟩
    case round =>
      obtain ⟨k, t, hk, ht0, ht1, hs, rfl, rfl⟩ := hrel
      by_cases hlt : k < ps.length
      · have hcell := HC.out k hlt
        have hx := HP.out _ (mem_getD8 hlt)
        have hst := pts_take ps k hlt
        rw [hs.out] at hst
        have HS := Lib.hid hst
        clear hst hs
        generalize ps.getD k 0 = x at *
        by_cases hneg : x < 0
        · have hx2 : x = -1 := by omega
          have hp : pt x = 1 := by rw [hx2]; rfl
          have HQ := Lib.hid hp
          clear hx2 hp
          go_wp2
          go_round
          case rel => exact ⟨k + 1, t + 1, by omega, by omega, by omega, Lib.hid (by rw [HS.out, HQ.out]), rfl, by go_num⟩
          case measure => simp [intOf]; omega
        · have hp : pt x = x := by unfold pt; rw [if_neg (by omega)]
          have HQ := Lib.hid hp
          clear hp
          go_wp2
          go_round
          case rel => exact ⟨k + 1, t + x, by omega, by omega, by omega, Lib.hid (by rw [HS.out, HQ.out]), rfl, by go_num⟩
          case measure => simp [intOf]; omega
      · obtain rfl : k = ps.length := by omega
        have e : pts ps = t := by have := hs.out; rwa [List.take_length] at this
        have HE := Lib.hid e
        clear e hs
        go_wp2
        go_ret
        exact ⟨by rw [HE.out]; rfl, rfl⟩

theorem flB_bad {ps : List Int} {S : Int} {k : Nat} (hk : k < ps.length) (h : ps.getD k 0 < -1 ∨ S < ps.getD k 0) : flB S ps = false := by
  by_cases hf : flB S ps = true
  · obtain ⟨a, b⟩ := (flB_iff ps S).1 hf
    have c := a _ (mem_getD8 hk)
    have d := pts_le a _ (mem_getD8 hk)
    omega
  · simpa using hf
theorem flB_sum {ps : List Int} {S : Int} (h : ∀ j, j < ps.length → -1 ≤ ps.getD j 0 ∧ ps.getD j 0 ≤ S) : flB S ps = decide (pts ps = S) := by
  have hm : ∀ p ∈ ps, -1 ≤ p ∧ p ≤ S := fun p hp => by
    obtain ⟨j, hj, rfl⟩ := List.getElem_of_mem hp
    have := h j hj
    rwa [show ps.getD j 0 = ps[j] by simp [List.getD, hj]] at this
  rw [Bool.eq_iff_iff, flB_iff]
  simp only [decide_eq_true_eq]
  exact ⟨fun h => h.2, fun h => ⟨fun p hp => (hm p hp).1, h⟩⟩

set_option maxHeartbeats 1000000 in
theorem rCheck_c (log : Int) (A : Option Addr) (n cap : Nat) (ps : List Int) (w : World) (h : Prb w A n ps) :
    Calls Try.prog 12 #[.agg #[.int .i64 log, .slice A n cap]] w fun e w' => e = .returned (.int .i64 (chkD log ps)) ∧ Below w.heap.size w w' := by
  have hP := h
  obtain ⟨rfl, hn, hc⟩ := h
  unfold chkD
  by_cases h1 : log < 5
  · rw [if_pos (by omega)]
    go_enter Try.func12, Try.ntmps12
    go_wp2
    go_ret
    exact ⟨rfl, bel_box (Below.refl _ _) _⟩
  by_cases h2 : 12 < log
  · rw [if_pos (by omega)]
    go_enter Try.func12, Try.ntmps12
    go_wp2
    go_ret
    exact ⟨rfl, bel_box (Below.refl _ _) _⟩
  rw [if_neg (by omega)]
  by_cases h3 : ps.length = 0
  · rw [if_pos (by omega)]
    have hb : decide ((ps.length : Int) < 1) = true := by simp; omega
    clear hP hc
    go_enter Try.func12, Try.ntmps12
    go_wp2
    go_ret
    exact ⟨rfl, bel_box (Below.refl _ _) _⟩
  by_cases h4 : 256 < ps.length
  · rw [if_pos (by omega)]
    clear hP hc
    go_enter Try.func12, Try.ntmps12
    go_wp2
    go_ret
    exact ⟨rfl, bel_box (Below.refl _ _) _⟩
  obtain ⟨b, off, rfl, hb, hc⟩ := hc (by omega)
  have hi2 : 0 ≤ ((ps.length : Int) - 1) := by omega
  have hi3 : ((ps.length : Int) - 1).toNat = ps.length - 1 := by omega
  have hi4 : ((ps.length : Int) - 1) < ps.length := by omega
  have hi5 : ps.length - 1 < ps.length := by omega
  have hc' := fun o k hk => (World.cell?_alloc_lt w o ⟨b, off + k, none⟩ hb).trans (hc k hk)
  have hc2 := hc' (.cells #[.int .i64 log, .slice (some ⟨b, off, none⟩) ps.length cap] 24) (ps.length - 1) (by omega)
  by_cases h5 : ps.getD (ps.length - 1) 0 = 0
  · rw [if_pos (by omega)]
    rw [h5] at hc2
    clear hP hc hc' h5
    go_enter Try.func12, Try.ntmps12
    go_wp2
    go_ret
    exact ⟨rfl, bel_box (Below.refl _ _) _⟩
  have h5b : (ps.getD (ps.length - 1) 0 == 0) = false := by simpa using h5
  obtain ⟨L, rfl⟩ : ∃ L : Nat, log = L := ⟨log.toNat, by omega⟩
  rw [Int.toNat_natCast]
  have hr : (if ps.length = 0 ∨ 256 < ps.length ∨ ps.getD (ps.length - 1) 0 = 0 ∨ flB (2 ^ L) ps = false then (23 : Int) else 0) = if flB (2 ^ L) ps = false then 23 else 0 := by
    by_cases hf : flB (2 ^ L) ps = false
    · rw [if_pos hf, if_pos (by simp [hf])]
    · rw [if_neg hf, if_neg (fun hx => by rcases hx with x | x | x | x; exact h3 x; exact h4 x; exact h5 x; exact hf x)]
  rw [hr]
  have HR := Lib.hid h5
  clear hr h5
  have ha := two12 (L := L) (by omega)
  have hp := pow_pos' L
  have hw := pow_wrap8 (L := L) (by omega)
  have HBad := Lib.hid (fun (k : Nat) (hk : k < ps.length) (hx : ps.getD k 0 < -1 ∨ (2 : Int) ^ L < ps.getD k 0) => flB_bad hk hx)
  have HGood := Lib.hid (fun (hx : ∀ j, j < ps.length → -1 ≤ ps.getD j 0 ∧ ps.getD j 0 ≤ (2 : Int) ^ L) => flB_sum hx)
  have HW := Lib.hid hw
  generalize hSS : (2 : Int) ^ L = S at *
  have hpt : ∀ u, Below w.heap.size w u → (∀ p ∈ ps, -1 ≤ p ∧ p ≤ 4096) → Calls Try.prog 30 #[.slice (some ⟨b, off, none⟩) ps.length cap] u fun e w' => e = .returned (.int .i64 (pts ps)) ∧ u = w' := fun u hu hq =>
    points_c _ _ _ _ ps u rfl (by omega) hq (hP.2.2.below hu)
  have HPT := Lib.hid hpt
  have HC := Lib.hid hc
  have H0 := Lib.hid (bel_box (Below.refl w.heap.size w) (.cells #[.int .i64 (L : Int), .slice (some ⟨b, off, none⟩) ps.length cap] 24))
  have hx0 := (box2 w 24 (.int .i64 (L : Int)) (.slice (some ⟨b, off, none⟩) ps.length cap)).1
  have hx1 := (box2 w 24 (.int .i64 (L : Int)) (.slice (some ⟨b, off, none⟩) ps.length cap)).2
  have hcz := fun k hk => hc' (.cells #[.int .i64 (L : Int), .slice (some ⟨b, off, none⟩) ps.length cap] 24) k hk
  have HCZ := Lib.hid hcz
  have HSS := Lib.hid hSS
  have hd3 : decide ((ps.length : Int) < 1) = false := by simp; omega
  have hd4 : decide (256 < (ps.length : Int)) = false := by simp; omega
  obtain ⟨R, hRR⟩ : ∃ R : Int, (if flB S ps = false then (23 : Int) else 0) = R := ⟨_, rfl⟩
  rw [hRR]
  have HRR := Lib.hid hRR
  generalize ps.getD (ps.length - 1) 0 = z at hc2 h5b HR
  clear hRR
  clear hpt hc' hc hcz hSS hP hw
  go_enter Try.func12, Try.ntmps12
  go_wp2
  generalize hW : w.alloc (.cells #[.int .i64 (L : Int), .slice (some ⟨b, off, none⟩) ps.length cap] 24) = W at *
  go_loopw [3] (fun i wr => ∃ (k n : Nat), k ≤ ps.length ∧ Hid (∀ j, j < k → -1 ≤ ps.getD j 0 ∧ ps.getD j 0 ≤ S) ∧ i = .int .i64 (k : Int) ∧ wr = W.drewN n) (fun i _ => ps.length - (intOf i).toNat)
  case atStart => exact ⟨0, 0, by omega, Lib.hid (fun j hj => absurd hj (by omega)), rfl, rfl⟩
  case round =>
    obtain ⟨k, n, hk, hs, rfl, rfl⟩ := hrel
    have hw : wrap64 ((2 : Int) ^ L) = S := (congrArg wrap64 HSS.out).trans HW.out
    by_cases hlt : k < ps.length
    · have hcell : W.cell? ⟨b, off + k, none⟩ = some (.int .i64 (ps.getD k 0)) := HCZ.out k hlt
      by_cases hbad : ps.getD k 0 < -1
      · have hf := HBad.out k hlt (.inl hbad)
        have hd : decide (ps.getD k 0 < -1) = true := by simpa using hbad
        have HF := Lib.hid hf
        clear hf hbad
        generalize ps.getD k 0 = x at *
        go_wp2
        go_quiet (fail)
        go_wp2
        go_ret
        exact ⟨by rw [← HRR.out, if_pos HF.out]; rfl, Below.drewN' (Below.drewN' H0.out _) _⟩
      · have hd : decide (ps.getD k 0 < -1) = false := by simpa using hbad
        by_cases hbig : S < ps.getD k 0
        · have hf := HBad.out k hlt (.inr hbig)
          have HF := Lib.hid hf
          have hd2 : decide (S < ps.getD k 0) = true := by simpa using hbig
          clear hf hbad hbig
          generalize ps.getD k 0 = x at *
          go_wp2
          go_quiet (fail)
          go_wp2
          go_ret
          exact ⟨by rw [← HRR.out, if_pos HF.out]; rfl, Below.drewN' (Below.drewN' H0.out _) _⟩
        · have hd2 : decide (S < ps.getD k 0) = false := by simpa using hbig
          have hnx := Lib.hid (show ∀ j, j < k + 1 → -1 ≤ ps.getD j 0 ∧ ps.getD j 0 ≤ S from fun j hj => by
            rcases Nat.lt_or_ge j k with h | h
            · exact hs.out j h
            · obtain rfl : j = k := by omega
              exact ⟨by omega, by omega⟩)
          clear hs hbad hbig
          generalize ps.getD k 0 = x at *
          go_wp2
          go_quiet (fail)
          go_wp2
          go_roundw
          case rel => exact ⟨k + 1, _, by omega, hnx, by go_num, rfl⟩
          case measure => simp [intOf]; omega
    · obtain rfl : k = ps.length := by omega
      have hg := HGood.out hs.out
      have hq : ∀ p ∈ ps, -1 ≤ p ∧ p ≤ 4096 := fun p hp => by
        obtain ⟨j, hj, rfl⟩ := List.getElem_of_mem hp
        have := hs.out j hj
        rw [show ps.getD j 0 = ps[j] by simp [List.getD, hj]] at this
        omega
      have hpp := fun u hu => HPT.out u hu hq
      have HG := Lib.hid hg
      clear hg hq hs
      by_cases hsum : pts ps = S
      · have hbt : (pts ps != S) = false := by simpa using hsum
        have HF := Lib.hid (HG.out.trans (show decide (pts ps = S) = true by simpa using hsum))
        clear hsum
        generalize pts ps = t at *
        go_wp2
        go_quiet ((go_at_call 30; exact (hpp _ (Below.drewN' H0.out _)).mono (fun _ _ h => ⟨h.1, _, h.2.symm⟩)))
        go_wp2
        go_ret
        exact ⟨by rw [← HRR.out, if_neg (by rw [HF.out]; decide)]; rfl, Below.drewN' (Below.drewN' H0.out _) _⟩
      · have hbt : (pts ps != S) = true := by simpa using hsum
        have HF := Lib.hid (HG.out.trans (show decide (pts ps = S) = false by simpa using hsum))
        clear hsum
        generalize pts ps = t at *
        go_wp2
        go_quiet ((go_at_call 30; exact (hpp _ (Below.drewN' H0.out _)).mono (fun _ _ h => ⟨h.1, _, h.2.symm⟩)))
        go_wp2
        go_ret
        exact ⟨by rw [← HRR.out, if_pos HF.out]; rfl, Below.drewN' (Below.drewN' H0.out _) _⟩
end Go.Proofs.Ytaohhijjalcbiaa
