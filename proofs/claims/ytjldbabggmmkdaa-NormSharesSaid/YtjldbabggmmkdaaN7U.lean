/-
  The order of the probabilities, and their bounds by the shares.
-/
import Derived.Test.YtjldbabggmmkdaaN7T
namespace Go.Proofs.Ytjldbabggmmkdaa
open Go.ChangeShapes Go.WideShapes Go.ChangeAt Go.RowKit Go.Shelf
set_option linter.unusedVariables false
set_option linter.unusedSimpArgs false

/-- what settling keeps: the counts' order but for one, and the shares as bounds -/
def Ord (zs ps cur : List Int) (N : Nat) : Prop :=
  (∀ s t, s < N → t < N → zs.getD t 0 < zs.getD s 0 → wth (cur.getD t 0) - 1 ≤ wth (cur.getD s 0)) ∧ ∀ s, s < N → cur.getD s 0 ≤ ps.getD s 0
theorem ord_dec {zs ps : List Int} {size : Int} {N : Nat} {cur : List Int} (hl : cur.length = N) (hg : Good size cur) (hp : size < pts cur) (h : Ord zs ps cur N) : Ord zs ps (dec cur) N := by
  obtain ⟨a, b, c, d, e⟩ := good_dec hg hp
  have htop : ∀ k, k < N → cur.getD k 0 ≤ cur.getD (gr cur) 0 := fun k hk => grst_top _ (mem_getD (by omega))
  refine ⟨fun s t hs ht hlt => ?_, fun s hs => ?_⟩
  · have h1 := h.1 s t hs ht hlt
    have h2 := htop t ht
    have h3 := htop s hs
    unfold dec
    rw [getD_set_int _ a, getD_set_int _ a]
    by_cases hgs : gr cur = s
    · rw [if_pos hgs]
      by_cases hgt : gr cur = t
      · rw [if_pos hgt]; omega
      · rw [if_neg hgt]
        unfold wth
        repeat' split
        all_goals omega
    · rw [if_neg hgs]
      by_cases hgt : gr cur = t
      · rw [if_pos hgt]
        subst hgt
        revert h1
        unfold wth
        repeat' split
        all_goals omega
      · rw [if_neg hgt]; exact h1
  · have h1 := h.2 s hs
    unfold dec
    rw [getD_set_int _ a]
    by_cases hgs : gr cur = s
    · rw [if_pos hgs]; subst hgs; omega
    · rw [if_neg hgs]; exact h1
theorem ord_decN {zs ps : List Int} {size : Int} {N : Nat} : ∀ (k : Nat) (cur : List Int), cur.length = N → Good size cur → pts cur = size + k → Ord zs ps cur N → Ord zs ps (decN k cur) N
  | 0, _, _, _, _, h => h
  | k + 1, cur, hl, hg, hp, h => by
    obtain ⟨a, b, c, d, e⟩ := good_dec hg (by omega)
    exact ord_decN k (dec cur) (e.trans hl) c (by rw [d]; omega) (ord_dec hl hg (by omega) h)
theorem wth_shr {S n z y : Int} (hS : 0 ≤ S) (hn : 1 ≤ n) (h0 : 0 ≤ y) (h : y < z) : wth (shr S n y) ≤ wth (shr S n z) := by
  have hz : 0 < z := by omega
  have hm : y * S ≤ z * S := Int.mul_le_mul_of_nonneg_right (by omega) hS
  have hd : y * S / n ≤ z * S / n := Int.ediv_le_ediv (by omega) hm
  have hy0 : 0 ≤ y * S / n := Int.ediv_nonneg (Int.mul_nonneg h0 hS) (by omega)
  unfold wth shr
  rw [if_pos hz]
  generalize y * S / n = a at *
  generalize z * S / n = b at *
  repeat' split
  all_goals omega
/-- a distribution's probabilities: ordered as the counts but for one, and no share is passed but the greatest count's -/
theorem stl_ord {zs : List Int} {V : Nat} (h0 : refE zs (V : Int) = 0) :
    (∀ s t, s < lst zs + 1 → t < lst zs + 1 → zs.getD t 0 < zs.getD s 0 → wth ((stl zs (shl zs (2 ^ V)) (2 ^ V)).getD t 0) - 1 ≤ wth ((stl zs (shl zs (2 ^ V)) (2 ^ V)).getD s 0)) ∧
    ∀ s, s < lst zs + 1 → s ≠ gr zs → (stl zs (shl zs (2 ^ V)) (2 ^ V)).getD s 0 ≤ zs.getD s 0 * 2 ^ V / totN zs := by
  obtain ⟨s1, s2, s3, s4⟩ := shl_stl h0
  obtain ⟨k0, k1, k2, k3, k4⟩ := refE_zero h0
  have hV1 : 5 ≤ V := by omega
  have hV2 : V ≤ 12 := by omega
  have hpw := pow_in hV1 hV2
  obtain ⟨l1, l2, l3, l4⟩ := lst_top k0 k1
  obtain ⟨t1, t2, t3, t4⟩ := tot_cnt k0
  have gn := getD_nonneg (good_of k0).2.1
  have hn : 1 ≤ totN zs := by omega
  have hsh : ∀ k, k < lst zs + 1 → (shl zs (2 ^ V)).getD k 0 ≤ zs.getD k 0 * 2 ^ V / totN zs := fun k hk => by
    rw [shl_getD zs _ k hk l2]
    have hd : 0 ≤ zs.getD k 0 * 2 ^ V / totN zs := Int.ediv_nonneg (Int.mul_nonneg (gn k) (by omega)) (by omega)
    unfold shr
    generalize zs.getD k 0 * 2 ^ V / totN zs = q at *
    repeat' split
    all_goals omega
  have hord : Ord zs (shl zs (2 ^ V)) (shl zs (2 ^ V)) (lst zs + 1) := ⟨fun s t hs ht hlt => by
    rw [shl_getD zs _ s hs l2, shl_getD zs _ t ht l2]
    have := wth_shr (S := 2 ^ V) (n := totN zs) (by omega) hn (gn t) hlt
    omega, fun s _ => Int.le_refl _⟩
  have htop : ∀ k, k < lst zs + 1 → zs.getD k 0 ≤ zs.getD (gr zs) 0 := fun k hk => grst_top _ (mem_getD (by omega))
  unfold stl
  by_cases hlt : pts (shl zs (2 ^ V)) < 2 ^ V
  · rw [if_pos hlt]
    have hgl : gr zs < (shl zs (2 ^ V)).length := by rw [s1.len]; exact s2
    have hb := s1.good.1 _ (mem_getD hgl)
    refine ⟨fun s t hs ht hl => ?_, fun s hs hne => ?_⟩
    · have h1 := hord.1 s t hs ht hl
      have h2 := htop s hs
      rw [getD_set_int _ hgl, getD_set_int _ hgl]
      by_cases hgt : gr zs = t
      · rw [hgt] at h2; omega
      · rw [if_neg hgt]
        by_cases hgs : gr zs = s
        · rw [if_pos hgs]
          rw [← hgs] at h1
          have h5 := wth_nonneg hb
          generalize wth ((shl zs (2 ^ V)).getD (gr zs) 0) = a at *
          generalize wth ((shl zs (2 ^ V)).getD t 0) = b at *
          generalize pts (shl zs (2 ^ V)) = c at *
          have : wth (a + (2 ^ V - c)) = a + (2 ^ V - c) := by unfold wth; rw [if_neg (by omega)]
          rw [this]; omega
        · rw [if_neg hgs]; exact h1
    · rw [getD_set_int _ hgl, if_neg (fun h => hne h.symm)]
      exact hsh s hs
  · rw [if_neg hlt]
    have ho := ord_decN (zs := zs) (ps := shl zs (2 ^ V)) (size := 2 ^ V) (N := lst zs + 1) (pts (shl zs (2 ^ V)) - 2 ^ V).toNat (shl zs (2 ^ V)) s1.len s1.good (by omega) hord
    exact ⟨ho.1, fun s hs _ => Int.le_trans (ho.2 s hs) (hsh s hs)⟩
end Go.Proofs.Ytjldbabggmmkdaa
