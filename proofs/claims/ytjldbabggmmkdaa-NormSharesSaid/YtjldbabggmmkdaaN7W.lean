/-
  Pure words of package norm: points, the greatest element, shares, settling.
-/
import Derived.Test.YtjldbabggmmkdaaO6E
namespace Go.Proofs.Ytjldbabggmmkdaa
open Go.ChangeShapes Go.WideShapes Go.ChangeAt Go.RowKit
set_option linter.unusedVariables false

/-- what a probability counts -/
def wth (p : Int) : Int := if p = -1 then 1 else p
def pts : List Int → Int
  | [] => 0
  | p :: ps => wth p + pts ps
theorem pts_append (a b : List Int) : pts (a ++ b) = pts a + pts b := by
  induction a with
  | nil => simp [pts]
  | cons x a ih => simp only [List.cons_append, pts, ih]; omega
theorem pts_snoc {ps : List Int} {k : Nat} (h : k < ps.length) : pts (ps.take (k + 1)) = pts (ps.take k) + wth (ps.getD k 0) := by
  rw [take_snoc h, pts_append]; simp [pts]
theorem split_at_list {ps : List Int} {g : Nat} (h : g < ps.length) : ps = ps.take g ++ ps.getD g 0 :: ps.drop (g + 1) := by
  rw [← drop_getD ps g h, List.take_append_drop]
theorem set_split {ps : List Int} {g : Nat} (h : g < ps.length) (v : Int) : ps.set g v = ps.take g ++ v :: ps.drop (g + 1) := by
  rw [List.set_eq_take_append_cons_drop, if_pos h]
theorem pts_set {ps : List Int} {g : Nat} (h : g < ps.length) (v : Int) : pts (ps.set g v) = pts ps - wth (ps.getD g 0) + wth v := by
  rw [set_split h]
  have e : pts ps = pts (ps.take g ++ ps.getD g 0 :: ps.drop (g + 1)) := by rw [← split_at_list h]
  rw [e, pts_append, pts_append]
  simp only [pts]; omega
/-- how many are not 0 -/
def nzc : List Int → Int
  | [] => 0
  | p :: ps => (if p = 0 then 0 else 1) + nzc ps
theorem nzc_append (a b : List Int) : nzc (a ++ b) = nzc a + nzc b := by
  induction a with
  | nil => simp [nzc]
  | cons x a ih => simp only [List.cons_append, nzc, ih]; omega
theorem nzc_set {ps : List Int} {g : Nat} (h : g < ps.length) (v : Int) (h0 : ps.getD g 0 ≠ 0) (hv : v ≠ 0) : nzc (ps.set g v) = nzc ps := by
  rw [set_split h]
  have e : nzc ps = nzc (ps.take g ++ ps.getD g 0 :: ps.drop (g + 1)) := by rw [← split_at_list h]
  rw [e, nzc_append, nzc_append]
  simp only [nzc]
  rw [if_neg h0, if_neg hv]
theorem pts_small : ∀ ps : List Int, (∀ p ∈ ps, -1 ≤ p ∧ p ≤ 1) → pts ps = nzc ps
  | [], _ => rfl
  | p :: ps, h => by
    have ih := pts_small ps (fun x hx => h x (List.mem_cons_of_mem _ hx))
    have hp := h p (List.mem_cons_self ..)
    simp only [pts, nzc, ih]
    unfold wth
    by_cases h1 : p = -1
    · subst h1; rfl
    · rw [if_neg h1]
      by_cases h2 : p = 0
      · rw [if_pos h2]; omega
      · rw [if_neg h2]; omega
/-- the first of the greatest elements -/
theorem grst_max (zs : List Int) : ∀ k, ∀ j, j < k + 1 → zs.getD j 0 ≤ zs.getD (grst zs (k + 1)) 0
  | 0, j, h => by
    have e : grst zs 1 = 0 := by show (if zs.getD 0 0 < zs.getD 0 0 then 0 else 0) = 0; split <;> rfl
    rw [e]
    obtain rfl : j = 0 := by omega
    exact Int.le_refl _
  | k + 1, j, h => by
    have ih := grst_max zs k
    show zs.getD j 0 ≤ zs.getD (if zs.getD (grst zs (k + 1)) 0 < zs.getD (k + 1) 0 then k + 1 else grst zs (k + 1)) 0
    by_cases hc : zs.getD (grst zs (k + 1)) 0 < zs.getD (k + 1) 0
    · rw [if_pos hc]
      by_cases hj : j < k + 1
      · have := ih j hj; omega
      · obtain rfl : j = k + 1 := by omega
        exact Int.le_refl _
    · rw [if_neg hc]
      by_cases hj : j < k + 1
      · exact ih j hj
      · obtain rfl : j = k + 1 := by omega
        omega
theorem grst_lt' (zs : List Int) : ∀ k, grst zs (k + 1) < k + 1
  | 0 => by show (if zs.getD 0 0 < zs.getD 0 0 then 0 else 0) < 1; split <;> omega
  | k + 1 => by
    have ih := grst_lt' zs k
    show (if zs.getD (grst zs (k + 1)) 0 < zs.getD (k + 1) 0 then k + 1 else grst zs (k + 1)) < k + 1 + 1
    split <;> omega
theorem grst_in {zs : List Int} (h : 0 < zs.length) : grst zs zs.length < zs.length := by
  have := grst_lt' zs (zs.length - 1)
  rwa [show zs.length - 1 + 1 = zs.length by omega] at this
theorem grst_top {zs : List Int} (x : Int) (hx : x ∈ zs) : x ≤ zs.getD (grst zs zs.length) 0 := by
  obtain ⟨j, hj, rfl⟩ := List.mem_iff_getElem.1 hx
  have := grst_max zs (zs.length - 1) j (by omega)
  rw [show zs.length - 1 + 1 = zs.length by omega] at this
  have e : zs.getD j 0 = zs[j] := by simp [List.getD, hj]
  rw [← e]; exact this

/-- probabilities that can be settled -/
def Good (size : Int) (ps : List Int) : Prop := (∀ p ∈ ps, -1 ≤ p) ∧ nzc ps ≤ size
def gr (ps : List Int) : Nat := grst ps ps.length
def dec (ps : List Int) : List Int := ps.set (gr ps) (ps.getD (gr ps) 0 - 1)
theorem good_dec {size : Int} {ps : List Int} (h : Good size ps) (hp : size < pts ps) :
    gr ps < ps.length ∧ 2 ≤ ps.getD (gr ps) 0 ∧ Good size (dec ps) ∧ pts (dec ps) = pts ps - 1 ∧ (dec ps).length = ps.length := by
  have hg : 2 ≤ ps.getD (gr ps) 0 := by
    refine Classical.byContradiction fun hn => ?_
    have := pts_small ps (fun p hx => ⟨h.1 p hx, by have := grst_top p hx; unfold gr at hn; omega⟩)
    have := h.2
    omega
  have hlt : gr ps < ps.length := by
    refine Classical.byContradiction fun hn => ?_
    have e : ps.getD (gr ps) 0 = 0 := by simp [List.getD, List.getElem?_eq_none (Nat.le_of_not_lt hn)]
    omega
  refine ⟨hlt, hg, ⟨fun p hx => ?_, ?_⟩, ?_, by unfold dec; rw [List.length_set]⟩
  · unfold dec at hx
    rcases List.mem_or_eq_of_mem_set hx with h1 | h1
    · exact h.1 p h1
    · omega
  · unfold dec; rw [nzc_set hlt _ (by omega) (by omega)]; exact h.2
  · unfold dec; rw [pts_set hlt]
    unfold wth
    rw [if_neg (by omega), if_neg (by omega)]; omega
def decN : Nat → List Int → List Int
  | 0, ps => ps
  | k + 1, ps => decN k (dec ps)
theorem decN_end {size : Int} : ∀ (k : Nat) (ps : List Int), Good size ps → pts ps = size + k → Good size (decN k ps) ∧ pts (decN k ps) = size ∧ (decN k ps).length = ps.length
  | 0, ps, h, hp => ⟨h, by show pts ps = size; omega, rfl⟩
  | k + 1, ps, h, hp => by
    obtain ⟨_, _, h3, h4, h5⟩ := good_dec h (by omega)
    obtain ⟨a, b, c⟩ := decN_end k (dec ps) h3 (by rw [h4]; omega)
    exact ⟨a, b, c.trans h5⟩
/-- settled probabilities -/
def stl (zs ps : List Int) (size : Int) : List Int :=
  if pts ps < size then ps.set (gr zs) (wth (ps.getD (gr zs) 0) + (size - pts ps)) else decN (pts ps - size).toNat ps
/-- the share of a count -/
def shr (size n z : Int) : Int := if 0 < z then (if z * size / n = 0 then -1 else z * size / n) else 0
def lst (zs : List Int) : Nat := (lasN zs).toNat
def shl (zs : List Int) (size : Int) : List Int := (zs.take (lst zs + 1)).map (shr size (totN zs))
def wthP (zs : List Int) (log : Nat) : List Int := stl zs (shl zs (2 ^ log)) (2 ^ log)
end Go.Proofs.Ytjldbabggmmkdaa
