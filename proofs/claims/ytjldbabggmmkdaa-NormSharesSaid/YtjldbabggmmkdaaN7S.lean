/-
  What distributions of counts made of numbers are.
-/
import Derived.Test.YtjldbabggmmkdaaCounts
namespace Go.Proofs.Ytjldbabggmmkdaa
open Go.ChangeShapes Go.WideShapes Go.ChangeAt Go.RowKit Go.Shelf
set_option linter.unusedVariables false
set_option linter.unusedSimpArgs false

theorem sum_le (b : Int) : ∀ L : List Int, (∀ x ∈ L, x ≤ b) → L.sum ≤ (L.length : Int) * b
  | [], _ => by simp
  | x :: L, h => by
    have h1 := sum_le b L (fun y hy => h y (List.mem_cons_of_mem _ hy))
    have h2 := h x (List.mem_cons_self ..)
    rw [List.sum_cons, List.length_cons]
    push_cast
    rw [Int.add_mul]
    omega
theorem sum_nn : ∀ xs : List Int, (∀ y ∈ xs, 0 ≤ y) → 0 ≤ xs.sum
  | [], _ => by simp
  | y :: ys, h => by
    have := h y (List.mem_cons_self ..)
    have := sum_nn ys (fun z hz => h z (List.mem_cons_of_mem _ hz))
    rw [List.sum_cons]; omega
theorem sumUp_sum : ∀ (xs : List Int) (s : Int), (∀ x ∈ xs, 0 ≤ x) → 0 ≤ s → s + xs.sum ≤ 1099511627776 → sumUp s xs = some (s + xs.sum)
  | [], s, _, h0, _ => by simp [sumUp]
  | x :: xs, s, h, h0, hl => by
    have hx := h x (List.mem_cons_self ..)
    have h1 := sum_nn xs (fun z hz => h z (List.mem_cons_of_mem _ hz))
    rw [List.sum_cons] at hl ⊢
    have e : sumUp s (x :: xs) = if x < 0 ∨ 1099511627776 - s < x then none else sumUp (s + x) xs := rfl
    rw [e, if_neg (by omega), sumUp_sum xs (s + x) (fun z hz => h z (List.mem_cons_of_mem _ hz)) (by omega) (by omega)]
    congr 1; omega
theorem mem_of_getD {L : List Int} {m : Nat} {P : Int → Prop} (hl : L.length = m) (h : ∀ k, k < m → P (L.getD k 0)) : ∀ x ∈ L, P x := fun x hx => by
  obtain ⟨k, hk, rfl⟩ := List.mem_iff_getElem.1 hx
  have e : L.getD k 0 = L[k] := by simp [List.getD, hk]
  rw [← e]; exact h k (by omega)
/-- right counts: at most 60 numbers up to 2^24, the first one not 0 -/
theorem right_of {L : List Int} {m : Nat} {b : Int} (hl : L.length = m) (hm : m ≤ 60) (h1 : 1 ≤ m) (hb : ∀ k, k < m → 0 ≤ L.getD k 0 ∧ L.getD k 0 ≤ 16777216) (hp : ∃ k, k < m ∧ 0 < L.getD k 0) :
    chk L = 0 ∧ totN L = L.sum ∧ 0 < cnt L ∧ cnt L ≤ m := by
  have hmem := mem_of_getD (P := fun x => 0 ≤ x ∧ x ≤ 16777216) hl hb
  have hs := sum_le 16777216 L (fun x hx => (hmem x hx).2)
  rw [hl] at hs
  have h2 := sumUp_sum L 0 (fun x hx => (hmem x hx).1) (Int.le_refl _) (by omega)
  rw [Int.zero_add] at h2
  have hch : chk L = 0 := by unfold chk; rw [if_neg (by omega), h2]; rfl
  refine ⟨hch, by unfold totN; rw [if_neg (by omega), h2]; rfl, ?_, ?_⟩
  · obtain ⟨k, hk, hpk⟩ := hp
    have := List.length_pos_of_mem (occ_mem (zs := L) (n := L.length) (by omega) hpk)
    rw [occ_cnt] at this; exact this
  · have := cnt_le L; omega
theorem cn_right {L : List Int} {m : Nat} (h : Cn m L) (h1 : 1 ≤ m) : chk L = 0 ∧ totN L = L.sum ∧ 0 < cnt L ∧ cnt L ≤ 40 := by
  obtain ⟨a, b, c, d⟩ := right_of (b := 0) h.1 (by have := h.2.1; omega) h1 (fun k hk => by have := h.2.2.2 k hk; omega) ⟨0, by omega, by have := h.2.2.1; omega⟩
  exact ⟨a, b, c, by have := h.2.1; omega⟩
theorem pow_ge {V : Nat} (h : 6 ≤ V) : (64 : Int) ≤ 2 ^ V := by
  have b : (2 : Nat) ^ 6 ≤ 2 ^ V := Nat.pow_le_pow_right (by omega) h
  have b' : ((2 ^ 6 : Nat) : Int) ≤ ((2 ^ V : Nat) : Int) := by exact_mod_cast b
  simpa using b'
theorem cn_refE {L : List Int} {m : Nat} (h : Cn m L) (h1 : 1 ≤ m) {M : Nat} (h6 : 6 ≤ M) (h12 : M ≤ 12) : refE L (M : Int) = 0 := by
  obtain ⟨a, _, c, d⟩ := cn_right h h1
  have := pow_ge h6
  unfold refE
  rw [if_pos a, if_neg (by omega), if_neg (by omega), Int.toNat_natCast, if_neg (by omega)]
theorem nb_lt {n : Int} (h : 1 ≤ n) : n < 2 ^ nb n := by
  have := (nb_iff h (nb n)).2
  by_cases hx : (2 : Int) ^ nb n ≤ n
  · have := this hx; omega
  · omega
theorem cn_log {L : List Int} {m : Nat} (h : Cn m L) (h1 : 1 ≤ m) {M : Nat} (h6 : 6 ≤ M) (h12 : M ≤ 12) : ∃ V : Nat, logV L (M : Int) = V ∧ 5 ≤ V ∧ V ≤ M ∧ refE L (V : Int) = 0 := by
  obtain ⟨a, _, c, d⟩ := cn_right h h1
  have hr := cn_refE h h1 h6 h12
  have hb1 : 5 ≤ logB L := by unfold logB; omega
  have hb2 : (nb (cnt L : Int) : Int) ≤ logB L := by unfold logB; omega
  have hlv : logV L (M : Int) = min (logB L) M := by unfold logV; rw [if_pos hr]
  obtain ⟨V, hV⟩ : ∃ V : Nat, min (logB L) (M : Int) = V := ⟨(min (logB L) M).toNat, by omega⟩
  refine ⟨V, hlv.trans hV, by omega, by omega, ?_⟩
  unfold refE
  rw [if_pos a, if_neg (by omega), if_neg (by omega), Int.toNat_natCast]
  by_cases hVM : V = M
  · subst hVM
    have := pow_ge h6
    rw [if_neg (by omega)]
  · have hnb : nb (cnt L : Int) ≤ V := by omega
    have hlt := nb_lt (show (1 : Int) ≤ (cnt L : Int) by omega)
    have hp : (2 : Nat) ^ nb (cnt L : Int) ≤ 2 ^ V := Nat.pow_le_pow_right (by omega) hnb
    have hp' : ((2 ^ nb (cnt L : Int) : Nat) : Int) ≤ ((2 ^ V : Nat) : Int) := by exact_mod_cast hp
    have e : ((2 ^ V : Nat) : Int) = (2 : Int) ^ V := by simp
    have e2 : ((2 ^ nb (cnt L : Int) : Nat) : Int) = (2 : Int) ^ nb (cnt L : Int) := by simp
    rw [e, e2] at hp'
    rw [if_neg (by omega)]

/-- the pattern of what is 0 stays -/
def Pat (zs cur : List Int) (N : Nat) : Prop := ∀ k, k < N → (cur.getD k 0 = 0 ↔ zs.getD k 0 = 0)
theorem decN_pat {zs : List Int} {size : Int} {N : Nat} : ∀ (k : Nat) (ps : List Int), ps.length = N → Good size ps → pts ps = size + k → Pat zs ps N → Pat zs (decN k ps) N
  | 0, _, _, _, _, h => h
  | k + 1, ps, hl, hg, hp, h => by
    obtain ⟨a, b, c, d, e⟩ := good_dec hg (by omega)
    refine decN_pat k (dec ps) (e.trans hl) c (by rw [d]; omega) (fun j hj => ?_)
    unfold dec
    rw [getD_set_int _ a]
    by_cases hgj : gr ps = j
    · rw [if_pos hgj]
      subst hgj
      have := h _ hj
      omega
    · rw [if_neg hgj]; exact h j hj
theorem stl_facts {zs : List Int} {V : Nat} (h0 : refE zs (V : Int) = 0) :
    (stl zs (shl zs (2 ^ V)) (2 ^ V)).length = lst zs + 1 ∧ pts (stl zs (shl zs (2 ^ V)) (2 ^ V)) = 2 ^ V ∧ Good (2 ^ V) (stl zs (shl zs (2 ^ V)) (2 ^ V)) ∧ Pat zs (stl zs (shl zs (2 ^ V)) (2 ^ V)) (lst zs + 1) := by
  obtain ⟨s1, s2, s3, s4⟩ := shl_stl h0
  have hlen := stl_length h0
  obtain ⟨k0, k1, k2, k3, k4⟩ := refE_zero h0
  have hV1 : 5 ≤ V := by omega
  have hV2 : V ≤ 12 := by omega
  have hpw := pow_in hV1 hV2
  obtain ⟨l1, l2, l3, l4⟩ := lst_top k0 k1
  obtain ⟨t1, t2, t3, t4⟩ := tot_cnt k0
  have gn := getD_nonneg (good_of k0).2.1
  have hpat : Pat zs (shl zs (2 ^ V)) (lst zs + 1) := fun k hk => by
    have hkl : k < zs.length := by omega
    have q := (shr_in (S := 2 ^ V) (n := totN zs) (z := zs.getD k 0) (by omega) (by omega) (gn k) (t3 _ (mem_getD hkl))).2.2
    rw [shl_getD zs _ k hk l2]
    have := gn k
    constructor
    · intro hz
      refine Classical.byContradiction fun hx => ?_
      exact (q.2 (by omega)) hz
    · intro hz
      refine Classical.byContradiction fun hx => ?_
      have := q.1 hx; omega
  refine ⟨hlen, ?_⟩
  unfold stl
  by_cases hlt : pts (shl zs (2 ^ V)) < 2 ^ V
  · obtain ⟨m1, m2, m3, m4⟩ := stl_more s1 hlt s2 hpw.2 (s3 _ s2 s4)
    rw [if_pos hlt]
    refine ⟨m2, m1.good, fun k hk => ?_⟩
    rw [getD_set_int _ (by rw [s1.len]; exact s2)]
    by_cases hgk : gr zs = k
    · rw [if_pos hgk]
      subst hgk
      constructor
      · intro hz; omega
      · intro hz; exact absurd hz s4
    · rw [if_neg hgk]; exact hpat k hk
  · rw [if_neg hlt]
    obtain ⟨a, b, c⟩ := decN_end (pts (shl zs (2 ^ V)) - 2 ^ V).toNat (shl zs (2 ^ V)) s1.good (by omega)
    exact ⟨b, a, decN_pat _ _ s1.len s1.good (by omega) hpat⟩
/-- the probabilities of a distribution are in bounds, and their sum is its size -/
theorem stl_sum {zs : List Int} {V : Nat} (h0 : refE zs (V : Int) = 0) :
    sumE (stl zs (shl zs (2 ^ V)) (2 ^ V)) = 0 ∧ sumV (stl zs (shl zs (2 ^ V)) (2 ^ V)) = 2 ^ V ∧ ∀ p ∈ stl zs (shl zs (2 ^ V)) (2 ^ V), -1 ≤ p ∧ p ≤ 4096 := by
  obtain ⟨a, b, c, d⟩ := stl_facts h0
  obtain ⟨k0, k1, k2, k3, k4⟩ := refE_zero h0
  have hpw := pow_in (show 5 ≤ V by omega) (show V ≤ 12 by omega)
  have g256 := (good_of k0).1
  have l2 := (lst_top k0 k1).2.1
  generalize stl zs (shl zs (2 ^ V)) (2 ^ V) = out at *
  have hin : ∀ p ∈ out, -1 ≤ p ∧ p ≤ 4096 := fun p hp => by
    have h1 := c.1 p hp
    have h2 := wth_le_pts out c.1 p hp
    refine ⟨h1, ?_⟩
    unfold wth at h2
    split at h2 <;> omega
  have he : sumE out = 0 := by
    unfold sumE
    rw [if_neg (by omega), oobP_not (fun k hk => by have := hin _ (mem_getD hk); omega), if_neg (by decide)]
  exact ⟨he, by unfold sumV; rw [if_pos he]; exact b, hin⟩
end Go.Proofs.Ytjldbabggmmkdaa
