/-
  Pure words of package counts: the same for the program and for the reference.
-/
import Derived.Test.YtjldbabggmmkdaaO6D
namespace Go.Proofs.Ytjldbabggmmkdaa
open Go.ChangeShapes Go.WideShapes Go.ChangeAt Go.RowKit
set_option linter.unusedVariables false

/-- what the reference's Check says: each number in bounds, then the sum -/
def rchk : Int → List Int → Int
  | s, [] => if 1099511627776 < s then 2 else 0
  | s, x :: r => if x < 0 ∨ 1099511627776 < x then 2 else rchk (s + x) r
theorem rchk_over : ∀ (xs : List Int) (s : Int), 1099511627776 < s → rchk s xs = 2
  | [], s, h => by simp only [rchk]; rw [if_pos h]
  | x :: xs, s, h => by
    simp only [rchk]
    by_cases hx : x < 0 ∨ 1099511627776 < x
    · rw [if_pos hx]
    · rw [if_neg hx]; exact rchk_over xs _ (by omega)
theorem rchk_sum : ∀ (xs : List Int) (s : Int), 0 ≤ s → s ≤ 1099511627776 → rchk s xs = if (sumUp s xs).isSome then 0 else 2
  | [], s, h0, h1 => by simp only [rchk, sumUp]; rw [if_neg (by omega)]; rfl
  | x :: xs, s, h0, h1 => by
    have e : sumUp s (x :: xs) = if x < 0 ∨ 1099511627776 - s < x then none else sumUp (s + x) xs := rfl
    have e2 : rchk s (x :: xs) = if x < 0 ∨ 1099511627776 < x then 2 else rchk (s + x) xs := rfl
    rw [e2]
    by_cases hx : x < 0 ∨ 1099511627776 < x
    · rw [if_pos hx, e.trans (if_pos (by omega))]; rfl
    · rw [if_neg hx]
      by_cases hy : x < 0 ∨ 1099511627776 - s < x
      · rw [e.trans (if_pos hy), rchk_over xs _ (by omega)]; rfl
      · rw [e.trans (if_neg hy), rchk_sum xs _ (by omega) (by omega)]
theorem chk_r {zs : List Int} (h : ¬ 256 < zs.length) : chk zs = rchk 0 zs := by
  unfold chk
  rw [if_neg h, rchk_sum zs 0 (by omega) (by omega)]

theorem take_snoc {zs : List Int} {k : Nat} (h : k < zs.length) : zs.take (k + 1) = zs.take k ++ [zs.getD k 0] := by
  rw [List.take_add_one, List.getElem?_eq_getElem h]
  simp [List.getD, h]
theorem cnt_append (xs ys : List Int) : cnt (xs ++ ys) = cnt xs + cnt ys := by unfold cnt; rw [List.filter_append, List.length_append]
theorem cnt_one (x : Int) : cnt [x] = if 0 < x then 1 else 0 := by rw [cnt_cons]; simp [cnt]
theorem occ_len (zs : List Int) : ∀ k, k ≤ zs.length → (occ zs k).length = cnt (zs.take k)
  | 0, _ => by simp [occ_zero, cnt]
  | k + 1, h => by
    rw [take_snoc (by omega), cnt_append, cnt_one, ← occ_len zs k (by omega)]
    by_cases hp : 0 < zs.getD k 0
    · rw [occ_pos hp, if_pos hp, List.length_append]; rfl
    · rw [occ_neg hp, if_neg hp]; omega
theorem occ_cnt (zs : List Int) : (occ zs zs.length).length = cnt zs := by rw [occ_len zs _ (Nat.le_refl _), List.take_length]
theorem occ_mem {zs : List Int} {n k : Nat} (h : k < n) (hp : 0 < zs.getD k 0) : (k, zs.getD k 0) ∈ occ zs n := by
  unfold occ
  rw [List.mem_filter]
  refine ⟨List.mem_map.2 ⟨k, List.mem_range.2 h, rfl⟩, ?_⟩
  simpa using hp
theorem occ_of {zs : List Int} {n : Nat} {p : Nat × Int} (h : p ∈ occ zs n) : p.1 < n ∧ p.2 = zs.getD p.1 0 ∧ 0 < p.2 := by
  unfold occ at h
  rw [List.mem_filter] at h
  obtain ⟨h, hp⟩ := h
  obtain ⟨j, hj, rfl⟩ := List.mem_map.1 h
  exact ⟨List.mem_range.1 hj, rfl, by simpa using hp⟩

/-- the last one -/
theorem fld_lt (zs : List Int) : ∀ k, (fld rk40 (occ zs k)).2 < (k : Int)
  | 0 => by rw [occ_zero]; decide
  | k + 1 => by
    have ih := fld_lt zs k
    by_cases hp : 0 < zs.getD k 0
    · rw [occ_pos hp, fld_snoc]
      unfold cst
      rw [if_pos (show (fld rk40 (occ zs k)).2 < rk40 (k, zs.getD k 0) from ih)]
      show ((k : Nat) : Int) < _
      omega
    · rw [occ_neg hp]; omega
theorem last_at {zs : List Int} {k : Nat} (hp : 0 < zs.getD k 0) : symP rk40 (occ zs (k + 1)) = k ∧ errP (occ zs (k + 1)) = 0 := by
  rw [occ_pos hp, symP_snoc, errP_snoc]
  unfold cst
  rw [if_pos (show (fld rk40 (occ zs k)).2 < rk40 (k, zs.getD k 0) from fld_lt zs k)]
  exact ⟨rfl, rfl⟩

/-- the greatest one, among the first k -/
def Gst (zs : List Int) (k b : Nat) : Prop := (fld rk41 (occ zs k) = ((b : Int), zs.getD b 0) ∧ 0 < zs.getD b 0 ∧ b < k ∧ occ zs k ≠ []) ∨ (occ zs k = [] ∧ b = 0 ∧ ¬ 0 < zs.getD 0 0)
theorem gst_one (zs : List Int) : Gst zs 1 0 := by
  by_cases hp : 0 < zs.getD 0 0
  · refine .inl ⟨?_, hp, by omega, ?_⟩
    · rw [show (1 : Nat) = 0 + 1 from rfl, occ_pos hp, fld_snoc, occ_zero]
      unfold cst
      rw [if_pos (show (fld rk41 []).2 < rk41 (0, zs.getD 0 0) from (show (-1 : Int) < zs.getD 0 0 by omega))]
      rfl
    · rw [show (1 : Nat) = 0 + 1 from rfl, occ_pos hp]; simp
  · refine .inr ⟨?_, rfl, hp⟩
    rw [show (1 : Nat) = 0 + 1 from rfl, occ_neg hp]; rfl
theorem gst_next {zs : List Int} {k b : Nat} (h : Gst zs k b) (h0 : 0 ≤ zs.getD k 0) (h00 : 0 ≤ zs.getD 0 0) : Gst zs (k + 1) (if zs.getD b 0 < zs.getD k 0 then k else b) := by
  by_cases hp : 0 < zs.getD k 0
  · rcases h with ⟨h1, h2, h3, h4⟩ | ⟨h1, rfl, h3⟩
    · have hf : fld rk41 (occ zs (k + 1)) = cst ((b : Int), zs.getD b 0) ((k : Int), zs.getD k 0) := by rw [occ_pos hp, fld_snoc, h1]; rfl
      by_cases hlt : zs.getD b 0 < zs.getD k 0
      · rw [if_pos hlt]
        refine .inl ⟨?_, hp, by omega, by rw [occ_pos hp]; simp⟩
        rw [hf]; unfold cst; rw [if_pos hlt]
      · rw [if_neg hlt]
        refine .inl ⟨?_, h2, by omega, by rw [occ_pos hp]; simp⟩
        rw [hf]; unfold cst; rw [if_neg hlt]
    · rw [if_pos (by omega)]
      refine .inl ⟨?_, hp, by omega, by rw [occ_pos hp]; simp⟩
      rw [occ_pos hp, fld_snoc, h1]
      unfold cst
      rw [if_pos (show (fld rk41 []).2 < rk41 (k, zs.getD k 0) from (show (-1 : Int) < zs.getD k 0 by omega))]
      rfl
  · rcases h with ⟨h1, h2, h3, h4⟩ | ⟨h1, rfl, h3⟩
    · rw [if_neg (by omega)]
      exact .inl ⟨by rw [occ_neg hp]; exact h1, h2, by omega, by rw [occ_neg hp]; exact h4⟩
    · rw [if_neg (by omega)]
      exact .inr ⟨by rw [occ_neg hp]; exact h1, rfl, h3⟩
theorem gst_end {zs : List Int} {n b : Nat} (h : Gst zs n b) (h0 : errP (occ zs n) = 0) : symP rk41 (occ zs n) = b ∧ b < n := by
  rcases h with ⟨h1, h2, h3, h4⟩ | ⟨h1, _, _⟩
  · exact ⟨by unfold symP; rw [if_neg h4, h1], h3⟩
  · rw [h1] at h0; exact absurd h0 (by decide)
theorem occ_ne_nil {zs : List Int} {n : Nat} (h0 : errP (occ zs n) = 0) : occ zs n ≠ [] := fun h => by rw [h] at h0; exact absurd h0 (by decide)
theorem errP_some {zs : List Int} {n : Nat} (h : occ zs n ≠ []) : errP (occ zs n) = 0 := by unfold errP; rw [if_neg h]

/-- has is true for each symbol that occurs -/
def covK (zs : List Int) (hs : List Bool) (k : Nat) : Bool := (occ zs k).all (fun p => hs.getD p.1 false)
theorem cov_zero (zs : List Int) (hs : List Bool) : covK zs hs 0 = true := rfl
theorem cov_next {zs : List Int} {hs : List Bool} {k : Nat} (h : covK zs hs k = true) (hk : 0 < zs.getD k 0 → hs.getD k false = true) : covK zs hs (k + 1) = true := by
  unfold covK at h ⊢
  by_cases hp : 0 < zs.getD k 0
  · rw [occ_pos hp, List.all_append, h, List.all_cons, hk hp]; rfl
  · rw [occ_neg hp, h]
theorem cov_not {zs : List Int} {hs : List Bool} {k n : Nat} (hk : k < n) (hp : 0 < zs.getD k 0) (hh : hs.getD k false = false) : covK zs hs n = false := by
  unfold covK
  rw [List.all_eq_false]
  exact ⟨_, occ_mem hk hp, by rw [hh]; decide⟩

/-- halved counts -/
def hlv (zs : List Int) : List Int := zs.map (fun z => z - z / 2)
theorem hlv_length (zs : List Int) : (hlv zs).length = zs.length := List.length_map ..
theorem hlv_getD (zs : List Int) (k : Nat) : (hlv zs).getD k 0 = zs.getD k 0 - zs.getD k 0 / 2 := by
  unfold hlv
  simp only [List.getD_eq_getElem?_getD, List.getElem?_map]
  cases zs[k]? <;> simp
/-- the table of the halved counts of the first k symbols -/
def htab (zs : List Int) (k : Nat) : List Int := (List.range 256).map (fun j => if j < k then zs.getD j 0 - zs.getD j 0 / 2 else 0)

/-- how often a number occurs -/
def occurs (j : Int) (zs : List Int) : Int := ((zs.count j : Nat) : Int)
theorem occurs_append (j : Int) (xs ys : List Int) : occurs j (xs ++ ys) = occurs j xs + occurs j ys := by unfold occurs; rw [List.count_append]; push_cast; rfl
theorem occurs_one (j x : Int) : occurs j [x] = if x = j then 1 else 0 := by unfold occurs; rw [List.count_singleton]; by_cases h : x = j <;> simp [h]
theorem occurs_le (j : Int) (xs : List Int) : 0 ≤ occurs j xs ∧ occurs j xs ≤ xs.length := by unfold occurs; have := List.count_le_length (a := j) (l := xs); omega
def ctab (N : Nat) (zs : List Int) : List Int := (List.range N).map (fun (j : Nat) => occurs (j : Int) zs)
theorem ctab_length (N : Nat) (zs : List Int) : (ctab N zs).length = N := by simp [ctab]
theorem ctab_getD {N : Nat} (zs : List Int) {j : Nat} (h : j < N) : (ctab N zs).getD j 0 = occurs (j : Int) zs := by
  unfold ctab
  rw [List.getD_eq_getElem?_getD, List.getElem?_map, List.getElem?_range h]
  rfl
theorem ctab_nil (N : Nat) : ctab N [] = List.replicate N 0 := by
  unfold ctab
  rw [List.map_congr_left (g := fun _ => (0 : Int)) (fun j _ => by simp [occurs]), List.map_const', List.length_range]
theorem ctab_snoc {N x : Nat} (hx : x < N) (zs : List Int) : ctab N (zs ++ [(x : Int)]) = (ctab N zs).set x (occurs (x : Int) zs + 1) := by
  apply List.ext_getElem?
  intro j
  rw [List.getElem?_set]
  unfold ctab
  simp only [List.length_map, List.getElem?_map]
  by_cases hj : j < N
  · rw [List.getElem?_range hj]
    by_cases hxj : x = j
    · subst hxj
      rw [if_pos rfl, if_pos (by simpa using hx)]
      simp only [Option.map_some, occurs_append, occurs_one, if_true]
    · rw [if_neg hxj]
      simp only [Option.map_some, occurs_append, occurs_one]
      rw [if_neg (by omega)]; simp
  · rw [List.getElem?_eq_none (by simpa using hj)]
    rw [if_neg (by omega)]
    rfl
theorem ctab_take (N M : Nat) (h : N ≤ M) (zs : List Int) : (ctab M zs).take N = ctab N zs := by
  unfold ctab
  rw [← List.map_take, List.take_range, Nat.min_eq_left h]

/-- the bytes of a string as numbers -/
def bts (s : ByteArray) : List Int := s.toList.map (fun b => ((b.toNat : Nat) : Int))
end Go.Proofs.Ytjldbabggmmkdaa
