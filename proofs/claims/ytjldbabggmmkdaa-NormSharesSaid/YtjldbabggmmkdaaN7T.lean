/-
  Counts that are all multiplied by the same number; one symbol alone.
-/
import Derived.Test.YtjldbabggmmkdaaSizes
namespace Go.Proofs.Ytjldbabggmmkdaa
open Go.ChangeShapes Go.WideShapes Go.ChangeAt Go.RowKit Go.Shelf
set_option linter.unusedVariables false
set_option linter.unusedSimpArgs false

def mulL (K : Int) (L : List Int) : List Int := L.map (fun x => x * K)
theorem mulL_length (K : Int) (L : List Int) : (mulL K L).length = L.length := List.length_map ..
theorem mulL_getD (K : Int) (L : List Int) (k : Nat) : (mulL K L).getD k 0 = L.getD k 0 * K := by
  unfold mulL
  simp only [List.getD_eq_getElem?_getD, List.getElem?_map]
  cases L[k]? <;> simp
theorem mulL_sum (K : Int) : ∀ L : List Int, (mulL K L).sum = L.sum * K
  | [] => by simp [mulL]
  | x :: L => by
    have ih := mulL_sum K L
    unfold mulL at ih ⊢
    rw [List.map_cons, List.sum_cons, List.sum_cons, ih, Int.add_mul]
theorem mul_lt {K a b : Int} (hK : 1 ≤ K) : (a * K < b * K) ↔ a < b := by
  constructor
  · intro h
    exact Int.lt_of_mul_lt_mul_right h (by omega)
  · intro h
    exact Int.mul_lt_mul_of_pos_right h (by omega)
theorem mul_pos' {K a : Int} (hK : 1 ≤ K) : (0 < a * K) ↔ 0 < a := by
  have := mul_lt (a := 0) (b := a) hK
  rw [Int.zero_mul] at this; exact this
theorem grst_mul {K : Int} (hK : 1 ≤ K) (L : List Int) : ∀ k, grst (mulL K L) k = grst L k
  | 0 => rfl
  | k + 1 => by
    show (if (mulL K L).getD (grst (mulL K L) k) 0 < (mulL K L).getD k 0 then k else grst (mulL K L) k) = if L.getD (grst L k) 0 < L.getD k 0 then k else grst L k
    rw [grst_mul hK L k, mulL_getD, mulL_getD]
    by_cases h : L.getD (grst L k) 0 < L.getD k 0
    · rw [if_pos h, if_pos ((mul_lt hK).2 h)]
    · rw [if_neg h, if_neg (fun x => h ((mul_lt hK).1 x))]
theorem mul_right {L : List Int} {m : Nat} (h : Cn m L) (h1 : 1 ≤ m) {K : Int} (hK : 1 ≤ K) (hK9 : K ≤ 9) : chk (mulL K L) = 0 ∧ totN (mulL K L) = (mulL K L).sum ∧ 0 < cnt (mulL K L) ∧ cnt (mulL K L) ≤ m := by
  have hb : ∀ k, k < m → 0 ≤ (mulL K L).getD k 0 ∧ (mulL K L).getD k 0 ≤ 16777216 := fun k hk => by
    have := h.2.2.2 k hk
    rw [mulL_getD]
    have q := Int.mul_le_mul this.2 hK9 (by omega) (by omega)
    exact ⟨Int.mul_nonneg this.1 (by omega), by omega⟩
  exact right_of (b := 0) (by rw [mulL_length]; exact h.1) (by have := h.2.1; omega) h1 hb ⟨0, by omega, by rw [mulL_getD]; exact (mul_pos' hK).2 (by have := h.2.2.1; omega)⟩
theorem refE_of {L : List Int} (h0 : chk L = 0) (h1 : 0 < cnt L) (h40 : cnt L ≤ 40) {M : Nat} (h6 : 6 ≤ M) (h12 : M ≤ 12) : refE L (M : Int) = 0 := by
  have := pow_ge h6
  unfold refE
  rw [if_pos h0, if_neg (by omega), if_neg (by omega), Int.toNat_natCast, if_neg (by omega)]
/-- multiplied counts have the same distribution -/
theorem mul_same {L : List Int} {m : Nat} (h : Cn m L) (h1 : 1 ≤ m) {K : Int} (hK : 1 ≤ K) (hK9 : K ≤ 9) {M : Nat} (h6 : 6 ≤ M) (h12 : M ≤ 12) :
    refE (mulL K L) (M : Int) = 0 ∧ disL (mulL K L) (M : Int) = disL L (M : Int) := by
  obtain ⟨a, b, c, d⟩ := mul_right h h1 hK hK9
  obtain ⟨a', b', c', d'⟩ := cn_right h h1
  have hr := refE_of a c (by have := h.2.1; omega) h6 h12
  have hr' := cn_refE h h1 h6 h12
  refine ⟨hr, ?_⟩
  obtain ⟨_, x2, x3, x4⟩ := lst_top a c
  obtain ⟨_, y2, y3, y4⟩ := lst_top a' c'
  have hl : lst (mulL K L) = lst L := by
    rw [mulL_getD] at x3
    have p1 := y4 _ (by rw [mulL_length] at x2; exact x2) ((mul_pos' hK).1 x3)
    have p2 := x4 (lst L) (by rw [mulL_length]; exact y2) (by rw [mulL_getD]; exact (mul_pos' hK).2 y3)
    omega
  have hg : gr (mulL K L) = gr L := by unfold gr; rw [grst_mul hK, mulL_length]
  have hs : shl (mulL K L) (2 ^ M) = shl L (2 ^ M) := by
    refine list_eq (N := lst L + 1) (by rw [shl_length _ _ x2, hl]) (shl_length _ _ y2) (fun k hk => ?_)
    rw [shl_getD _ _ k (by rw [hl]; exact hk) x2, shl_getD _ _ k hk y2, mulL_getD, b, mulL_sum, b']
    generalize L.getD k 0 = z
    generalize L.sum = n
    unfold shr
    have e : z * K * 2 ^ M / (n * K) = z * 2 ^ M / n := by
      rw [Int.mul_right_comm z K (2 ^ M)]
      exact Int.mul_ediv_mul_of_pos_left _ _ (by omega)
    rw [e]
    by_cases hz : 0 < z
    · rw [if_pos hz, if_pos ((mul_pos' hK).2 hz)]
    · rw [if_neg hz, if_neg (fun x => hz ((mul_pos' hK).1 x))]
  unfold disL
  rw [if_pos hr, if_pos hr', Int.toNat_natCast, hs]
  unfold stl
  rw [hg]

/-- one symbol alone, the last one -/
def alone (m : Nat) (K : Int) : List Int := (zeroL (m + 1)).set m K
theorem alone_length (m : Nat) (K : Int) : (alone m K).length = m + 1 := by unfold alone; rw [List.length_set, zeroL_length]
theorem alone_getD (m : Nat) (K : Int) (k : Nat) : (alone m K).getD k 0 = if m = k then K else 0 := by
  unfold alone
  rw [getD_set_int _ (by rw [zeroL_length]; omega), zeroL_getD]
theorem pts_zero : ∀ n, pts (zeroL n) = 0
  | 0 => rfl
  | n + 1 => by
    have e : zeroL (n + 1) = 0 :: zeroL n := by unfold zeroL; rw [List.replicate_succ]
    rw [e]; simp only [pts, pts_zero n]; rfl
theorem pts_alone (m : Nat) (S : Int) (hS : 0 ≤ S) : pts (alone m S) = S := by
  unfold alone
  rw [pts_set (by rw [zeroL_length]; omega), pts_zero, zeroL_getD]
  have : wth S = S := by unfold wth; rw [if_neg (by omega)]
  rw [this]
  show 0 - wth 0 + S = S
  have : wth 0 = 0 := by unfold wth; rw [if_neg (by omega)]
  omega
theorem sum_alone (m : Nat) (K : Int) (hK : 1 ≤ K) : (alone m K).sum = K := by
  have e : alone m K = zeroL m ++ [K] := by
    refine list_eq (N := m + 1) (alone_length m K) (by rw [List.length_append, zeroL_length]; rfl) (fun k hk => ?_)
    rw [alone_getD]
    by_cases h : m = k
    · subst h
      rw [if_pos rfl, List.getD_eq_getElem?_getD, List.getElem?_append_right (by rw [zeroL_length]; omega), zeroL_length]
      simp
    · rw [if_neg h, List.getD_eq_getElem?_getD, List.getElem?_append_left (by rw [zeroL_length]; omega), ← List.getD_eq_getElem?_getD, zeroL_getD]
  have hz : ∀ n, (zeroL n).sum = 0 := by
    intro n
    induction n with
    | zero => rfl
    | succ n ih =>
      have e : zeroL (n + 1) = 0 :: zeroL n := by unfold zeroL; rw [List.replicate_succ]
      rw [e, List.sum_cons, ih]; rfl
  rw [e, List.sum_append, hz]; simp
theorem alone_dis {m : Nat} (hm : m < 40) {K : Int} (hK : 1 ≤ K) (hK9 : K ≤ 9) {M : Nat} (h6 : 6 ≤ M) (h12 : M ≤ 12) :
    refE (alone m K) (M : Int) = 0 ∧ disL (alone m K) (M : Int) = alone m (2 ^ M) := by
  obtain ⟨a, b, c, d⟩ := right_of (b := 0) (alone_length m K) (by omega) (by omega) (fun k hk => by rw [alone_getD]; split <;> omega) ⟨m, by omega, by rw [alone_getD, if_pos rfl]; omega⟩
  have hr := refE_of a c (by omega) h6 h12
  have hpw := pow_in (show 5 ≤ M by omega) h12
  refine ⟨hr, ?_⟩
  obtain ⟨_, x2, x3, x4⟩ := lst_top a c
  have hl : lst (alone m K) = m := by
    rw [alone_getD] at x3
    by_cases h : m = lst (alone m K)
    · exact h.symm
    · rw [if_neg h] at x3; omega
  have hs : shl (alone m K) (2 ^ M) = alone m (2 ^ M) := by
    refine list_eq (N := m + 1) (by rw [shl_length _ _ x2, hl]) (alone_length _ _) (fun k hk => ?_)
    rw [shl_getD _ _ k (by rw [hl]; exact hk) x2, alone_getD, alone_getD, b, sum_alone m K hK]
    by_cases h : m = k
    · rw [if_pos h, if_pos h]
      unfold shr
      have e : K * 2 ^ M / K = 2 ^ M := Int.mul_ediv_cancel_left _ (by omega)
      rw [if_pos (by omega), e, if_neg (by omega)]
    · rw [if_neg h, if_neg h]; unfold shr; rw [if_neg (by omega)]
  unfold disL
  rw [if_pos hr, Int.toNat_natCast, hs]
  unfold stl
  rw [pts_alone m _ (by omega), if_neg (by omega), show ((2 : Int) ^ M - 2 ^ M).toNat = 0 by omega]
  rfl
theorem with_at {A : Option Addr} {n : Nat} {zs out : List Int} (c M N : Nat) {w : World} (hI : IntsAt w w.heap.size A zs) (hl : zs.length = n) (hn : n ≤ 9223372036854775807) (h0 : refE zs (M : Int) = 0) (ho : disL zs (M : Int) = out) (hN : out.length = N) :
    Calls Try.prog 10 #[.slice A n c, .int .i64 (M : Int)] w fun e w' => ∃ (A' : Option Addr) (c' : Nat), e = .returned (.tuple #[.agg #[.int .i64 (M : Int), .slice A' N c'], .int .i64 0]) ∧ IntsAt w' w'.heap.size A' out ∧ Below w.heap.size w w' := by
  have k := with_c (A := A) (n := n) (zs := zs) c (M : Int) (w := w) ⟨hl, hn, hI⟩
  rw [h0, ho] at k
  unfold disG at k
  rw [if_pos h0] at k
  refine Calls.mono k ?_
  rintro e w' ⟨A', c', rfl, a, b, _⟩
  rw [hN]
  exact ⟨A', c', rfl, a, b⟩
end Go.Proofs.Ytjldbabggmmkdaa
