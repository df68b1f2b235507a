/-
  Package norm: the shares of the counts.
-/
import Derived.Test.YtjldbabggmmkdaaN7P
import Derived.Test.YtjldbabggmmkdaaN7D
import Derived.Test.YtjldbabggmmkdaaO6R
namespace Go.Proofs.Ytjldbabggmmkdaa
open Go.ChangeShapes Go.WideShapes Go.ChangeAt Go.RowKit Go.Shelf
set_option linter.unusedVariables false
set_option linter.unusedSimpArgs false
attribute [local go_sem] Oper.semAt_some

theorem made_tab (N : Nat) : madeCells #[.int .i64 0] N = tab (zeroL N) := by
  apply Array.ext'
  rw [toList_madeCells_one]
  unfold tab zeroL
  rw [List.map_replicate]
/-- the last symbol that occurs is the last one -/
theorem last_top (zs : List Int) : ∀ n, (∃ s, s < n ∧ 0 < zs.getD s 0) → ∃ k : Nat, k < n ∧ 0 < zs.getD k 0 ∧ symP rk40 (occ zs n) = k ∧ ∀ s, s < n → 0 < zs.getD s 0 → s ≤ k
  | 0, h => by obtain ⟨s, hs, _⟩ := h; omega
  | n + 1, h => by
    by_cases hp : 0 < zs.getD n 0
    · exact ⟨n, by omega, hp, (last_at hp).1, fun s hs _ => by omega⟩
    · obtain ⟨s, hs, hsp⟩ := h
      have hsn : s ≠ n := fun e => hp (e ▸ hsp)
      obtain ⟨k, h1, h2, h3, h4⟩ := last_top zs n ⟨s, by omega, hsp⟩
      refine ⟨k, by omega, h2, by rw [occ_neg hp]; exact h3, fun s hs hsp => ?_⟩
      have hsn : s ≠ n := fun e => hp (e ▸ hsp)
      exact h4 s (by omega) hsp
theorem lst_top {zs : List Int} (h0 : chk zs = 0) (h1 : 0 < cnt zs) : lasN zs = (lst zs : Nat) ∧ lst zs < zs.length ∧ 0 < zs.getD (lst zs) 0 ∧ ∀ s, s < zs.length → 0 < zs.getD s 0 → s ≤ lst zs := by
  have hne : occ zs zs.length ≠ [] := fun h => by have := occ_cnt zs; rw [h] at this; simp at this; omega
  obtain ⟨p, ps, hp⟩ := List.exists_cons_of_ne_nil hne
  have hm := occ_of (zs := zs) (n := zs.length) (p := p) (by rw [hp]; exact List.mem_cons_self ..)
  obtain ⟨k, a, b, c, d⟩ := last_top zs zs.length ⟨p.1, hm.1, by rw [← hm.2.1]; exact hm.2.2⟩
  have e : lasN zs = k := by unfold lasN; rw [if_pos h0]; exact c
  have e2 : lst zs = k := by unfold lst; rw [e, Int.toNat_natCast]
  rw [e2]
  exact ⟨e, a, b, d⟩
/-- the table of the shares of some symbols -/
def shT (N : Nat) (size n : Int) (pre : List (Nat × Int)) : List Int := pre.foldl (fun t p => t.set p.1 (shr size n p.2)) (zeroL N)
theorem shT_snoc (N : Nat) (size n : Int) (pre : List (Nat × Int)) (x : Nat × Int) : shT N size n (pre ++ [x]) = (shT N size n pre).set x.1 (shr size n x.2) := by unfold shT; rw [List.foldl_append]; rfl
theorem shT_length (N : Nat) (size n : Int) (pre : List (Nat × Int)) : (shT N size n pre).length = N := by
  have h : ∀ (pre : List (Nat × Int)) (t : List Int), (pre.foldl (fun t p => t.set p.1 (shr size n p.2)) t).length = t.length := by
    intro pre
    induction pre with
    | nil => intro t; rfl
    | cons x pre ih => intro t; rw [List.foldl_cons, ih, List.length_set]
  unfold shT; rw [h, zeroL_length]
theorem shT_occ {zs : List Int} (N : Nat) (size n : Int) : ∀ k, ∀ j, (shT N size n (occ zs k)).getD j 0 = if j < k ∧ j < N then shr size n (zs.getD j 0) else 0
  | 0, j => by rw [if_neg (by omega)]; exact zeroL_getD N j
  | k + 1, j => by
    have ih := shT_occ (zs := zs) N size n k j
    by_cases hp : 0 < zs.getD k 0
    · rw [occ_pos hp, shT_snoc]
      simp only [List.getD_eq_getElem?_getD, List.getElem?_set, shT_length] at ih ⊢
      by_cases hkj : k = j
      · subst hkj
        by_cases hk : k < N
        · simp [hk]
        · simp [hk]
      · rw [if_neg hkj, ih]
        by_cases h1 : j < k ∧ j < N
        · rw [if_pos h1, if_pos (by omega)]
        · rw [if_neg h1, if_neg (by omega)]
    · rw [occ_neg hp, ih]
      by_cases hkj : j = k
      · subst hkj
        have e : shr size n (zs.getD j 0) = 0 := by unfold shr; rw [if_neg hp]
        rw [e, if_neg (by omega)]
        split <;> rfl
      · by_cases h1 : j < k ∧ j < N
        · rw [if_pos h1, if_pos (by omega)]
        · rw [if_neg h1, if_neg (by omega)]
theorem shl_length (zs : List Int) (size : Int) (h : lst zs < zs.length) : (shl zs size).length = lst zs + 1 := by
  unfold shl
  rw [List.length_map, List.length_take]; omega
theorem shl_getD (zs : List Int) (size : Int) (k : Nat) (hk : k < lst zs + 1) (hl : lst zs < zs.length) : (shl zs size).getD k 0 = shr size (totN zs) (zs.getD k 0) := by
  unfold shl
  simp only [List.getD_eq_getElem?_getD, List.getElem?_map, List.getElem?_take, if_pos hk]
  have hkl : k < zs.length := by omega
  simp [hkl]
theorem shT_all {zs : List Int} (size : Int) (hl : lst zs < zs.length) : shT (lst zs + 1) size (totN zs) (occ zs zs.length) = shl zs size := by
  apply List.ext_getElem?
  intro j
  by_cases hj : j < lst zs + 1
  · have h1 := shT_occ (zs := zs) (lst zs + 1) size (totN zs) zs.length j
    rw [if_pos (by omega), ← shl_getD zs size j hj hl] at h1
    have a : j < (shT (lst zs + 1) size (totN zs) (occ zs zs.length)).length := by rw [shT_length]; exact hj
    have b : j < (shl zs size).length := by rw [shl_length _ _ hl]; exact hj
    rw [List.getElem?_eq_getElem a, List.getElem?_eq_getElem b]
    simpa [List.getD, a, b] using h1
  · rw [List.getElem?_eq_none (by rw [shT_length]; omega), List.getElem?_eq_none (by rw [shl_length _ _ hl]; omega)]

/-- what the loop of shares holds -/
structure Shs (b3 b6 b10 g : Nat) (size t : Int) (N : Nat) (W : World) : Prop where
  k3 : Boxed W b3 3 (.int .i64 size)
  k4 : Boxed W (b3 + 1) 23 (.slice none 0 0)
  k5 : Boxed W (b3 + 1 + 1) 26 (.int .i64 0)
  k6 : Boxed W b6 3 (.int .i64 t)
  k10 : Boxed W b10 23 (.slice (some ⟨g, 0, none⟩) N N)
theorem shs_own {β : Type} (b3 b6 b10 g : Nat) (size t : Int) (N : Nat) : Own (fun (_ : β) W => Shs b3 b6 b10 g size t N W) := fun pre X Y row hs hg hr =>
  ⟨boxed_own b3 3 (fun _ : β => .int .i64 size) pre X Y row hs.k3 hg hr, boxed_own (b3 + 1) 23 (fun _ : β => .slice none 0 0) pre X Y row hs.k4 hg hr, boxed_own (b3 + 1 + 1) 26 (fun _ : β => .int .i64 0) pre X Y row hs.k5 hg hr,
   boxed_own b6 3 (fun _ : β => .int .i64 t) pre X Y row hs.k6 hg hr, boxed_own b10 23 (fun _ : β => .slice (some ⟨g, 0, none⟩) N N) pre X Y row hs.k10 hg hr⟩

theorem shs_far {b3 b6 b10 g : Nat} {size t : Int} {N : Nat} {W : World} (h : Shs b3 b6 b10 g size t N W) (h3 : b3 + 1 + 1 < g) (h6 : b6 < g) (h10 : g < b10) (j : Nat) (v : Value) : Shs b3 b6 b10 g size t N (W.setCell ⟨g, j, none⟩ v) :=
  ⟨blk_far (p := ⟨g, j, none⟩) h.k3 (by show b3 ≠ g; omega) v, blk_far (p := ⟨g, j, none⟩) h.k4 (by show b3 + 1 ≠ g; omega) v, blk_far (p := ⟨g, j, none⟩) h.k5 (by show b3 + 1 + 1 ≠ g; omega) v,
   blk_far (p := ⟨g, j, none⟩) h.k6 (by show b6 ≠ g; omega) v, blk_far (p := ⟨g, j, none⟩) h.k10 (by show b10 ≠ g; omega) v⟩

set_option maxRecDepth 100000 in
set_option maxHeartbeats 4000000 in
theorem shares_c {A : Option Addr} {n : Nat} {zs : List Int} (cap L : Nat) (hL1 : 5 ≤ L) (hL2 : L ≤ 12) {w : World} (h : Cts w A n zs) (h0 : chk zs = 0) (h1 : 0 < cnt zs) :
    Calls Try.prog 26 #[.slice A n cap, .int .i64 (2 ^ L)] w fun r w' => ∃ g : Nat, r = .returned (.tuple #[.slice (some ⟨g, 0, none⟩) (lst zs + 1) (lst zs + 1), .int .i64 0]) ∧ w.heap.size ≤ g ∧ Blk w' g 3 (tab (shl zs (2 ^ L))) ∧ Below w.heap.size w w' := by
  obtain ⟨l1, l2, l3, l4⟩ := lst_top h0 h1
  obtain ⟨t1, t2, t3, t4⟩ := tot_cnt h0
  have g1 := (good_of h0).1
  have hpw := pow_in hL1 hL2
  generalize (2 : Int) ^ L = S at *
  have hw0 : Below w.heap.size w (((w.alloc (.cells #[.int .i64 S] 3)).alloc (.cells #[.slice none 0 0] 23)).alloc (.cells #[.int .i64 0] 26)) := below_box (below_box (below_box (Below.refl _ _) _) _) _
  have ht := total_c cap (h.below hw0)
  have hla : ∀ u, Below w.heap.size w u → Calls Try.prog 42 #[.slice A n cap] u fun e w' => e = .returned (.tuple #[.int .i64 (lst zs : Nat), .int .i64 0]) ∧ Below u.heap.size u w' := fun u hu => by
    have k := last_c cap (h.below hu)
    have hE : lasE zs = 0 := by
      unfold lasE; rw [if_pos h0]
      exact errP_some (fun hx => by have := occ_cnt zs; rw [hx] at this; simp at this; omega)
    rw [l1, hE] at k
    exact k
  rw [h0] at ht
  have hl := h.1
  subst hl
  have hN : lst zs + 1 ≤ 256 := by omega
  have hmk : ∀ W, (Instr.makeSlice 23 (.int .i64 ((lst zs : Nat) + 1 : Int)) (.int .i64 ((lst zs : Nat) + 1 : Int))).run Try.prog W = .ok (.slice (some ⟨W.heap.size, 0, none⟩) (lst zs + 1) (lst zs + 1)) (W.alloc (.cells (madeCells #[.int .i64 0] (lst zs + 1)) 3)) := fun W => by
    have k := run_make_row' (P := Try.prog) 23 3 (.int .i64 0) 8 Try.underlying23 info3 rfl .i64 .i64 (lst zs + 1) (by omega) (by omega) W
    push_cast at k
    exact k
  refine (callsIn_wide (n := 3)).1 ?_
  refine callsIn_of_wp_marks Try.func26 rfl trivial ?_ rfl
  simp only [Try.ntmps26, List.size_toArray, List.length_cons, List.length_nil, Nat.reduceAdd, Nat.reduceSub, Array.replicate_succ, Array.replicate_zero, List.push_toArray, List.append_toArray, List.nil_append, List.cons_append]
  gi_wp2_with (first
    | (refine ⟨trivial, ?_⟩; gi_at_call 31; refine (callsIn_wide.2 ht).mono ?_; rintro e w1 ⟨rfl, ha1⟩; have hb1 := below_call hw0 ha1)
    | (refine ⟨trivial, ?_⟩; gi_at_call 42; refine (callsIn_wide.2 (hla _ (below_box hb1 _))).mono ?_; rintro e w2 ⟨rfl, hb2⟩)
    | (refine ⟨trivial, ?_⟩; gi_at_call 43; refine (pairs_in Fence.wide _ trivial rfl _ _ _ _).mono ?_; rintro e w' ⟨rfl, rfl⟩))
  have hB2 : Below w.heap.size w w2 := below_call (below_box hb1 _) hb2
  have b1s := hb1.size
  have b2s := hb2.size
  have bas := ha1.size
  rw [World.size_alloc] at b2s
  simp only [World.size_alloc] at bas
  have k3 := (((((Boxed.new w 3 (.int .i64 S)).alloc (.cells #[.slice none 0 0] 23)).alloc (.cells #[.int .i64 0] 26)).next ha1).alloc (.cells #[.int .i64 (totN zs)] 3)).next hb2
  have k4 := ((((Boxed.new (w.alloc (.cells #[.int .i64 S] 3)) 23 (.slice none 0 0)).alloc (.cells #[.int .i64 0] 26)).next ha1).alloc (.cells #[.int .i64 (totN zs)] 3)).next hb2
  have k5 := (((Boxed.new ((w.alloc (.cells #[.int .i64 S] 3)).alloc (.cells #[.slice none 0 0] 23)) 26 (.int .i64 0)).next ha1).alloc (.cells #[.int .i64 (totN zs)] 3)).next hb2
  have k6 := (Boxed.new w1 3 (.int .i64 (totN zs))).next hb2
  have kT : Blk (w2.alloc (.cells (madeCells #[.int .i64 0] (lst zs + 1)) 3)) w2.heap.size 3 (tab (shT (lst zs + 1) S (totN zs) [])) := by rw [made_tab]; exact blk_new w2 3 _
  have k10 := Boxed.new (w2.alloc (.cells (madeCells #[.int .i64 0] (lst zs + 1)) 3)) 23 (.slice (some ⟨w2.heap.size, 0, none⟩) (lst zs + 1) (lst zs + 1))
  have kN := Boxed.new ((w2.alloc (.cells (madeCells #[.int .i64 0] (lst zs + 1)) 3)).alloc (.cells #[.slice (some ⟨w2.heap.size, 0, none⟩) (lst zs + 1) (lst zs + 1)] 23)) 23 (.slice A zs.length cap)
  simp only [World.size_alloc] at k4 k5 k10 kN
  have up : ∀ {B : Nat} {T : TypeId} {v : Value}, Boxed w2 B T v → Boxed (((w2.alloc (.cells (madeCells #[.int .i64 0] (lst zs + 1)) 3)).alloc (.cells #[.slice (some ⟨w2.heap.size, 0, none⟩) (lst zs + 1) (lst zs + 1)] 23)).alloc (.cells #[.slice A zs.length cap] 23)) B T v := fun hx => ((hx.alloc _).alloc _).alloc _
  have hst : Shs w.heap.size w1.heap.size (w2.heap.size + 1) w2.heap.size S (totN zs) (lst zs + 1) (((w2.alloc (.cells (madeCells #[.int .i64 0] (lst zs + 1)) 3)).alloc (.cells #[.slice (some ⟨w2.heap.size, 0, none⟩) (lst zs + 1) (lst zs + 1)] 23)).alloc (.cells #[.slice A zs.length cap] 23)) := ⟨up k3, up k4, up k5, up k6, k10.alloc _⟩
  have hT0 := blk_alloc (blk_alloc kT (.cells #[.slice (some ⟨w2.heap.size, 0, none⟩) (lst zs + 1) (lst zs + 1)] 23)) (.cells #[.slice A zs.length cap] 23)
  have hB0 : Below w.heap.size w (((w2.alloc (.cells (madeCells #[.int .i64 0] (lst zs + 1)) 3)).alloc (.cells #[.slice (some ⟨w2.heap.size, 0, none⟩) (lst zs + 1) (lst zs + 1)] 23)).alloc (.cells #[.slice A zs.length cap] 23)) := below_box (below_box (below_box hB2 _) _) _
  clear hla ht hmk up k3 k4 k5 k6 kT k10 hb1 hb2 ha1 hw0 hB2
  have hI := h.2.2.below hB0
  generalize hWz : ((w2.alloc (.cells (madeCells #[.int .i64 0] (lst zs + 1)) 3)).alloc (.cells #[.slice (some ⟨w2.heap.size, 0, none⟩) (lst zs + 1) (lst zs + 1)] 23)).alloc (.cells #[.slice A zs.length cap] 23) = Wz at *
  have hszz : Wz.heap.size = w2.heap.size + 1 + 1 + 1 := by rw [← hWz, World.size_alloc, World.size_alloc, World.size_alloc]
  clear hWz
  generalize w1.heap.size = p at *
  generalize w2.heap.size = q at *
  clear w1 w2
  have hg2 := Lib.hid (good_of h0).2.1
  have T3 := Lib.hid t3
  have L4 := Lib.hid l4
  have SA := Lib.hid (shT_all S l2)
  have t1' : 1 ≤ totN zs := by omega
  generalize hNN : lst zs + 1 = N at *
  clear t3 l4 t1 t2
  generalize totN zs = t at *
  refine wpIn_rangeFunc_ownG rfl (by omega) (gf := 57) (lb := #[.pointer (some ⟨q + 1 + 1, 0, none⟩)]) rfl trivial (enters_of Try.func57 (by kernel_rfl) rfl)
    (pairs_stopsM Fence.wide _ trivial rfl (by omega) (q + 1 + 1) w.heap.size A cap zs g1 _ (by omega) (by omega) kN.cell hI) belowK_t (belowK_b (by omega)) (Below.refl _ _) (fun _ => rfl)
    (fun (pre : List (Occ zs)) W => (Shs w.heap.size p (q + 1) q S t N W ∧ Blk W q 3 (tab (shT N S t (pre.map Subtype.val)))) ∧ Below w.heap.size w W)
    (fun _ _ _ => False)
    (OwnFrom.and (OwnFrom.and (Own.from (shs_own _ _ _ _ _ _ _) _) (Own.from (blk_own q 3 (fun pre : List (Occ zs) => tab (shT N S t (pre.map Subtype.val)))) _)) (ownFrom_below (Nat.le_refl _) (by omega)))
    (fun _ _ _ _ _ hs _ _ => hs)
    ⟨⟨hst, hT0⟩, hB0⟩
    (fun x => { tmps := #[.slice A zs.length cap, .int .i64 S, undef, .pointer (some ⟨w.heap.size, 0, none⟩), .pointer (some ⟨w.heap.size + 1, 0, none⟩), .pointer (some ⟨w.heap.size + 1 + 1, 0, none⟩), .pointer (some ⟨p, 0, none⟩), .int .i64 0, .int .i64 (lst zs : Nat), .int .i64 0,
      .pointer (some ⟨q + 1, 0, none⟩), .int .i64 (x.1.1 : Int), .int .i64 x.1.2, undef, undef, .tuple #[.int .i64 t, .int .i64 0], .slice A zs.length cap, .tuple #[.int .i64 t, .int .i64 0], .int .i64 t, .int .i64 0, .tuple #[.int .i64 (lst zs : Nat), .int .i64 0], .slice A zs.length cap,
      .tuple #[.int .i64 (lst zs : Nat), .int .i64 0], .int .i64 (lst zs : Nat), .int .i64 0, .int .i64 (lst zs : Nat), .int .i64 ((lst zs : Nat) + 1), .slice (some ⟨q, 0, none⟩) N N, .slice A zs.length cap, .func (.func 57) #[] #[.pointer (some ⟨q + 1 + 1, 0, none⟩)], .int .i64 (x.1.1 : Int), .int .i64 x.1.2, undef, undef, undef, undef, undef, undef, undef, undef, undef, undef, undef, undef, undef, undef, undef, undef, undef, undef, undef, undef, undef, undef, undef, undef], defers := [] }) ?assign ?body ?done ?stop
  case assign =>
    intro l x W K hK
    gi_wp2
    exact hK
  case body =>
    rintro l pre ⟨⟨s, z⟩, hm⟩ W ⟨⟨hs, hT⟩, hB⟩ _
    have hsl : s < zs.length := hm.1
    have hz0 : 0 < z := hm.2.2
    have hzz : z = zs.getD s 0 := hm.2.1
    have hzm : z ∈ zs := by
      have e : zs.getD s 0 = zs[s] := by simp [List.getD, hsl]
      rw [hzz, e]; exact List.getElem_mem hsl
    have hz1 := T3.out z hzm
    have hsN : s < N := by have := L4.out s hsl (by rw [← hzz]; exact hz0); omega
    have hpb : z * S ≤ 4503599627370496 := by
      have := Int.mul_le_mul (show z ≤ 1099511627776 by omega) hpw.2 (by omega) (by omega)
      omega
    have hp0 : 0 ≤ z * S := Int.mul_nonneg (by omega) (by omega)
    have htm := times_c z S (by omega) (by omega) (by omega) (by omega) (by omega)
    have y3 := hs.k3.cell
    have y6 := hs.k6.cell
    have y10 := hs.k10.cell
    have hcell := tab_cell hT (k := s) (by rw [shT_length]; exact hsN)
    have hfr := blk_frozen hT s
    have hdiv := div_le_self' t1' hp0 hpb
    have hst : shT N S t ((pre ++ [(⟨(s, z), hm⟩ : Occ zs)]).map Subtype.val) = (shT N S t (pre.map Subtype.val)).set s (shr S t z) := by rw [List.map_append]; exact shT_snoc _ _ _ _ _
    have hsr : shr S t z = if z * S / t = 0 then -1 else z * S / t := by unfold shr; rw [if_pos hz0]
    have etd : (z * S).tdiv t = z * S / t := Int.tdiv_eq_ediv_of_nonneg hp0
    generalize (shT N S t (pre.map Subtype.val)).getD s 0 = v0 at hcell
    have HST := Lib.hid hst
    have HSR := Lib.hid hsr
    have HS := Lib.hid hs
    have HT := Lib.hid hT
    clear hst hsr hs hT hzz hzm
    dsimp only
    generalize z * S = pr at *
    have htz : ¬ t = 0 := by omega
    have hwd : IntKind.i64.wrap (pr / t) = pr / t := wraps_i64 _ (by omega) (by omega)
    clear etd
    gi_wp2_with (refine ⟨trivial, ?_⟩; gi_at_call 44; refine (CallsIn.inRound l (callsIn_wide.2 (htm _))).mono ?_; rintro e w' ⟨rfl, rfl⟩)
    have hmx : Try.prog.follows .mixedOrders = true := by kernel_rfl
    have hBe : Below w.heap.size w' w'.drew := (Below.refl _ _).drew
    have hke : KeepsOthers w' w'.drew := ⟨Nat.le_refl _, fun i o hi ho => hi⟩
    refine region_round 6 hmx (by kernel_rfl) (by kernel_rfl) (fun ⟨a, w, h⟩ => h) ?_
    change wpStill _ _ w'.drew _ _ _
    simp only [List.take_succ_cons, List.take_zero, List.drop_succ_cons, List.drop_zero]
    have y6' : w'.drew.cell? ⟨p, 0, none⟩ = some (.int .i64 t) := y6
    have y10' : w'.drew.cell? ⟨q + 1, 0, none⟩ = some (.slice (some ⟨q, 0, none⟩) N N) := y10
    have hcell' : w'.drew.cell? ⟨q, s, none⟩ = some (.int .i64 v0) := hcell
    have hfr' : w'.drew.frozen? ⟨q, s, none⟩ = false := hfr
    have HS' : Hid (Shs w.heap.size p (q + 1) q S t N w'.drew) := Lib.hid ⟨HS.out.k3, HS.out.k4, HS.out.k5, HS.out.k6, HS.out.k10⟩
    have HT' : Hid (Blk w'.drew q 3 (tab (shT N S t (pre.map Subtype.val)))) := Lib.hid (show w'.drew.heap[q]? = _ from HT.out)
    clear y3 y6 y10 hcell hfr HS HT
    still_step
    still_step
    still_step
    still_step
    still_step
    still_step
    refine wpStill_nil ?_
    change wpList _ _ _ _ _ w'.drew
    have hBw : Below w.heap.size w w'.drew := hB.trans hBe
    generalize w'.drew = w5 at *
    go_wp2
    clear hwd
    generalize pr / t = d at *
    have HS6 := Lib.hid (shs_far HS'.out (by omega) (by omega) (by omega) s (.int .i64 d))
    have HT6 := Lib.hid (tab_store HT'.out s d)
    have hB6 := hBw.setCell (p := ⟨q, s, none⟩) (show w.heap.size ≤ q by omega) (.int .i64 d)
    have hC6 := hBe.setCell (p := ⟨q, s, none⟩) (show w.heap.size ≤ q by omega) (.int .i64 d)
    have hK6 : KeepsOthers w' (w5.setCell ⟨q, s, none⟩ (.int .i64 d)) := hke.trans (KeepsOthers.setCell _ _ _)
    have c10 := HS6.out.k10.cell
    have cT := tab_cell HT6.out (k := s) (by rw [List.length_set, shT_length]; exact hsN)
    have fT := blk_frozen HT6.out s
    have eT : ((shT N S t (pre.map Subtype.val)).set s d).getD s 0 = d := by
      simp only [List.getD_eq_getElem?_getD, List.getElem?_set, shT_length, if_pos rfl, if_pos hsN]; rfl
    rw [eT] at cT
    generalize w5.setCell ⟨q, s, none⟩ (.int .i64 d) = w6 at *
    by_cases hd0 : d = 0
    · have hfin : tab (((shT N S t (pre.map Subtype.val)).set s d).set s (-1)) = tab (shT N S t ((pre ++ [(⟨(s, z), hm⟩ : Occ zs)]).map Subtype.val)) := by
        rw [HST.out, HSR.out, if_pos hd0, List.set_set]
      have HFIN := Lib.hid hfin
      clear hfin HSR HST htm
      subst hd0
      gi_wp2
      have hT7 := tab_store HT6.out s (-1)
      rw [HFIN.out] at hT7
      exact ⟨(hK6.trans (KeepsOthers.setCell _ _ _)).from _, hC6.setCell (p := ⟨q, s, none⟩) (show w.heap.size ≤ q by omega) _, ⟨shs_far HS6.out (by omega) (by omega) (by omega) s _, hT7⟩, hB6.setCell (p := ⟨q, s, none⟩) (show w.heap.size ≤ q by omega) _⟩
    · have hfin : tab ((shT N S t (pre.map Subtype.val)).set s d) = tab (shT N S t ((pre ++ [(⟨(s, z), hm⟩ : Occ zs)]).map Subtype.val)) := by
        rw [HST.out, HSR.out, if_neg hd0]
      have HFIN := Lib.hid hfin
      have hdb : (d == 0) = false := by simpa using hd0
      clear hfin HSR HST htm hd0
      gi_wp2
      have hT7 := HT6.out
      rw [HFIN.out] at hT7
      exact ⟨hK6.from _, hC6, ⟨HS6.out, hT7⟩, hB6⟩
  case done =>
    rintro D ys W hD hys ⟨⟨hs, hT⟩, hB⟩ hK
    rw [hys] at hT
    have y4 := hs.k4.cell
    have y5 := hs.k5.cell
    have y10 := hs.k10.cell
    have z4 := hs.k4.frozen
    have z5 := hs.k5.frozen
    have b4 := (hs.k4.set (.slice (some ⟨q, 0, none⟩) N N)).other (by omega : w.heap.size + 1 ≠ w.heap.size + 1 + 1) (.int .i64 0)
    have b5 := (hs.k5.other (by omega : w.heap.size + 1 + 1 ≠ w.heap.size + 1) (.slice (some ⟨q, 0, none⟩) N N)).set (.int .i64 0)
    have hK' := ((KeepsOthers.setCell W ⟨w.heap.size + 1, 0, none⟩ (.slice (some ⟨q, 0, none⟩) N N)).trans (KeepsOthers.setCell _ ⟨w.heap.size + 1 + 1, 0, none⟩ (.int .i64 0))).same D _ hK rfl
    have hT2 := blk_far (p := ⟨w.heap.size + 1 + 1, 0, none⟩) (blk_far (p := ⟨w.heap.size + 1, 0, none⟩) hT (show q ≠ w.heap.size + 1 by omega) (.slice (some ⟨q, 0, none⟩) N N)) (show q ≠ w.heap.size + 1 + 1 by omega) (.int .i64 0)
    have hT3 := blk_own q 3 (fun _ : Unit => tab (shT N S t (occ zs zs.length))) () _ _ (some D) hT2 (grownBy_putObj' _ D (.deferred none)) (fun r e => by cases e; exact ⟨_, hK', rfl⟩)
    rw [SA.out] at hT3
    have hc4 := cell_kept b4.cell (grownBy_putObj' _ D (.deferred none)) (fun r e => by cases e; exact ⟨_, hK', rfl⟩)
    have hc5 := cell_kept b5.cell (grownBy_putObj' _ D (.deferred none)) (fun r e => by cases e; exact ⟨_, hK', rfl⟩)
    have HC4 := Lib.hid hc4
    have HC5 := Lib.hid hc5
    have HT3 := Lib.hid hT3
    have HK' := Lib.hid hK'
    have hB2 := (hB.setCell (p := ⟨w.heap.size + 1, 0, none⟩) (show w.heap.size ≤ w.heap.size + 1 by omega) (.slice (some ⟨q, 0, none⟩) N N)).setCell (p := ⟨w.heap.size + 1 + 1, 0, none⟩) (show w.heap.size ≤ w.heap.size + 1 + 1 by omega) (.int .i64 0)
    have HB2 := Lib.hid hB2
    clear b4 b5 hK' hc4 hc5 hs hT hT2 hT3 hys hB2
    gi_wp2
    refine ⟨by simp, .inl ⟨_, _, rfl, run_takeDeferred HK'.out, ?_⟩⟩
    refine ⟨.tuple #[.slice (some ⟨q, 0, none⟩) (lst zs + 1) (lst zs + 1), .int .i64 0], ?_, ⟨q, rfl, by omega, HT3.out, HB2.out.trans (belowK_b (w := w) (Nat.le_refl _) _ D _ _ (by omega) HK'.out rfl rfl)⟩⟩
    have g4 := HC4.out
    have g5 := HC5.out
    rw [hNN]
    simp [results, Try.f26, go_sem, g4, g5]
  case stop =>
    rintro D c pre W _ _ h _
    exact h.elim
end Go.Proofs.Ytjldbabggmmkdaa
