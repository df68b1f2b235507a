/-
  Covers of counts.
-/
import Derived.Test.YtpmabmjfininoaaR6C
namespace Go.Proofs.Ytpmabmjfininoaa
open Go.ChangeShapes Go.WideShapes Go.ChangeAt Go.RowKit Go.Shelf
set_option linter.unusedVariables false
set_option linter.unusedSimpArgs false
attribute [local go_sem] Oper.semAt_some

theorem covK_mono {zs : List Int} {hs : List Bool} {k n : Nat} (hk : k ≤ n) (h : covK zs hs k = false) : covK zs hs n = false := by
  unfold covK at h ⊢
  rw [List.all_eq_false] at h ⊢
  obtain ⟨p, hp, hf⟩ := h
  obtain ⟨h1, h2, h3⟩ := occ_of hp
  refine ⟨p, ?_, hf⟩
  have e : p = (p.1, zs.getD p.1 0) := by rw [← h2]
  rw [e]
  exact occ_mem (by omega) (by rw [← h2]; exact h3)
def allH (hs : List Bool) (pre : List (Nat × Int)) : Bool := pre.all (fun p => hs.getD p.1 false)
theorem allH_snoc {hs : List Bool} {pre : List (Nat × Int)} (h : allH hs pre = true) (x : Nat × Int) : allH hs (pre ++ [x]) = hs.getD x.1 false := by
  unfold allH at h ⊢
  rw [List.all_append, h]
  simp only [List.all_cons, List.all_nil, Bool.and_true, Bool.true_and]

/-- what the loop of Covers holds -/
structure Cvs (b : Nat) (v : Value) (W : World) : Prop where
  k3 : Boxed W b 23 v
  k4 : Boxed W (b + 1) 4 (.bool false)
  k5 : Boxed W (b + 1 + 1) 26 (.int .i64 0)
theorem cvs_own {β : Type} (b : Nat) (v : Value) : Own (fun (_ : β) W => Cvs b v W) := fun pre X Y row hs hg hr =>
  ⟨boxed_own b 23 (fun _ : β => v) pre X Y row hs.k3 hg hr, boxed_own (b + 1) 4 (fun _ : β => .bool false) pre X Y row hs.k4 hg hr, boxed_own (b + 1 + 1) 26 (fun _ : β => .int .i64 0) pre X Y row hs.k5 hg hr⟩
theorem cvs_set {b : Nat} {v : Value} {W : World} (h : Cvs b v W) : Cvs b v ((W.setCell ⟨b + 1, 0, none⟩ (.bool false)).setCell ⟨b + 1 + 1, 0, none⟩ (.int .i64 0)) :=
  ⟨(h.k3.other (by omega) _).other (by omega) _, (h.k4.set _).other (by omega) _, (h.k5.other (by omega) _).set _⟩
theorem below_two {a W : World} (h : Below a.heap.size a W) (u v : Value) : Below a.heap.size a ((W.setCell ⟨a.heap.size + 1, 0, none⟩ u).setCell ⟨a.heap.size + 1 + 1, 0, none⟩ v) :=
  (h.setCell (p := ⟨a.heap.size + 1, 0, none⟩) (show a.heap.size ≤ a.heap.size + 1 by omega) u).setCell (p := ⟨a.heap.size + 1 + 1, 0, none⟩) (show a.heap.size ≤ a.heap.size + 1 + 1 by omega) v

set_option maxRecDepth 100000 in
set_option maxHeartbeats 4000000 in
theorem covers_c {A A' : Option Addr} {n m : Nat} {zs : List Int} {hs : List Bool} (cap cap' : Nat) {w : World} (h : Cts w A n zs) (h' : Bls w A' m hs) :
    Calls Try.prog 22 #[.slice A n cap, .slice A' m cap'] w fun r w' => r = .returned (.tuple #[.bool (covB zs hs), .int .i64 (chk zs)]) ∧ Below w.heap.size w w' := by
  have hw0 : Below w.heap.size w (((w.alloc (.cells #[.slice A' m cap'] 23)).alloc (.cells #[.bool false] 4)).alloc (.cells #[.int .i64 0] 26)) := below_box (below_box (below_box (Below.refl _ _) _) _) _
  have hck := check_c cap (h.below hw0)
  unfold covB
  by_cases hc0 : chk zs = 0
  · rw [if_pos hc0]
    rw [hc0] at hck ⊢
    have g1 := (good_of hc0).1
    have hl := h.1
    subst hl
    refine (callsIn_wide (n := 3)).1 ?_
    refine callsIn_of_wp_marks Try.func22 rfl trivial ?_ rfl
    simp only [Try.ntmps22, List.size_toArray, List.length_cons, List.length_nil, Nat.reduceAdd, Nat.reduceSub, Array.replicate_succ, Array.replicate_zero, List.push_toArray, List.append_toArray, List.nil_append, List.cons_append]
    gi_wp2_with (first
      | (refine ⟨trivial, ?_⟩; gi_at_call 10; refine (callsIn_wide.2 hck).mono ?_; rintro e w1 ⟨rfl, hb1⟩)
      | (refine ⟨trivial, ?_⟩; gi_at_call 42; refine (occurring_in Fence.wide _ trivial rfl _ _ _ _).mono ?_; rintro e w' ⟨rfl, rfl⟩))
    have q3 := ((((Boxed.new w 23 (.slice A' m cap')).alloc (.cells #[.bool false] 4)).alloc (.cells #[.int .i64 0] 26)).next hb1).alloc (.cells #[.slice A zs.length cap] 22)
    have q4 := ((((Boxed.new (w.alloc (.cells #[.slice A' m cap'] 23)) 4 (.bool false)).alloc (.cells #[.int .i64 0] 26)).next hb1).alloc (.cells #[.slice A zs.length cap] 22))
    have q5 := (((Boxed.new ((w.alloc (.cells #[.slice A' m cap'] 23)).alloc (.cells #[.bool false] 4)) 26 (.int .i64 0)).next hb1).alloc (.cells #[.slice A zs.length cap] 22))
    have bN := Boxed.new w1 22 (.slice A zs.length cap)
    have hB0 : Below w.heap.size w (w1.alloc (.cells #[.slice A zs.length cap] 22)) := below_box (below_call hw0 hb1) _
    have hsz1 := hb1.size
    simp only [World.size_alloc] at hsz1 q4 q5
    have hI := h.2.2.below hB0
    have hH := Lib.hid h'
    generalize hWz : w1.alloc (.cells #[.slice A zs.length cap] 22) = Wz at *
    have hszz : Wz.heap.size = w1.heap.size + 1 := by rw [← hWz, World.size_alloc]
    clear hWz hb1 hck hw0 h'
    generalize w1.heap.size = q at *
    clear w1
    refine wpIn_rangeFunc_ownG rfl (by omega) (gf := 47) (lb := #[.pointer (some ⟨q, 0, none⟩)]) rfl trivial (enters_of Try.func47 (by kernel_rfl) rfl)
      (occurring_stops Fence.wide _ trivial rfl (by omega) q w.heap.size A cap zs g1 _ (by omega) (by omega) bN.cell hI) belowK_t (belowK_b (by omega)) (Below.refl _ _) (fun _ => rfl)
      (fun pre W => (allH hs pre = true ∧ Cvs w.heap.size (.slice A' m cap') W) ∧ Below w.heap.size w W)
      (fun c pre W => ((c = .ret ∧ allH hs pre = false) ∧ Cvs w.heap.size (.slice A' m cap') W) ∧ Below w.heap.size w W)
      (OwnFrom.and (OwnFrom.and (ownFrom_pure _ _) (Own.from (cvs_own _ _) _)) (ownFrom_below (Nat.le_refl _) (by omega)))
      (fun c => OwnFrom.and (OwnFrom.and (ownFrom_pure _ _) (Own.from (cvs_own _ _) _)) (ownFrom_below (Nat.le_refl _) (by omega)))
      ⟨⟨rfl, ⟨q3, q4, q5⟩⟩, hB0⟩
      (fun x => { tmps := #[.slice A zs.length cap, .slice A' m cap', undef, .pointer (some ⟨w.heap.size, 0, none⟩), .pointer (some ⟨w.heap.size + 1, 0, none⟩), .pointer (some ⟨w.heap.size + 1 + 1, 0, none⟩), .int .i64 0, .int .i64 (x.1 : Int), .slice A zs.length cap, .int .i64 0, .int .i64 0, .bool false, undef, .slice A zs.length cap, .func (.func 47) #[] #[.pointer (some ⟨q, 0, none⟩)],
        .int .i64 (x.1 : Int), .int .i64 x.2, undef, undef, undef, undef, undef, undef, undef, undef, undef, undef, undef], defers := [] }) ?assign ?body ?done ?stop
    case assign =>
      intro l x W K hK
      gi_wp2
      exact hK
    case body =>
      rintro l pre x W ⟨⟨hal, hst⟩, hB⟩ _
      have hsn := allH_snoc hal x
      have y3 := hst.k3.cell
      have y4 := hst.k4.cell
      have y5 := hst.k5.cell
      have z4 := hst.k4.frozen
      have z5 := hst.k5.frozen
      have HS := Lib.hid hst
      have HAL := Lib.hid hal
      clear hst hal
      obtain ⟨hl', hn', hI'⟩ := hH.out
      subst hl'
      by_cases h2 : x.1 < hs.length
      · obtain ⟨b', off', rfl, hb', hc'⟩ := hI' (by omega)
        have hcell' := (hB.cell (p := ⟨b', off' + x.1, none⟩) hb').trans (hc' x.1 h2)
        clear hc' hI'
        cases h3 : hs.getD x.1 false with
        | true =>
          rw [h3] at hcell' hsn
          have HSN := Lib.hid hsn
          clear hsn h3
          gi_wp2
          exact ⟨KeepsFrom.refl _ _, Below.refl _ _, ⟨HSN.out, HS.out⟩, hB⟩
        | false =>
          rw [h3] at hcell' hsn
          have HSN := Lib.hid hsn
          clear hsn h3
          gi_wp2
          exact ⟨((KeepsOthers.setCell _ _ _).trans (KeepsOthers.setCell _ _ _)).from _, ⟨⟨rfl, HSN.out⟩, cvs_set HS.out⟩, below_two hB _ _⟩
      · have h3 : hs.getD x.1 false = false := by simp [List.getD, List.getElem?_eq_none (Nat.le_of_not_lt h2)]
        rw [h3] at hsn
        have HSN := Lib.hid hsn
        clear hsn h3 hI'
        gi_wp2
        exact ⟨((KeepsOthers.setCell _ _ _).trans (KeepsOthers.setCell _ _ _)).from _, ⟨⟨rfl, HSN.out⟩, cvs_set HS.out⟩, below_two hB _ _⟩
    case done =>
      rintro D ys W hD rfl ⟨⟨hal, hst⟩, hB⟩ hK
      have y4 := hst.k4.cell
      have y5 := hst.k5.cell
      have z4 := hst.k4.frozen
      have z5 := hst.k5.frozen
      have b4 := (hst.k4.set (.bool true)).other (by omega : w.heap.size + 1 ≠ w.heap.size + 1 + 1) (.int .i64 0)
      have b5 := (hst.k5.other (by omega : w.heap.size + 1 + 1 ≠ w.heap.size + 1) (.bool true)).set (.int .i64 0)
      have hK' := ((KeepsOthers.setCell W ⟨w.heap.size + 1, 0, none⟩ (.bool true)).trans (KeepsOthers.setCell _ ⟨w.heap.size + 1 + 1, 0, none⟩ (.int .i64 0))).same D _ hK rfl
      have hc4 := cell_kept b4.cell (grownBy_putObj' _ D (.deferred none)) (fun r e => by cases e; exact ⟨_, hK', rfl⟩)
      have hc5 := cell_kept b5.cell (grownBy_putObj' _ D (.deferred none)) (fun r e => by cases e; exact ⟨_, hK', rfl⟩)
      have HC4 := Lib.hid hc4
      have HC5 := Lib.hid hc5
      have HK' := Lib.hid hK'
      have HAL := Lib.hid (show covK zs hs zs.length = true from hal)
      clear b4 b5 hK' hc4 hc5 hal hst
      gi_wp2
      refine ⟨by simp, .inl ⟨_, _, rfl, run_takeDeferred HK'.out, ?_⟩⟩
      refine ⟨.tuple #[.bool (covK zs hs zs.length), .int .i64 0], ?_, rfl, (below_two hB _ _).trans (belowK_b (w := w) (Nat.le_refl _) _ D _ _ (by omega) HK'.out rfl rfl)⟩
      rw [HAL.out]
      have g4 := HC4.out
      have g5 := HC5.out
      simp [results, Try.f22, go_sem, g4, g5]
    case stop =>
      rintro D c pre W hD ⟨k, hk, rfl⟩ ⟨⟨⟨rfl, hal⟩, hst⟩, hB⟩ hK
      have hc4 := cell_kept hst.k4.cell (grownBy_putObj' _ D (.deferred none)) (fun r e => by cases e; exact ⟨_, hK, rfl⟩)
      have hc5 := cell_kept hst.k5.cell (grownBy_putObj' _ D (.deferred none)) (fun r e => by cases e; exact ⟨_, hK, rfl⟩)
      have HAL := Lib.hid (covK_mono hk (show covK zs hs k = false from hal))
      clear hal hst
      gi_wp2
      refine ⟨by simp, .inl ⟨_, _, rfl, run_takeDeferred hK, ?_⟩⟩
      refine ⟨.tuple #[.bool (covK zs hs zs.length), .int .i64 0], ?_, rfl, hB.trans (belowK_b (w := w) (Nat.le_refl _) W D _ _ (by omega) hK rfl rfl)⟩
      rw [HAL.out]
      simp [results, Try.f22, go_sem, hc4, hc5]
  · rw [if_neg hc0]
    have h1 : (chk zs != 0) = true := by simpa using hc0
    clear h hc0
    generalize chk zs = y at *
    go_enter Try.func22, Try.ntmps22
    go_wp2_with (go_at_call 10; (with_reducible refine hck.mono ?_); rintro r w1 ⟨rfl, hb1⟩; have q4 := ((((Boxed.new (w.alloc (.cells #[.slice A' m cap'] 23)) 4 (.bool false)).alloc (.cells #[.int .i64 0] 26)).next hb1)); have q5 := (((Boxed.new ((w.alloc (.cells #[.slice A' m cap'] 23)).alloc (.cells #[.bool false] 4)) 26 (.int .i64 0)).next hb1)); simp only [World.size_alloc] at q4 q5; have y4 := q4.cell; have y5 := q5.cell; have z4 := q4.frozen; have z5 := q5.frozen; have Q4 := Lib.hid q4; have Q5 := Lib.hid q5; clear q4 q5)
    have g4 := ((Q4.out.set (.bool false)).other (by omega : w.heap.size + 1 ≠ w.heap.size + 1 + 1) (.int .i64 y)).cell
    have g5 := ((Q5.out.other (by omega : w.heap.size + 1 + 1 ≠ w.heap.size + 1) (.bool false)).set (.int .i64 y)).cell
    refine bodyPost_ret (v := .tuple #[.bool false, .int .i64 y]) ?_ rfl ⟨rfl, below_two (below_call hw0 hb1) _ _⟩
    simp [results, Try.f22, go_sem, g4, g5]
end Go.Proofs.Ytpmabmjfininoaa
