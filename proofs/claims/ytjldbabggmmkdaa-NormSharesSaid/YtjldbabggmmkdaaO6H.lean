/-
  Halve of counts: going through the symbols that occur, each told of its count.
-/
import Derived.Test.YtjldbabggmmkdaaR6E
namespace Go.Proofs.Ytjldbabggmmkdaa
open Go.ChangeShapes Go.WideShapes Go.ChangeAt Go.RowKit Go.Shelf
set_option linter.unusedVariables false
set_option linter.unusedSimpArgs false
attribute [local go_sem] Oper.semAt_some

def Mem (zs : List Int) (x : Nat × Int) : Prop := x.1 < zs.length ∧ x.2 = zs.getD x.1 0 ∧ 0 < x.2

set_option maxRecDepth 100000 in
set_option maxHeartbeats 2000000 in
theorem occurring1_inM (F : Fence) (n : Nat) (h47 : F.fn 65) (hro : F.round = none) (hn : 1 ≤ n) (l Bs n₀ b off cap : Nat) (zs : List Int) (hreach : zs.length ≤ 256) (hb : b < n₀) (J Jx : List (Nat × Int) → World → Prop)
    (hY : ∀ pre x W, J pre W → pre.length < zs.length → Mem zs x → YieldAt F (n - 1) Try.prog l #[.int .i64 (x.1 : Int), .int .i64 x.2] W fun e W' =>
      (e = .returned (.bool true) ∧ J (pre ++ [x]) W' ∧ Below n₀ W W') ∨ (e = .returned (.bool false) ∧ Jx (pre ++ [x]) W'))
    (W : World) (hBs : W.cell? ⟨Bs, 0, none⟩ = some (.slice (some ⟨b, off, none⟩) zs.length cap)) (hc : ∀ j, j < zs.length → W.cell? ⟨b, off + j, none⟩ = some (.int .i64 (zs.getD j 0))) (h0 : J [] W) :
    CallsIn F n Try.prog 65 #[.func (.yield l) #[] #[], .pointer (some ⟨Bs, 0, none⟩)] W fun e W' => (∃ v, e = .returned v) ∧
      ((∃ ys, ys = occ zs zs.length ∧ J ys W') ∨ (∃ pre, (∃ k, k ≤ zs.length ∧ pre = occ zs k) ∧ Jx pre W')) := by
  refine callsIn_of_wp Try.func65 rfl h47 ?_ hro
  simp only [Try.ntmps65, List.size_toArray, List.length_cons, List.length_nil, Nat.reduceAdd, Nat.reduceSub, Array.replicate_succ, Array.replicate_zero, List.push_toArray, List.append_toArray, List.nil_append, List.cons_append]
  gi_wp2
  gi_loopw [3, 4, 7] (fun _ _ i wr => ∃ k : Nat, k ≤ zs.length ∧ i = .int .i64 k ∧ J (occ zs k) wr ∧ Below n₀ W wr)
    (fun _ _ i _ => zs.length - (intOf i).toNat)
  case atStart => exact ⟨0, Nat.zero_le _, rfl, h0, Below.refl _ _⟩
  case round =>
    obtain ⟨k, hk, rfl, hJs, hnx⟩ := hrel
    by_cases hlt : k < zs.length
    · have hcx : wr.cell? ⟨b, off + k, none⟩ = some (.int .i64 (zs.getD k 0)) := (hnx.cell (p := ⟨b, off + k, none⟩) hb).trans (hc k hlt)
      by_cases hp : 0 < zs.getD k 0
      · have hs := occ_pos hp
        have hm : Mem zs (k, zs.getD k 0) := ⟨hlt, rfl, hp⟩
        generalize zs.getD k 0 = x at hcx hp hs hm
        obtain ⟨fn, tmps, assign, body, hy, hR⟩ := hY _ (k, x) wr hJs (Nat.lt_of_le_of_lt (occ_length zs k) hlt) hm
        clear hm
        dsimp only at hy
        gi_wp2
        refine hR.mono ?_
        rintro e W3 (⟨rfl, hJ3, hk3⟩ | ⟨rfl, hJx3⟩)
        · gi_wp2
          go_roundw
          case rel => exact ⟨k + 1, by omega, by simp, by rw [hs]; exact hJ3, hnx.trans hk3⟩
          case measure => simp [intOf]; omega
        · gi_wp2
          refine bodyPost_ret (results_none rfl _ _ _) rfl ?_
          exact ⟨⟨_, rfl⟩, .inr ⟨_, ⟨k + 1, by omega, hs.symm⟩, hJx3⟩⟩
      · have hs := occ_neg hp
        generalize zs.getD k 0 = x at hcx hp hs
        gi_wp2
        refine ⟨fun _ h => (by cases h), ?_⟩
        gi_wp2
        go_roundw
        case rel => exact ⟨k + 1, by omega, by simp, by rw [hs]; exact hJs, hnx⟩
        case measure => simp [intOf]; omega
    · obtain rfl : k = zs.length := by omega
      gi_wp2
      go_end0
      exact ⟨⟨_, rfl⟩, .inl ⟨_, rfl, hJs⟩⟩


abbrev Occ (zs : List Int) : Type := { x : Nat × Int // Mem zs x }
theorem occurring_stopsM (F : Fence) (n : Nat) (h47 : F.fn 65) (hro : F.round = none) (hn : 1 ≤ n) (Bs n₀ : Nat) (A : Option Addr) (cap : Nat) (zs : List Int) (hreach : zs.length ≤ 256) (w : World) (hBs : Bs < w.heap.size) (hn₀ : n₀ ≤ w.heap.size)
    (hc : w.cell? ⟨Bs, 0, none⟩ = some (.slice A zs.length cap)) (hI : IntsAt w n₀ A zs) :
    SeqStopsK F n Try.prog 65 #[.pointer (some ⟨Bs, 0, none⟩)] (fun x : Occ zs => #[Value.int .i64 (x.1.1 : Int), Value.int .i64 x.1.2]) (Below n₀) (fun ys => ys.map Subtype.val = occ zs zs.length)
      (fun pre => ∃ k, k ≤ zs.length ∧ pre.map Subtype.val = occ zs k) zs.length w := fun l J Jx W hW _ _ hY h0 => by
  have hc' := (hW.cell (p := ⟨Bs, 0, none⟩) hBs).trans hc
  by_cases hz : zs = []
  · subst hz
    exact (occurring1_nil F n h47 hro l Bs cap A (fun _ W => J [] W) W hc' h0).mono fun e W' ⟨he, hj⟩ => ⟨he, .inl ⟨[], rfl, hj⟩⟩
  · obtain ⟨b, off, rfl, hb, hcs⟩ := hI.below (hW.mono hn₀) (by have := List.length_pos_iff.2 hz; omega)
    refine (occurring1_inM F n h47 hro hn l Bs n₀ b off cap zs hreach hb (fun pre W => ∃ p' : List (Occ zs), p'.map Subtype.val = pre ∧ J p' W) (fun pre W => ∃ p' : List (Occ zs), p'.map Subtype.val = pre ∧ Jx p' W) ?_ W hc' hcs ⟨[], rfl, h0⟩).mono ?_
    · rintro pre x W1 ⟨p', rfl, hJ⟩ hlen hm
      obtain ⟨fn, tmps, assign, body, hy, hR⟩ := hY p' ⟨x, hm⟩ W1 hJ (by simpa using hlen)
      refine ⟨fn, tmps, assign, body, hy, hR.mono ?_⟩
      rintro e W3 (⟨rfl, hJ3, hk3⟩ | ⟨rfl, hJx3⟩)
      · exact .inl ⟨rfl, ⟨_, by simp, hJ3⟩, hk3⟩
      · exact .inr ⟨rfl, ⟨_, by simp, hJx3⟩⟩
    · rintro e W' ⟨he, ⟨ys, hys, p', hp', hj⟩ | ⟨pre, ⟨k, hk, hpre⟩, p', hp', hj⟩⟩
      · exact ⟨he, .inl ⟨p', hp'.trans hys, hj⟩⟩
      · exact ⟨he, .inr ⟨p', ⟨k, hk, hp'.trans hpre⟩, hj⟩⟩

/-- the table of the halved counts of some symbols -/
def zeroL (n : Nat) : List Int := List.replicate n 0
theorem zeroL_length (n : Nat) : (zeroL n).length = n := List.length_replicate
theorem zeroL_getD (n j : Nat) : (zeroL n).getD j 0 = 0 := by
  unfold zeroL
  simp only [List.getD_eq_getElem?_getD, List.getElem?_replicate]
  split <;> rfl
def tabP (pre : List (Nat × Int)) : List Int := pre.foldl (fun t p => t.set p.1 (p.2 - p.2 / 2)) (zeroL 256)
theorem tabP_snoc (pre : List (Nat × Int)) (x : Nat × Int) : tabP (pre ++ [x]) = (tabP pre).set x.1 (x.2 - x.2 / 2) := by unfold tabP; rw [List.foldl_append]; rfl
theorem tabP_length (pre : List (Nat × Int)) : (tabP pre).length = 256 := by
  have h : ∀ (pre : List (Nat × Int)) (t : List Int), (pre.foldl (fun t p => t.set p.1 (p.2 - p.2 / 2)) t).length = t.length := by
    intro pre
    induction pre with
    | nil => intro t; rfl
    | cons x pre ih => intro t; rw [List.foldl_cons, ih, List.length_set]
  unfold tabP; rw [h, zeroL_length]
theorem tabP_occ {zs : List Int} (g : ∀ k, 0 ≤ zs.getD k 0) : ∀ k, ∀ j, (tabP (occ zs k)).getD j 0 = if j < k ∧ j < 256 then zs.getD j 0 - zs.getD j 0 / 2 else 0
  | 0, j => by
    rw [if_neg (by omega)]
    exact zeroL_getD 256 j
  | k + 1, j => by
    have ih := tabP_occ g k j
    by_cases hp : 0 < zs.getD k 0
    · rw [occ_pos hp, tabP_snoc]
      simp only [List.getD_eq_getElem?_getD, List.getElem?_set, tabP_length] at ih ⊢
      by_cases hkj : k = j
      · subst hkj
        by_cases hk : k < 256
        · simp [hk]
        · simp [hk]
      · rw [if_neg hkj, ih]
        by_cases h1 : j < k ∧ j < 256
        · rw [if_pos h1, if_pos (by omega)]
        · rw [if_neg h1, if_neg (by omega)]
    · rw [occ_neg hp, ih]
      have h0 : zs.getD k 0 = 0 := by have := g k; omega
      by_cases hkj : j = k
      · subst hkj
        rw [h0, if_neg (by omega)]
        split <;> rfl
      · by_cases h1 : j < k ∧ j < 256
        · rw [if_pos h1, if_pos (by omega)]
        · rw [if_neg h1, if_neg (by omega)]
theorem tabP_hlv {zs : List Int} (g : ∀ k, 0 ≤ zs.getD k 0) (hl : zs.length ≤ 256) : (tabP (occ zs zs.length)).take zs.length = hlv zs := by
  apply List.ext_getElem?
  intro j
  rw [List.getElem?_take]
  by_cases hj : j < zs.length
  · rw [if_pos hj]
    have h1 := tabP_occ g zs.length j
    rw [if_pos (by omega)] at h1
    have h2 := hlv_getD zs j
    rw [← h2] at h1
    have hj1 : j < (tabP (occ zs zs.length)).length := by rw [tabP_length]; omega
    have hj2 : j < (hlv zs).length := by rw [hlv_length]; exact hj
    rw [List.getElem?_eq_getElem hj1, List.getElem?_eq_getElem hj2]
    simpa [List.getD, hj1, hj2] using h1
  · rw [if_neg hj, List.getElem?_eq_none (by rw [hlv_length]; omega)]

theorem blk_own {β : Type} (g : Nat) (t : TypeId) (f : β → Array Value) : Own (fun s W => Blk W g t (f s)) := fun s X Y row hs hg hrow =>
  (hg.block g (blk_lt hs) (fun e' => by obtain ⟨o, ho, hc⟩ := hrow g e'.symm; rw [show X.heap[g]? = _ from hs] at ho; cases ho; cases hc)).trans hs

end Go.Proofs.Ytjldbabggmmkdaa
