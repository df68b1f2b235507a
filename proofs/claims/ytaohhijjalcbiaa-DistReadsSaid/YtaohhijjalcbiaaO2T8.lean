/-
  The project's readers of bits: Take, Peek, Left and Next, for every reader and all numbers.
-/
import Derived.Test.YtaohhijjalcbiaaO2T7
namespace Go.Proofs.Ytaohhijjalcbiaa
open Go.ChangeShapes Go.WideShapes Go.ChangeAt Go.RowKit
set_option linter.unusedVariables false

/-- Take's own blocks: the result's, and the reader's copy -/
def TakeSt (w w1 : World) (S : ByteArray) (B : Int) : Prop :=
  Blk w1 (w.heap.size + 1) 67 #[.string ⟨#[]⟩, .int .i64 0] ∧ Blk w1 (w.heap.size + 1 + 1) 123 #[.string S, .int .i64 B] ∧ Below w.heap.size w w1

theorem take_first {w w1 : World} {A : Obj} {S : ByteArray} {B : Int} (hb1 : Below (((w.alloc A).alloc (.cells #[.string ⟨#[]⟩, .int .i64 0] 67)).alloc (.cells #[.string S, .int .i64 B] 123)).heap.size (((w.alloc A).alloc (.cells #[.string ⟨#[]⟩, .int .i64 0] 67)).alloc (.cells #[.string S, .int .i64 B] 123)) w1) : TakeSt w w1 S B := by
  have h1 := blk_alloc (blk_new2 w A 67 #[.string ⟨#[]⟩, .int .i64 0]) (.cells #[.string S, .int .i64 B] 123)
  have h2 := blk_new2 (w.alloc A) (.cells #[.string ⟨#[]⟩, .int .i64 0] 67) 123 #[.string S, .int .i64 B]
  have e1 : (w.alloc A).heap.size + 1 = w.heap.size + 1 + 1 := by simp
  rw [e1] at h2
  exact ⟨blk_below h1 hb1 (blk_lt h1), blk_below h2 hb1 (blk_lt h2), ((((Below.refl _ _).alloc (Nat.le_refl _) _).alloc (by simp) _).alloc (by simp; omega) _).trans (hb1.mono (by simp; omega))⟩
theorem TakeSt.next {w w1 w2 : World} {S : ByteArray} {B : Int} (h : TakeSt w w1 S B) (hb : Below w1.heap.size w1 w2) : TakeSt w w2 S B :=
  ⟨blk_below h.1 hb (blk_lt h.1), blk_below h.2.1 hb (blk_lt h.2.1), h.2.2.trans (hb.mono h.2.2.size)⟩
theorem blk2 {w : World} {g : Nat} {t : TypeId} {s : ByteArray} {b : Int} (h : Blk w g t #[.string s, .int .i64 b]) :
    w.cell? ⟨g, 0, none⟩ = some (.string s) ∧ w.cell? ⟨g, 1, none⟩ = some (.int .i64 b) ∧ w.frozen? ⟨g, 0, none⟩ = false ∧ w.frozen? ⟨g, 1, none⟩ = false :=
  ⟨blk_cell h 0, blk_cell h 1, blk_frozen h 0, blk_frozen h 1⟩

theorem own_take_bad (S : ByteArray) (B n c : Int) (hc : c ≠ 0) (hR : ∀ u, Calls Try.prog 93 #[.agg #[.string S, .int .i64 B], .int .i64 n] u fun e w' => e = .returned (.int .i64 c) ∧ Below u.heap.size u w') (w : World) :
    Calls Try.prog 81 #[.agg #[.string S, .int .i64 B], .int .i64 n] w fun e w' => e = .returned (.tuple #[.agg #[.string ⟨#[]⟩, .int .i64 0], .int .i64 0, .int .i64 c]) ∧ Below w.heap.size w w' := by
  have t2 : (c != 0) = true := by simp [hc]
  clear hc
  go_enter Try.func81, Try.ntmps81
  go_wp2_with ((go_at_call 93; (with_reducible refine (hR _).mono ?_); rintro e w1 ⟨rfl, hb1⟩; have st := take_first hb1; obtain ⟨d0, d1, z0, z1⟩ := blk2 st.1))
  obtain ⟨y0, y1, _⟩ := blk2 (blk_set (blk_set st.1 0 (.string ⟨#[]⟩)) 1 (.int .i64 0))
  exact bodyPost_ret (v := .tuple #[.agg #[.string ⟨#[]⟩, .int .i64 0], .int .i64 0, .int .i64 c]) (by simp [results, Try.results81, go_sem, y0, y1]) rfl ⟨rfl, (st.2.2.setCell (by simp) _).setCell (by simp) _⟩

theorem own_take_short (S : ByteArray) (B n : Int) (hs : 8 * (S.size : Int) < B + n) (hR : ∀ u, Calls Try.prog 93 #[.agg #[.string S, .int .i64 B], .int .i64 n] u fun e w' => e = .returned (.int .i64 0) ∧ Below u.heap.size u w') (hL : ∀ u, Calls Try.prog 94 #[.agg #[.string S, .int .i64 B]] u fun e w' => e = .returned (.int .i64 (8 * (S.size : Int) - B)) ∧ Below u.heap.size u w') (w : World) :
    Calls Try.prog 81 #[.agg #[.string S, .int .i64 B], .int .i64 n] w fun e w' => e = .returned (.tuple #[.agg #[.string ⟨#[]⟩, .int .i64 0], .int .i64 0, .int .i64 5]) ∧ Below w.heap.size w w' := by
  have hs' : 8 * (S.size : Int) - B < n := by omega
  go_enter Try.func81, Try.ntmps81
  go_wp2_with (first
    | (go_at_call 93; (with_reducible refine (hR _).mono ?_); rintro e w1 ⟨rfl, hb1⟩; have st := take_first hb1; obtain ⟨d0, d1, z0, z1⟩ := blk2 st.2.1)
    | (go_at_call 94; (with_reducible refine (hL _).mono ?_); rintro e w2 ⟨rfl, hb2⟩; have st2 := st.next hb2; obtain ⟨x0, x1, v0, v1⟩ := blk2 st2.1))
  obtain ⟨y0, y1, _⟩ := blk2 (blk_set (blk_set st2.1 0 (.string ⟨#[]⟩)) 1 (.int .i64 0))
  exact bodyPost_ret (v := .tuple #[.agg #[.string ⟨#[]⟩, .int .i64 0], .int .i64 0, .int .i64 5]) (by simp [results, Try.results81, go_sem, y0, y1]) rfl ⟨rfl, (st2.2.2.setCell (by simp) _).setCell (by simp) _⟩

theorem own_take_good (S : ByteArray) (b n : Nat) (hS : S.size ≤ 1048576) (hs : (b : Int) + n ≤ 8 * (S.size : Int)) (hn : n ≤ 32) (hR : ∀ u, Calls Try.prog 93 #[.agg #[.string S, .int .i64 (b : Int)], .int .i64 (n : Int)] u fun e w' => e = .returned (.int .i64 0) ∧ Below u.heap.size u w') (w : World) :
    Calls Try.prog 81 #[.agg #[.string S, .int .i64 (b : Int)], .int .i64 (n : Int)] w fun e w' => e = .returned (.tuple #[.agg #[.string S, .int .i64 ((b : Int) + n)], .int .i64 (numB S b n : Nat), .int .i64 0]) ∧ Below w.heap.size w w' := by
  have hs' : (n : Int) ≤ 8 * (S.size : Int) - b := by omega
  have hL := fun u => rLeft_some S (b : Int) hS (by omega) (by omega) u
  have hP := fun u => rPeek_any S b n hS (by omega) hn u
  generalize numB S b n = x at *
  go_enter Try.func81, Try.ntmps81
  go_wp2_with (first
    | (go_at_call 93; (with_reducible refine (hR _).mono ?_); rintro e w1 ⟨rfl, hb1⟩; have st := take_first hb1; obtain ⟨d0, d1, z0, z1⟩ := blk2 st.2.1)
    | (go_at_call 94; (with_reducible refine (hL _).mono ?_); rintro e w2 ⟨rfl, hb2⟩; have st2 := st.next hb2; obtain ⟨x0, x1, v0, v1⟩ := blk2 st2.2.1)
    | (go_at_call 95; (with_reducible refine (hP _).mono ?_); rintro e w3 ⟨rfl, hb3⟩; have st3 := st2.next hb3; obtain ⟨a0, a1, a2, a3⟩ := blk2 st3.2.1; obtain ⟨b0, b1, b2, b3⟩ := blk2 (blk_set st3.2.1 1 (.int .i64 ((b : Int) + n))); obtain ⟨k0, k1, k2, k3⟩ := blk2 (blk_far st3.1 (p := ⟨w.heap.size + 1 + 1, 1, none⟩) (by simp) (.int .i64 ((b : Int) + n)))))
  obtain ⟨y0, y1, _⟩ := blk2 (blk_set (blk_set (blk_far st3.1 (p := ⟨w.heap.size + 1 + 1, 1, none⟩) (by simp) (.int .i64 ((b : Int) + n))) 0 (.string S)) 1 (.int .i64 ((b : Int) + n)))
  exact bodyPost_ret (v := .tuple #[.agg #[.string S, .int .i64 ((b : Int) + n)], .int .i64 (x : Nat), .int .i64 0]) (by simp [results, Try.results81, go_sem, y0, y1]) rfl ⟨rfl, ((st3.2.2.setCell (by simp; omega) _).setCell (by simp) _).setCell (by simp) _⟩

theorem ownTake_any (S : ByteArray) (B n : Int) (hS : S.size ≤ maxLen) (w : World) :
    Calls Try.prog 81 #[.agg #[.string S, .int .i64 B], .int .i64 n] w fun e w' => e = .returned (.tuple #[.agg #[.string (takS S B n), .int .i64 (takB S B n)], .int .i64 (takX S B n), .int .i64 (takE S B n)]) ∧ Below w.heap.size w w' := by
  have hR := fun u => rRefuse_any S B n hS u
  by_cases hc : pekE S B n = 0
  · obtain ⟨hg, n0, n1⟩ := pek_zero hc
    obtain ⟨c1, c2, c3⟩ := rgt_zero hg
    rw [hc] at hR
    by_cases hs : 8 * (S.size : Int) < B + n
    · have e : takE S B n = 5 := by unfold takE; rw [if_pos hc, if_pos hs]
      unfold takS takB takX
      rw [e, if_neg (by decide), if_neg (by decide), if_neg (by decide)]
      exact own_take_short S B n hs hR (fun u => rLeft_some S B c3 c1 c2 u) w
    · have e : takE S B n = 0 := by unfold takE; rw [if_pos hc, if_neg hs]
      unfold takS takB takX
      rw [e, if_pos rfl, if_pos rfl, if_pos rfl]
      obtain ⟨b, rfl⟩ := Int.eq_ofNat_of_zero_le c1
      obtain ⟨m, rfl⟩ := Int.eq_ofNat_of_zero_le n0
      have eb : ((b : Int)).toNat = b := by omega
      have em : ((m : Int)).toNat = m := by omega
      have ex : pekX S b m = (numB S b m : Nat) := by unfold pekX; rw [if_pos hc, eb, em]
      rw [ex]
      exact own_take_good S b m c3 (by omega) (by omega) hR w
  · have e : takE S B n = pekE S B n := by unfold takE; rw [if_neg hc]
    unfold takS takB takX
    rw [e, if_neg hc, if_neg hc, if_neg hc]
    exact own_take_bad S B n _ hc hR w

theorem ownPeek_any (S : ByteArray) (B n : Int) (hS : S.size ≤ maxLen) (w : World) :
    Calls Try.prog 82 #[.agg #[.string S, .int .i64 B], .int .i64 n] w fun e w' => e = .returned (.tuple #[.int .i64 (pekX S B n), .int .i64 (pekE S B n)]) ∧ Below w.heap.size w w' := by
  have hR := fun u => rRefuse_any S B n hS u
  by_cases hc : pekE S B n = 0
  · obtain ⟨hg, n0, n1⟩ := pek_zero hc
    obtain ⟨c1, c2, c3⟩ := rgt_zero hg
    obtain ⟨b, rfl⟩ := Int.eq_ofNat_of_zero_le c1
    obtain ⟨m, rfl⟩ := Int.eq_ofNat_of_zero_le n0
    have eb : ((b : Int)).toNat = b := by omega
    have em : ((m : Int)).toNat = m := by omega
    have ex : pekX S b m = (numB S b m : Nat) := by unfold pekX; rw [if_pos hc, eb, em]
    have hP := fun u => rPeek_any S b m c3 (by omega) (by omega) u
    rw [ex, hc]
    rw [hc] at hR
    generalize numB S b m = x at *
    clear hc eb em ex hg
    go_enter Try.func82, Try.ntmps82
    go_wp2_with (first
      | (go_at_call 93; (with_reducible refine (hR _).mono ?_); rintro e w1 ⟨rfl, hb1⟩; obtain ⟨hc1, hf1⟩ := bcell hb1; have hz1 : w.heap.size + 1 < w1.heap.size := (by have := hb1.size; simp at this; omega))
      | (go_at_call 95; (with_reducible refine (hP _).mono ?_); rintro e w3 ⟨rfl, hb3⟩))
    go_ret2
    exact ⟨rfl, ((((Below.refl _ _).alloc (Nat.le_refl _) _).alloc (by simp) _).trans (hb1.mono (by simp; omega))).trans (hb3.mono (by omega))⟩
  · have ex : pekX S B n = 0 := by unfold pekX; rw [if_neg hc]
    have t2 : (pekE S B n != 0) = true := by simp [hc]
    rw [ex]
    generalize pekE S B n = c at *
    clear hc ex
    go_enter Try.func82, Try.ntmps82
    go_wp2_with (go_at_call 93; (with_reducible refine (hR _).mono ?_); rintro e w1 ⟨rfl, hb1⟩)
    go_ret2
    exact ⟨rfl, (((Below.refl _ _).alloc (Nat.le_refl _) _).alloc (by simp) _).trans (hb1.mono (by simp; omega))⟩

theorem ownNext_any (S : ByteArray) (B : Int) (hS : S.size ≤ maxLen) (w : World) :
    Calls Try.prog 43 #[.agg #[.string S, .int .i64 B]] w fun e w' => e = .returned (.tuple #[.int .i64 (nexX S B), .int .i64 (rgt S B)]) ∧ Below w.heap.size w w' := by
  have hR := fun u => ownRRight_any S B hS u
  unfold nexX
  by_cases hc : rgt S B = 0
  · obtain ⟨c1, c2, c3⟩ := rgt_zero hc
    have hW := fun u => ownWhole (B + 7) (by omega) (by omega) u
    rw [if_pos hc, hc]
    rw [hc] at hR
    clear hc
    go_enter Try.func43, Try.ntmps43
    go_wp2_with (first
      | (go_at_call 62; (with_reducible refine (hR _).mono ?_); rintro e w1 ⟨rfl, hb1⟩; obtain ⟨hc1, hf1⟩ := bcell hb1; have hz1 : w.heap.size < w1.heap.size := (by have := hb1.size; simp at this; omega))
      | (go_at_call 63; rw [show B + 8 - 1 = B + 7 by omega]; (with_reducible refine (hW _).mono ?_); rintro e w3 ⟨rfl, rfl⟩))
    go_ret2
    exact ⟨rfl, ((Below.refl _ _).alloc (Nat.le_refl _) _).trans (hb1.mono (by simp))⟩
  · rw [if_neg hc]
    have t2 : (rgt S B != 0) = true := by simp [hc]
    generalize rgt S B = c at *
    clear hc
    go_enter Try.func43, Try.ntmps43
    go_wp2_with (go_at_call 62; (with_reducible refine (hR _).mono ?_); rintro e w1 ⟨rfl, hb1⟩)
    go_ret2
    exact ⟨rfl, ((Below.refl _ _).alloc (Nat.le_refl _) _).trans (hb1.mono (by simp))⟩

end Go.Proofs.Ytaohhijjalcbiaa
