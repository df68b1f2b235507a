/-
  The project's readers of package back: Take, Peek and Skip, for every reader and all numbers.
-/
import Derived.Test.YteopglkehlckoaaT8
namespace Go.Proofs.Yteopglkehlckoaa
open Go.ChangeShapes Go.WideShapes Go.ChangeAt Go.RowKit
set_option linter.unusedVariables false

theorem look_chain {w w1 w2 : World} {g : Nat} {A : Obj} {t : TypeId} {cs : Array Value} (hb1 : Below ((w.alloc A).alloc (.cells cs t)).heap.size ((w.alloc A).alloc (.cells cs t)) w1) (hg : ((w.alloc A).alloc (.cells cs t)).heap.size ≤ g)
    (hg2 : w1.grownBy w2 (some g)) : Blk w2 (w.heap.size + 1) t cs ∧ Below w.heap.size w w2 := by
  have h0 := blk_new2 w A t cs
  have e : ((w.alloc A).alloc (.cells cs t)).heap.size = w.heap.size + 1 + 1 := by simp
  rw [e] at hb1 hg
  have h1 := blk_below h0 hb1 (by omega)
  have h2 := blk_grown h1 hg2 (by omega)
  refine ⟨h2, ?_⟩
  have b0 : Below w.heap.size w ((w.alloc A).alloc (.cells cs t)) := ((Below.refl _ _).alloc (Nat.le_refl _) _).alloc (by simp) _
  exact below_grown (b0.trans (hb1.mono (by omega))) hg2 (by have := hb1.size; rw [e] at this; omega) (by omega)
theorem look_chain1 {w w1 w2 : World} {g : Nat} {A : Obj} (hb1 : Below (w.alloc A).heap.size (w.alloc A) w1) (hg : (w.alloc A).heap.size ≤ g) (hg2 : w1.grownBy w2 (some g)) : Below w.heap.size w w2 := done_chain hb1 hg hg2

theorem blk2 {w : World} {g : Nat} {t : TypeId} {s : ByteArray} {b : Int} (h : Blk w g t #[.string s, .int .i64 b]) :
    w.cell? ⟨g, 0, none⟩ = some (.string s) ∧ w.cell? ⟨g, 1, none⟩ = some (.int .i64 b) ∧ w.frozen? ⟨g, 0, none⟩ = false ∧ w.frozen? ⟨g, 1, none⟩ = false :=
  ⟨blk_cell h 0, blk_cell h 1, blk_frozen h 0, blk_frozen h 1⟩
theorem blk2_set {w : World} {g : Nat} {t : TypeId} {s : ByteArray} {b : Int} (s' : ByteArray) (b' : Int) (h : Blk w g t #[.string s, .int .i64 b]) : Blk ((w.setCell ⟨g, 0, none⟩ (.string s')).setCell ⟨g, 1, none⟩ (.int .i64 b')) g t #[.string s', .int .i64 b'] := blk_set (blk_set h 0 _) 1 _

theorem ownTake_any (S : ByteArray) (L n : Int) (hS : S.size ≤ 9223372036854775807) (w : World) :
    Calls Try.prog 14 #[.agg #[.string S, .int .i64 L], .int .i64 n] w fun e w' => e = .returned (.tuple #[.agg #[.string (bskS S L n), .int .i64 (bskL S L n)], .int .u64 (btkX S L n), .int .i64 (bskE S L n)]) ∧ Below w.heap.size w w' := by
  have hO := fun u => look_any S L hS u
  unfold Looked at hO
  have hP := fun u g hu => take_any S L n g u hu
  unfold Taken at hP
  have e1 : bskE S L n = 0 → bskS S L n = S ∧ bskL S L n = L - n := fun h => by unfold bskS bskL; rw [if_pos h, if_pos h]; exact ⟨rfl, rfl⟩
  have e2 : bskE S L n ≠ 0 → bskS S L n = ⟨#[]⟩ ∧ bskL S L n = 0 ∧ btkX S L n = 0 := fun h => by unfold bskS bskL btkX; rw [if_neg h, if_neg h, if_neg h]; exact ⟨rfl, rfl, rfl⟩
  generalize bskE S L n = c' at *
  generalize brtE S L = c at *
  have HO := Lib.hid hO
  have HP := Lib.hid hP
  clear hO hP
  by_cases hc : c' = 0
  · subst hc
    obtain ⟨a1, a2⟩ := e1 rfl
    rw [a1, a2]
    clear e1 e2 a1 a2
    generalize btkX S L n = x at *
    go_enter Try.func14, Try.ntmps14
    go_wp2_with (first
      | (go_at_call 38; (with_reducible refine (HO.out _).mono ?_); rintro e w1 ⟨g, rfl, hg, hB, hb1⟩; have KB := Lib.hid hB; clear hB)
      | (go_at_call 39; (with_reducible refine (HP.out _ _ KB.out).mono ?_); rintro e w2 ⟨l, hl, rfl, hB2, hg2⟩; obtain rfl := hl (by simp); clear hl; obtain ⟨hk, hbw⟩ := look_chain hb1 hg hg2; obtain ⟨d0, d1, z0, z1⟩ := blk2 hk; obtain ⟨⟨c0, c1, c2⟩, _⟩ := blk3r hB2)
      | (go_at_call 37; (with_reducible refine (met_any _ _ _ _ c2).mono ?_); rintro e w3 ⟨rfl, rfl⟩))
    obtain ⟨y0, y1, _⟩ := blk2 (blk2_set S (L - n) hk)
    exact bodyPost_ret (v := .tuple #[.agg #[.string S, .int .i64 (L - n)], .int .u64 x, .int .i64 0]) (by simp [results, Try.results14, go_sem, y0, y1]) rfl ⟨rfl, below2 hbw (by simp) _ _⟩
  · have t : (c' != 0) = true := by simp [hc]
    obtain ⟨a1, a2, a3⟩ := e2 hc
    rw [a1, a2, a3]
    rw [a3] at HP
    clear e1 e2 a1 a2 a3 hc
    go_enter Try.func14, Try.ntmps14
    go_wp2_with (first
      | (go_at_call 38; (with_reducible refine (HO.out _).mono ?_); rintro e w1 ⟨g, rfl, hg, hB, hb1⟩; have KB := Lib.hid hB; clear hB)
      | (go_at_call 39; (with_reducible refine (HP.out _ _ KB.out).mono ?_); rintro e w2 ⟨l, hl, rfl, hB2, hg2⟩; clear hl; obtain ⟨hk, hbw⟩ := look_chain hb1 hg hg2; obtain ⟨d0, d1, z0, z1⟩ := blk2 hk; obtain ⟨⟨c0, c1, c2⟩, _⟩ := blk3r hB2)
      | (go_at_call 37; (with_reducible refine (met_any _ _ _ _ c2).mono ?_); rintro e w3 ⟨rfl, rfl⟩))
    go_region
    go_wp2
    obtain ⟨y0, y1, _⟩ := blk2 (blk2_set ⟨#[]⟩ 0 hk)
    exact bodyPost_ret (v := .tuple #[.agg #[.string ⟨#[]⟩, .int .i64 0], .int .u64 0, .int .i64 c']) (by simp [results, Try.results14, go_sem, y0, y1]) rfl ⟨rfl, (below2 hbw (by simp) _ _).drew⟩

theorem ownPeek_any (S : ByteArray) (L n : Int) (hS : S.size ≤ 9223372036854775807) (w : World) :
    Calls Try.prog 29 #[.agg #[.string S, .int .i64 L], .int .i64 n] w fun e w' => e = .returned (.tuple #[.int .u64 (bpkX S L n), .int .i64 (bakE S L n)]) ∧ Below w.heap.size w w' := by
  have hO := fun u => look_any S L hS u
  unfold Looked at hO
  have hP := fun u g hu => peekP_any S L n g u hu
  generalize bakE S L n = c' at *
  generalize bpkX S L n = x at *
  generalize brtE S L = c at *
  have HO := Lib.hid hO
  have HP := Lib.hid hP
  clear hO hP
  go_enter Try.func29, Try.ntmps29
  go_wp2_with (first
    | (go_at_call 38; (with_reducible refine (HO.out _).mono ?_); rintro e w1 ⟨g, rfl, hg, hB, hb1⟩; have KB := Lib.hid hB; clear hB)
    | (go_at_call 42; (with_reducible refine (HP.out _ _ KB.out).mono ?_); rintro e w2 ⟨rfl, hB2, hg2⟩; obtain ⟨⟨c0, c1, c2⟩, _⟩ := blk3r hB2))
  go_quiet (fail)
  go_wp2
  go_ret2
  exact ⟨rfl, below_drewN (look_chain1 hb1 hg hg2) _⟩

theorem ownSkip_any (S : ByteArray) (L n : Int) (hS : S.size ≤ 9223372036854775807) (w : World) :
    Calls Try.prog 16 #[.agg #[.string S, .int .i64 L], .int .i64 n] w fun e w' => e = .returned (.tuple #[.agg #[.string (bskS S L n), .int .i64 (bskL S L n)], .int .i64 (bskE S L n)]) ∧ Below w.heap.size w w' := by
  have hT := fun u => ownTake_any S L n hS u
  generalize bskE S L n = c at *
  generalize bskS S L n = s at *
  generalize bskL S L n = l at *
  generalize btkX S L n = x at *
  go_enter Try.func16, Try.ntmps16
  go_wp2_with ((go_at_call 14; (with_reducible refine (hT _).mono ?_); rintro e w1 ⟨rfl, hb1⟩; have hk := blk_alloc (blk_next (blk_new2 w (.cells #[.string S, .int .i64 L] 32) 32 #[.string ⟨#[]⟩, .int .i64 0]) hb1) (.cells #[.string s, .int .i64 l] 32); obtain ⟨d0, d1, z0, z1⟩ := blk2 hk))
  obtain ⟨y0, y1, _⟩ := blk2 (blk2_set s l hk)
  have hbw : Below w.heap.size w w1 := below_call (below_box (below_box (Below.refl _ _) _) _) hb1
  exact bodyPost_ret (v := .tuple #[.agg #[.string s, .int .i64 l], .int .i64 c]) (by simp [results, Try.results16, go_sem, y0, y1]) rfl ⟨rfl, below2 (below_box hbw _) (by simp) _ _⟩
end Go.Proofs.Yteopglkehlckoaa
