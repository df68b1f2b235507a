/-
  The project's states: begin, sum, valid, fits.
-/
import Derived.Test.YtgiihdgkejhbeaaO5C
import Derived.Test.YtgiihdgkejhbeaaO5E
import Derived.Deep.Cut
import Derived.Deep.CutRange
import Derived.Deep.RegionHeld3
namespace Go.Proofs.Ytgiihdgkejhbeaa
open Go.ChangeShapes Go.WideShapes Go.ChangeAt Go.RowKit
set_option linter.unusedVariables false

/-- a state's seven cells -/
def at7 (a b c d T : Int) (s : ByteArray) (e : Int) : Array Value := #[.int .u64 a, .int .u64 b, .int .u64 c, .int .u64 d, .int .i64 T, .string s, .int .u64 e]
theorem c7 {w : World} {g : Nat} {t : TypeId} {v0 v1 v2 v3 v4 v5 v6 : Value} (h : Blk w g t #[v0, v1, v2, v3, v4, v5, v6]) :
    w.cell? ⟨g, 0, none⟩ = some v0 ∧ w.cell? ⟨g, 1, none⟩ = some v1 ∧ w.cell? ⟨g, 2, none⟩ = some v2 ∧ w.cell? ⟨g, 3, none⟩ = some v3 ∧ w.cell? ⟨g, 4, none⟩ = some v4 ∧ w.cell? ⟨g, 5, none⟩ = some v5 ∧ w.cell? ⟨g, 6, none⟩ = some v6 :=
  ⟨blk_cell h 0, blk_cell h 1, blk_cell h 2, blk_cell h 3, blk_cell h 4, blk_cell h 5, blk_cell h 6⟩
theorem z7 {w : World} {g : Nat} {t : TypeId} {cs : Array Value} (h : Blk w g t cs) :
    w.frozen? ⟨g, 0, none⟩ = false ∧ w.frozen? ⟨g, 1, none⟩ = false ∧ w.frozen? ⟨g, 2, none⟩ = false ∧ w.frozen? ⟨g, 3, none⟩ = false ∧ w.frozen? ⟨g, 4, none⟩ = false ∧ w.frozen? ⟨g, 5, none⟩ = false ∧ w.frozen? ⟨g, 6, none⟩ = false ∧ w.frozen? ⟨g, 7, none⟩ = false :=
  ⟨blk_frozen h 0, blk_frozen h 1, blk_frozen h 2, blk_frozen h 3, blk_frozen h 4, blk_frozen h 5, blk_frozen h 6, blk_frozen h 7⟩
theorem set7 {w : World} {g : Nat} {t : TypeId} {v0 v1 v2 v3 v4 v5 v6 : Value} (h : Blk w g t #[v0, v1, v2, v3, v4, v5, v6]) (u0 u1 u2 u3 u4 u5 u6 : Value) :
    Blk (((((((w.setCell ⟨g, 0, none⟩ u0).setCell ⟨g, 1, none⟩ u1).setCell ⟨g, 2, none⟩ u2).setCell ⟨g, 3, none⟩ u3).setCell ⟨g, 4, none⟩ u4).setCell ⟨g, 5, none⟩ u5).setCell ⟨g, 6, none⟩ u6) g t #[u0, u1, u2, u3, u4, u5, u6] :=
by
  have h0 : Blk _ g t #[u0, v1, v2, v3, v4, v5, v6] := blk_set h 0 u0
  have h1 : Blk _ g t #[u0, u1, v2, v3, v4, v5, v6] := blk_set h0 1 u1
  have h2 : Blk _ g t #[u0, u1, u2, v3, v4, v5, v6] := blk_set h1 2 u2
  have h3 : Blk _ g t #[u0, u1, u2, u3, v4, v5, v6] := blk_set h2 3 u3
  have h4 : Blk _ g t #[u0, u1, u2, u3, u4, v5, v6] := blk_set h3 4 u4
  have h5 : Blk _ g t #[u0, u1, u2, u3, u4, u5, v6] := blk_set h4 5 u5
  exact blk_set h5 6 u6
theorem below7 {B : Nat} {a w : World} {h : Nat} (hb : Below B a w) (hB : B ≤ h) (u0 u1 u2 u3 u4 u5 u6 : Value) :
    Below B a (((((((w.setCell ⟨h, 0, none⟩ u0).setCell ⟨h, 1, none⟩ u1).setCell ⟨h, 2, none⟩ u2).setCell ⟨h, 3, none⟩ u3).setCell ⟨h, 4, none⟩ u4).setCell ⟨h, 5, none⟩ u5).setCell ⟨h, 6, none⟩ u6) :=
  ((((((hb.setCell hB _).setCell hB _).setCell hB _).setCell hB _).setCell hB _).setCell hB _).setCell hB _

theorem begin_any (s : Int) (w : World) : Calls Try.prog 25 #[.int .u64 s] w fun e w' =>
    e = .returned (.agg #[.int .u64 (fst s).a, .int .u64 (fst s).b, .int .u64 (fst s).c, .int .u64 (fst s).d, .int .i64 0, .string ⟨#[]⟩, .int .u64 s]) ∧ Below w.heap.size w w' := by
  obtain ⟨L, hL⟩ : ∃ L, fst s = L := ⟨_, rfl⟩
  have hF := fun u => first_any s u
  rw [hL] at hF ⊢
  clear hL
  go_enter Try.func25, Try.ntmps25
  go_wp2_with (go_at_call 33; (with_reducible refine (hF _).mono ?_); rintro e w1 ⟨rfl, hb1⟩; have K := Lib.hid (blk_next (blk_new w 48 #[.int .u64 0, .int .u64 0, .int .u64 0, .int .u64 0, .int .i64 0, .string ⟨#[]⟩, .int .u64 0]) hb1); obtain ⟨p0, p1, p2, p3, p4, p5, p6⟩ := c7 K.out; obtain ⟨q0, q1, q2, q3, q4, q5, q6, _⟩ := z7 K.out)
  obtain ⟨y0, y1, y2, y3, y4, y5, y6⟩ := c7 (set7 K.out (.int .u64 L.a) (.int .u64 L.b) (.int .u64 L.c) (.int .u64 L.d) (.int .i64 0) (.string ⟨#[]⟩) (.int .u64 s))
  exact bodyPost_ret (v := .agg #[.int .u64 L.a, .int .u64 L.b, .int .u64 L.c, .int .u64 L.d, .int .i64 0, .string ⟨#[]⟩, .int .u64 s]) (by simp [results, Try.results25, go_sem, y0, y1, y2, y3, y4, y5, y6]) rfl ⟨rfl, below7 (below_call (below_box (Below.refl _ _) _) hb1) (Nat.le_refl _) _ _ _ _ _ _ _⟩

def sumW (a b c d T : Int) (s : ByteArray) (e : Int) : Int :=
  stirW (tk s.size (IntKind.u64.wrap ((if 32 ≤ T then sg a b c d (sm a b c d 4) 4 else IntKind.u64.wrap (e + 2870177450012600261)) + IntKind.u64.wrap T)) s.data.toList)
theorem sum_any (a b c d T : Int) (s : ByteArray) (e : Int) (hs : s.size ≤ 9223372036854775807) (w : World) :
    Calls Try.prog 27 #[.agg #[.int .u64 a, .int .u64 b, .int .u64 c, .int .u64 d, .int .i64 T, .string s, .int .u64 e]] w fun r w' => r = .returned (.int .u64 (sumW a b c d T s e)) ∧ Below w.heap.size w w' := by
  have hF := fun u => filled_any a b c d T s e u
  unfold sumW
  by_cases h : 32 ≤ T
  · rw [if_pos h]
    rw [decide_eq_true h] at hF
    go_enter Try.func27, Try.ntmps27
    go_wp2_with (first
      | (go_at_call 36; (with_reducible refine (hF _).mono ?_); rintro r w1 ⟨rfl, hb1⟩; have k := blk_next (blk_new w 48 #[.int .u64 a, .int .u64 b, .int .u64 c, .int .u64 d, .int .i64 T, .string s, .int .u64 e]) hb1; have K := Lib.hid k; obtain ⟨p0, p1, p2, p3, _⟩ := c7 k; clear k)
      | (go_at_call 37; (with_reducible refine (merged_any a b c d _).mono ?_); rintro r w2 ⟨rfl, hb2⟩; have k := blk_next K.out hb2; obtain ⟨_, _, _, _, q4, q5, _⟩ := c7 k; clear k)
      | (go_at_call 39; (with_reducible refine (taken_any _ s hs _).mono ?_); rintro r w3 ⟨rfl, hb3⟩)
      | (go_at_call 38; (with_reducible refine (stir_any _ _).mono ?_); rintro r w4 ⟨rfl, rfl⟩))
    go_ret
    exact ⟨rfl, below_call (below_call (below_call (below_box (Below.refl _ _) _) hb1) hb2) hb3⟩
  · rw [if_neg h]
    rw [decide_eq_false h] at hF
    go_enter Try.func27, Try.ntmps27
    go_wp2_with (first
      | (go_at_call 36; (with_reducible refine (hF _).mono ?_); rintro r w1 ⟨rfl, hb1⟩; have k := blk_next (blk_new w 48 #[.int .u64 a, .int .u64 b, .int .u64 c, .int .u64 d, .int .i64 T, .string s, .int .u64 e]) hb1; obtain ⟨_, _, _, _, q4, q5, _⟩ := c7 k; clear k)
      | (go_at_call 39; (with_reducible refine (taken_any _ s hs _).mono ?_); rintro r w3 ⟨rfl, hb3⟩)
      | (go_at_call 38; (with_reducible refine (stir_any _ _).mono ?_); rintro r w4 ⟨rfl, rfl⟩))
    go_ret
    exact ⟨rfl, below_call (below_call (below_box (Below.refl _ _) _) hb1) hb3⟩

theorem fits_any (g : Nat) (a b c d T : Int) (s t : ByteArray) (e : Int) (h0 : 0 ≤ T) (h1 : T ≤ 1099511627776) (w : World) (hb : Blk w g 51 #[.int .u64 a, .int .u64 b, .int .u64 c, .int .u64 d, .int .i64 T, .string s, .int .u64 e, .string t]) :
    Calls Try.prog 32 #[.pointer (some ⟨g, 0, none⟩)] w fun r w' => r = .returned (.bool (decide ((t.size : Int) ≤ 1099511627776 - T))) ∧ Below w.heap.size w w' := by
  have c4 := blk_cell hb 4
  have c7 := blk_cell hb 7
  have hl := blk_lt hb
  clear hb
  go_enter Try.func32, Try.ntmps32
  go_wp2
  go_quiet (fail)
  go_wp2
  go_ret
  exact ⟨rfl, below_drewN (Below.refl _ _) _⟩
end Go.Proofs.Ytgiihdgkejhbeaa
