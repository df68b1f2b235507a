/-
  The reference's cursors: which are right, what a cursor counts as, and a first fault.
-/
import Derived.Test.YtipigfngeiodlaaProg
import Derived.Test.YtipigfngeiodlaaAid
namespace Go.Proofs.Ytipigfngeiodlaa
open Go.ChangeShapes Go.WideShapes Go.ChangeAt Go.RowKit
set_option linter.unusedVariables false

/-- a right cursor -/
def curOk (S : ByteArray) (A E F : Int) : Prop := 0 ≤ A ∧ A ≤ S.size ∧ 0 ≤ E ∧ E ≤ 31 ∧ 0 ≤ F ∧ F ≤ S.size ∧ (E = 0 → F = 0)

theorem ccheck_ok (S : ByteArray) (A E F : Int) (hS : S.size ≤ 9223372036854775807) (h : curOk S A E F) (w : World) :
    Calls Try.prog 11 #[.agg #[.string S, .int .i64 A, .int .i64 E, .int .i64 F]] w fun e w' => e = .returned (.int .i64 0) ∧ Below w.heap.size w w' := by
  obtain ⟨a0, a1, e0, e1, f0, f1, h0⟩ := h
  by_cases hE : E = 0
  · obtain rfl := h0 hE
    subst hE
    clear h0
    go_enter Try.func11, Try.ntmps11
    go_wp2
    go_ret
    exact ⟨rfl, ((Below.refl _ _).alloc (Nat.le_refl _) _).alloc (by simp) _⟩
  · have t : (E == 0) = false := by simp [hE]
    clear h0
    go_enter Try.func11, Try.ntmps11
    go_wp2
    go_ret
    exact ⟨rfl, ((Below.refl _ _).alloc (Nat.le_refl _) _).alloc (by simp) _⟩
theorem ccheck_bad (S : ByteArray) (A E F : Int) (hS : S.size ≤ 9223372036854775807) (h : ¬ curOk S A E F) (w : World) :
    Calls Try.prog 11 #[.agg #[.string S, .int .i64 A, .int .i64 E, .int .i64 F]] w fun e w' => e = .returned (.int .i64 10) ∧ Below w.heap.size w w' := by
  by_cases h1 : A < 0
  · clear h
    go_enter Try.func11, Try.ntmps11
    go_wp2
    go_ret
    exact ⟨rfl, ((Below.refl _ _).alloc (Nat.le_refl _) _).alloc (by simp) _⟩
  · by_cases h2 : (S.size : Int) < A
    · clear h
      go_enter Try.func11, Try.ntmps11
      go_wp2
      go_ret
      exact ⟨rfl, ((Below.refl _ _).alloc (Nat.le_refl _) _).alloc (by simp) _⟩
    · by_cases h3 : E < 0
      · clear h
        go_enter Try.func11, Try.ntmps11
        go_wp2
        go_ret
        exact ⟨rfl, ((Below.refl _ _).alloc (Nat.le_refl _) _).alloc (by simp) _⟩
      · by_cases h4 : 31 < E
        · clear h
          go_enter Try.func11, Try.ntmps11
          go_wp2
          go_ret
          exact ⟨rfl, ((Below.refl _ _).alloc (Nat.le_refl _) _).alloc (by simp) _⟩
        · by_cases h5 : F < 0
          · clear h
            go_enter Try.func11, Try.ntmps11
            go_wp2
            go_ret
            exact ⟨rfl, ((Below.refl _ _).alloc (Nat.le_refl _) _).alloc (by simp) _⟩
          · by_cases h6 : (S.size : Int) < F
            · clear h
              go_enter Try.func11, Try.ntmps11
              go_wp2
              go_ret
              exact ⟨rfl, ((Below.refl _ _).alloc (Nat.le_refl _) _).alloc (by simp) _⟩
            · have hE : E = 0 := by
                rcases Int.lt_trichotomy E 0 with h7 | h7 | h7
                · omega
                · exact h7
                · exact absurd ⟨by omega, by omega, by omega, by omega, by omega, by omega, fun h8 => by omega⟩ h
              have hF : F ≠ 0 := fun h8 => h ⟨by omega, by omega, by omega, by omega, by omega, by omega, fun _ => h8⟩
              subst hE
              have t : (F != 0) = true := by simp [hF]
              clear h
              go_enter Try.func11, Try.ntmps11
              go_wp2
              go_ret
              exact ⟨rfl, ((Below.refl _ _).alloc (Nat.le_refl _) _).alloc (by simp) _⟩

instance (S : ByteArray) (A E F : Int) : Decidable (curOk S A E F) := by unfold curOk; infer_instance

/-- what a cursor counts as -/
def crS (S : ByteArray) (A E F : Int) : ByteArray := if curOk S A E F then S else ⟨#[]⟩
def crA (S : ByteArray) (A E F : Int) : Int := if curOk S A E F then A else 0
def crE (S : ByteArray) (A E F : Int) : Int := if curOk S A E F then E else 10
def crF (S : ByteArray) (A E F : Int) : Int := if curOk S A E F then F else 0

/-- four cells -/
def at4 (s : ByteArray) (a e f : Int) : Array Value := #[.string s, .int .i64 a, .int .i64 e, .int .i64 f]
theorem blk4 {w : World} {g : Nat} {t : TypeId} {s : ByteArray} {a e f : Int} (h : Blk w g t (at4 s a e f)) :
    (w.cell? ⟨g, 0, none⟩ = some (.string s) ∧ w.cell? ⟨g, 1, none⟩ = some (.int .i64 a) ∧ w.cell? ⟨g, 2, none⟩ = some (.int .i64 e) ∧ w.cell? ⟨g, 3, none⟩ = some (.int .i64 f)) ∧
    (w.frozen? ⟨g, 0, none⟩ = false ∧ w.frozen? ⟨g, 1, none⟩ = false ∧ w.frozen? ⟨g, 2, none⟩ = false ∧ w.frozen? ⟨g, 3, none⟩ = false) :=
  ⟨⟨blk_cell h 0, blk_cell h 1, blk_cell h 2, blk_cell h 3⟩, blk_frozen h 0, blk_frozen h 1, blk_frozen h 2, blk_frozen h 3⟩
theorem blk4_set {w : World} {g : Nat} {t : TypeId} {s s' : ByteArray} {a e f a' e' f' : Int} (h : Blk w g t (at4 s a e f)) :
    Blk ((((w.setCell ⟨g, 0, none⟩ (.string s')).setCell ⟨g, 1, none⟩ (.int .i64 a')).setCell ⟨g, 2, none⟩ (.int .i64 e')).setCell ⟨g, 3, none⟩ (.int .i64 f')) g t (at4 s' a' e' f') :=
  blk_set (blk_set (blk_set (blk_set h 0 _) 1 _) 2 _) 3 _

theorem cright_any (S : ByteArray) (A E F : Int) (hS : S.size ≤ 9223372036854775807) (w : World) :
    Calls Try.prog 34 #[.agg #[.string S, .int .i64 A, .int .i64 E, .int .i64 F]] w fun e w' =>
      e = .returned (.agg #[.string (crS S A E F), .int .i64 (crA S A E F), .int .i64 (crE S A E F), .int .i64 (crF S A E F)]) ∧ Below w.heap.size w w' := by
  unfold crS crA crE crF
  by_cases h : curOk S A E F
  · have hC := fun u => ccheck_ok S A E F hS h u
    rw [if_pos h, if_pos h, if_pos h, if_pos h]
    clear h
    go_enter Try.func34, Try.ntmps34
    go_wp2_with ((go_at_call 11; (with_reducible refine (hC _).mono ?_); rintro e w1 ⟨rfl, hb1⟩; obtain ⟨hc1, hf1⟩ := bcell hb1; have hz1 : w.heap.size + 1 < w1.heap.size := (by have := hb1.size; simp at this; omega)))
    exact bodyPost_ret (v := .agg #[.string S, .int .i64 A, .int .i64 E, .int .i64 F]) (by simp [results, Try.results34, go_sem, hc1]) rfl
      ⟨rfl, (((((((Below.refl _ _).alloc (Nat.le_refl _) _).alloc (by simp) _).trans (hb1.mono (by simp; omega))).setCell (by simp) _).setCell (by simp) _).setCell (by simp) _).setCell (by simp) _⟩
  · have hC := fun u => ccheck_bad S A E F hS h u
    rw [if_neg h, if_neg h, if_neg h, if_neg h]
    clear h
    go_enter Try.func34, Try.ntmps34
    go_wp2_with ((go_at_call 11; (with_reducible refine (hC _).mono ?_); rintro e w1 ⟨rfl, hb1⟩; obtain ⟨hc1, hf1⟩ := bcell hb1; have hz1 : w.heap.size + 1 < w1.heap.size := (by have := hb1.size; simp at this; omega)))
    exact bodyPost_ret (v := .agg #[.string ⟨#[]⟩, .int .i64 0, .int .i64 10, .int .i64 0]) (by simp [results, Try.results34, go_sem, hc1]) rfl
      ⟨rfl, (((((((Below.refl _ _).alloc (Nat.le_refl _) _).alloc (by simp) _).trans (hb1.mono (by simp; omega))).setCell (by simp) _).setCell (by simp) _).setCell (by simp) _).setCell (by simp) _⟩

theorem cfail_any (S : ByteArray) (A E F e a : Int) (w : World) :
    Calls Try.prog 36 #[.agg #[.string S, .int .i64 A, .int .i64 E, .int .i64 F], .int .i64 e, .int .i64 a] w fun e0 w' =>
      e0 = .returned (.agg #[.string S, .int .i64 A, .int .i64 (if E = 0 then e else E), .int .i64 (if E = 0 then a else F)]) ∧ Below w.heap.size w w' := by
  by_cases h : E = 0
  · rw [if_pos h, if_pos h]
    subst h
    go_enter Try.func36, Try.ntmps36
    go_wp2
    exact bodyPost_ret (v := .agg #[.string S, .int .i64 A, .int .i64 e, .int .i64 a]) (by simp [results, Try.results36, go_sem]) rfl ⟨rfl, ((Below.refl _ _).alloc (Nat.le_refl _) _).alloc (by simp) _⟩
  · rw [if_neg h, if_neg h]
    have t : (E == 0) = false := by simp [h]
    go_enter Try.func36, Try.ntmps36
    go_wp2
    exact bodyPost_ret (v := .agg #[.string S, .int .i64 A, .int .i64 E, .int .i64 F]) (by simp [results, Try.results36, go_sem]) rfl ⟨rfl, ((Below.refl _ _).alloc (Nat.le_refl _) _).alloc (by simp) _⟩

theorem cnew_bad (S : ByteArray) (a : Int) (hS : S.size ≤ 9223372036854775807) (h : a < 0 ∨ (S.size : Int) < a) (w : World) :
    Calls Try.prog 25 #[.string S, .int .i64 a] w fun e w' => e = .returned (.agg #[.string S, .int .i64 0, .int .i64 2, .int .i64 0]) ∧ Below w.heap.size w w' := by
  by_cases h1 : a < 0
  · go_enter Try.func25, Try.ntmps25
    go_wp2
    exact bodyPost_ret (v := .agg #[.string S, .int .i64 0, .int .i64 2, .int .i64 0]) (by simp [results, Try.results25, go_sem]) rfl ⟨rfl, (Below.refl _ _).alloc (Nat.le_refl _) _⟩
  · have h2 : (S.size : Int) < a := by omega
    go_enter Try.func25, Try.ntmps25
    go_wp2
    exact bodyPost_ret (v := .agg #[.string S, .int .i64 0, .int .i64 2, .int .i64 0]) (by simp [results, Try.results25, go_sem]) rfl ⟨rfl, (Below.refl _ _).alloc (Nat.le_refl _) _⟩
theorem cnew_ok (S : ByteArray) (a : Int) (hS : S.size ≤ 9223372036854775807) (h0 : 0 ≤ a) (h1 : a ≤ (S.size : Int)) (w : World) :
    Calls Try.prog 25 #[.string S, .int .i64 a] w fun e w' => e = .returned (.agg #[.string S, .int .i64 a, .int .i64 0, .int .i64 0]) ∧ Below w.heap.size w w' := by
  go_enter Try.func25, Try.ntmps25
  go_wp2
  exact bodyPost_ret (v := .agg #[.string S, .int .i64 a, .int .i64 0, .int .i64 0]) (by simp [results, Try.results25, go_sem]) rfl ⟨rfl, (Below.refl _ _).alloc (Nat.le_refl _) _⟩

end Go.Proofs.Ytipigfngeiodlaa
