/-
  The project's cursors against the reference's: the same words for both.
-/
import Derived.Test.YtipigfngeiodlaaO4H
import Derived.Test.YtipigfngeiodlaaB4Inner
namespace Go.Proofs.Ytipigfngeiodlaa
open Go.ChangeShapes Go.WideShapes Go.ChangeAt Go.RowKit
set_option linter.unusedVariables false

/-- a cursor as a value -/
def cur (S : ByteArray) (A E F : Int) : Value := .agg #[.string S, .int .i64 A, .int .i64 E, .int .i64 F]

theorem yb_ok (s : ByteArray) (a e f n : Int) (h : curOk s a e f) : curOk s (ybA s a e n) (ybE s a e n) (ybF s a e f n) := by
  obtain ⟨c1, c2, c3, c4, c5, c6, c7⟩ := h
  by_cases he : e = 0
  · by_cases h0 : n < 0
    · have e1 : ybA s a e n = a := by unfold ybA; rw [if_neg (by unfold ybOk; omega)]
      have e2 : ybE s a e n = 2 := by unfold ybE; rw [if_pos he, if_pos h0]
      have e3 : ybF s a e f n = a := by unfold ybF; rw [if_pos he, if_pos h0]
      rw [e1, e2, e3]
      exact ⟨c1, c2, by omega, by omega, c1, c2, fun h => by omega⟩
    · by_cases h1 : (s.size : Int) - a < n
      · have e1 : ybA s a e n = a := by unfold ybA; rw [if_neg (by unfold ybOk; omega)]
        have e2 : ybE s a e n = 5 := by unfold ybE; rw [if_pos he, if_neg h0, if_pos h1]
        have e3 : ybF s a e f n = s.size := by unfold ybF; rw [if_pos he, if_neg h0, if_pos h1]
        rw [e1, e2, e3]
        exact ⟨c1, c2, by omega, by omega, by omega, by omega, fun h => by omega⟩
      · have e1 : ybA s a e n = a + n := by unfold ybA; rw [if_pos (by unfold ybOk; omega)]
        have e2 : ybE s a e n = 0 := by unfold ybE; rw [if_pos he, if_neg h0, if_neg h1]
        have e3 : ybF s a e f n = 0 := by unfold ybF; rw [if_pos he, if_neg h0, if_neg h1]
        rw [e1, e2, e3]
        exact ⟨by omega, by omega, by omega, by omega, by omega, by omega, fun h => rfl⟩
  · have e1 : ybA s a e n = a := by unfold ybA; rw [if_neg (by unfold ybOk; omega)]
    have e2 : ybE s a e n = e := by unfold ybE; rw [if_neg he]
    have e3 : ybF s a e f n = f := by unfold ybF; rw [if_neg he]
    rw [e1, e2, e3]
    exact ⟨c1, c2, c3, c4, c5, c6, c7⟩
theorem yb_size (s : ByteArray) (a e f n : Int) (h : curOk s a e f) (k : Nat) (hn : n ≤ k) : (ybT s a e n).size ≤ k := by
  obtain ⟨c1, c2, c3, c4, c5, c6, c7⟩ := h
  unfold ybT
  by_cases hk : ybOk s a e n
  · rw [if_pos hk, ByteArray.size_extract]; omega
  · rw [if_neg hk]; exact Nat.zero_le _
theorem cr_right (S : ByteArray) (A E F : Int) (h : curOk S A E F) : crS S A E F = S ∧ crA S A E F = A ∧ crE S A E F = E ∧ crF S A E F = F := by
  unfold crS crA crE crF
  rw [if_pos h, if_pos h, if_pos h, if_pos h]
  exact ⟨rfl, rfl, rfl, rfl⟩

/-- Little's words -/
def lOk (n : Int) : Prop := 1 ≤ n ∧ n ≤ 8
instance (n : Int) : Decidable (lOk n) := by unfold lOk; infer_instance
def lA (s : ByteArray) (a e n : Int) : Int := if lOk n then ybA s a e n else a
def lE (s : ByteArray) (a e n : Int) : Int := if lOk n then ybE s a e n else if e = 0 then 2 else e
def lF (s : ByteArray) (a e f n : Int) : Int := if lOk n then ybF s a e f n else if e = 0 then a else f
def lV (s : ByteArray) (a e n : Int) : Nat := if lOk n then leN (ybT s a e n) 0 (ybT s a e n).size else 0

theorem obytes_any (S : ByteArray) (A E F n : Int) (hS : S.size ≤ 9223372036854775807) (w : World) :
    Calls Try.prog 18 #[.agg #[.string S, .int .i64 A, .int .i64 E, .int .i64 F], .int .i64 n] w fun e0 w' =>
      e0 = .returned (.tuple #[.agg #[.string (crS S A E F), .int .i64 (ybA (crS S A E F) (crA S A E F) (crE S A E F) n), .int .i64 (ybE (crS S A E F) (crA S A E F) (crE S A E F) n), .int .i64 (ybF (crS S A E F) (crA S A E F) (crE S A E F) (crF S A E F) n)], .string (ybT (crS S A E F) (crA S A E F) (crE S A E F) n)]) ∧ Below w.heap.size w w' :=
  bytes_walk S _ A E F _ _ _ n _ _ _ _ _ (fun u => open_any S A E F hS u) (fun g v hv => pass_any g _ _ _ _ n 1 (Nat.le_trans (cr_size S A E F) hS) (.inl rfl) (cr_ok S A E F) v hv) w

theorem olittle_any (S : ByteArray) (A E F n : Int) (hS : S.size ≤ 9223372036854775807) (w : World) :
    Calls Try.prog 16 #[.agg #[.string S, .int .i64 A, .int .i64 E, .int .i64 F], .int .i64 n] w fun e0 w' =>
      e0 = .returned (.tuple #[.agg #[.string (crS S A E F), .int .i64 (lA (crS S A E F) (crA S A E F) (crE S A E F) n), .int .i64 (lE (crS S A E F) (crA S A E F) (crE S A E F) n), .int .i64 (lF (crS S A E F) (crA S A E F) (crE S A E F) (crF S A E F) n)], .int .u64 (lV (crS S A E F) (crA S A E F) (crE S A E F) n : Nat)]) ∧ Below w.heap.size w w' := by
  have hs := Nat.le_trans (cr_size S A E F) hS
  have hc := cr_ok S A E F
  refine little_walk S _ A E F _ _ _ n _ _ _ _ _ (fun u => open_any S A E F hS u) (fun g v hv => ?_) w
  unfold lA lE lF lV
  by_cases h : lOk n
  · rw [if_pos h, if_pos h, if_pos h, if_pos h]
    exact number_walk g _ _ _ _ _ n _ _ _ _ (yb_size _ _ _ _ n hc 8 (by have := h.2; omega)) (fun v hv => pass_any g _ _ _ _ n 0 hs (.inr ⟨rfl, h.1, h.2⟩) hc v hv) v hv
  · rw [if_neg h, if_neg h, if_neg h, if_neg h]
    have hno : n < 1 ∨ (1 ≤ n ∧ 8 < n) := by unfold lOk at h; omega
    exact number_walk g _ _ _ _ _ n _ _ _ ⟨#[]⟩ (Nat.zero_le _) (fun v hv => pass_bad g _ _ _ _ n _ _ hno rfl rfl v hv) v hv

theorem clittle_any (S : ByteArray) (A E F n : Int) (hS : S.size ≤ 9223372036854775807) (w : World) :
    Calls Try.prog 17 #[.agg #[.string S, .int .i64 A, .int .i64 E, .int .i64 F], .int .i64 n] w fun e0 w' =>
      e0 = .returned (.tuple #[.agg #[.string (crS S A E F), .int .i64 (lA (crS S A E F) (crA S A E F) (crE S A E F) n), .int .i64 (lE (crS S A E F) (crA S A E F) (crE S A E F) n), .int .i64 (lF (crS S A E F) (crA S A E F) (crE S A E F) (crF S A E F) n)], .int .u64 (lV (crS S A E F) (crA S A E F) (crE S A E F) n : Nat)]) ∧ Below w.heap.size w w' := by
  have hs := Nat.le_trans (cr_size S A E F) hS
  have hc := cr_ok S A E F
  unfold lA lE lF lV
  by_cases h : lOk n
  · rw [if_pos h, if_pos h, if_pos h, if_pos h]
    obtain ⟨r1, r2, r3, r4⟩ := cr_right _ _ _ _ hc
    have hB := fun u => cbytes_any (crS S A E F) (crA S A E F) (crE S A E F) (crF S A E F) n hs u
    rw [r1, r2, r3, r4] at hB
    exact clittle_good S _ _ A E F _ _ _ _ _ _ n _ (yb_size _ _ _ _ n hc 8 (by have := h.2; omega)) w h.1 h.2 (fun u => cright_any S A E F hS u) hB
  · rw [if_neg h, if_neg h, if_neg h, if_neg h]
    have hno : n < 1 ∨ (1 ≤ n ∧ 8 < n) := by unfold lOk at h; omega
    exact clittle_bad S _ A E F _ _ _ n _ _ w hno (fun u => cright_any S A E F hS u) (fun u => cfail_any _ _ _ _ _ _ u)

theorem leN_one (t : ByteArray) (h : t.size ≤ 1) : ((leN t 0 t.size : Nat) : Int) = hdB t := by
  unfold hdB
  by_cases h0 : 0 < t.size
  · rw [dif_pos h0, show t.size = 0 + 1 by omega]
    simp only [leN]
    rw [byteAt_of t (0 + 0) (by omega)]
    simp
  · rw [dif_neg h0, show t.size = 0 by omega]
    rfl
theorem lOne : lOk 1 := ⟨by omega, by omega⟩
theorem lV_one (s : ByteArray) (a e f : Int) (h : curOk s a e f) : ((lV s a e 1 : Nat) : Int) = hdB (ybT s a e 1) := by
  unfold lV
  rw [if_pos lOne, leN_one _ (yb_size s a e f 1 h 1 (by omega))]
theorem hdB_range (t : ByteArray) : 0 ≤ hdB t ∧ hdB t < 256 := by
  unfold hdB
  split
  · rename_i h
    have := (t[0]'h).toNat_lt
    omega
  · omega

theorem obyte_all (S : ByteArray) (A E F : Int) (hS : S.size ≤ 9223372036854775807) (w : World) :
    Calls Try.prog 14 #[.agg #[.string S, .int .i64 A, .int .i64 E, .int .i64 F]] w fun e0 w' =>
      e0 = .returned (.tuple #[.agg #[.string (crS S A E F), .int .i64 (ybA (crS S A E F) (crA S A E F) (crE S A E F) 1), .int .i64 (ybE (crS S A E F) (crA S A E F) (crE S A E F) 1), .int .i64 (ybF (crS S A E F) (crA S A E F) (crE S A E F) (crF S A E F) 1)], .int .i64 (hdB (ybT (crS S A E F) (crA S A E F) (crE S A E F) 1))]) ∧ Below w.heap.size w w' := by
  have hB := fun u => olittle_any S A E F 1 hS u
  rw [lV_one _ _ _ _ (cr_ok S A E F)] at hB
  have hr := hdB_range (ybT (crS S A E F) (crA S A E F) (crE S A E F) 1)
  unfold lA lE lF at hB
  rw [if_pos lOne, if_pos lOne, if_pos lOne] at hB
  exact obyte_any S _ A E F _ _ _ _ (IntWalk.wrap64_in _ ⟨by omega, by omega⟩) hB w
theorem cbyte_all (S : ByteArray) (A E F : Int) (hS : S.size ≤ 9223372036854775807) (w : World) :
    Calls Try.prog 15 #[.agg #[.string S, .int .i64 A, .int .i64 E, .int .i64 F]] w fun e0 w' =>
      e0 = .returned (.tuple #[.agg #[.string (crS S A E F), .int .i64 (ybA (crS S A E F) (crA S A E F) (crE S A E F) 1), .int .i64 (ybE (crS S A E F) (crA S A E F) (crE S A E F) 1), .int .i64 (ybF (crS S A E F) (crA S A E F) (crE S A E F) (crF S A E F) 1)], .int .i64 (hdB (ybT (crS S A E F) (crA S A E F) (crE S A E F) 1))]) ∧ Below w.heap.size w w' :=
  cbyte_any S _ A E F _ _ _ _ (yb_size _ _ _ _ 1 (cr_ok S A E F) 1 (by omega)) (fun u => cbytes_any S A E F 1 hS u) w

theorem oleft_any (S : ByteArray) (A E F : Int) (hS : S.size ≤ 9223372036854775807) (w : World) :
    Calls Try.prog 12 #[.agg #[.string S, .int .i64 A, .int .i64 E, .int .i64 F]] w fun e w' => e = .returned (.int .i64 (ylX (crS S A E F) (crA S A E F) (crE S A E F))) ∧ Below w.heap.size w w' :=
  oleft_walk S _ A E F _ _ _ _ (fun u => open_any S A E F hS u) (fun u => ownLeftK _ _ _ _ (fun _ => ⟨(cr_ok S A E F).1, (cr_ok S A E F).2.1⟩) (Nat.le_trans (cr_size S A E F) hS) u) w
theorem cleft_any (S : ByteArray) (A E F : Int) (hS : S.size ≤ 9223372036854775807) (w : World) :
    Calls Try.prog 13 #[.agg #[.string S, .int .i64 A, .int .i64 E, .int .i64 F]] w fun e w' => e = .returned (.int .i64 (ylX (crS S A E F) (crA S A E F) (crE S A E F))) ∧ Below w.heap.size w w' :=
  cleft_right S _ A E F _ _ _ (Nat.le_trans (cr_size S A E F) hS) (cr_ok S A E F) w (fun u => cright_any S A E F hS u)
theorem ccheck_any (S : ByteArray) (A E F : Int) (hS : S.size ≤ 9223372036854775807) (w : World) :
    Calls Try.prog 11 #[.agg #[.string S, .int .i64 A, .int .i64 E, .int .i64 F]] w fun e w' => e = .returned (.int .i64 (if curOk S A E F then 0 else 10)) ∧ Below w.heap.size w w' := by
  by_cases h : curOk S A E F
  · rw [if_pos h]; exact ccheck_ok S A E F hS h w
  · rw [if_neg h]; exact ccheck_bad S A E F hS h w

theorem ofail_any (S : ByteArray) (A E F x p : Int) (hS : S.size ≤ 9223372036854775807) (w : World) :
    Calls Try.prog 26 #[.agg #[.string S, .int .i64 A, .int .i64 E, .int .i64 F], .int .i64 x, .int .i64 p] w fun e0 w' =>
      e0 = .returned (.agg #[.string (crS S A E F), .int .i64 (crA S A E F), .int .i64 (if crE S A E F = 0 then yfE x else crE S A E F), .int .i64 (if crE S A E F = 0 then yfP (crS S A E F) p else crF S A E F)]) ∧ Below w.heap.size w w' := by
  have hsz := cr_size S A E F
  by_cases hx : 0 < x ∧ x ≤ 31
  · refine ofail_walk S _ A E F _ _ _ x p (yfE x) (if p < 0 then 0 else p) (yfP (crS S A E F) p) _ _ true (.inl ⟨rfl, ?_⟩) (fun ts t w => ?_) (fun ts t w => ?_) (fun u => open_any S A E F hS u) (fun u => isErr_in x hx.1 hx.2 u) (fun g v hv => keep_any g _ _ _ _ _ _ v hv) w
    · unfold yfE; rw [if_neg (by omega)]
    · rw [run_max_int2]
    · rw [run_min_int2]
      congr 2
      unfold yfP
      all_goals (split <;> split <;> (try split) <;> omega)
  · refine ofail_walk S _ A E F _ _ _ x p (yfE x) (if p < 0 then 0 else p) (yfP (crS S A E F) p) _ _ false (.inr ⟨rfl, ?_⟩) (fun ts t w => ?_) (fun ts t w => ?_) (fun u => open_any S A E F hS u) (fun u => isErr_out x (by omega) u) (fun g v hv => keep_any g _ _ _ _ _ _ v hv) w
    · unfold yfE; rw [if_pos (by omega)]
    · rw [run_max_int2]
    · rw [run_min_int2]
      congr 2
      unfold yfP
      all_goals (split <;> split <;> (try split) <;> omega)

theorem oend_any (S : ByteArray) (A E F : Int) (hS : S.size ≤ 9223372036854775807) (w : World) :
    Calls Try.prog 28 #[.agg #[.string S, .int .i64 A, .int .i64 E, .int .i64 F]] w fun e0 w' => e0 = .returned (.agg #[.int .i64 (yeE (crS S A E F) (crA S A E F) (crE S A E F)), .int .i64 (yeF (crS S A E F) (crA S A E F) (crE S A E F) (crF S A E F))]) ∧ Below w.heap.size w w' := by
  have hc := cr_ok S A E F
  have hL := fun u => ownLeftK (crS S A E F) (crA S A E F) (crE S A E F) (crF S A E F) (fun _ => ⟨hc.1, hc.2.1⟩) (Nat.le_trans (cr_size S A E F) hS) u
  have hO := fun u => open_any S A E F hS u
  generalize crS S A E F = s at *
  generalize crA S A E F = a at *
  generalize crE S A E F = e at *
  generalize crF S A E F = f at *
  by_cases h : e = 0 ∧ a < s.size
  · obtain ⟨rfl, h2⟩ := h
    have e1 : yeE s a 0 = 4 := by unfold yeE; rw [if_pos ⟨rfl, h2⟩]
    have e2 : yeF s a 0 f = a := by unfold yeF; rw [if_pos ⟨rfl, h2⟩]
    rw [e1, e2]
    refine oend_walk S s A E F a 0 f _ 4 a (.inl ⟨?_, trivial⟩) hO hL (fun _ g v hv => ?_) w
    · unfold ylX; rw [if_pos rfl]; omega
    · have := keep_any g s a 0 f 4 a v hv
      rw [if_pos rfl, if_pos rfl] at this
      exact this
  · have e1 : yeE s a e = e := by unfold yeE; rw [if_neg h]
    have e2 : yeF s a e f = f := by unfold yeF; rw [if_neg h]
    rw [e1, e2]
    have hle : ylX s a e ≤ 0 := by
      unfold ylX
      by_cases he : e = 0
      · rw [if_pos he]; omega
      · rw [if_neg he]; omega
    exact oend_walk S s A E F a e f _ e f (.inr ⟨hle, rfl, rfl⟩) hO hL (fun h => absurd h (by omega)) w
theorem cend_any (S : ByteArray) (A E F : Int) (hS : S.size ≤ 9223372036854775807) (w : World) :
    Calls Try.prog 29 #[.agg #[.string S, .int .i64 A, .int .i64 E, .int .i64 F]] w fun e0 w' => e0 = .returned (.agg #[.int .i64 (yeE (crS S A E F) (crA S A E F) (crE S A E F)), .int .i64 (yeF (crS S A E F) (crA S A E F) (crE S A E F) (crF S A E F))]) ∧ Below w.heap.size w w' := by
  have hO := fun u => cright_any S A E F hS u
  generalize crS S A E F = s at *
  generalize crA S A E F = a at *
  generalize crE S A E F = e at *
  generalize crF S A E F = f at *
  refine cend_walk S s A E F a e f _ _ w ?_ hO
  unfold yeE yeF
  by_cases he : e = 0
  · by_cases h : a < s.size
    · rw [if_pos ⟨he, h⟩, if_pos ⟨he, h⟩]
      exact .inl ⟨by simp [he], by simp [h], rfl, rfl⟩
    · rw [if_neg (by omega), if_neg (by omega)]
      exact .inr (.inl ⟨by simp [he], by simp [h], rfl, rfl⟩)
  · rw [if_neg (by omega), if_neg (by omega)]
    exact .inr (.inr ⟨by simp [he], rfl, rfl⟩)

/-- Inner's first cursor -/
def iS (S : ByteArray) (a e n : Int) : ByteArray := if ybE S a e n = 0 then S.extract 0 (ybA S a e n).toNat else S
def iA (S : ByteArray) (a e n : Int) : Int := if ybE S a e n = 0 then a else ybA S a e n
def iF (S : ByteArray) (a e f n : Int) : Int := if ybE S a e n = 0 then 0 else ybF S a e f n
theorem inner_words (s : ByteArray) (a e f n : Int) (h : curOk s (ybA s a e n) (ybE s a e n) (ybF s a e f n)) :
    ((ybE s a e n != 0) = true ∧ s = iS s a e n ∧ ybA s a e n = iA s a e n ∧ ybE s a e n = ybE s a e n ∧ ybF s a e f n = iF s a e f n) ∨
    ((ybE s a e n != 0) = false ∧ 0 ≤ ybA s a e n ∧ ybA s a e n ≤ s.size ∧ s.extract 0 (ybA s a e n).toNat = iS s a e n ∧ a = iA s a e n ∧ 0 = ybE s a e n ∧ 0 = iF s a e f n) := by
  unfold iS iA iF
  by_cases h0 : ybE s a e n = 0
  · rw [if_pos h0, if_pos h0, if_pos h0]
    exact .inr ⟨by simp [h0], h.1, h.2.1, rfl, rfl, h0.symm, rfl⟩
  · rw [if_neg h0, if_neg h0, if_neg h0]
    exact .inl ⟨by simp [h0], rfl, rfl, rfl, rfl⟩
theorem oinner_any (S : ByteArray) (A E F n : Int) (hS : S.size ≤ 9223372036854775807) (w : World) :
    Calls Try.prog 22 #[.agg #[.string S, .int .i64 A, .int .i64 E, .int .i64 F], .int .i64 n] w fun e0 w' =>
      e0 = .returned (.tuple #[.agg #[.string (iS (crS S A E F) (crA S A E F) (crE S A E F) n), .int .i64 (iA (crS S A E F) (crA S A E F) (crE S A E F) n), .int .i64 (ybE (crS S A E F) (crA S A E F) (crE S A E F) n), .int .i64 (iF (crS S A E F) (crA S A E F) (crE S A E F) (crF S A E F) n)],
        .agg #[.string (crS S A E F), .int .i64 (ybA (crS S A E F) (crA S A E F) (crE S A E F) n), .int .i64 (ybE (crS S A E F) (crA S A E F) (crE S A E F) n), .int .i64 (ybF (crS S A E F) (crA S A E F) (crE S A E F) (crF S A E F) n)]]) ∧ Below w.heap.size w w' := by
  have hc := cr_ok S A E F
  have hs := Nat.le_trans (cr_size S A E F) hS
  exact oinner_walk S _ _ A E F _ _ _ n _ _ _ _ _ _ _ _ hs (fun u => open_any S A E F hS u) (fun g v hv => pass_any g _ _ _ _ n 1 hs (.inl rfl) hc v hv) (fun u => failed_any _ _ _ _ u) (inner_words _ _ _ _ n (yb_ok _ _ _ _ n hc)) w
theorem cinner_any (S : ByteArray) (A E F n : Int) (hS : S.size ≤ 9223372036854775807) (w : World) :
    Calls Try.prog 23 #[.agg #[.string S, .int .i64 A, .int .i64 E, .int .i64 F], .int .i64 n] w fun e0 w' =>
      e0 = .returned (.tuple #[.agg #[.string (iS (crS S A E F) (crA S A E F) (crE S A E F) n), .int .i64 (iA (crS S A E F) (crA S A E F) (crE S A E F) n), .int .i64 (ybE (crS S A E F) (crA S A E F) (crE S A E F) n), .int .i64 (iF (crS S A E F) (crA S A E F) (crE S A E F) (crF S A E F) n)],
        .agg #[.string (crS S A E F), .int .i64 (ybA (crS S A E F) (crA S A E F) (crE S A E F) n), .int .i64 (ybE (crS S A E F) (crA S A E F) (crE S A E F) n), .int .i64 (ybF (crS S A E F) (crA S A E F) (crE S A E F) (crF S A E F) n)]]) ∧ Below w.heap.size w w' := by
  have hc := cr_ok S A E F
  have hw := inner_words _ _ _ _ n (yb_ok _ _ _ _ n hc)
  have hB := fun u => cbytes_any S A E F n hS u
  refine cinner_walk S _ A E F _ _ _ n _ _ ⟨#[]⟩ _ _ _ 0 0 0 w hS hB ?_
  by_cases h : curOk S A E F
  · obtain ⟨r1, r2, r3, r4⟩ := cr_right S A E F h
    rw [r1, r2, r3, r4] at hw ⊢
    exact hw
  · rcases hw with hw | hw
    · exact .inl hw
    · exfalso
      have h10 : crE S A E F = 10 := by unfold crE; rw [if_neg h]
      have hz := hw.2.2.2.2.2.1
      unfold ybE at hz
      rw [h10] at hz
      simp at hz
end Go.Proofs.Ytipigfngeiodlaa
