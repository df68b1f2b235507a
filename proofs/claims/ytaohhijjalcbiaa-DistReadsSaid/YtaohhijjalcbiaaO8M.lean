/-
  Package dist: the reader of descriptions: what is added; the accuracy.
-/
import Derived.Test.YtaohhijjalcbiaaO8L
namespace Go.Proofs.Ytaohhijjalcbiaa
open Go.ChangeShapes Go.WideShapes Go.ChangeAt Go.RowKit
set_option linter.unusedVariables false
set_option linter.unusedSimpArgs false

theorem Rd.drewN {w : World} {base g : Nat} {S : ByteArray} {B sym : Int} {v e : Value} {xs : List Int} (h : Rd w base g S B sym v e xs) (n : Nat) : Rd (w.drewN n) base g S B sym v e xs := ⟨h.a, h.o, h.l, h.s⟩
theorem Ex.drewN {base g : Nat} (w : World) (n : Nat) : Ex base g w (w.drewN n) := ⟨rfl, rfl, rfl, Nat.le_refl _, fun _ _ _ => rfl⟩
theorem ownB_lt {w : World} {base : Nat} {v : Value} {xs : List Int} (h : w.ownsRow base 3 1 v xs.length (xs.map (Value.int .i64))) : ∀ k, v.ownBlock = some k → base ≤ k ∧ k < w.heap.size := h.lt
theorem add_st {w w' : World} {base g : Nat} {S : ByteArray} {B sym : Int} {v e v' : Value} {xs : List Int} {x : Int} (n : Nat) (h : Rd w base g S B sym v e xs)
    (h1 : w'.ownsRow base 3 1 v' (xs.length + 1) ((xs ++ [x]).map (Value.int .i64))) (h2 : ((w.drewN n).alloc (.cells #[.int .i64 x] 3)).grownBy w' v.ownBlock) :
    Blk w' g 71 #[.string S, .int .i64 B, .int .i64 sym, v, e] ∧ Rd (w'.setCell ⟨g, 3, none⟩ v') base g S B sym v' e (xs ++ [x]) ∧ Ex base g w (w'.setCell ⟨g, 3, none⟩ v') := by
  have hgl := blk_lt h.a
  have hs : ((w.drewN n).alloc (.cells #[.int .i64 x] 3)).heap.size = w.heap.size + 1 := by simp
  have hsz := h2.size
  rw [hs] at hsz
  have hne : v.ownBlock ≠ some g := fun e => by have := (h.o.lt g e).1; have := h.l; omega
  have hb : Blk w' g 71 #[.string S, .int .i64 B, .int .i64 sym, v, e] := (h2.block g (by rw [hs]; omega) (fun e => hne e.symm)).trans (blk_alloc (blk_drewN h.a n) _)
  have hg2 : (w'.setCell ⟨g, 3, none⟩ v').heap.size = w'.heap.size := by simp [World.setCell]
  refine ⟨hb, ⟨blk_set hb 3 v', ?_, h.l, by rw [hg2]; have := h.s; omega⟩, ⟨h2.os, h2.tape, h2.output, by rw [hg2]; omega, fun k hk hkg => ?_⟩⟩
  · have e : (xs ++ [x]).length = xs.length + 1 := by simp
    rw [e]
    refine h1.kept (grown_set (grown_refl w' (some g)) 3 v') ?_
    rcases hv : v'.ownBlock with _ | k
    · exact .inl rfl
    · refine .inr (fun e => ?_)
      have a := (h1.lt k hv).1
      have b : k = g := by simpa using e
      have := h.l
      omega
  · have hks := h.s
    refine (Below.heap_setCell w' ⟨g, 3, none⟩ v' k hkg).trans ((h2.block k (by rw [hs]; omega) (fun e => ?_)).trans ?_)
    · have := (h.o.lt k e.symm).1; omega
    · exact Below.heap_alloc (w.drewN n) _ k (show k < w.heap.size by omega)

theorem dadd_ok (base g : Nat) (S : ByteArray) (B sym : Int) (v e : Value) (xs : List Int) (x : Int) (hx : xs.length ≤ 1000) (hne : (xs.length : Int) ≠ sym) (w : World) (h : Rd w base g S B sym v e xs) :
    Calls Try.prog 60 #[.pointer (some ⟨g, 0, none⟩), .int .i64 x] w fun r w' => r = .returned (.tuple #[]) ∧ ∃ v', Rd w' base g S B sym v' e (xs ++ [x]) ∧ Ex base g w w' := by
  have hb : ((xs.length : Int) == sym) = false := by simpa using hne
  obtain ⟨A, cp, rfl⟩ := h.slice
  obtain ⟨⟨c0, c1, c2, c3, c4⟩, f0, f1, f2, f3, f4⟩ := rd_cells h.a
  have HH := Lib.hid h
  have HO := Lib.hid h.o
  have hgl := blk_lt h.a
  have hbs := h.s
  clear hne h
  go_enter Try.func60, Try.ntmps60
  go_wp2
  go_quiet (fail)
  have hown : (w.drewN nq).ownsRow base 3 1 (.slice A xs.length cp) xs.length (xs.map (Value.int .i64)) := HO.out
  have HOW := Lib.hid hown
  clear hown
  go_wp2_with (at_builtin; refine append_one rfl (.tmp 20) (.tmp 22) rfl base (.slice A xs.length cp) xs.length xs x rfl HOW.out rfl (by omega) (by simpa using hbs) ?_; intro v' w1 h1 h2; obtain ⟨q1, q2, q3⟩ := add_st nq HH.out h1 h2; obtain ⟨A', c', rfl⟩ := q2.slice; simp only [List.length_append, List.length_singleton] at q2 q3; have Q2 := Lib.hid q2; have Q3 := Lib.hid q3; obtain ⟨_, g0, g1, g2, g3, g4⟩ := rd_cells q1; clear q1 q2 q3 h1 h2)
  go_end0
  exact ⟨rfl, _, Q2.out, Q3.out⟩
theorem dadd_full (base g : Nat) (S : ByteArray) (B sym : Int) (v : Value) (xs : List Int) (x : Int) (hx : xs.length ≤ 1000) (hne : (xs.length : Int) = sym) (w : World) (h : Rd w base g S B sym v .nilIface xs) :
    Calls Try.prog 60 #[.pointer (some ⟨g, 0, none⟩), .int .i64 x] w fun r w' => r = .returned (.tuple #[]) ∧ Rd w' base g S B sym v (spt 6 xs.length) xs ∧ Ex base g w w' := by
  have hb : ((xs.length : Int) == sym) = true := by simpa using hne
  obtain ⟨A, cp, rfl⟩ := h.slice
  obtain ⟨⟨c0, c1, c2, c3, c4⟩, f0, f1, f2, f3, f4⟩ := rd_cells h.a
  have HH := Lib.hid h
  clear hne h
  go_enter Try.func60, Try.ntmps60
  go_wp2
  go_quiet (fail)
  go_wp2_with (go_at_call 58; (with_reducible refine (meet_new _ _ _ _ _ _ _ _ (by decide) _ (HH.out.drewN nq)).mono ?_); rintro e w2 ⟨rfl, hr2, hg2⟩)
  refine bodyPost_ret (v := .tuple #[]) (by simp [results, Try.results60, go_sem]) rfl ?_
  exact ⟨rfl, hr2, (Ex.drewN w nq).trans (Ex.of hg2 HH.out.s)⟩
theorem dadd_full_err (base g : Nat) (S : ByteArray) (B sym : Int) (v : Value) (xs : List Int) (c n x : Int) (hne : (xs.length : Int) = sym) (w : World) (h : Rd w base g S B sym v (spt c n) xs) :
    Calls Try.prog 60 #[.pointer (some ⟨g, 0, none⟩), .int .i64 x] w fun r w' => r = .returned (.tuple #[]) ∧ Rd w' base g S B sym v (spt c n) xs ∧ Ex base g w w' := by
  have hb : ((xs.length : Int) == sym) = true := by simpa using hne
  obtain ⟨A, cp, rfl⟩ := h.slice
  obtain ⟨⟨c0, c1, c2, c3, c4⟩, f0, f1, f2, f3, f4⟩ := rd_cells h.a
  have HH := Lib.hid h
  have HC := Lib.hid (fun k => (show (w.drewN k).cell? ⟨g, 4, none⟩ = some (spt c n) from c4))
  clear hne h
  go_enter Try.func60, Try.ntmps60
  go_wp2
  go_quiet (fail)
  go_wp2_with (go_at_call 58; (with_reducible refine (meet_old _ _ _ _ _ (HC.out nq)).mono ?_); rintro e w2 ⟨rfl, rfl⟩)
  refine bodyPost_ret (v := .tuple #[]) (by simp [results, Try.results60, go_sem]) rfl ?_
  exact ⟨rfl, HH.out.drewN nq, Ex.drewN w nq⟩
theorem dadd_err (base g : Nat) (sym c x : Int) (hs : sym ≤ 256) (w : World) (h : Er w base g sym c) :
    Calls Try.prog 60 #[.pointer (some ⟨g, 0, none⟩), .int .i64 x] w fun r w' => r = .returned (.tuple #[]) ∧ Er w' base g sym c ∧ Ex base g w w' := by
  obtain ⟨S, B, v, n, xs, h, hl⟩ := h
  by_cases hne : (xs.length : Int) = sym
  · exact (dadd_full_err base g S B sym v xs c n x hne w h).mono fun r w' k => ⟨k.1, k.2.1.er hl, k.2.2⟩
  · refine (dadd_ok base g S B sym v _ xs x (by omega) hne w h).mono fun r w' k => ?_
    obtain ⟨k1, v', k2, k3⟩ := k
    exact ⟨k1, k2.er (by simp; omega), k3⟩

theorem dlog_ok (base g : Nat) (S : ByteArray) (sym most : Int) (v : Value) (hS : S.size ≤ 1048576) (hb : 4 ≤ 8 * S.size) (hm0 : 5 ≤ most) (hm : most ≤ 12) (hl : 5 + (numB S 0 4 : Nat) ≤ most) (w : World) (h : Rd w base g S 0 sym v .nilIface []) :
    Calls Try.prog 40 #[.pointer (some ⟨g, 0, none⟩), .int .i64 most] w fun r w' => r = .returned (.int .i64 ((5 + numB S 0 4 : Nat) : Int)) ∧ Rd w' base g S 4 sym v .nilIface [] ∧ Ex base g w w' := by
  have hT : ∀ u (hu : Rd u base g S 0 sym v .nilIface []), Calls Try.prog 57 #[.pointer (some ⟨g, 0, none⟩), .int .i64 4] u fun r w' => r = .returned (.int .i64 (numB S 0 4 : Nat)) ∧ Rd w' base g S 4 sym v .nilIface [] ∧ u.grownBy w' (some g) := fun u hu => dtake_ok base g S 0 4 sym v [] hS (by omega) (by omega) u hu
  have hx := numB_lt S 0 4
  rw [show ((5 + numB S 0 4 : Nat) : Int) = 5 + ((numB S 0 4 : Nat) : Int) by push_cast; rfl]
  have hbs := Lib.hid h.s
  have HR := Lib.hid h
  clear h
  have hx0 : (0 : Int) ≤ ((numB S 0 4 : Nat) : Int) := by omega
  generalize ((numB S 0 4 : Nat) : Int) = x at *
  clear hx
  go_enter Try.func40, Try.ntmps40
  go_wp2_with (go_at_call 57; (with_reducible refine (hT _ HR.out).mono ?_); rintro e w2 ⟨rfl, hr2, hg2⟩)
  go_ret
  exact ⟨rfl, hr2, Ex.of hg2 hbs.out⟩
theorem dlog_high (base g : Nat) (S : ByteArray) (sym most : Int) (v : Value) (hS : S.size ≤ 1048576) (hb : 4 ≤ 8 * S.size) (hm0 : 5 ≤ most) (hm : most ≤ 12) (hl : most < 5 + (numB S 0 4 : Nat)) (w : World) (h : Rd w base g S 0 sym v .nilIface []) :
    Calls Try.prog 40 #[.pointer (some ⟨g, 0, none⟩), .int .i64 most] w fun r w' => r = .returned (.int .i64 ((5 + numB S 0 4 : Nat) : Int)) ∧ Rd w' base g S 4 sym v (spt 31 0) [] ∧ Ex base g w w' := by
  have hT : ∀ u (hu : Rd u base g S 0 sym v .nilIface []), Calls Try.prog 57 #[.pointer (some ⟨g, 0, none⟩), .int .i64 4] u fun r w' => r = .returned (.int .i64 (numB S 0 4 : Nat)) ∧ Rd w' base g S 4 sym v .nilIface [] ∧ u.grownBy w' (some g) := fun u hu => dtake_ok base g S 0 4 sym v [] hS (by omega) (by omega) u hu
  have hx := numB_lt S 0 4
  rw [show ((5 + numB S 0 4 : Nat) : Int) = 5 + ((numB S 0 4 : Nat) : Int) by push_cast; rfl]
  have hbs := Lib.hid h.s
  have HR := Lib.hid h
  clear h
  have hx0 : (0 : Int) ≤ ((numB S 0 4 : Nat) : Int) := by omega
  have hx1 : ((numB S 0 4 : Nat) : Int) < 16 := by omega
  generalize ((numB S 0 4 : Nat) : Int) = x at *
  clear hx
  go_enter Try.func40, Try.ntmps40
  go_wp2_with (first
    | (go_at_call 57; (with_reducible refine (hT _ HR.out).mono ?_); rintro e w2 ⟨rfl, hr2, hg2⟩; have HR2 := Lib.hid hr2; clear hr2)
    | (go_at_call 58; (with_reducible refine (meet_new _ _ _ _ _ _ _ _ (by decide) _ HR2.out).mono ?_); rintro e w3 ⟨rfl, hr3, hg3⟩))
  go_ret
  exact ⟨rfl, hr3, (Ex.of hg2 hbs.out).trans (Ex.of hg3 HR2.out.s)⟩
theorem dlog_bad (base g : Nat) (S : ByteArray) (sym most : Int) (v : Value) (hS : S.size ≤ 1048576) (hb : 8 * S.size < 4) (hm0 : 5 ≤ most) (hm : most ≤ 12) (w : World) (h : Rd w base g S 0 sym v .nilIface []) :
    Calls Try.prog 40 #[.pointer (some ⟨g, 0, none⟩), .int .i64 most] w fun r w' => r = .returned (.int .i64 5) ∧ Rd w' base g ⟨#[]⟩ 0 sym v (spt 5 0) [] ∧ Ex base g w w' := by
  have hT : ∀ u (hu : Rd u base g S 0 sym v .nilIface []), Calls Try.prog 57 #[.pointer (some ⟨g, 0, none⟩), .int .i64 4] u fun r w' => r = .returned (.int .i64 0) ∧ Rd w' base g ⟨#[]⟩ 0 sym v (spt 5 0) [] ∧ u.grownBy w' (some g) := fun u hu => dtake_bad base g S 0 4 sym v [] hS (by omega) (by omega) (by omega) u hu
  have hbs := Lib.hid h.s
  have HR := Lib.hid h
  clear h
  go_enter Try.func40, Try.ntmps40
  go_wp2_with (go_at_call 57; (with_reducible refine (hT _ HR.out).mono ?_); rintro e w2 ⟨rfl, hr2, hg2⟩)
  go_ret
  exact ⟨rfl, hr2, Ex.of hg2 hbs.out⟩
end Go.Proofs.Ytaohhijjalcbiaa
