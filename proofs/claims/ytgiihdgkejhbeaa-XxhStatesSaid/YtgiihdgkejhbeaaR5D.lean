/-
  The reference's states: New, Sum, Add; the project's Add where the bytes are too many.
-/
import Derived.Test.YtgiihdgkejhbeaaR5C
namespace Go.Proofs.Ytgiihdgkejhbeaa
open Go.ChangeShapes Go.WideShapes Go.ChangeAt Go.RowKit
set_option linter.unusedVariables false

theorem rnew_any (s : Int) (w : World) : Calls Try.prog 23 #[.int .u64 s] w fun e w' =>
    e = .returned (.agg #[.int .u64 (fst s).a, .int .u64 (fst s).b, .int .u64 (fst s).c, .int .u64 (fst s).d, .int .i64 0, .string ⟨#[]⟩, .int .u64 s]) ∧ Below w.heap.size w w' := by
  obtain ⟨L, hL⟩ : ∃ L, fst s = L := ⟨_, rfl⟩
  have hF := fun u => rlanes_any s u
  rw [hL] at hF ⊢
  clear hL
  go_enter Try.func23, Try.ntmps23
  go_wp2_with (go_at_call 28; (with_reducible refine (hF _).mono ?_); rintro e w1 ⟨rfl, hb1⟩; have K := Lib.hid (blk_next (blk_new w 32 #[.int .u64 0, .int .u64 0, .int .u64 0, .int .u64 0, .int .i64 0, .string ⟨#[]⟩, .int .u64 0]) hb1); obtain ⟨p0, p1, p2, p3, p4, p5, p6⟩ := c7 K.out; obtain ⟨q0, q1, q2, q3, q4, q5, q6, _⟩ := z7 K.out)
  obtain ⟨y0, y1, y2, y3, y4, y5, y6⟩ := c7 (set7 K.out (.int .u64 L.a) (.int .u64 L.b) (.int .u64 L.c) (.int .u64 L.d) (.int .i64 0) (.string ⟨#[]⟩) (.int .u64 s))
  exact bodyPost_ret (v := .agg #[.int .u64 L.a, .int .u64 L.b, .int .u64 L.c, .int .u64 L.d, .int .i64 0, .string ⟨#[]⟩, .int .u64 s]) (by simp [results, Try.results23, go_sem, y0, y1, y2, y3, y4, y5, y6]) rfl ⟨rfl, below7 (below_call (below_box (Below.refl _ _) _) hb1) (Nat.le_refl _) _ _ _ _ _ _ _⟩

/-- Sum's words -/
def smV (a b c d T : Int) (s : ByteArray) (e : Int) : Int := if vldOk a b c d T s e then sumW a b c d T s e else 0
def smE (a b c d T : Int) (s : ByteArray) (e : Int) : Int := if vldOk a b c d T s e then 0 else 10
theorem rsum_any (a b c d T : Int) (s : ByteArray) (e : Int) (hs : s.size ≤ 9223372036854775807) (w : World) :
    Calls Try.prog 19 #[.agg #[.int .u64 a, .int .u64 b, .int .u64 c, .int .u64 d, .int .i64 T, .string s, .int .u64 e]] w fun r w' => r = .returned (.tuple #[.int .u64 (smV a b c d T s e), .int .i64 (smE a b c d T s e)]) ∧ Below w.heap.size w w' := by
  have hC := fun u => rcheck_any a b c d T s e u
  unfold smV smE
  by_cases h : vldOk a b c d T s e
  · rw [if_pos h, if_pos h]
    rw [if_pos h] at hC
    have hE := fun u => rend_any a b c d T s e hs u
    generalize sumW a b c d T s e = x at *
    clear h
    go_enter Try.func19, Try.ntmps19
    go_wp2_with (first
      | (go_at_call 21; (with_reducible refine (hC _).mono ?_); rintro r w1 ⟨rfl, hb1⟩; obtain ⟨p0, p1, p2, p3, p4, p5, p6⟩ := c7 (blk_next (blk_new w 32 #[.int .u64 a, .int .u64 b, .int .u64 c, .int .u64 d, .int .i64 T, .string s, .int .u64 e]) hb1))
      | (go_at_call 30; (with_reducible refine (hE _).mono ?_); rintro r w2 ⟨rfl, hb2⟩))
    go_ret2
    exact ⟨rfl, below_call (below_call (below_box (Below.refl _ _) _) hb1) hb2⟩
  · rw [if_neg h, if_neg h]
    rw [if_neg h] at hC
    clear h
    go_enter Try.func19, Try.ntmps19
    go_wp2_with (go_at_call 21; (with_reducible refine (hC _).mono ?_); rintro r w1 ⟨rfl, hb1⟩)
    go_ret2
    exact ⟨rfl, below_call (below_box (Below.refl _ _) _) hb1⟩
theorem osum_any (a b c d T : Int) (s : ByteArray) (e : Int) (hs : s.size ≤ 9223372036854775807) (w : World) :
    Calls Try.prog 18 #[.agg #[.int .u64 a, .int .u64 b, .int .u64 c, .int .u64 d, .int .i64 T, .string s, .int .u64 e]] w fun r w' => r = .returned (.tuple #[.int .u64 (smV a b c d T s e), .int .i64 (smE a b c d T s e)]) ∧ Below w.heap.size w w' := by
  unfold smV smE
  by_cases h : vldOk a b c d T s e
  · rw [if_pos h, if_pos h]
    exact sum_ok a b c d T s e hs h w
  · rw [if_neg h, if_neg h]
    have hV := fun u => valid_any a b c d T s e u
    have hnot : ∀ (x : Bool) (w : World), (Op.unary .not (.bool x)).run Try.prog w = .ok (.bool (!x)) w := fun _ _ => rfl
    rw [decide_eq_false h] at hV
    clear h
    go_enter Try.func18, Try.ntmps18
    go_wp2_with (go_at_call 31; (with_reducible refine (hV _).mono ?_); rintro r w1 ⟨rfl, hb1⟩)
    go_ret2
    exact ⟨rfl, below_call (below_box (below_box (Below.refl _ _) _) _) hb1⟩

set_option maxHeartbeats 1000000 in
theorem add_long (a b c d T : Int) (s : ByteArray) (e : Int) (t : ByteArray) (h : vldOk a b c d T s e) (hT : 1099511627776 - T < (t.size : Int)) (w : World) :
    Calls Try.prog 16 #[.agg #[.int .u64 a, .int .u64 b, .int .u64 c, .int .u64 d, .int .i64 T, .string s, .int .u64 e], .string t] w fun r w' => r = .returned (.tuple #[.agg #[.int .u64 0, .int .u64 0, .int .u64 0, .int .u64 0, .int .i64 0, .string ⟨#[]⟩, .int .u64 0], .int .i64 2]) ∧ Below w.heap.size w w' := by
  have hV := fun u => valid_any a b c d T s e u
  have hnot : ∀ (x : Bool) (w : World), (Op.unary .not (.bool x)).run Try.prog w = .ok (.bool (!x)) w := fun _ _ => rfl
  rw [decide_eq_true h] at hV
  obtain ⟨h0, h1, _, _⟩ := h
  have hF := fun g v hv => fits_any g a b c d T s t e h0 h1 v hv
  rw [decide_eq_false (show ¬ (t.size : Int) ≤ 1099511627776 - T by omega)] at hF
  clear h0 h1 hT
  go_enter Try.func16, Try.ntmps16
  go_upto_region 2 with fail
  go_cut [6, 14] from 7 to 22 (fun p y wx => ∃ g, p = .pointer (some ⟨g, 0, none⟩) ∧ y = .bool false ∧ AdSt w wx g a b c d T s e t)
  case first =>
    go_wp2_with (go_at_call 31; (with_reducible refine (hV _).mono ?_); rintro r w1 ⟨rfl, hb1⟩)
    go_meet
    refine ⟨_, rfl, rfl, by omega, blk_next (blk_alloc (blk_new2 w (.cells #[.int .u64 a, .int .u64 b, .int .u64 c, .int .u64 d, .int .i64 T, .string s, .int .u64 e] 32) 32 #[.int .u64 0, .int .u64 0, .int .u64 0, .int .u64 0, .int .i64 0, .string ⟨#[]⟩, .int .u64 0]) (.cells #[.int .u64 a, .int .u64 b, .int .u64 c, .int .u64 d, .int .i64 T, .string s, .int .u64 e, .string t] 51)) hb1, ?_, below_call (below_box (below_box (below_box (Below.refl _ _) _) _) _) hb1⟩
    have k := blk_new2 (w.alloc (.cells #[.int .u64 a, .int .u64 b, .int .u64 c, .int .u64 d, .int .i64 T, .string s, .int .u64 e] 32)) (.cells #[.int .u64 0, .int .u64 0, .int .u64 0, .int .u64 0, .int .i64 0, .string ⟨#[]⟩, .int .u64 0] 32) 51 #[.int .u64 a, .int .u64 b, .int .u64 c, .int .u64 d, .int .i64 T, .string s, .int .u64 e, .string t]
    have e2 : (w.alloc (.cells #[.int .u64 a, .int .u64 b, .int .u64 c, .int .u64 d, .int .i64 T, .string s, .int .u64 e] 32)).heap.size + 1 = w.heap.size + 2 := by simp
    rw [e2] at k
    exact blk_next k hb1
  case rest =>
    obtain ⟨g, rfl, rfl, hg, k1, k2, hbw⟩ := hcut
    have K1 := Lib.hid k1
    have K2 := Lib.hid k2
    clear k1 k2
    go_wp2_with (go_at_call 32; (with_reducible refine (hF _ _ K2.out).mono ?_); rintro r w1 ⟨rfl, hb1⟩; have I1 := Lib.hid (blk_next K1.out hb1); obtain ⟨p0, p1, p2, p3, p4, p5, p6⟩ := c7 I1.out; obtain ⟨q0, q1, q2, q3, q4, q5, q6, _⟩ := z7 I1.out)
    obtain ⟨y0, y1, y2, y3, y4, y5, y6⟩ := c7 (set7 I1.out (.int .u64 0) (.int .u64 0) (.int .u64 0) (.int .u64 0) (.int .i64 0) (.string ⟨#[]⟩) (.int .u64 0))
    exact bodyPost_ret (v := .tuple #[.agg #[.int .u64 0, .int .u64 0, .int .u64 0, .int .u64 0, .int .i64 0, .string ⟨#[]⟩, .int .u64 0], .int .i64 2]) (by simp [results, Try.results16, go_sem, y0, y1, y2, y3, y4, y5, y6]) rfl ⟨rfl, below7 (below_call hbw hb1) (by omega) _ _ _ _ _ _ _⟩
end Go.Proofs.Ytgiihdgkejhbeaa
