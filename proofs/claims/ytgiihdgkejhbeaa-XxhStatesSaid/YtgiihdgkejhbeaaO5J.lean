/-
  The project's states: Add.
-/
import Derived.Test.YtgiihdgkejhbeaaO5I
namespace Go.Proofs.Ytgiihdgkejhbeaa
open Go.ChangeShapes Go.WideShapes Go.ChangeAt Go.RowKit
set_option linter.unusedVariables false

/-- behind the setting up: the argument's box, the result's, the taker -/
def AdSt (w wx : World) (g : Nat) (a b c d T : Int) (s : ByteArray) (e : Int) (t : ByteArray) : Prop :=
  w.heap.size + 1 < g ∧ Blk wx (w.heap.size + 1) 32 #[.int .u64 0, .int .u64 0, .int .u64 0, .int .u64 0, .int .i64 0, .string ⟨#[]⟩, .int .u64 0] ∧
  Blk wx g 51 #[.int .u64 a, .int .u64 b, .int .u64 c, .int .u64 d, .int .i64 T, .string s, .int .u64 e, .string t] ∧ Below w.heap.size w wx

set_option maxHeartbeats 1000000 in
theorem add_bad (a b c d T : Int) (s : ByteArray) (e : Int) (t : ByteArray) (h : ¬ vldOk a b c d T s e) (w : World) :
    Calls Try.prog 16 #[.agg #[.int .u64 a, .int .u64 b, .int .u64 c, .int .u64 d, .int .i64 T, .string s, .int .u64 e], .string t] w fun r w' => r = .returned (.tuple #[.agg #[.int .u64 0, .int .u64 0, .int .u64 0, .int .u64 0, .int .i64 0, .string ⟨#[]⟩, .int .u64 0], .int .i64 10]) ∧ Below w.heap.size w w' := by
  have hV := fun u => valid_any a b c d T s e u
  have hnot : ∀ (x : Bool) (w : World), (Op.unary .not (.bool x)).run Try.prog w = .ok (.bool (!x)) w := fun _ _ => rfl
  rw [decide_eq_false h] at hV
  clear h
  go_enter Try.func16, Try.ntmps16
  go_wp2_with (go_at_call 31; (with_reducible refine (hV _).mono ?_); rintro r w1 ⟨rfl, hb1⟩; have k := blk_next (blk_alloc (blk_new2 w (.cells #[.int .u64 a, .int .u64 b, .int .u64 c, .int .u64 d, .int .i64 T, .string s, .int .u64 e] 32) 32 #[.int .u64 0, .int .u64 0, .int .u64 0, .int .u64 0, .int .i64 0, .string ⟨#[]⟩, .int .u64 0]) (.cells #[.int .u64 a, .int .u64 b, .int .u64 c, .int .u64 d, .int .i64 T, .string s, .int .u64 e, .string t] 51)) hb1; have K := Lib.hid k; obtain ⟨p0, p1, p2, p3, p4, p5, p6⟩ := c7 k; obtain ⟨q0, q1, q2, q3, q4, q5, q6, _⟩ := z7 k; clear k)
  obtain ⟨y0, y1, y2, y3, y4, y5, y6⟩ := c7 (set7 K.out (.int .u64 0) (.int .u64 0) (.int .u64 0) (.int .u64 0) (.int .i64 0) (.string ⟨#[]⟩) (.int .u64 0))
  exact bodyPost_ret (v := .tuple #[.agg #[.int .u64 0, .int .u64 0, .int .u64 0, .int .u64 0, .int .i64 0, .string ⟨#[]⟩, .int .u64 0], .int .i64 10]) (by simp [results, Try.results16, go_sem, y0, y1, y2, y3, y4, y5, y6]) rfl ⟨rfl, below7 (below_call (below_box (below_box (below_box (Below.refl _ _) _) _) _) hb1) (by omega) _ _ _ _ _ _ _⟩

set_option maxHeartbeats 2000000 in
theorem add_ok (L : L4) (T : Int) (s : ByteArray) (e : Int) (t : ByteArray) (h : vldOk L.a L.b L.c L.d T s e) (hst : s.size + t.size ≤ 1099511627776) (hT : T + t.size ≤ 1099511627776) (w : World) :
    Calls Try.prog 16 #[.agg #[.int .u64 L.a, .int .u64 L.b, .int .u64 L.c, .int .u64 L.d, .int .i64 T, .string s, .int .u64 e], .string t] w fun r w' => r = .returned (.tuple #[.agg #[.int .u64 (adL L s t).a, .int .u64 (adL L s t).b, .int .u64 (adL L s t).c, .int .u64 (adL L s t).d, .int .i64 (T + t.size), .string (adT s t), .int .u64 e], .int .i64 0]) ∧ Below w.heap.size w w' := by
  have hV := fun u => valid_any L.a L.b L.c L.d T s e u
  have hnot : ∀ (x : Bool) (w : World), (Op.unary .not (.bool x)).run Try.prog w = .ok (.bool (!x)) w := fun _ _ => rfl
  rw [decide_eq_true h] at hV
  obtain ⟨h0, h1, h2, _⟩ := h
  have hs : s.size < 32 := by omega
  have hF := fun g v hv => fits_any g L.a L.b L.c L.d T s t e h0 h1 v hv
  rw [decide_eq_true (show (t.size : Int) ≤ 1099511627776 - T by omega)] at hF
  have hK := fun g v hv => take_ad g L T s t e hs hst h0 h1 v hv
  generalize (adL L s t) = M at *
  generalize (adT s t) = z at *
  obtain ⟨a, b, c, d⟩ := L
  generalize hT2 : T + (t.size : Int) = T2 at hK ⊢
  clear h0 h1 h2 hs hst hT hT2
  go_enter Try.func16, Try.ntmps16
  go_upto_region 2 with fail
  go_cut [6, 14] from 7 to 22 (fun p y wx => ∃ g, p = .pointer (some ⟨g, 0, none⟩) ∧ y = .bool false ∧ AdSt w wx g a b c d T s e t)
  case first =>
    go_wp2_with (go_at_call 31; (with_reducible refine (hV _).mono ?_); rintro r w1 ⟨rfl, hb1⟩)
    go_meet
    refine ⟨_, rfl, rfl, by omega, blk_next (blk_alloc (blk_new2 w (.cells #[.int .u64 a, .int .u64 b, .int .u64 c, .int .u64 d, .int .i64 T, .string s, .int .u64 e] 32) 32 #[.int .u64 0, .int .u64 0, .int .u64 0, .int .u64 0, .int .i64 0, .string ⟨#[]⟩, .int .u64 0]) (.cells #[.int .u64 a, .int .u64 b, .int .u64 c, .int .u64 d, .int .i64 T, .string s, .int .u64 e, .string t] 51)) hb1, ?_, below_call (below_box (below_box (below_box (Below.refl _ _) _) _) _) hb1⟩
    have k := blk_new2 (w.alloc (.cells #[.int .u64 a, .int .u64 b, .int .u64 c, .int .u64 d, .int .i64 T, .string s, .int .u64 e] 32)) (.cells #[.int .u64 0, .int .u64 0, .int .u64 0, .int .u64 0, .int .i64 0, .string ⟨#[]⟩, .int .u64 0] 32) 51 #[.int .u64 a, .int .u64 b, .int .u64 c, .int .u64 d, .int .i64 T, .string s, .int .u64 e, .string t]
    have e2 : (w.alloc (.cells #[.int .u64 a, .int .u64 b, .int .u64 c, .int .u64 d, .int .i64 T, .string s, .int .u64 e] 32)).heap.size + 1 = w.heap.size + 2 := by simp
    rw [e2] at k
    exact blk_next k hb1
  case rest =>
    obtain ⟨g, rfl, rfl, hg, k1, k2, hbw⟩ := hcut
    have K1 := Lib.hid k1
    have K2 := Lib.hid k2
    clear k1 k2
    go_wp2_with (first
      | (go_at_call 32; (with_reducible refine (hF _ _ K2.out).mono ?_); rintro r w1 ⟨rfl, hb1⟩; have J1 := Lib.hid (blk_next K1.out hb1); have J2 := Lib.hid (blk_next K2.out hb1))
      | (go_at_call 26; (with_reducible refine (hK _ _ J2.out).mono ?_); rintro r w2 ⟨rfl, ⟨t', hk2⟩, hg2⟩; have I1 := Lib.hid (blk_grown J1.out hg2 (by omega)); obtain ⟨c0, c1, c2, c3, c4, c5, c6, _⟩ := c8 hk2; obtain ⟨p0, p1, p2, p3, p4, p5, p6⟩ := c7 I1.out; obtain ⟨q0, q1, q2, q3, q4, q5, q6, _⟩ := z7 I1.out))
    obtain ⟨y0, y1, y2, y3, y4, y5, y6⟩ := c7 (set7 I1.out (.int .u64 M.a) (.int .u64 M.b) (.int .u64 M.c) (.int .u64 M.d) (.int .i64 T2) (.string z) (.int .u64 e))
    exact bodyPost_ret (v := .tuple #[.agg #[.int .u64 M.a, .int .u64 M.b, .int .u64 M.c, .int .u64 M.d, .int .i64 T2, .string z, .int .u64 e], .int .i64 0]) (by simp [results, Try.results16, go_sem, y0, y1, y2, y3, y4, y5, y6]) rfl ⟨rfl, below7 (below_grown (below_call hbw hb1) hg2 (below_call hbw hb1).size (by omega)) (by omega) _ _ _ _ _ _ _⟩
end Go.Proofs.Ytgiihdgkejhbeaa
