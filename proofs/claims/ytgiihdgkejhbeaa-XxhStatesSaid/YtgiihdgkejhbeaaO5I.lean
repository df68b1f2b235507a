/-
  The project's checksums and states: Seeded, Of, Low, New, Check, Add, Sum.
-/
import Derived.Test.YtgiihdgkejhbeaaO5H
import Derived.Test.YtgiihdgkejhbeaaO5G
namespace Go.Proofs.Ytgiihdgkejhbeaa
open Go.ChangeShapes Go.WideShapes Go.ChangeAt Go.RowKit
set_option linter.unusedVariables false

/-- the state behind some bytes: its lanes and its tail -/
def adL (L : L4) (s t : ByteArray) : L4 := tb (s.size + t.size) L (s.data.toList ++ t.data.toList)
def adT (s t : ByteArray) : ByteArray := ⟨(tl (s.size + t.size) (s.data.toList ++ t.data.toList)).toArray⟩
def seedW (e : Int) (t : ByteArray) : Int := sumW (adL (fst e) ⟨#[]⟩ t).a (adL (fst e) ⟨#[]⟩ t).b (adL (fst e) ⟨#[]⟩ t).c (adL (fst e) ⟨#[]⟩ t).d t.size (adT ⟨#[]⟩ t) e

theorem tl_le (f : Nat) (l : List UInt8) : (tl f l).length ≤ l.length := by
  induction f generalizing l with
  | zero => exact Nat.le_refl _
  | succ f ih =>
    by_cases h : 32 ≤ l.length
    · rw [tl_32 f l h]
      exact Nat.le_trans (ih _) (by rw [List.length_drop]; omega)
    · rw [tl_end _ _ h]
      exact Nat.le_refl _
theorem adT_size (s t : ByteArray) : (adT s t).size ≤ s.size + t.size := by
  have h := tl_le (s.size + t.size) (s.data.toList ++ t.data.toList)
  rw [List.length_append] at h
  exact h

theorem take_ad (g : Nat) (L : L4) (T : Int) (s t : ByteArray) (e : Int) (hs : s.size < 32) (hst : s.size + t.size ≤ 1099511627776) (hT0 : 0 ≤ T) (hT1 : T ≤ 1099511627776) (w : World)
    (hb : Blk w g 51 #[.int .u64 L.a, .int .u64 L.b, .int .u64 L.c, .int .u64 L.d, .int .i64 T, .string s, .int .u64 e, .string t]) :
    Calls Try.prog 26 #[.pointer (some ⟨g, 0, none⟩)] w fun r w' => r = .returned (.tuple #[]) ∧
      (∃ t', Blk w' g 51 #[.int .u64 (adL L s t).a, .int .u64 (adL L s t).b, .int .u64 (adL L s t).c, .int .u64 (adL L s t).d, .int .i64 (T + t.size), .string (adT s t), .int .u64 e, .string t']) ∧ w.grownBy w' (some g) :=
  take_any g L.a L.b L.c L.d T s t e hs hst hT0 hT1 w hb

set_option maxHeartbeats 1000000 in
theorem seeded_any (s : ByteArray) (e : Int) (hs : s.size ≤ 1099511627776) (w : World) :
    Calls Try.prog 12 #[.string s, .int .u64 e] w fun r w' => r = .returned (.int .u64 (seedW e s)) ∧ Below w.heap.size w w' := by
  have hB := fun u => begin_any e u
  have hT := fun g v hv => take_ad g (fst e) 0 ⟨#[]⟩ s e (by decide) (by show 0 + s.size ≤ _; omega) (by omega) (by omega) v hv
  have hsz := Nat.le_trans (adT_size ⟨#[]⟩ s) (show 0 + s.size ≤ 9223372036854775807 by omega)
  have hS := fun u => sum_any (adL (fst e) ⟨#[]⟩ s).a (adL (fst e) ⟨#[]⟩ s).b (adL (fst e) ⟨#[]⟩ s).c (adL (fst e) ⟨#[]⟩ s).d (0 + s.size) (adT ⟨#[]⟩ s) e hsz u
  unfold seedW
  rw [Int.zero_add] at hT hS
  generalize (adL (fst e) ⟨#[]⟩ s) = M at *
  generalize (adT ⟨#[]⟩ s) = z at *
  generalize (fst e) = F at *
  clear hsz
  go_enter Try.func12, Try.ntmps12
  go_upto_region 1 with fail
  go_cut [5] from 6 to 13 (fun p wx => ∃ g, p = .pointer (some ⟨g, 0, none⟩) ∧ w.heap.size ≤ g ∧ Blk wx g 51 #[.int .u64 F.a, .int .u64 F.b, .int .u64 F.c, .int .u64 F.d, .int .i64 0, .string ⟨#[]⟩, .int .u64 e, .string s] ∧ Below w.heap.size w wx)
  case first =>
    go_wp2_with (go_at_call 25; (with_reducible refine (hB _).mono ?_); rintro r w1 ⟨rfl, hb1⟩)
    go_meet
    exact ⟨_, rfl, hb1.size, blk_new _ _ _, below_box hb1 _⟩
  case rest =>
    obtain ⟨g, rfl, hg, k, hbw⟩ := hcut
    have K := Lib.hid k
    clear k
    go_wp2_with (first
      | (go_at_call 26; (with_reducible refine (hT _ _ K.out).mono ?_); rintro r w1 ⟨rfl, ⟨t', hk1⟩, hg1⟩; obtain ⟨c0, c1, c2, c3, c4, c5, c6, c7⟩ := c8 hk1)
      | (go_at_call 27; (with_reducible refine (hS _).mono ?_); rintro r w2 ⟨rfl, hb2⟩))
    go_ret
    exact ⟨rfl, below_call (below_grown hbw hg1 hbw.size hg) hb2⟩
theorem of_any (s : ByteArray) (hs : s.size ≤ 1099511627776) (w : World) :
    Calls Try.prog 10 #[.string s] w fun r w' => r = .returned (.int .u64 (seedW 0 s)) ∧ Below w.heap.size w w' := by
  have hS := fun u => seeded_any s 0 hs u
  go_enter Try.func10, Try.ntmps10
  go_wp2_with (go_at_call 12; (with_reducible refine (hS _).mono ?_); rintro r w2 ⟨rfl, hb2⟩)
  go_ret
  exact ⟨rfl, hb2⟩
theorem low_any (s : ByteArray) (hs : s.size ≤ 1099511627776) (w : World) :
    Calls Try.prog 14 #[.string s] w fun r w' => r = .returned (.int .u32 (IntKind.u32.wrap (seedW 0 s))) ∧ Below w.heap.size w w' := by
  have hS := fun u => of_any s hs u
  go_enter Try.func14, Try.ntmps14
  go_wp2_with (go_at_call 10; (with_reducible refine (hS _).mono ?_); rintro r w2 ⟨rfl, hb2⟩)
  go_ret
  exact ⟨rfl, hb2⟩
theorem new_any (e : Int) (w : World) : Calls Try.prog 22 #[.int .u64 e] w fun r w' =>
    r = .returned (.agg #[.int .u64 (fst e).a, .int .u64 (fst e).b, .int .u64 (fst e).c, .int .u64 (fst e).d, .int .i64 0, .string ⟨#[]⟩, .int .u64 e]) ∧ Below w.heap.size w w' := by
  have hB := fun u => begin_any e u
  generalize (fst e) = F at *
  have hfl : ∀ (u : World), (Instr.field 48 (.agg #[.int .u64 F.a, .int .u64 F.b, .int .u64 F.c, .int .u64 F.d, .int .i64 0, .string ⟨#[]⟩, .int .u64 e]) 0).run Try.prog u = .ok (.agg #[.int .u64 F.a, .int .u64 F.b, .int .u64 F.c, .int .u64 F.d, .int .i64 0, .string ⟨#[]⟩, .int .u64 e]) u := fun _ => by kernel_rfl
  go_enter Try.func22, Try.ntmps22
  go_wp2_with (go_at_call 25; (with_reducible refine (hB _).mono ?_); rintro e w1 ⟨rfl, hb1⟩; have K := Lib.hid (blk_next (blk_new w 32 #[.int .u64 0, .int .u64 0, .int .u64 0, .int .u64 0, .int .i64 0, .string ⟨#[]⟩, .int .u64 0]) hb1); obtain ⟨p0, p1, p2, p3, p4, p5, p6⟩ := c7 K.out; obtain ⟨q0, q1, q2, q3, q4, q5, q6, _⟩ := z7 K.out)
  obtain ⟨y0, y1, y2, y3, y4, y5, y6⟩ := c7 (set7 K.out (.int .u64 F.a) (.int .u64 F.b) (.int .u64 F.c) (.int .u64 F.d) (.int .i64 0) (.string ⟨#[]⟩) (.int .u64 e))
  exact bodyPost_ret (v := .agg #[.int .u64 F.a, .int .u64 F.b, .int .u64 F.c, .int .u64 F.d, .int .i64 0, .string ⟨#[]⟩, .int .u64 e]) (by simp [results, Try.results22, go_sem, y0, y1, y2, y3, y4, y5, y6]) rfl ⟨rfl, below7 (below_call (below_box (Below.refl _ _) _) hb1) (Nat.le_refl _) _ _ _ _ _ _ _⟩
theorem check_any (a b c d T : Int) (s : ByteArray) (e : Int) (w : World) :
    Calls Try.prog 20 #[.agg #[.int .u64 a, .int .u64 b, .int .u64 c, .int .u64 d, .int .i64 T, .string s, .int .u64 e]] w fun r w' => r = .returned (.int .i64 (if vldOk a b c d T s e then 0 else 10)) ∧ Below w.heap.size w w' := by
  have hV := fun u => valid_any a b c d T s e u
  have hnot : ∀ (x : Bool) (w : World), (Op.unary .not (.bool x)).run Try.prog w = .ok (.bool (!x)) w := fun _ _ => rfl
  by_cases h : vldOk a b c d T s e
  · rw [decide_eq_true h] at hV
    rw [if_pos h]
    clear h
    go_enter Try.func20, Try.ntmps20
    go_wp2_with (go_at_call 31; (with_reducible refine (hV _).mono ?_); rintro r w1 ⟨rfl, hb1⟩)
    go_ret
    exact ⟨rfl, below_call (below_box (Below.refl _ _) _) hb1⟩
  · rw [decide_eq_false h] at hV
    rw [if_neg h]
    clear h
    go_enter Try.func20, Try.ntmps20
    go_wp2_with (go_at_call 31; (with_reducible refine (hV _).mono ?_); rintro r w1 ⟨rfl, hb1⟩)
    go_ret
    exact ⟨rfl, below_call (below_box (Below.refl _ _) _) hb1⟩
theorem sum_ok (a b c d T : Int) (s : ByteArray) (e : Int) (hs : s.size ≤ 9223372036854775807) (h : vldOk a b c d T s e) (w : World) :
    Calls Try.prog 18 #[.agg #[.int .u64 a, .int .u64 b, .int .u64 c, .int .u64 d, .int .i64 T, .string s, .int .u64 e]] w fun r w' => r = .returned (.tuple #[.int .u64 (sumW a b c d T s e), .int .i64 0]) ∧ Below w.heap.size w w' := by
  have hV := fun u => valid_any a b c d T s e u
  have hS := fun u => sum_any a b c d T s e hs u
  rw [decide_eq_true h] at hV
  generalize sumW a b c d T s e = x at *
  clear h
  go_enter Try.func18, Try.ntmps18
  go_wp2_with (first
    | (go_at_call 31; (with_reducible refine (hV _).mono ?_); rintro r w1 ⟨rfl, hb1⟩; have k := blk_next (blk_new2 w (.cells #[.int .u64 a, .int .u64 b, .int .u64 c, .int .u64 d, .int .i64 T, .string s, .int .u64 e] 32) 48 #[.int .u64 a, .int .u64 b, .int .u64 c, .int .u64 d, .int .i64 T, .string s, .int .u64 e]) hb1; obtain ⟨p0, p1, p2, p3, p4, p5, p6⟩ := c7 k; clear k)
    | (go_at_call 27; (with_reducible refine (hS _).mono ?_); rintro r w2 ⟨rfl, hb2⟩))
  go_ret2
  exact ⟨rfl, below_call (below_call (below_box (below_box (Below.refl _ _) _) _) hb1) hb2⟩
end Go.Proofs.Ytgiihdgkejhbeaa
