/-
  The project's writer of package back: how many whole bytes, and a writer opened.
-/
import Derived.Test.YteopglkehlckoaaT1
namespace Go.Proofs.Yteopglkehlckoaa
open Go.ChangeShapes Go.WideShapes Go.ChangeAt Go.RowKit
set_option linter.unusedVariables false

theorem whole_any (g : Nat) (S : ByteArray) (P N c n v : Int) (hS : S.size ≤ 1048576) (hN0 : 0 ≤ N) (hN : N ≤ 7) (hn0 : 0 ≤ n) (hn : n ≤ 32) (w : World) (hb : Blk w g 66 (at4 S P N c)) :
    Calls Try.prog 46 #[.pointer (some ⟨g, 0, none⟩), .agg #[.int .i64 n, .int .u64 v]] w fun e w' => e = .returned (.int .i64 ((S.size : Int) + (N + n) / 8)) ∧ Below w.heap.size w w' := by
  have hg := blk_lt hb
  obtain ⟨⟨c0, c1, c2, c3⟩, _⟩ := blk4 hb
  have hq : IntKind.i64.wrap (N + n) = N + n := IntWalk.i64_in _ ⟨by omega, by omega⟩
  have hz : IntKind.i64.wrap ((S.size : Int) + (N + n) / 8) = (S.size : Int) + (N + n) / 8 := IntWalk.i64_in _ ⟨by omega, by omega⟩
  clear hb
  go_enter Try.func46, Try.ntmps46
  go_wp2
  go_quiet (fail)
  go_wp2
  go_ret
  exact ⟨rfl, below_drewN ((Below.refl _ _).alloc (Nat.le_refl _) _) _⟩

/-- what edit gives: a new writer -/
def Edited (S : ByteArray) (P N : Int) (w : World) (e : Ending) (w' : World) : Prop := ∃ g, e = .returned (.pointer (some ⟨g, 0, none⟩)) ∧ w.heap.size ≤ g ∧ Blk w' g 66 (at4 S P N (bch S P N)) ∧ Below w.heap.size w w'

theorem below_call {a u w' : World} (h : Below a.heap.size a u) (hb : Below u.heap.size u w') : Below a.heap.size a w' := h.trans (hb.mono h.size)
theorem below_box {a w : World} (h : Below a.heap.size a w) (o : Obj) : Below a.heap.size a (w.alloc o) := h.alloc h.size o
theorem blk_next {u w' : World} {g : Nat} {t : TypeId} {cs : Array Value} (h : Blk u g t cs) (hb : Below u.heap.size u w') : Blk w' g t cs := blk_below h hb (blk_lt h)

/-- the worlds of edit -/
def EdW (w : World) (S : ByteArray) (P N : Int) (v : Int) : World := ((w.alloc (.cells #[.string S, .int .i64 P, .int .i64 N] 23)).alloc (.cells #[.string S, .int .i64 P, .int .i64 N, .int .i64 0] 66)).alloc (.cells #[.int .i64 N, .int .u64 v] 62)
theorem EdW_blk (w : World) (S : ByteArray) (P N v : Int) : Blk (EdW w S P N v) (w.heap.size + 1) 66 (at4 S P N 0) := blk_alloc (blk_new2 w _ _ _) _
theorem EdW_below (w : World) (S : ByteArray) (P N v : Int) : Below w.heap.size w (EdW w S P N v) := below_box (below_box (below_box (Below.refl _ _) _) _) _
theorem EdW_size (w : World) (S : ByteArray) (P N v : Int) : (EdW w S P N v).heap.size = w.heap.size + 1 + 1 + 1 := by simp [EdW]

theorem edit_high (S : ByteArray) (P N v : Int) (h : 7 < N) (hv : IntKind.u64.wrap P = v) (w : World) :
    Calls Try.prog 35 #[.agg #[.string S, .int .i64 P, .int .i64 N]] w fun e w' => e = .returned (.pointer (some ⟨w.heap.size + 1, 0, none⟩)) ∧ Blk w' (w.heap.size + 1) 66 (at4 S P N 10) ∧ Below w.heap.size w w' := by
  have hM := fun (u : World) (hc : u.cell? ⟨w.heap.size + 1, 3, none⟩ = some (.int .i64 0)) (hf : u.frozen? ⟨w.heap.size + 1, 3, none⟩ = false) => meet_zero (w.heap.size + 1) 3 10 u hc hf
  have kb := EdW_blk w S P N v
  have kc := (blk4 kb).1.2.2.2
  have kf := (blk4 kb).2.2.2.2
  have KB := Lib.hid kb
  have KC := Lib.hid kc
  have KF := Lib.hid kf
  have HM := Lib.hid hM
  clear kb kc kf hM
  go_enter Try.func35, Try.ntmps35
  go_wp2_with (go_at_call 45; (refine (HM.out _ KC.out KF.out).mono ?_); rintro e w1 ⟨rfl, rfl⟩)
  go_ret
  exact ⟨rfl, blk4_err KB.out, (EdW_below w S P N v).setCell (by simp) _⟩

theorem edit_bad (S : ByteArray) (P N v : Int) (h : N ≤ 7) (hv : IntKind.u64.wrap P = v) (hR : ∀ u, Calls Try.prog 44 #[.agg #[.int .i64 N, .int .u64 v]] u fun e w' => e = .returned (.bool false) ∧ Below u.heap.size u w') (w : World) :
    Calls Try.prog 35 #[.agg #[.string S, .int .i64 P, .int .i64 N]] w fun e w' => e = .returned (.pointer (some ⟨w.heap.size + 1, 0, none⟩)) ∧ Blk w' (w.heap.size + 1) 66 (at4 S P N 10) ∧ Below w.heap.size w w' := by
  have hM := fun (u : World) (hc : u.cell? ⟨w.heap.size + 1, 3, none⟩ = some (.int .i64 0)) (hf : u.frozen? ⟨w.heap.size + 1, 3, none⟩ = false) => meet_zero (w.heap.size + 1) 3 10 u hc hf
  have KB := Lib.hid (EdW_blk w S P N v)
  have HM := Lib.hid hM
  clear hM
  go_enter Try.func35, Try.ntmps35
  go_wp2_with (first
    | (go_at_call 44; (with_reducible refine (hR _).mono ?_); rintro e w1 ⟨rfl, hb1⟩; have k1 := blk_next (u := EdW w S P N v) KB.out hb1; have kc := (blk4 k1).1.2.2.2; have kf := (blk4 k1).2.2.2.2; have KC := Lib.hid kc; have KF := Lib.hid kf; have K1 := Lib.hid k1; clear kc kf k1)
    | (go_at_call 45; (with_reducible refine (HM.out _ KC.out KF.out).mono ?_); rintro e w2 ⟨rfl, rfl⟩))
  go_ret
  exact ⟨rfl, blk4_err K1.out, (below_call (u := EdW w S P N v) (EdW_below w S P N v) hb1).setCell (by simp) _⟩

theorem edit_long (S : ByteArray) (P N v : Int) (h : N ≤ 7) (hS : S.size ≤ 9223372036854775807) (hl : decide ((1048576 : Int) < (S.size : Int)) = true) (hv : IntKind.u64.wrap P = v) (hR : ∀ u, Calls Try.prog 44 #[.agg #[.int .i64 N, .int .u64 v]] u fun e w' => e = .returned (.bool true) ∧ Below u.heap.size u w') (w : World) :
    Calls Try.prog 35 #[.agg #[.string S, .int .i64 P, .int .i64 N]] w fun e w' => e = .returned (.pointer (some ⟨w.heap.size + 1, 0, none⟩)) ∧ Blk w' (w.heap.size + 1) 66 (at4 S P N 10) ∧ Below w.heap.size w w' := by
  have hM := fun (u : World) (hc : u.cell? ⟨w.heap.size + 1, 3, none⟩ = some (.int .i64 0)) (hf : u.frozen? ⟨w.heap.size + 1, 3, none⟩ = false) => meet_zero (w.heap.size + 1) 3 10 u hc hf
  have KB := Lib.hid (EdW_blk w S P N v)
  have HM := Lib.hid hM
  clear hM
  go_enter Try.func35, Try.ntmps35
  go_wp2_with (first
    | (go_at_call 44; (with_reducible refine (hR _).mono ?_); rintro e w1 ⟨rfl, hb1⟩; obtain ⟨hc1, hf1⟩ := bcell hb1; have k1 := blk_next (u := EdW w S P N v) KB.out hb1; have kc := (blk4 k1).1.2.2.2; have kf := (blk4 k1).2.2.2.2; have KC := Lib.hid kc; have KF := Lib.hid kf; have K1 := Lib.hid k1; clear kc kf k1)
    | (go_at_call 45; (with_reducible refine (HM.out _ KC.out KF.out).mono ?_); rintro e w2 ⟨rfl, rfl⟩))
  go_ret
  exact ⟨rfl, blk4_err K1.out, (below_call (u := EdW w S P N v) (EdW_below w S P N v) hb1).setCell (by simp) _⟩

theorem edit_good (S : ByteArray) (P N v : Int) (h : N ≤ 7) (hS : S.size ≤ 9223372036854775807) (hl : decide ((1048576 : Int) < (S.size : Int)) = false) (hv : IntKind.u64.wrap P = v) (hR : ∀ u, Calls Try.prog 44 #[.agg #[.int .i64 N, .int .u64 v]] u fun e w' => e = .returned (.bool true) ∧ Below u.heap.size u w') (w : World) :
    Calls Try.prog 35 #[.agg #[.string S, .int .i64 P, .int .i64 N]] w fun e w' => e = .returned (.pointer (some ⟨w.heap.size + 1, 0, none⟩)) ∧ Blk w' (w.heap.size + 1) 66 (at4 S P N 0) ∧ Below w.heap.size w w' := by
  have KB := Lib.hid (EdW_blk w S P N v)
  go_enter Try.func35, Try.ntmps35
  go_wp2_with (go_at_call 44; (with_reducible refine (hR _).mono ?_); rintro e w1 ⟨rfl, hb1⟩; obtain ⟨hc1, hf1⟩ := bcell hb1)
  go_ret
  exact ⟨rfl, blk_next (u := EdW w S P N v) KB.out hb1, below_call (u := EdW w S P N v) (EdW_below w S P N v) hb1⟩
theorem u64wrap (P : Int) (h0 : -9223372036854775808 ≤ P) (h1 : P ≤ 9223372036854775807) : 0 ≤ IntKind.u64.wrap P ∧ (0 ≤ P → IntKind.u64.wrap P = P) ∧ (P < 0 → 9223372036854775807 < IntKind.u64.wrap P) := by
  rw [IntKind.wrap_u64]
  omega

theorem edit_any (S : ByteArray) (P N : Int) (hS : S.size ≤ 9223372036854775807) (h0 : -9223372036854775808 ≤ P) (h1 : P ≤ 9223372036854775807) (w : World) : Calls Try.prog 35 #[.agg #[.string S, .int .i64 P, .int .i64 N]] w (Edited S P N w) := by
  obtain ⟨a1, a2, a3⟩ := u64wrap P h0 h1
  obtain ⟨v, hv⟩ : ∃ v, IntKind.u64.wrap P = v := ⟨_, rfl⟩
  rw [hv] at a1 a2 a3
  have hR := fun u => ownRight_any N v a1 u
  have key : ∀ r : Int, bch S P N = r → (Calls Try.prog 35 #[.agg #[.string S, .int .i64 P, .int .i64 N]] w fun e w' => e = .returned (.pointer (some ⟨w.heap.size + 1, 0, none⟩)) ∧ Blk w' (w.heap.size + 1) 66 (at4 S P N r) ∧ Below w.heap.size w w') → Calls Try.prog 35 #[.agg #[.string S, .int .i64 P, .int .i64 N]] w (Edited S P N w) := by
    intro r hr h
    refine h.mono fun e w' ⟨b1, b2, b3⟩ => ⟨w.heap.size + 1, b1, by omega, by rw [hr]; exact b2, b3⟩
  by_cases h7 : 7 < N
  · exact key 10 (by unfold bch; rw [if_pos (by omega)]) (edit_high S P N v h7 hv w)
  · by_cases hr : rgtU N v = true
    · rw [hr] at hR
      unfold rgtU at hr
      rw [decide_eq_true_iff] at hr
      have hp32 : (2 : Int) ^ N.toNat ≤ 128 := by
        rw [← pow_cast]
        have : 2 ^ N.toNat ≤ 2 ^ 7 := Nat.pow_le_pow_right (by omega) (by omega)
        omega
      have hP : 0 ≤ P := by
        rcases Int.lt_or_le P 0 with hlt | hge
        · have := a3 hlt; omega
        · exact hge
      have hPv := a2 hP
      by_cases hl : 1048576 < S.size
      · exact key 10 (by unfold bch; rw [if_pos (by omega)]) (edit_long S P N v (by omega) hS (decide_eq_true (by omega)) hv hR w)
      · exact key 0 (by unfold bch; rw [if_neg (by omega)]) (edit_good S P N v (by omega) hS (decide_eq_false (by omega)) hv hR w)
    · have hr' : rgtU N v = false := by simpa using hr
      rw [hr'] at hR
      unfold rgtU at hr'
      rw [decide_eq_false_iff_not] at hr'
      refine key 10 ?_ (edit_bad S P N v (by omega) hv hR w)
      unfold bch
      rw [if_pos]
      by_cases hP : P < 0
      · omega
      · have := a2 (by omega)
        omega

end Go.Proofs.Yteopglkehlckoaa
