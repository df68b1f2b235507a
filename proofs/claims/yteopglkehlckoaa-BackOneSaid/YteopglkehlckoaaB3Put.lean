/-
  The reference's Put of streams that are read from behind.
-/
import Derived.Test.YteopglkehlckoaaB3Check
import Derived.Laws.BitsAllLaws

namespace Go.Proofs.Yteopglkehlckoaa
open Go.ChangeShapes Go.WideShapes Go.ChangeAt Go.RowKit
set_option linter.unusedVariables false

theorem one_back_set (u : World) (a b : Addr) (x y : Value) (c : Int) (h0 : 0 ≤ c) (h1 : c < 256) : (convert 53 9 (.slice (some ⟨u.heap.size, 0, none⟩) 1 1)).run Try.prog (((u.setCell a x).setCell b y).alloc (.cells #[.int .u8 c] 5)) =
    .ok (.string ⟨[UInt8.ofNat c.toNat].toArray⟩) (((u.setCell a x).setCell b y).alloc (.cells #[.int .u8 c] 5)) := by
  have h := one_back ((u.setCell a x).setCell b y) c h0 h1
  have e : ((u.setCell a x).setCell b y).heap.size = u.heap.size := by simp
  rw [e] at h
  exact h

theorem bput_bad (S : ByteArray) (P N n v c : Int) (hc : c = 10) (w : World)
    (hC : ∀ u, Calls Try.prog 21 #[.agg #[.string S, .int .i64 P, .int .i64 N]] u fun e w' => e = .returned (.int .i64 c) ∧ Below u.heap.size u w') :
    Calls Try.prog 20 #[.agg #[.string S, .int .i64 P, .int .i64 N], .int .i64 n, .int .u64 v] w fun e w' =>
      e = .returned (.tuple #[.agg #[.string ⟨#[]⟩, .int .i64 0, .int .i64 0], .int .i64 c]) ∧ Below w.heap.size w w' := by
  have t1 : (c == 0) = false := by subst hc; rfl
  have t2 : (c != 0) = true := by subst hc; rfl
  clear hc
  go_enter Try.func20, Try.ntmps20
  go_wp2_with ((go_at_call 21; (with_reducible refine (hC _).mono ?_); rintro e w1 ⟨rfl, hb1⟩; obtain ⟨hc1, hf1⟩ := bcell hb1; have hz1 : w.heap.size + 1 < w1.heap.size := (by have := hb1.size; simp at this; omega)))
  exact bodyPost_ret (v := .tuple #[.agg #[.string ⟨#[]⟩, .int .i64 0, .int .i64 0], .int .i64 c]) (by simp [results, Try.results20, go_sem, hc1]) rfl ⟨rfl, ((((((Below.refl _ _).alloc (Nat.le_refl _) _).alloc (by simp) _).trans (hb1.mono (by simp; omega))).setCell (by simp) _).setCell (by simp) _).setCell (by simp) _⟩

theorem bput_range (S : ByteArray) (P N n v : Int) (h : n < 0 ∨ 32 < n) (w : World)
    (hC : ∀ u, Calls Try.prog 21 #[.agg #[.string S, .int .i64 P, .int .i64 N]] u fun e w' => e = .returned (.int .i64 0) ∧ Below u.heap.size u w') :
    Calls Try.prog 20 #[.agg #[.string S, .int .i64 P, .int .i64 N], .int .i64 n, .int .u64 v] w fun e w' =>
      e = .returned (.tuple #[.agg #[.string ⟨#[]⟩, .int .i64 0, .int .i64 0], .int .i64 2]) ∧ Below w.heap.size w w' := by
  rcases h with h | h
  all_goals
    go_enter Try.func20, Try.ntmps20
    go_wp2_with ((go_at_call 21; (with_reducible refine (hC _).mono ?_); rintro e w1 ⟨rfl, hb1⟩; obtain ⟨hc1, hf1⟩ := bcell hb1; have hz1 : w.heap.size + 1 < w1.heap.size := (by have := hb1.size; simp at this; omega)))
    exact bodyPost_ret (v := .tuple #[.agg #[.string ⟨#[]⟩, .int .i64 0, .int .i64 0], .int .i64 2]) (by simp [results, Try.results20, go_sem, hc1]) rfl ⟨rfl, ((((((Below.refl _ _).alloc (Nat.le_refl _) _).alloc (by simp) _).trans (hb1.mono (by simp; omega))).setCell (by simp) _).setCell (by simp) _).setCell (by simp) _⟩

theorem bput_great (S : ByteArray) (P N v p : Int) (n : Nat) (h32 : n ≤ 32) (hp : (2 : Int) ^ n = p) (hp0 : 1 ≤ p) (hp1 : p ≤ 4294967296) (hv : p ≤ v) (w : World)
    (hC : ∀ u, Calls Try.prog 21 #[.agg #[.string S, .int .i64 P, .int .i64 N]] u fun e w' => e = .returned (.int .i64 0) ∧ Below u.heap.size u w') :
    Calls Try.prog 20 #[.agg #[.string S, .int .i64 P, .int .i64 N], .int .i64 (n : Int), .int .u64 v] w fun e w' =>
      e = .returned (.tuple #[.agg #[.string ⟨#[]⟩, .int .i64 0, .int .i64 0], .int .i64 2]) ∧ Below w.heap.size w w' := by
  go_enter Try.func20, Try.ntmps20
  go_wp2_with ((go_at_call 21; (with_reducible refine (hC _).mono ?_); rintro e w1 ⟨rfl, hb1⟩; obtain ⟨hc1, hf1⟩ := bcell hb1; have hz1 : w.heap.size + 1 < w1.heap.size := (by have := hb1.size; simp at this; omega)))
  exact bodyPost_ret (v := .tuple #[.agg #[.string ⟨#[]⟩, .int .i64 0, .int .i64 0], .int .i64 2]) (by simp [results, Try.results20, go_sem, hc1]) rfl ⟨rfl, ((((((Below.refl _ _).alloc (Nat.le_refl _) _).alloc (by simp) _).trans (hb1.mono (by simp; omega))).setCell (by simp) _).setCell (by simp) _).setCell (by simp) _⟩

theorem bput_loop (S : ByteArray) (P N v : Nat) (p : Int) (n : Nat) (hP : P < 2 ^ N) (h32 : n ≤ 32) (hp : (2 : Int) ^ n = p) (hp0 : 1 ≤ p) (hp1 : p ≤ 4294967296) (hv' : (v : Int) < p) (hN1 : N ≤ 7) (hS : S.size ≤ 1048576) (w : World)
    (hC : ∀ u, Calls Try.prog 21 #[.agg #[.string S, .int .i64 (P : Int), .int .i64 (N : Int)]] u fun e w' => e = .returned (.int .i64 0) ∧ Below u.heap.size u w') :
    Calls Try.prog 20 #[.agg #[.string S, .int .i64 (P : Int), .int .i64 (N : Int)], .int .i64 (n : Int), .int .u64 (v : Int)] w fun e w' =>
      e = .returned (if 1048576 < S.size + (N + n) / 8 then (.tuple #[.agg #[.string ⟨#[]⟩, .int .i64 0, .int .i64 0], .int .i64 4]) else (.tuple #[.agg #[.string (S ++ ⟨(putL P N n v).toArray⟩), .int .i64 (putP P N n v : Nat), .int .i64 ((N + n) % 8 : Nat)], .int .i64 0])) ∧ Below w.heap.size w w' := by
  generalize hR : (if 1048576 < S.size + (N + n) / 8 then (.tuple #[.agg #[.string ⟨#[]⟩, .int .i64 0, .int .i64 0], .int .i64 4]) else (.tuple #[.agg #[.string (S ++ ⟨(putL P N n v).toArray⟩), .int .i64 (putP P N n v : Nat), .int .i64 ((N + n) % 8 : Nat)], .int .i64 0]) : Value) = R
  have HR := Lib.hid hR
  clear hR
  go_enter Try.func20, Try.ntmps20
  go_wp2_with ((go_at_call 21; (with_reducible refine (hC _).mono ?_); rintro e w1 ⟨rfl, hb1⟩; obtain ⟨hc1, hf1⟩ := bcell hb1; have hz1 : w.heap.size + 1 < w1.heap.size := (by have := hb1.size; simp at this; omega)))
  have hk0 : Blk ((w.alloc (.cells (at3 S P N) 23)).alloc (.cells (at3 ⟨#[]⟩ 0 0) 23)) w.heap.size 23 (at3 S P N) := blk_alloc (blk_new w 23 _) _
  have hk1 : Blk ((w.alloc (.cells (at3 S P N) 23)).alloc (.cells (at3 ⟨#[]⟩ 0 0) 23)) (w.heap.size + 1) 23 (at3 ⟨#[]⟩ 0 0) := blk_new2 w _ 23 _
  have hj0 := blk_below hk0 hb1 (by simp; omega)
  have hj1 := blk_below hk1 hb1 (by simp)
  have hbw1 : Below w.heap.size w w1 := (((Below.refl _ _).alloc (Nat.le_refl _) _).alloc (by simp) _).trans (hb1.mono (by simp; omega))
  clear hk0 hk1 hc1 hf1 hb1
  have hv32 : v < 18446744073709551616 := by omega
  have s0 : Hid (S = S ++ ⟨(putL P N 0 v).toArray⟩) := by
    have e : putL P N 0 v = [] := by
      unfold putL
      rw [show (N + 0) / 8 = 0 by omega]
      rfl
    show S = S ++ _
    rw [e]
    exact ByteArray.ext (by simp)
  have q0 : Hid ((P : Int) = (putP P N 0 v : Nat)) := by
    show (P : Int) = _
    unfold putP
    rw [show (N + 0) / 8 = 0 by omega, putT_zero]
    simp
  have r0 : Hid (N = (N + 0) % 8) := by
    show N = _
    omega
  have hlen := Lib.hid (fun k => show (S ++ ⟨(putL P N k v).toArray⟩ : ByteArray).size = S.size + (N + k) / 8 by
    rw [ByteArray.size_append]
    have : (⟨(putL P N k v).toArray⟩ : ByteArray).size = (N + k) / 8 := by
      show (putL P N k v).toArray.size = _
      simp [putL, leB_length]
    omega)
  have HB := Lib.hid (fun (k : Nat) (b : Int) (hb : bits .and .u64 ((v : Int) / 2 ^ k) 1 = b) => show b = ((v / 2 ^ k % 2 : Nat) : Int) by rw [← hb]; exact ubit_at v k hv32)
  go_loopw [9] (fun i wr => ∃ (k : Nat) (s : ByteArray) (q : Int) (r : Nat), k ≤ n ∧ Hid (s = S ++ ⟨(putL P N k v).toArray⟩) ∧ Hid (q = (putP P N k v : Nat)) ∧ Hid (r = (N + k) % 8) ∧ i = .int .i64 (k : Int) ∧ Blk wr w.heap.size 23 (at3 s q r) ∧ Blk wr (w.heap.size + 1) 23 (at3 ⟨#[]⟩ 0 0) ∧ Below w.heap.size w wr) (fun i _ => n - (intOf i).toNat)
  case atStart => exact ⟨0, S, P, N, by omega, s0, q0, r0, rfl, hj0, hj1, hbw1⟩
  case round =>
    obtain ⟨k, s, q, r, hk, hs, hq, hr, rfl, hx, hy, hbw⟩ := hrel
    obtain ⟨⟨c0, c1, c2⟩, f0, f1, f2⟩ := blk3 hx
    by_cases hlt : k < n
    · obtain ⟨b, hb⟩ : ∃ b, bits .and .u64 ((v : Int) / 2 ^ k) 1 = b := ⟨_, rfl⟩
      have hbv := HB.out k b hb
      have hb2 : v / 2 ^ k % 2 < 2 := Nat.mod_lt _ (by omega)
      have hb0 : 0 ≤ b := by omega
      have hb1 : b ≤ 1 := by omega
      have hplt := putP_lt P N k v hP
      rw [← hr.out] at hplt
      have hqv := hq.out
      have hr8 : r ≤ 7 := by have := hr.out; omega
      have hszs : s.size ≤ 1048580 := by have h1 := hlen.out k; rw [← hs.out] at h1; omega
      have hpc := pow_cast r
      obtain ⟨pr, hpr⟩ : ∃ pr : Int, (2 : Int) ^ r = pr := ⟨_, rfl⟩
      have hpr0 : 1 ≤ pr := by rw [← hpr, ← hpc]; have := Nat.two_pow_pos r; omega
      have hpr1 : pr ≤ 128 := by
        rw [← hpr, ← hpc]
        have : 2 ^ r ≤ 2 ^ 7 := Nat.pow_le_pow_right (by omega) hr8
        omega
      have hq0 : 0 ≤ q := by omega
      have hq1 : q < pr := by rw [← hpr, ← hpc, hqv]; omega
      obtain ⟨bp, hbp⟩ : ∃ bp : Int, b * pr = bp := ⟨_, rfl⟩
      have hbb : b = 0 ∨ b = 1 := by omega
      have hbp0 : 0 ≤ bp := by rcases hbb with h | h <;> rw [← hbp, h] <;> omega
      have hbp1 : bp ≤ pr := by rcases hbb with h | h <;> rw [← hbp, h] <;> omega
      have hbpv : bp = ((v / 2 ^ k % 2 * 2 ^ r : Nat) : Int) := by rw [← hbp, ← hpr, hbv]; simp
      have HBV := Lib.hid hbpv
      have HQV := Lib.hid hqv
      have HX := Lib.hid hx
      have HY := Lib.hid hy
      have hxl := blk_lt hx
      have hyl := blk_lt hy
      clear hbv hqv hbpv hpc hplt hb2 hx hy hbb
      by_cases h7 : r < 7
      · have t8 : ((r : Int) + 1 == 8) = false := by simp; omega
        go_wp2
        go_roundw
        case rel =>
          obtain ⟨e1, e2, e3⟩ := put_less P N k v (by have := hr.out; omega)
          have hrr := hr.out
          refine ⟨k + 1, s, q + bp, r + 1, by omega, ?_, ?_, ?_, by go_num, ?_, blk_far (blk_far HY.out (by simp) _) (by simp) _, (hbw.setCell (by simp) _).setCell (by simp) _⟩
          · show _ = _
            rw [e1]
            exact hs.out
          · show _ = _
            rw [e2, HQV.out, HBV.out, hrr]
            omega
          · show _ = _
            omega
          · have h := blk3_two (p' := q + bp) (n' := (r : Int) + 1) HX.out
            rw [Int.natCast_add]
            exact h
        case measure => simp [intOf]; omega
      · have t8 : ((r : Int) + 1 == 8) = true := by simp; omega
        have hc0 : 0 ≤ q + bp := by omega
        have hc1 : q + bp < 256 := by omega
        have hcv := one_back_set wr
        go_wp2
        go_roundw
        case rel =>
          have h77 : (N + k) % 8 = 7 := by have := hr.out; omega
          obtain ⟨e1, e2, e3⟩ := put_full P N k v hP h77
          have hrr := hr.out
          have h7r : r = 7 := by omega
          have hbv7 : bp = ((v / 2 ^ k % 2 * 128 : Nat) : Int) := by
            have h := HBV.out
            rw [h7r] at h
            exact h
          have hval : (q + bp).toNat = putP P N k v + v / 2 ^ k % 2 * 128 := by rw [HQV.out, hbv7]; omega
          refine ⟨k + 1, _, 0, 0, by omega, ?_, ?_, ?_, by go_num, blk_alloc (blk3_set (blk3_two HX.out)) _, blk_alloc (blk_far (blk_far (blk_far (blk_far (blk_far HY.out (by simp) _) (by simp) _) (by simp) _) (by simp) _) (by simp) _) _,
            (((((hbw.setCell (by simp) _).setCell (by simp) _).setCell (by simp) _).setCell (by simp) _).setCell (by simp) _).alloc (by simp; exact hbw.size) _⟩
          · show _ = _
            rw [e1, hval, hs.out]
            exact ByteArray.ext (by simp)
          · show _ = _
            rw [e2]
            rfl
          · show _ = _
            omega
        case measure => simp [intOf]; omega
    · obtain rfl : k = n := by omega
      obtain ⟨⟨d0, d1, d2⟩, z0, z1, z2⟩ := blk3 hy
      have hyl := blk_lt hy
      have HY := Lib.hid hy
      have hsz := hlen.out k
      rw [← hs.out] at hsz
      have hR := HR.out
      rw [← hs.out, ← hq.out, ← hr.out, ← hsz] at hR
      clear hx hy hsz
      by_cases hl : 1048576 < s.size
      · rw [if_pos hl] at hR
        have HR2 := Lib.hid hR
        clear hR
        go_wp2
        obtain ⟨⟨y0, y1, y2⟩, _⟩ := blk3 (blk3_set (s' := ⟨#[]⟩) (p' := 0) (n' := 0) HY.out)
        rw [← HR2.out]
        exact bodyPost_ret (v := .tuple #[.agg #[.string ⟨#[]⟩, .int .i64 0, .int .i64 0], .int .i64 4]) (by simp [results, Try.results20, go_sem, y0, y1, y2]) rfl ⟨rfl, ((hbw.setCell (by simp) _).setCell (by simp) _).setCell (by simp) _⟩
      · rw [if_neg hl] at hR
        have HR2 := Lib.hid hR
        clear hR
        go_wp2
        obtain ⟨⟨y0, y1, y2⟩, _⟩ := blk3 (blk3_set (s' := s) (p' := q) (n' := r) HY.out)
        rw [← HR2.out]
        exact bodyPost_ret (v := .tuple #[.agg #[.string s, .int .i64 q, .int .i64 r], .int .i64 0]) (by simp [results, Try.results20, go_sem, y0, y1, y2]) rfl ⟨rfl, ((hbw.setCell (by simp) _).setCell (by simp) _).setCell (by simp) _⟩
end Go.Proofs.Yteopglkehlckoaa
