/-
  The reference's Put: the errors in their order, and the loop over the bits.
-/
import Derived.Test.YtaohhijjalcbiaaB2Check

namespace Go.Proofs.Ytaohhijjalcbiaa
open Go.ChangeShapes Go.WideShapes Go.ChangeAt Go.RowKit
set_option linter.unusedVariables false

theorem put_bad (S : ByteArray) (P N n v c : Int) (hc : c = 2 ∨ c = 4) (w : World)
    (hC : ∀ u, Calls Try.prog 77 #[.agg #[.string S, .int .i64 P, .int .i64 N]] u fun e w' => e = .returned (.int .i64 c) ∧ Below u.heap.size u w') :
    Calls Try.prog 53 #[.agg #[.string S, .int .i64 P, .int .i64 N], .int .i64 n, .int .i64 v] w fun e w' =>
      e = .returned (.tuple #[.agg #[.string ⟨#[]⟩, .int .i64 0, .int .i64 0], .int .i64 c]) ∧ Below w.heap.size w w' := by
  have t1 : (c == 0) = false := by rcases hc with rfl | rfl <;> rfl
  have t2 : (c != 0) = true := by rcases hc with rfl | rfl <;> rfl
  clear hc
  go_enter Try.func53, Try.ntmps53
  go_wp2_with ((go_at_call 77; (with_reducible refine (hC _).mono ?_); rintro e w1 ⟨rfl, hb1⟩; obtain ⟨hc1, hf1⟩ := bcell hb1; have hz1 : w.heap.size + 1 < w1.heap.size := (by have := hb1.size; simp at this; omega)))
  exact bodyPost_ret (v := .tuple #[.agg #[.string ⟨#[]⟩, .int .i64 0, .int .i64 0], .int .i64 c]) (by simp [results, Try.results53, go_sem, hc1]) rfl ⟨rfl, ((((((Below.refl _ _).alloc (Nat.le_refl _) _).alloc (by simp) _).trans (hb1.mono (by simp; omega))).setCell (by simp) _).setCell (by simp) _).setCell (by simp) _⟩
theorem put_range (S : ByteArray) (P N n v : Int) (h : n < 0 ∨ 32 < n ∨ v < 0) (w : World)
    (hC : ∀ u, Calls Try.prog 77 #[.agg #[.string S, .int .i64 P, .int .i64 N]] u fun e w' => e = .returned (.int .i64 0) ∧ Below u.heap.size u w') :
    Calls Try.prog 53 #[.agg #[.string S, .int .i64 P, .int .i64 N], .int .i64 n, .int .i64 v] w fun e w' =>
      e = .returned (.tuple #[.agg #[.string ⟨#[]⟩, .int .i64 0, .int .i64 0], .int .i64 2]) ∧ Below w.heap.size w w' := by
  by_cases h1 : n < 0
  · go_enter Try.func53, Try.ntmps53
    go_wp2_with ((go_at_call 77; (with_reducible refine (hC _).mono ?_); rintro e w1 ⟨rfl, hb1⟩; obtain ⟨hc1, hf1⟩ := bcell hb1; have hz1 : w.heap.size + 1 < w1.heap.size := (by have := hb1.size; simp at this; omega)))
    exact bodyPost_ret (v := .tuple #[.agg #[.string ⟨#[]⟩, .int .i64 0, .int .i64 0], .int .i64 2]) (by simp [results, Try.results53, go_sem, hc1]) rfl ⟨rfl, ((((((Below.refl _ _).alloc (Nat.le_refl _) _).alloc (by simp) _).trans (hb1.mono (by simp; omega))).setCell (by simp) _).setCell (by simp) _).setCell (by simp) _⟩
  · by_cases h2 : 32 < n
    · go_enter Try.func53, Try.ntmps53
      go_wp2_with ((go_at_call 77; (with_reducible refine (hC _).mono ?_); rintro e w1 ⟨rfl, hb1⟩; obtain ⟨hc1, hf1⟩ := bcell hb1; have hz1 : w.heap.size + 1 < w1.heap.size := (by have := hb1.size; simp at this; omega)))
      exact bodyPost_ret (v := .tuple #[.agg #[.string ⟨#[]⟩, .int .i64 0, .int .i64 0], .int .i64 2]) (by simp [results, Try.results53, go_sem, hc1]) rfl ⟨rfl, ((((((Below.refl _ _).alloc (Nat.le_refl _) _).alloc (by simp) _).trans (hb1.mono (by simp; omega))).setCell (by simp) _).setCell (by simp) _).setCell (by simp) _⟩
    · have h3 : v < 0 := by omega
      go_enter Try.func53, Try.ntmps53
      go_wp2_with ((go_at_call 77; (with_reducible refine (hC _).mono ?_); rintro e w1 ⟨rfl, hb1⟩; obtain ⟨hc1, hf1⟩ := bcell hb1; have hz1 : w.heap.size + 1 < w1.heap.size := (by have := hb1.size; simp at this; omega)))
      exact bodyPost_ret (v := .tuple #[.agg #[.string ⟨#[]⟩, .int .i64 0, .int .i64 0], .int .i64 2]) (by simp [results, Try.results53, go_sem, hc1]) rfl ⟨rfl, ((((((Below.refl _ _).alloc (Nat.le_refl _) _).alloc (by simp) _).trans (hb1.mono (by simp; omega))).setCell (by simp) _).setCell (by simp) _).setCell (by simp) _⟩

theorem put_great (S : ByteArray) (P N v p : Int) (n : Nat) (h32 : n ≤ 32) (hp : (2 : Int) ^ n = p) (hp0 : 1 ≤ p) (hp1 : p ≤ 4294967296) (hv0 : 0 ≤ v) (hv : p ≤ v) (w : World)
    (hC : ∀ u, Calls Try.prog 77 #[.agg #[.string S, .int .i64 P, .int .i64 N]] u fun e w' => e = .returned (.int .i64 0) ∧ Below u.heap.size u w') :
    Calls Try.prog 53 #[.agg #[.string S, .int .i64 P, .int .i64 N], .int .i64 (n : Int), .int .i64 v] w fun e w' =>
      e = .returned (.tuple #[.agg #[.string ⟨#[]⟩, .int .i64 0, .int .i64 0], .int .i64 2]) ∧ Below w.heap.size w w' := by
  go_enter Try.func53, Try.ntmps53
  go_wp2_with ((go_at_call 77; (with_reducible refine (hC _).mono ?_); rintro e w1 ⟨rfl, hb1⟩; obtain ⟨hc1, hf1⟩ := bcell hb1; have hz1 : w.heap.size + 1 < w1.heap.size := (by have := hb1.size; simp at this; omega)))
  exact bodyPost_ret (v := .tuple #[.agg #[.string ⟨#[]⟩, .int .i64 0, .int .i64 0], .int .i64 2]) (by simp [results, Try.results53, go_sem, hc1]) rfl ⟨rfl, ((((((Below.refl _ _).alloc (Nat.le_refl _) _).alloc (by simp) _).trans (hb1.mono (by simp; omega))).setCell (by simp) _).setCell (by simp) _).setCell (by simp) _⟩

theorem put_long (S : ByteArray) (P N v p : Int) (n : Nat) (h32 : n ≤ 32) (hp : (2 : Int) ^ n = p) (hp0 : 1 ≤ p) (hp1 : p ≤ 4294967296) (hv0 : 0 ≤ v) (hv : v < p) (hN0 : 0 ≤ N) (hN1 : N ≤ 7) (hS : S.size ≤ 1048576) (hl : 1048576 < S.size + (N + n) / 8) (w : World)
    (hC : ∀ u, Calls Try.prog 77 #[.agg #[.string S, .int .i64 P, .int .i64 N]] u fun e w' => e = .returned (.int .i64 0) ∧ Below u.heap.size u w') :
    Calls Try.prog 53 #[.agg #[.string S, .int .i64 P, .int .i64 N], .int .i64 (n : Int), .int .i64 v] w fun e w' =>
      e = .returned (.tuple #[.agg #[.string ⟨#[]⟩, .int .i64 0, .int .i64 0], .int .i64 4]) ∧ Below w.heap.size w w' := by
  go_enter Try.func53, Try.ntmps53
  go_wp2_with ((go_at_call 77; (with_reducible refine (hC _).mono ?_); rintro e w1 ⟨rfl, hb1⟩; obtain ⟨hc1, hf1⟩ := bcell hb1; have hz1 : w.heap.size + 1 < w1.heap.size := (by have := hb1.size; simp at this; omega)))
  exact bodyPost_ret (v := .tuple #[.agg #[.string ⟨#[]⟩, .int .i64 0, .int .i64 0], .int .i64 4]) (by simp [results, Try.results53, go_sem, hc1]) rfl ⟨rfl, ((((((Below.refl _ _).alloc (Nat.le_refl _) _).alloc (by simp) _).trans (hb1.mono (by simp; omega))).setCell (by simp) _).setCell (by simp) _).setCell (by simp) _⟩

/-- a bit more, in the words of the plain mathematics -/
theorem bit_next (S : ByteArray) (P N k v : Nat) (s : ByteArray) (q r b : Int) (hP : P < 2 ^ N) (hs : s = S ++ ⟨(putL P N k v).toArray⟩) (hq : q = (putP P N k v : Nat)) (hr : r = ((N + k) % 8 : Nat)) (hb : b = ((v / 2 ^ k % 2 : Nat) : Int)) (hS : s.size ≤ 1048576) (w : World) :
    Calls Try.prog 78 #[.agg #[.string s, .int .i64 q, .int .i64 r], .int .i64 b] w fun e w' =>
      e = .returned (.agg #[.string (S ++ ⟨(putL P N (k + 1) v).toArray⟩), .int .i64 (putP P N (k + 1) v : Nat), .int .i64 ((N + (k + 1)) % 8 : Nat)]) ∧ Below w.heap.size w w' := by
  have hb2 : v / 2 ^ k % 2 < 2 := Nat.mod_lt _ (by omega)
  have hlt := putP_lt P N k v hP
  by_cases h7 : (N + k) % 8 = 7
  · obtain ⟨e1, e2, e3⟩ := put_full P N k v hP h7
    rw [h7] at hlt hr
    have h := bit_full s q b (by omega) (by omega) (by omega) (by omega) hS w
    have e4 : (q + b * 128).toNat = putP P N k v + v / 2 ^ k % 2 * 128 := by omega
    rw [e4] at h
    subst hr
    rw [e1, e2, e3]
    refine h.mono fun e w' ⟨he, hw⟩ => ⟨?_, hw⟩
    have hstr : s ++ ⟨[UInt8.ofNat (putP P N k v + v / 2 ^ k % 2 * 128)].toArray⟩ = S ++ ⟨(putL P N k v ++ [UInt8.ofNat (putP P N k v + v / 2 ^ k % 2 * 128)]).toArray⟩ := by
      rw [hs]
      exact ByteArray.ext (by simp)
    rw [he, hstr]
    rfl
  · obtain ⟨e1, e2, e3⟩ := put_less P N k v (by omega)
    have hp0 : 1 ≤ (2 : Int) ^ ((N + k) % 8) := by rw [← pow_cast]; have := Nat.two_pow_pos ((N + k) % 8); omega
    have hp1 : (2 : Int) ^ ((N + k) % 8) ≤ 128 := by
      rw [← pow_cast]
      have : 2 ^ ((N + k) % 8) ≤ 2 ^ 7 := Nat.pow_le_pow_right (by omega) (by omega)
      omega
    have hm : b * (2 : Int) ^ ((N + k) % 8) = ((v / 2 ^ k % 2 * 2 ^ ((N + k) % 8) : Nat) : Int) := by rw [hb]; simp
    have hmle : v / 2 ^ k % 2 * 2 ^ ((N + k) % 8) ≤ 1 * 2 ^ ((N + k) % 8) := Nat.mul_le_mul_right _ (by omega)
    have hpc := pow_cast ((N + k) % 8)
    have h := bit_less s q b _ ((N + k) % 8) (by omega) rfl hp0 hp1 (by omega) (by omega) (by omega) (by omega) _ hm (by omega) (by omega) w
    subst hr
    rw [e1, e2, e3]
    refine h.mono fun e w' ⟨he, hw⟩ => ⟨?_, hw⟩
    rw [he, hs, hq]
    simp

theorem put_loop (S : ByteArray) (P N v : Nat) (p : Int) (n : Nat) (hP : P < 2 ^ N) (h32 : n ≤ 32) (hp : (2 : Int) ^ n = p) (hp0 : 1 ≤ p) (hp1 : p ≤ 4294967296) (hv : v < 2 ^ n) (hv' : (v : Int) < p) (hN1 : N ≤ 7) (hS : S.size ≤ 1048576) (hl : S.size + (N + n) / 8 ≤ 1048576) (w : World)
    (hC : ∀ u, Calls Try.prog 77 #[.agg #[.string S, .int .i64 (P : Int), .int .i64 (N : Int)]] u fun e w' => e = .returned (.int .i64 0) ∧ Below u.heap.size u w') :
    Calls Try.prog 53 #[.agg #[.string S, .int .i64 (P : Int), .int .i64 (N : Int)], .int .i64 (n : Int), .int .i64 (v : Int)] w fun e w' =>
      e = .returned (.tuple #[.agg #[.string (S ++ ⟨(putL P N n v).toArray⟩), .int .i64 (putP P N n v : Nat), .int .i64 ((N + n) % 8 : Nat)], .int .i64 0]) ∧ Below w.heap.size w w' := by
  have hl' : (S.size : Int) + ((N : Int) + n) / 8 ≤ 1048576 := by omega
  go_enter Try.func53, Try.ntmps53
  go_wp2_with ((go_at_call 77; (with_reducible refine (hC _).mono ?_); rintro e w1 ⟨rfl, hb1⟩; obtain ⟨hc1, hf1⟩ := bcell hb1; have hz1 : w.heap.size + 1 < w1.heap.size := (by have := hb1.size; simp at this; omega)))
  have hk0 : Blk ((w.alloc (.cells (at3 S P N) 53)).alloc (.cells (at3 ⟨#[]⟩ 0 0) 53)) w.heap.size 53 (at3 S P N) := blk_alloc (blk_new w 53 _) _
  have hk1 : Blk ((w.alloc (.cells (at3 S P N) 53)).alloc (.cells (at3 ⟨#[]⟩ 0 0) 53)) (w.heap.size + 1) 53 (at3 ⟨#[]⟩ 0 0) := by
    have h := blk_new (w.alloc (.cells (at3 S P N) 53)) 53 (at3 ⟨#[]⟩ 0 0)
    have e : (w.alloc (.cells (at3 S P N) 53)).heap.size = w.heap.size + 1 := by simp
    rw [e] at h
    exact h
  have hj0 := blk_below hk0 hb1 (by simp; omega)
  have hj1 := blk_below hk1 hb1 (by simp)
  have hbw1 : Below w.heap.size w w1 := (((Below.refl _ _).alloc (Nat.le_refl _) _).alloc (by simp) _).trans (hb1.mono (by simp; omega))
  clear hk0 hk1 hc1 hf1 hb1
  have hv32 : v < 4294967296 := by omega
  have s0 : Hid (S = S ++ ⟨(putL P N 0 v).toArray⟩) := by
    have e : putL P N 0 v = [] := by
      unfold putL
      rw [show (N + 0) / 8 = 0 by omega]
      rfl
    show S = S ++ _
    rw [e]
    exact ByteArray.ext (by simp)
  have q0 : Hid ((P : Int) = (putP P N 0 v : Nat)) := by
    show (P : Int) = _
    unfold putP
    rw [show (N + 0) / 8 = 0 by omega, putT_zero]
    simp
  have r0 : Hid ((N : Int) = ((N + 0) % 8 : Nat)) := by
    show (N : Int) = _
    rw [show (N + 0) % 8 = N by omega]
  have hlen := Lib.hid (fun k (hk : k < n) => show (S ++ ⟨(putL P N k v).toArray⟩ : ByteArray).size ≤ 1048576 by
    rw [ByteArray.size_append]
    have : (⟨(putL P N k v).toArray⟩ : ByteArray).size = (N + k) / 8 := by
      show (putL P N k v).toArray.size = _
      simp [putL, leB_length]
    omega)
  have hbit := fun (k : Nat) (b : Int) (hb : bits .and .i64 ((v : Int) / 2 ^ k) 1 = b) => show b = ((v / 2 ^ k % 2 : Nat) : Int) by rw [← hb]; exact bit_at v k hv32
  have HB := Lib.hid hbit
  clear hbit
  go_loopw [9] (fun i wr => ∃ (k : Nat) (s : ByteArray) (q r : Int), k ≤ n ∧ Hid (s = S ++ ⟨(putL P N k v).toArray⟩) ∧ Hid (q = (putP P N k v : Nat)) ∧ Hid (r = ((N + k) % 8 : Nat)) ∧ i = .int .i64 (k : Int) ∧ Blk wr w.heap.size 53 (at3 s q r) ∧ Blk wr (w.heap.size + 1) 53 (at3 ⟨#[]⟩ 0 0) ∧ Below w.heap.size w wr) (fun i _ => n - (intOf i).toNat)
  case atStart => exact ⟨0, S, P, N, by omega, s0, q0, r0, rfl, hj0, hj1, hbw1⟩
  case round =>
    obtain ⟨k, s, q, r, hk, hs, hq, hr, rfl, hx, hy, hbw⟩ := hrel
    obtain ⟨⟨c0, c1, c2⟩, f0, f1, f2⟩ := blk3 hx
    by_cases hlt : k < n
    · obtain ⟨b, hb⟩ : ∃ b, bits .and .i64 ((v : Int) / 2 ^ k) 1 = b := ⟨_, rfl⟩
      have hbv := HB.out k b hb
      have hN := fun u => bit_next S P N k v s q r b hP hs.out hq.out hr.out hbv (by rw [hs.out]; exact hlen.out k hlt) u
      have hxl := blk_lt hx
      have hyl := blk_lt hy
      have HX := Lib.hid hx
      have HY := Lib.hid hy
      generalize hs' : (S ++ ⟨(putL P N (k + 1) v).toArray⟩ : ByteArray) = s' at hN
      have HS := Lib.hid hs'
      clear hx hy hbv hs'
      go_wp2_with ((go_at_call 78; (with_reducible refine (hN _).mono ?_); rintro e w2 ⟨rfl, hb2⟩; obtain ⟨g0, g1⟩ := bcell hb2))
      have hbn : Below w.heap.size w w2 := hbw.trans (hb2.mono hbw.size)
      have n0 := blk_below HX.out hb2 hxl
      have n1 := blk_below HY.out hb2 hyl
      clear g0 g1
      go_roundw
      case rel => exact ⟨k + 1, s', _, _, by omega, HS.out.symm, rfl, rfl, by go_num, blk3_set n0, blk_far (blk_far (blk_far n1 (by simp) _) (by simp) _) (by simp) _, ((hbn.setCell (by simp) _).setCell (by simp) _).setCell (by simp) _⟩
      case measure => simp [intOf]; omega
    · obtain rfl : k = n := by omega
      obtain ⟨⟨d0, d1, d2⟩, z0, z1, z2⟩ := blk3 hy
      have hyl := blk_lt hy
      have HY := Lib.hid hy
      clear hx hy
      go_wp2
      obtain ⟨⟨y0, y1, y2⟩, _⟩ := blk3 (blk3_set (s' := s) (p' := q) (n' := r) HY.out)
      rw [← hs.out, ← hq.out, ← hr.out]
      exact bodyPost_ret (v := .tuple #[.agg #[.string s, .int .i64 q, .int .i64 r], .int .i64 0]) (by simp [results, Try.results53, go_sem, y0, y1, y2]) rfl ⟨rfl, ((hbw.setCell (by simp) _).setCell (by simp) _).setCell (by simp) _⟩
end Go.Proofs.Ytaohhijjalcbiaa
