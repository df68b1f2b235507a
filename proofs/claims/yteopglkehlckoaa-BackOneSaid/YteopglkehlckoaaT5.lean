/-
  The project's writer of package back: what Put and Done come to, and the end of a stream.
-/
import Derived.Test.YteopglkehlckoaaT4
import Derived.Test.YteopglkehlckoaaB3Put2
import Derived.Test.YteopglkehlckoaaLeL
namespace Go.Proofs.Yteopglkehlckoaa
open Go.ChangeShapes Go.WideShapes Go.ChangeAt Go.RowKit
set_option linter.unusedVariables false

theorem stp_vals (S : ByteArray) (P N n v : Int) (hv : 0 ≤ v) : (stp ⟨S, P, N, bch S P N⟩ n v).c = bpE S P N n v ∧
    (bpE S P N n v = 0 → (stp ⟨S, P, N, bch S P N⟩ n v).S = bpS S P N n v ∧ (stp ⟨S, P, N, bch S P N⟩ n v).P = bpQ S P N n v ∧ (stp ⟨S, P, N, bch S P N⟩ n v).N = bpN S P N n v) := by
  by_cases hc : bch S P N = 0
  · rw [hc]
    by_cases hr : rgtU n v = true
    · obtain ⟨r1, r2, r3⟩ := rgtU_true hr
      have e0 : ¬ (n < 0 ∨ 32 < n ∨ (2 : Int) ^ n.toNat ≤ v) := by omega
      by_cases hl : 1048576 < (S.size : Int) + (N + n) / 8
      · have e : bpE S P N n v = 4 := by unfold bpE; rw [if_pos hc, if_neg e0, if_pos hl]
        rw [stp_long hr hl, e]
        exact ⟨rfl, fun h => absurd h (by decide)⟩
      · have e : bpE S P N n v = 0 := by unfold bpE; rw [if_pos hc, if_neg e0, if_neg hl]
        rw [stp_add hr (by omega), e]
        unfold bpS bpQ bpN
        rw [e, if_pos rfl, if_pos rfl, if_pos rfl]
        exact ⟨rfl, fun _ => ⟨rfl, rfl, rfl⟩⟩
    · have hr' : rgtU n v = false := by simpa using hr
      rw [stp_right hr']
      unfold rgtU at hr'
      rw [decide_eq_false_iff_not] at hr'
      have e : bpE S P N n v = 2 := by unfold bpE; rw [if_pos hc, if_pos (by omega)]
      rw [e]
      exact ⟨rfl, fun h => absurd h (by decide)⟩
  · have e : stp ⟨S, P, N, bch S P N⟩ n v = ⟨S, P, N, bch S P N⟩ := by unfold stp; rw [if_neg hc]
    have e2 : bpE S P N n v = bch S P N := by unfold bpE; rw [if_neg hc]
    rw [e, e2]
    exact ⟨rfl, fun h => absurd h hc⟩

/-- the numbers that end a stream -/
def endL (N : Int) : List (Int × Int) := [(1, 1), (wrap64 (7 - N), 0)]

theorem end_vals (S : ByteArray) (P N : Int) : (stps ⟨S, P, N, bch S P N⟩ (endL N)).c = bdE S P N ∧ (bdE S P N = 0 → (stps ⟨S, P, N, bch S P N⟩ (endL N)).S = bdS S P N) := by
  by_cases hc : bch S P N = 0
  · obtain ⟨c1, c2, c3, c4, c5⟩ := bch_zero hc
    have hw : wrap64 (7 - N) = 7 - N := IntWalk.wrap64_in _ ⟨by omega, by omega⟩
    have r1 : rgtU 1 1 = true := by decide
    rw [hc]
    unfold endL
    rw [hw]
    simp only [stps]
    obtain ⟨N', rfl⟩ := Int.eq_ofNat_of_zero_le c1
    obtain ⟨P', rfl⟩ := Int.eq_ofNat_of_zero_le c3
    have eN : ((N' : Int)).toNat = N' := by omega
    have eP : ((P' : Int)).toNat = P' := by omega
    have p7 : 2 ^ N' ≤ 2 ^ 7 := Nat.pow_le_pow_right (by omega) (by omega)
    rw [eN] at c4
    have pc := pow_cast N'
    have hP2 : P' < 2 ^ N' := by omega
    have hs1 : ∀ l : List UInt8, (⟨l.toArray⟩ : ByteArray).size = l.length := fun l => by show l.toArray.size = _; simp
    by_cases hl : 1048576 < (S.size : Int) + ((N' : Int) + 1) / 8
    · have e : bdE S P' N' = 4 := by unfold bdE; rw [if_pos hc, if_pos (by omega)]
      rw [stp_long r1 hl, e]
      exact ⟨rfl, fun h => absurd h (by decide)⟩
    · have r2 : rgtU (7 - (N' : Int)) 0 = true := by
        unfold rgtU
        rw [decide_eq_true_iff]
        refine ⟨by omega, by omega, ?_⟩
        rw [← pow_cast]
        have := Nat.two_pow_pos (7 - (N' : Int)).toNat
        omega
      rw [stp_add r1 (by omega), eN, eP, show (1 : Int).toNat = 1 by decide]
      have hz1 : (S ++ ⟨(putL P' N' 1 1).toArray⟩ : ByteArray).size = S.size + (N' + 1) / 8 := by
        rw [ByteArray.size_append, hs1 (putL P' N' 1 1)]
        unfold putL
        rw [leB_length]
      by_cases hl2 : 1048576 < ((S ++ ⟨(putL P' N' 1 1).toArray⟩ : ByteArray).size : Int) + (((N' : Int) + 1) % 8 + (7 - (N' : Int))) / 8
      · have e : bdE S P' N' = 4 := by unfold bdE; rw [if_pos hc, if_pos (by omega)]
        rw [stp_long r2 hl2, e]
        exact ⟨rfl, fun h => absurd h (by decide)⟩
      · have e : bdE S P' N' = 0 := by unfold bdE; rw [if_pos hc, if_neg (by omega)]
        rw [stp_add r2 (by omega), e]
        refine ⟨rfl, fun _ => ?_⟩
        unfold bdS
        rw [e, if_pos rfl, eN]
        have h := (put_all (putT P' N' 1 1) (N' + 1) (7 - N') 0 (Nat.two_pow_pos _)).1
        have e1 : (((putP P' N' 1 1 : Nat) : Int)).toNat = putP P' N' 1 1 := by omega
        have e2 : (((N' : Int) + 1) % 8).toNat = (N' + 1) % 8 := by omega
        have e3 : (7 - (N' : Int)).toNat = 7 - N' := by omega
        have e4 : ((P' : Int) + 2 ^ N').toNat = P' + 2 ^ N' := by omega
        simp only
        rw [e1, e2, e3, e4, show (0 : Int).toNat = 0 by decide, show N' + 1 + (7 - N') = 8 by omega, Nat.zero_mul, Nat.add_zero] at *
        have h8 : leB (putT P' N' 1 1 + 0) (8 / 8) = [UInt8.ofNat (P' + 2 ^ N')] := by
          simp [leB, putT]
        rw [h8] at h
        rw [← h]
        rw [show leB (putT P' N' 1 1) ((N' + 1) / 8) = putL P' N' 1 1 from rfl, show putT P' N' 1 1 / 2 ^ (8 * ((N' + 1) / 8)) = putP P' N' 1 1 from rfl]
        exact ByteArray.ext (by simp)
  · have e2 : bdE S P N = bch S P N := by unfold bdE; rw [if_neg hc]
    rw [stps_err _ _ hc, e2]
    exact ⟨rfl, fun h => absurd h hc⟩
theorem end_any (g : Nat) (s : Wst) (w : World) (hok : s.ok) (hb : Blk w g 66 s.cells) :
    Calls Try.prog 40 #[.pointer (some ⟨g, 0, none⟩)] w fun e w' => e = .returned (.tuple #[]) ∧ Blk w' g 66 (stps s (endL s.N)).cells ∧ w.grownBy w' (some g) := by
  obtain ⟨S, P, N, c⟩ := s
  have hg := blk_lt hb
  obtain ⟨⟨c0, c1, c2, c3⟩, _⟩ := blk4 (s := S) (p := P) (n := N) (c := c) hb
  have hP := fun (u : World) (hu : Blk u g 66 (at4 S P N c)) (hh : w.heap.size < u.heap.size ∧ ∀ k, k < 2 → u.cell? ⟨w.heap.size, k * 2, none⟩ = some (.int .i64 ((endL N).getD k (0, 0)).1) ∧ u.cell? ⟨w.heap.size, k * 2 + 1, none⟩ = some (.int .u64 ((endL N).getD k (0, 0)).2)) =>
    put_walk g w.heap.size 2 (endL N) ⟨S, P, N, c⟩ u rfl (by omega) hok (fun x hx => by simp [endL] at hx; rcases hx with rfl | rfl <;> simp) (by omega) hu hh
  have HP := Lib.hid hP
  have KB := Lib.hid (blk_alloc hb (.cells #[.int .i64 1, .int .u64 1, .int .i64 (wrap64 (7 - N)), .int .u64 0] 62))
  have KC : Hid (w.heap.size < (w.alloc (.cells #[.int .i64 1, .int .u64 1, .int .i64 (wrap64 (7 - N)), .int .u64 0] 62)).heap.size ∧ ∀ k, k < 2 → (w.alloc (.cells #[.int .i64 1, .int .u64 1, .int .i64 (wrap64 (7 - N)), .int .u64 0] 62)).cell? ⟨w.heap.size, k * 2, none⟩ = some (.int .i64 ((endL N).getD k (0, 0)).1) ∧ (w.alloc (.cells #[.int .i64 1, .int .u64 1, .int .i64 (wrap64 (7 - N)), .int .u64 0] 62)).cell? ⟨w.heap.size, k * 2 + 1, none⟩ = some (.int .u64 ((endL N).getD k (0, 0)).2)) := by
    have hn := blk_new w 62 #[.int .i64 1, .int .u64 1, .int .i64 (wrap64 (7 - N)), .int .u64 0]
    refine ⟨by simp, fun k hk => ?_⟩
    match k, hk with
    | 0, _ => exact ⟨blk_cell hn 0, blk_cell hn 1⟩
    | 1, _ => exact ⟨blk_cell hn 2, blk_cell hn 3⟩
  clear hP hb hok
  generalize hE : (stps ⟨S, P, N, c⟩ (endL N)).cells = E at HP ⊢
  have HE := Lib.hid hE
  clear hE
  go_enter Try.func40, Try.ntmps40
  go_wp2_with ((go_at_call 36; (with_reducible refine (HP.out _ KB.out KC.out).mono ?_); rintro e w1 ⟨rfl, hB1, hg1⟩))
  go_end0
  exact ⟨rfl, hB1, grown_trans (grown_alloc (grown_refl _ _) _) hg1⟩

end Go.Proofs.Yteopglkehlckoaa
