/-
  The project's writers of bits: what is refused, the padding, and a writer opened.
-/
import Derived.Test.YtaohhijjalcbiaaO2T1
import Derived.Deep.RegionWith
import Derived.Deep.RegionHeld3
import Derived.WalkSmall
namespace Go.Proofs.Ytaohhijjalcbiaa
open Go.ChangeShapes Go.WideShapes Go.ChangeAt Go.RowKit
set_option linter.unusedVariables false


theorem refuse_no (S : ByteArray) (P N n v : Int) (hr : rgtN n v = false) (w : World) : Calls Try.prog 89 #[.agg #[.string S, .int .i64 P, .int .i64 N], .agg #[.int .i64 n, .int .i64 v]] w fun e w' => e = .returned (.int .i64 2) ∧ Below w.heap.size w w' := by
  have hR := fun u => ownRight_any n v u
  rw [hr] at hR
  clear hr
  go_enter Try.func89, Try.ntmps89
  go_wp2_with (go_at_call 98; (with_reducible refine (hR _).mono ?_); rintro e w1 ⟨rfl, hb1⟩; obtain ⟨hc1, hf1⟩ := bcell hb1)
  go_ret
  exact ⟨rfl, (((Below.refl _ _).alloc (Nat.le_refl _) _).alloc (by simp) _).trans (hb1.mono (by simp; omega))⟩

theorem refuse_some (S : ByteArray) (P N n v : Int) (hr : rgtN n v = true) (hS : S.size ≤ 1048576) (hN0 : 0 ≤ N) (hN : N ≤ 7) (hn0 : 0 ≤ n) (hn : n ≤ 32) (r : Int) (h : (1048576 < (S.size : Int) + (N + n) / 8 ∧ r = 4) ∨ ((S.size : Int) + (N + n) / 8 ≤ 1048576 ∧ r = 0)) (w : World) :
    Calls Try.prog 89 #[.agg #[.string S, .int .i64 P, .int .i64 N], .agg #[.int .i64 n, .int .i64 v]] w fun e w' => e = .returned (.int .i64 r) ∧ Below w.heap.size w w' := by
  have hR := fun u => ownRight_any n v u
  rw [hr] at hR
  clear hr
  have hW := fun u => ownWhole (N + n) (by omega) (by omega) u
  have hq : IntKind.i64.wrap (N + n) = N + n := IntWalk.i64_in _ ⟨by omega, by omega⟩
  have hz : IntKind.i64.wrap ((S.size : Int) + (N + n) / 8) = (S.size : Int) + (N + n) / 8 := IntWalk.i64_in _ ⟨by omega, by omega⟩
  rcases h with ⟨h1, rfl⟩ | ⟨h1, rfl⟩
  all_goals
    go_enter Try.func89, Try.ntmps89
    go_wp2_with (go_at_call 98; (with_reducible refine (hR _).mono ?_); rintro e w1 ⟨rfl, hb1⟩; obtain ⟨hc1, hf1⟩ := bcell hb1)
    go_quiet ((go_at_call 63; exact quiet_eq (hW _)))
    go_wp2
    go_ret
    exact ⟨rfl, below_drewN ((((Below.refl _ _).alloc (Nat.le_refl _) _).alloc (by simp) _).trans (hb1.mono (by simp; omega))) _⟩

theorem rgtN_true {n v : Int} (h : rgtN n v = true) : 0 ≤ n ∧ n ≤ 32 ∧ 0 ≤ v ∧ v < (2 : Int) ^ n.toNat := by
  unfold rgtN at h
  rwa [decide_eq_true_iff] at h

theorem ownRefuse_any (S : ByteArray) (P N n v : Int) (hS : S.size ≤ 1048576) (hN0 : 0 ≤ N) (hN : N ≤ 7) (w : World) : Calls Try.prog 89 #[.agg #[.string S, .int .i64 P, .int .i64 N], .agg #[.int .i64 n, .int .i64 v]] w fun e w' => e = .returned (.int .i64 (refE S N n v)) ∧ Below w.heap.size w w' := by
  by_cases hr : rgtN n v = true
  · obtain ⟨h0, h1, _⟩ := rgtN_true hr
    refine refuse_some S P N n v hr hS hN0 hN h0 h1 _ ?_ w
    unfold refE
    rw [if_pos hr]
    by_cases h : 1048576 < (S.size : Int) + (N + n) / 8
    · rw [if_pos h]; exact .inl ⟨h, rfl⟩
    · rw [if_neg h]; exact .inr ⟨by omega, rfl⟩
  · have e : refE S N n v = 2 := by unfold refE; rw [if_neg hr]
    rw [e]
    exact refuse_no S P N n v (by simpa using hr) w

theorem padding_any (S : ByteArray) (P N : Int) (w : World) : Calls Try.prog 75 #[.agg #[.string S, .int .i64 P, .int .i64 N]] w fun e w' => e = .returned (.agg #[.int .i64 ((wrap64 (8 - N)).tmod 8), .int .i64 0]) ∧ Below w.heap.size w w' := by
  go_enter Try.func75, Try.ntmps75
  go_wp2
  exact bodyPost_ret (v := .agg #[.int .i64 ((wrap64 (8 - N)).tmod 8), .int .i64 0]) (by simp [results, Try.results75, go_sem]) rfl ⟨rfl, ((Below.refl _ _).alloc (Nat.le_refl _) _).alloc (by simp) _⟩

/-- what open gives: a new writer -/
def Opened (S : ByteArray) (P N : Int) (w : World) (e : Ending) (w' : World) : Prop := ∃ g, e = .returned (.pointer (some ⟨g, 0, none⟩)) ∧ w.heap.size ≤ g ∧ Blk w' g 109 (at4 S P N (chk S P N)) ∧ Below w.heap.size w w'

theorem open_any (S : ByteArray) (P N : Int) (hS : S.size ≤ 9223372036854775807) (w : World) : Calls Try.prog 73 #[.agg #[.string S, .int .i64 P, .int .i64 N]] w (Opened S P N w) := by
  have hC := fun u => ownDraftCheck_any S P N hS u
  unfold Opened
  generalize chk S P N = c at *
  go_enter Try.func73, Try.ntmps73
  go_wp2
  go_region_with ((go_at_call 88; (with_reducible refine (hC _).mono ?_); rintro e w1 ⟨rfl, hb1⟩; obtain ⟨hc1, hf1⟩ := bcell hb1))
  all_goals
    go_wp2
    go_ret
    have hz := hb1.size
    simp at hz
    refine ⟨_, rfl, ?_, blk_new _ _ _, ?_⟩
    · omega
    · exact ((((((Below.refl _ _).alloc (Nat.le_refl _) _).alloc (by simp) _).drew).trans (hb1.mono (by simp; omega))).alloc (by omega) _)

end Go.Proofs.Ytaohhijjalcbiaa
