/-
  The chapter's examples in awake.
-/
import Derived.Test.YtgiihdgkejhbeaaO5K
namespace Go.Proofs.Ytgiihdgkejhbeaa
open Go.ChangeShapes Go.WideShapes Go.ChangeAt Go.RowKit
set_option linter.unusedVariables false

theorem v0 : seedW 0 ⟨#[]⟩ = 17241709254077376921 := by decide +kernel
theorem ov0 (u : World) : Calls Try.prog 10 #[.string ⟨#[]⟩] u fun e w' => e = .returned (.int .u64 17241709254077376921) ∧ Below u.heap.size u w' := by
  have h := of_any ⟨#[]⟩ (by decide) u
  rw [v0] at h
  exact h
theorem va : seedW 0 ⟨#[97]⟩ = 15154266338359012955 := by decide +kernel
theorem ova (u : World) : Calls Try.prog 10 #[.string ⟨#[97]⟩] u fun e w' => e = .returned (.int .u64 15154266338359012955) ∧ Below u.heap.size u w' := by
  have h := of_any ⟨#[97]⟩ (by decide) u
  rw [va] at h
  exact h
theorem vabc : seedW 0 ⟨#[97, 98, 99]⟩ = 4952883123889572249 := by decide +kernel
theorem ovabc (u : World) : Calls Try.prog 10 #[.string ⟨#[97, 98, 99]⟩] u fun e w' => e = .returned (.int .u64 4952883123889572249) ∧ Below u.heap.size u w' := by
  have h := of_any ⟨#[97, 98, 99]⟩ (by decide) u
  rw [vabc] at h
  exact h
theorem n0 (u : World) : Calls Try.prog 22 #[.int .u64 0] u fun e w' => e = .returned (.agg #[.int .u64 (sL 0 ⟨#[]⟩).a, .int .u64 (sL 0 ⟨#[]⟩).b, .int .u64 (sL 0 ⟨#[]⟩).c, .int .u64 (sL 0 ⟨#[]⟩).d, .int .i64 0, .string (sT ⟨#[]⟩), .int .u64 0]) ∧ Below u.heap.size u w' := new_s 0 u
theorem aabc (u : World) : Calls Try.prog 16 #[.agg #[.int .u64 (sL 0 ⟨#[]⟩).a, .int .u64 (sL 0 ⟨#[]⟩).b, .int .u64 (sL 0 ⟨#[]⟩).c, .int .u64 (sL 0 ⟨#[]⟩).d, .int .i64 0, .string (sT ⟨#[]⟩), .int .u64 0], .string ⟨#[97, 98, 99]⟩] u fun e w' => e = .returned (.tuple #[.agg #[.int .u64 (sL 0 ⟨#[97, 98, 99]⟩).a, .int .u64 (sL 0 ⟨#[97, 98, 99]⟩).b, .int .u64 (sL 0 ⟨#[97, 98, 99]⟩).c, .int .u64 (sL 0 ⟨#[97, 98, 99]⟩).d, .int .i64 3, .string (sT ⟨#[97, 98, 99]⟩), .int .u64 0], .int .i64 0]) ∧ Below u.heap.size u w' := add_s 0 ⟨#[]⟩ ⟨#[97, 98, 99]⟩ ⟨#[97, 98, 99]⟩ (by decide) 3 (by decide) (by decide) u
theorem sabc (u : World) : Calls Try.prog 18 #[.agg #[.int .u64 (sL 0 ⟨#[97, 98, 99]⟩).a, .int .u64 (sL 0 ⟨#[97, 98, 99]⟩).b, .int .u64 (sL 0 ⟨#[97, 98, 99]⟩).c, .int .u64 (sL 0 ⟨#[97, 98, 99]⟩).d, .int .i64 3, .string (sT ⟨#[97, 98, 99]⟩), .int .u64 0]] u fun e w' => e = .returned (.tuple #[.int .u64 4952883123889572249, .int .i64 0]) ∧ Below u.heap.size u w' := by
  have h := sum_s 0 ⟨#[97, 98, 99]⟩ 3 (by decide) (by decide) u
  rw [vabc] at h
  exact h

theorem awake_walk (p0 p1 p2 p3 q0 q1 q2 q3 : Int) (s t : ByteArray) (w : World)
    (h1 : ∀ u, Calls Try.prog 22 #[.int .u64 0] u fun e w' => e = .returned (.agg #[.int .u64 p0, .int .u64 p1, .int .u64 p2, .int .u64 p3, .int .i64 0, .string s, .int .u64 0]) ∧ Below u.heap.size u w')
    (h2 : ∀ u, Calls Try.prog 16 #[.agg #[.int .u64 p0, .int .u64 p1, .int .u64 p2, .int .u64 p3, .int .i64 0, .string s, .int .u64 0], .string ⟨#[97, 98, 99]⟩] u fun e w' => e = .returned (.tuple #[.agg #[.int .u64 q0, .int .u64 q1, .int .u64 q2, .int .u64 q3, .int .i64 3, .string t, .int .u64 0], .int .i64 0]) ∧ Below u.heap.size u w')
    (h3 : ∀ u, Calls Try.prog 18 #[.agg #[.int .u64 q0, .int .u64 q1, .int .u64 q2, .int .u64 q3, .int .i64 3, .string t, .int .u64 0]] u fun e w' => e = .returned (.tuple #[.int .u64 4952883123889572249, .int .i64 0]) ∧ Below u.heap.size u w') :
    Calls Try.prog 8 #[] w fun e w' => e = .returned (.bool true) ∧ Below w.heap.size w w' := by
  go_enter Try.func8, Try.ntmps8
  go_upto_region 1 with fail
  go_cut [1, 2] from 5 to 33 (fun p y wx => ∃ g, p = .pointer (some ⟨g, 0, none⟩) ∧ y = .int .i64 0 ∧ Blk wx g 32 #[.int .u64 q0, .int .u64 q1, .int .u64 q2, .int .u64 q3, .int .i64 3, .string t, .int .u64 0] ∧ Below w.heap.size w wx)
  case first =>
    go_wp2_with (first
      | (go_at_call 22; (with_reducible refine (h1 _).mono ?_); rintro e w1 ⟨rfl, hb1⟩)
      | (go_at_call 16; (with_reducible refine (h2 _).mono ?_); rintro e w2 ⟨rfl, hb2⟩))
    go_meet
    exact ⟨_, rfl, rfl, blk_new _ _ _, below_box (below_call hb1 hb2) _⟩
  case rest =>
    obtain ⟨g, rfl, rfl, k, hbw⟩ := hcut
    obtain ⟨c0, c1, c2, c3, c4, c5, c6⟩ := c7 k
    clear k
    go_wp2_with (first
      | (go_at_call 18; (with_reducible refine (h3 _).mono ?_); rintro e w1 ⟨rfl, hb⟩; replace hbw := below_call hbw hb; clear hb)
      | (go_at_call 10; (with_reducible refine (ov0 _).mono ?_); rintro e w2 ⟨rfl, hb⟩; replace hbw := below_call hbw hb; clear hb)
      | (go_at_call 10; (with_reducible refine (ova _).mono ?_); rintro e w2 ⟨rfl, hb⟩; replace hbw := below_call hbw hb; clear hb)
      | (go_at_call 10; (with_reducible refine (ovabc _).mono ?_); rintro e w2 ⟨rfl, hb⟩; replace hbw := below_call hbw hb; clear hb))
    go_ret
    exact ⟨rfl, hbw⟩
theorem awake_any (w : World) : Calls Try.prog 8 #[] w fun e w' => e = .returned (.bool true) ∧ Below w.heap.size w w' :=
  awake_walk _ _ _ _ _ _ _ _ _ _ w n0 aabc sabc
end Go.Proofs.Ytgiihdgkejhbeaa
