/-
  The chapter's examples in BackKnown.
-/
import Derived.Test.YteopglkehlckoaaAwake
namespace Go.Proofs.Yteopglkehlckoaa
open Go.ChangeShapes Go.WideShapes Go.ChangeAt Go.RowKit
set_option linter.unusedVariables false

theorem p32 (u : World) : Calls Try.prog 9 #[.agg #[.string ⟨#[]⟩, .int .i64 0, .int .i64 0], .int .i64 32, .int .u64 4294967295] u fun e w' => e = .returned (.tuple #[.agg #[.string ⟨#[255, 255, 255, 255]⟩, .int .i64 0, .int .i64 0], .int .i64 0]) ∧ Below u.heap.size u w' := by
  have h := ownPut_any ⟨#[]⟩ 0 0 32 4294967295 (by decide) (by decide) (by decide) (by decide) u
  rw [show bpS ⟨#[]⟩ 0 0 32 4294967295 = ⟨#[255, 255, 255, 255]⟩ by decide +kernel, show bpQ ⟨#[]⟩ 0 0 32 4294967295 = 0 by decide +kernel, show bpN ⟨#[]⟩ 0 0 32 4294967295 = 0 by decide +kernel, show bpE ⟨#[]⟩ 0 0 32 4294967295 = 0 by decide +kernel] at h
  exact h
theorem p33 (u : World) : Calls Try.prog 9 #[.agg #[.string ⟨#[]⟩, .int .i64 0, .int .i64 0], .int .i64 33, .int .u64 0] u fun e w' => e = .returned (.tuple #[.agg #[.string ⟨#[]⟩, .int .i64 0, .int .i64 0], .int .i64 2]) ∧ Below u.heap.size u w' := by
  have h := ownPut_any ⟨#[]⟩ 0 0 33 0 (by decide) (by decide) (by decide) (by decide) u
  rw [show bpS ⟨#[]⟩ 0 0 33 0 = ⟨#[]⟩ by decide +kernel, show bpQ ⟨#[]⟩ 0 0 33 0 = 0 by decide +kernel, show bpN ⟨#[]⟩ 0 0 33 0 = 0 by decide +kernel, show bpE ⟨#[]⟩ 0 0 33 0 = 2 by decide +kernel] at h
  exact h
theorem p24 (u : World) : Calls Try.prog 9 #[.agg #[.string ⟨#[]⟩, .int .i64 0, .int .i64 0], .int .i64 2, .int .u64 4] u fun e w' => e = .returned (.tuple #[.agg #[.string ⟨#[]⟩, .int .i64 0, .int .i64 0], .int .i64 2]) ∧ Below u.heap.size u w' := by
  have h := ownPut_any ⟨#[]⟩ 0 0 2 4 (by decide) (by decide) (by decide) (by decide) u
  rw [show bpS ⟨#[]⟩ 0 0 2 4 = ⟨#[]⟩ by decide +kernel, show bpQ ⟨#[]⟩ 0 0 2 4 = 0 by decide +kernel, show bpN ⟨#[]⟩ 0 0 2 4 = 0 by decide +kernel, show bpE ⟨#[]⟩ 0 0 2 4 = 2 by decide +kernel] at h
  exact h
theorem pm1 (u : World) : Calls Try.prog 9 #[.agg #[.string ⟨#[]⟩, .int .i64 0, .int .i64 0], .int .i64 (-1), .int .u64 0] u fun e w' => e = .returned (.tuple #[.agg #[.string ⟨#[]⟩, .int .i64 0, .int .i64 0], .int .i64 2]) ∧ Below u.heap.size u w' := by
  have h := ownPut_any ⟨#[]⟩ 0 0 (-1) 0 (by decide) (by decide) (by decide) (by decide) u
  rw [show bpS ⟨#[]⟩ 0 0 (-1) 0 = ⟨#[]⟩ by decide +kernel, show bpQ ⟨#[]⟩ 0 0 (-1) 0 = 0 by decide +kernel, show bpN ⟨#[]⟩ 0 0 (-1) 0 = 0 by decide +kernel, show bpE ⟨#[]⟩ 0 0 (-1) 0 = 2 by decide +kernel] at h
  exact h
theorem d10_ (u : World) : Calls Try.prog 22 #[.agg #[.string ⟨#[]⟩, .int .i64 0, .int .i64 0]] u fun e w' => e = .returned (.tuple #[.string ⟨#[1]⟩, .int .i64 0]) ∧ Below u.heap.size u w' := by
  have h := ownDone_any ⟨#[]⟩ 0 0 (by decide) (by decide) (by decide) u
  rw [show bdS ⟨#[]⟩ 0 0 = ⟨#[1]⟩ by decide +kernel, show bdE ⟨#[]⟩ 0 0 = 0 by decide +kernel] at h
  exact h
theorem d10 (u : World) : Calls Try.prog 10 #[.agg #[.string ⟨#[]⟩, .int .i64 0, .int .i64 0], .string ⟨#[1]⟩] u fun e w' => e = .returned (.bool true) ∧ Below u.heap.size u w' := ends10 _ _ _ _ d10_ u
theorem d11_ (u : World) : Calls Try.prog 9 #[.agg #[.string ⟨#[]⟩, .int .i64 0, .int .i64 0], .int .i64 8, .int .u64 255] u fun e w' => e = .returned (.tuple #[.agg #[.string ⟨#[255]⟩, .int .i64 0, .int .i64 0], .int .i64 0]) ∧ Below u.heap.size u w' := by
  have h := ownPut_any ⟨#[]⟩ 0 0 8 255 (by decide) (by decide) (by decide) (by decide) u
  rw [show bpS ⟨#[]⟩ 0 0 8 255 = ⟨#[255]⟩ by decide +kernel, show bpQ ⟨#[]⟩ 0 0 8 255 = 0 by decide +kernel, show bpN ⟨#[]⟩ 0 0 8 255 = 0 by decide +kernel, show bpE ⟨#[]⟩ 0 0 8 255 = 0 by decide +kernel] at h
  exact h
theorem d11 (u : World) : Calls Try.prog 11 #[.agg #[.string ⟨#[]⟩, .int .i64 0, .int .i64 0], .int .i64 8, .int .u64 255] u fun e w' => e = .returned (.agg #[.string ⟨#[255]⟩, .int .i64 0, .int .i64 0]) ∧ Below u.heap.size u w' := put11 _ _ _ _ _ _ _ _ d11_ u
theorem e10_ (u : World) : Calls Try.prog 22 #[.agg #[.string ⟨#[255]⟩, .int .i64 0, .int .i64 0]] u fun e w' => e = .returned (.tuple #[.string ⟨#[255, 1]⟩, .int .i64 0]) ∧ Below u.heap.size u w' := by
  have h := ownDone_any ⟨#[255]⟩ 0 0 (by decide) (by decide) (by decide) u
  rw [show bdS ⟨#[255]⟩ 0 0 = ⟨#[255, 1]⟩ by decide +kernel, show bdE ⟨#[255]⟩ 0 0 = 0 by decide +kernel] at h
  exact h
theorem e10 (u : World) : Calls Try.prog 10 #[.agg #[.string ⟨#[255]⟩, .int .i64 0, .int .i64 0], .string ⟨#[255, 1]⟩] u fun e w' => e = .returned (.bool true) ∧ Below u.heap.size u w' := ends10 _ _ _ _ e10_ u
theorem x1_ (u : World) : Calls Try.prog 24 #[.string ⟨#[1]⟩] u fun e w' => e = .returned (.tuple #[.int .i64 0, .int .i64 0]) ∧ u = w' := by
  have h := ownBits_any ⟨#[1]⟩ (by decide) u
  rw [show strN ⟨#[1]⟩ = 0 by decide +kernel, show strE ⟨#[1]⟩ = 0 by decide +kernel] at h
  exact h
theorem x1 (u : World) : Calls Try.prog 12 #[.string ⟨#[1]⟩, .int .i64 0, .int .i64 0] u fun e w' => e = .returned (.bool true) ∧ u = w' := bits12 _ _ _ x1_ u
theorem x2_ (u : World) : Calls Try.prog 24 #[.string ⟨#[255, 1]⟩] u fun e w' => e = .returned (.tuple #[.int .i64 8, .int .i64 0]) ∧ u = w' := by
  have h := ownBits_any ⟨#[255, 1]⟩ (by decide) u
  rw [show strN ⟨#[255, 1]⟩ = 8 by decide +kernel, show strE ⟨#[255, 1]⟩ = 0 by decide +kernel] at h
  exact h
theorem x2 (u : World) : Calls Try.prog 12 #[.string ⟨#[255, 1]⟩, .int .i64 8, .int .i64 0] u fun e w' => e = .returned (.bool true) ∧ u = w' := bits12 _ _ _ x2_ u
theorem x3_ (u : World) : Calls Try.prog 24 #[.string ⟨#[0]⟩] u fun e w' => e = .returned (.tuple #[.int .i64 0, .int .i64 22]) ∧ u = w' := by
  have h := ownBits_any ⟨#[0]⟩ (by decide) u
  rw [show strN ⟨#[0]⟩ = 0 by decide +kernel, show strE ⟨#[0]⟩ = 22 by decide +kernel] at h
  exact h
theorem x3 (u : World) : Calls Try.prog 12 #[.string ⟨#[0]⟩, .int .i64 0, .int .i64 22] u fun e w' => e = .returned (.bool true) ∧ u = w' := bits12 _ _ _ x3_ u
theorem x4_ (u : World) : Calls Try.prog 24 #[.string ⟨#[]⟩] u fun e w' => e = .returned (.tuple #[.int .i64 0, .int .i64 22]) ∧ u = w' := by
  have h := ownBits_any ⟨#[]⟩ (by decide) u
  rw [show strN ⟨#[]⟩ = 0 by decide +kernel, show strE ⟨#[]⟩ = 22 by decide +kernel] at h
  exact h
theorem x4 (u : World) : Calls Try.prog 12 #[.string ⟨#[]⟩, .int .i64 0, .int .i64 22] u fun e w' => e = .returned (.bool true) ∧ u = w' := bits12 _ _ _ x4_ u
theorem x5_ (u : World) : Calls Try.prog 24 #[.string ⟨#[1, 0]⟩] u fun e w' => e = .returned (.tuple #[.int .i64 0, .int .i64 22]) ∧ u = w' := by
  have h := ownBits_any ⟨#[1, 0]⟩ (by decide) u
  rw [show strN ⟨#[1, 0]⟩ = 0 by decide +kernel, show strE ⟨#[1, 0]⟩ = 22 by decide +kernel] at h
  exact h
theorem x5 (u : World) : Calls Try.prog 12 #[.string ⟨#[1, 0]⟩, .int .i64 0, .int .i64 22] u fun e w' => e = .returned (.bool true) ∧ u = w' := bits12 _ _ _ x5_ u
theorem r17 (u : World) : Calls Try.prog 13 #[.string ⟨#[17, 6]⟩] u fun e w' => e = .returned (.tuple #[.agg #[.string ⟨#[17, 6]⟩, .int .i64 10], .int .i64 0]) ∧ Below u.heap.size u w' := by
  have h := ownRead_any ⟨#[17, 6]⟩ (by decide) u
  rw [show breS ⟨#[17, 6]⟩ = ⟨#[17, 6]⟩ by decide +kernel, show strN ⟨#[17, 6]⟩ = 10 by decide +kernel, show strE ⟨#[17, 6]⟩ = 0 by decide +kernel] at h
  exact h
theorem t6 (u : World) : Calls Try.prog 14 #[.agg #[.string ⟨#[17, 6]⟩, .int .i64 10], .int .i64 6] u fun e w' => e = .returned (.tuple #[.agg #[.string ⟨#[17, 6]⟩, .int .i64 4], .int .u64 33, .int .i64 0]) ∧ Below u.heap.size u w' := by
  have h := ownTake_any ⟨#[17, 6]⟩ 10 6 (by decide) u
  rw [show bskS ⟨#[17, 6]⟩ 10 6 = ⟨#[17, 6]⟩ by decide +kernel, show bskL ⟨#[17, 6]⟩ 10 6 = 4 by decide +kernel, show btkX ⟨#[17, 6]⟩ 10 6 = 33 by decide +kernel, show bskE ⟨#[17, 6]⟩ 10 6 = 0 by decide +kernel] at h
  exact h
theorem t4 (u : World) : Calls Try.prog 14 #[.agg #[.string ⟨#[17, 6]⟩, .int .i64 4], .int .i64 4] u fun e w' => e = .returned (.tuple #[.agg #[.string ⟨#[17, 6]⟩, .int .i64 0], .int .u64 1, .int .i64 0]) ∧ Below u.heap.size u w' := by
  have h := ownTake_any ⟨#[17, 6]⟩ 4 4 (by decide) u
  rw [show bskS ⟨#[17, 6]⟩ 4 4 = ⟨#[17, 6]⟩ by decide +kernel, show bskL ⟨#[17, 6]⟩ 4 4 = 0 by decide +kernel, show btkX ⟨#[17, 6]⟩ 4 4 = 1 by decide +kernel, show bskE ⟨#[17, 6]⟩ 4 4 = 0 by decide +kernel] at h
  exact h
theorem t1 (u : World) : Calls Try.prog 14 #[.agg #[.string ⟨#[17, 6]⟩, .int .i64 0], .int .i64 1] u fun e w' => e = .returned (.tuple #[.agg #[.string ⟨#[]⟩, .int .i64 0], .int .u64 0, .int .i64 5]) ∧ Below u.heap.size u w' := by
  have h := ownTake_any ⟨#[17, 6]⟩ 0 1 (by decide) u
  rw [show bskS ⟨#[17, 6]⟩ 0 1 = ⟨#[]⟩ by decide +kernel, show bskL ⟨#[17, 6]⟩ 0 1 = 0 by decide +kernel, show btkX ⟨#[17, 6]⟩ 0 1 = 0 by decide +kernel, show bskE ⟨#[17, 6]⟩ 0 1 = 5 by decide +kernel] at h
  exact h
theorem y1_r (u : World) : Calls Try.prog 13 #[.string ⟨#[13]⟩] u fun e w' => e = .returned (.tuple #[.agg #[.string ⟨#[13]⟩, .int .i64 3], .int .i64 0]) ∧ Below u.heap.size u w' := by
  have h := ownRead_any ⟨#[13]⟩ (by decide) u
  rw [show breS ⟨#[13]⟩ = ⟨#[13]⟩ by decide +kernel, show strN ⟨#[13]⟩ = 3 by decide +kernel, show strE ⟨#[13]⟩ = 0 by decide +kernel] at h
  exact h
theorem y1_p (u : World) : Calls Try.prog 29 #[.agg #[.string ⟨#[13]⟩, .int .i64 3], .int .i64 3] u fun e w' => e = .returned (.tuple #[.int .u64 5, .int .i64 0]) ∧ Below u.heap.size u w' := by
  have h := ownPeek_any ⟨#[13]⟩ 3 3 (by decide) u
  rw [show bpkX ⟨#[13]⟩ 3 3 = 5 by decide +kernel, show bakE ⟨#[13]⟩ 3 3 = 0 by decide +kernel] at h
  exact h
theorem y1 (u : World) : Calls Try.prog 15 #[.string ⟨#[13]⟩, .int .i64 3, .int .u64 5] u fun e w' => e = .returned (.bool true) ∧ Below u.heap.size u w' := peeks15 _ _ _ _ y1_r y1_p u
theorem y2_r (u : World) : Calls Try.prog 13 #[.string ⟨#[13]⟩] u fun e w' => e = .returned (.tuple #[.agg #[.string ⟨#[13]⟩, .int .i64 3], .int .i64 0]) ∧ Below u.heap.size u w' := by
  have h := ownRead_any ⟨#[13]⟩ (by decide) u
  rw [show breS ⟨#[13]⟩ = ⟨#[13]⟩ by decide +kernel, show strN ⟨#[13]⟩ = 3 by decide +kernel, show strE ⟨#[13]⟩ = 0 by decide +kernel] at h
  exact h
theorem y2_p (u : World) : Calls Try.prog 29 #[.agg #[.string ⟨#[13]⟩, .int .i64 3], .int .i64 2] u fun e w' => e = .returned (.tuple #[.int .u64 2, .int .i64 0]) ∧ Below u.heap.size u w' := by
  have h := ownPeek_any ⟨#[13]⟩ 3 2 (by decide) u
  rw [show bpkX ⟨#[13]⟩ 3 2 = 2 by decide +kernel, show bakE ⟨#[13]⟩ 3 2 = 0 by decide +kernel] at h
  exact h
theorem y2 (u : World) : Calls Try.prog 15 #[.string ⟨#[13]⟩, .int .i64 2, .int .u64 2] u fun e w' => e = .returned (.bool true) ∧ Below u.heap.size u w' := peeks15 _ _ _ _ y2_r y2_p u
theorem y3_r (u : World) : Calls Try.prog 13 #[.string ⟨#[13]⟩] u fun e w' => e = .returned (.tuple #[.agg #[.string ⟨#[13]⟩, .int .i64 3], .int .i64 0]) ∧ Below u.heap.size u w' := by
  have h := ownRead_any ⟨#[13]⟩ (by decide) u
  rw [show breS ⟨#[13]⟩ = ⟨#[13]⟩ by decide +kernel, show strN ⟨#[13]⟩ = 3 by decide +kernel, show strE ⟨#[13]⟩ = 0 by decide +kernel] at h
  exact h
theorem y3_p (u : World) : Calls Try.prog 29 #[.agg #[.string ⟨#[13]⟩, .int .i64 3], .int .i64 5] u fun e w' => e = .returned (.tuple #[.int .u64 20, .int .i64 0]) ∧ Below u.heap.size u w' := by
  have h := ownPeek_any ⟨#[13]⟩ 3 5 (by decide) u
  rw [show bpkX ⟨#[13]⟩ 3 5 = 20 by decide +kernel, show bakE ⟨#[13]⟩ 3 5 = 0 by decide +kernel] at h
  exact h
theorem y3 (u : World) : Calls Try.prog 15 #[.string ⟨#[13]⟩, .int .i64 5, .int .u64 20] u fun e w' => e = .returned (.bool true) ∧ Below u.heap.size u w' := peeks15 _ _ _ _ y3_r y3_p u
theorem y4_r (u : World) : Calls Try.prog 13 #[.string ⟨#[1]⟩] u fun e w' => e = .returned (.tuple #[.agg #[.string ⟨#[1]⟩, .int .i64 0], .int .i64 0]) ∧ Below u.heap.size u w' := by
  have h := ownRead_any ⟨#[1]⟩ (by decide) u
  rw [show breS ⟨#[1]⟩ = ⟨#[1]⟩ by decide +kernel, show strN ⟨#[1]⟩ = 0 by decide +kernel, show strE ⟨#[1]⟩ = 0 by decide +kernel] at h
  exact h
theorem y4_p (u : World) : Calls Try.prog 29 #[.agg #[.string ⟨#[1]⟩, .int .i64 0], .int .i64 4] u fun e w' => e = .returned (.tuple #[.int .u64 0, .int .i64 0]) ∧ Below u.heap.size u w' := by
  have h := ownPeek_any ⟨#[1]⟩ 0 4 (by decide) u
  rw [show bpkX ⟨#[1]⟩ 0 4 = 0 by decide +kernel, show bakE ⟨#[1]⟩ 0 4 = 0 by decide +kernel] at h
  exact h
theorem y4 (u : World) : Calls Try.prog 15 #[.string ⟨#[1]⟩, .int .i64 4, .int .u64 0] u fun e w' => e = .returned (.bool true) ∧ Below u.heap.size u w' := peeks15 _ _ _ _ y4_r y4_p u
theorem r13 (u : World) : Calls Try.prog 13 #[.string ⟨#[13]⟩] u fun e w' => e = .returned (.tuple #[.agg #[.string ⟨#[13]⟩, .int .i64 3], .int .i64 0]) ∧ Below u.heap.size u w' := by
  have h := ownRead_any ⟨#[13]⟩ (by decide) u
  rw [show breS ⟨#[13]⟩ = ⟨#[13]⟩ by decide +kernel, show strN ⟨#[13]⟩ = 3 by decide +kernel, show strE ⟨#[13]⟩ = 0 by decide +kernel] at h
  exact h
theorem s2 (u : World) : Calls Try.prog 16 #[.agg #[.string ⟨#[13]⟩, .int .i64 3], .int .i64 2] u fun e w' => e = .returned (.tuple #[.agg #[.string ⟨#[13]⟩, .int .i64 1], .int .i64 0]) ∧ Below u.heap.size u w' := by
  have h := ownSkip_any ⟨#[13]⟩ 3 2 (by decide) u
  rw [show bskS ⟨#[13]⟩ 3 2 = ⟨#[13]⟩ by decide +kernel, show bskL ⟨#[13]⟩ 3 2 = 1 by decide +kernel, show bskE ⟨#[13]⟩ 3 2 = 0 by decide +kernel] at h
  exact h
theorem s4 (u : World) : Calls Try.prog 16 #[.agg #[.string ⟨#[13]⟩, .int .i64 3], .int .i64 4] u fun e w' => e = .returned (.tuple #[.agg #[.string ⟨#[]⟩, .int .i64 0], .int .i64 5]) ∧ Below u.heap.size u w' := by
  have h := ownSkip_any ⟨#[13]⟩ 3 4 (by decide) u
  rw [show bskS ⟨#[13]⟩ 3 4 = ⟨#[]⟩ by decide +kernel, show bskL ⟨#[13]⟩ 3 4 = 0 by decide +kernel, show bskE ⟨#[13]⟩ 3 4 = 5 by decide +kernel] at h
  exact h
theorem rt4 (u : World) : Calls Try.prog 17 #[.agg #[.string ⟨#[13]⟩, .int .i64 4]] u fun e w' => e = .returned (.int .i64 10) ∧ Below u.heap.size u w' := by
  have h := ownRight3_any ⟨#[13]⟩ 4 (by decide) u
  rw [show brtE ⟨#[13]⟩ 4 = 10 by decide +kernel] at h
  exact h
theorem ck8 (u : World) : Calls Try.prog 18 #[.agg #[.string ⟨#[]⟩, .int .i64 0, .int .i64 8]] u fun e w' => e = .returned (.int .i64 10) ∧ Below u.heap.size u w' := by
  have h := ownCheck_any ⟨#[]⟩ 0 8 (by decide) (by decide) (by decide) u
  rw [show bch ⟨#[]⟩ 0 8 = 10 by decide +kernel] at h
  exact h

set_option maxRecDepth 100000 in
set_option maxHeartbeats 2000000 in
theorem known_any (w : World) : Calls Try.prog 3 #[] w fun e w' => e = .returned (.bool true) ∧ Below w.heap.size w w' := by
  go_enter Try.func3, Try.ntmps3
  go_wp2_with (first
    | (go_at_call 9; (with_reducible refine (p32 _).mono ?_); rintro e w1 ⟨rfl, hb1⟩; have k1 := blk_next (blk_new w 23 (at3 ⟨#[]⟩ 0 0)) hb1; obtain ⟨⟨p0, p1, p2⟩, _⟩ := blk3 k1; have l1 := blk_lt k1)
    | (go_at_call 9; (with_reducible refine (p33 _).mono ?_); rintro e w2 ⟨rfl, hb2⟩; have k1 := blk_next (blk_alloc k1 _) hb2; obtain ⟨⟨p0, p1, p2⟩, _⟩ := blk3 k1; have l1 := blk_lt k1)
    | (go_at_call 9; (with_reducible refine (p24 _).mono ?_); rintro e w3 ⟨rfl, hb3⟩; have k1 := blk_next (blk_alloc k1 _) hb3; obtain ⟨⟨p0, p1, p2⟩, _⟩ := blk3 k1; have l1 := blk_lt k1)
    | (go_at_call 9; (with_reducible refine (pm1 _).mono ?_); rintro e w4 ⟨rfl, hb4⟩; have k1 := blk_next (blk_alloc k1 _) hb4; obtain ⟨⟨p0, p1, p2⟩, _⟩ := blk3 k1; have l1 := blk_lt k1)
    | (go_at_call 10; (with_reducible refine (d10 _).mono ?_); rintro e w5 ⟨rfl, hb5⟩; have k1 := blk_next (blk_alloc k1 _) hb5; obtain ⟨⟨p0, p1, p2⟩, _⟩ := blk3 k1; have l1 := blk_lt k1)
    | (go_at_call 11; (with_reducible refine (d11 _).mono ?_); rintro e w6 ⟨rfl, hb6⟩)
    | (go_at_call 10; (with_reducible refine (e10 _).mono ?_); rintro e w7 ⟨rfl, hb7⟩)
    | (go_at_call 12; (with_reducible refine (x1 _).mono ?_); rintro e w91 ⟨rfl, rfl⟩)
    | (go_at_call 12; (with_reducible refine (x2 _).mono ?_); rintro e w92 ⟨rfl, rfl⟩)
    | (go_at_call 12; (with_reducible refine (x3 _).mono ?_); rintro e w93 ⟨rfl, rfl⟩)
    | (go_at_call 12; (with_reducible refine (x4 _).mono ?_); rintro e w94 ⟨rfl, rfl⟩)
    | (go_at_call 12; (with_reducible refine (x5 _).mono ?_); rintro e w95 ⟨rfl, rfl⟩)
    | (go_at_call 13; (with_reducible refine (r17 _).mono ?_); rintro e w13 ⟨rfl, hb13⟩)
    | (go_at_call 14; (with_reducible refine (t6 _).mono ?_); rintro e w14 ⟨rfl, hb14⟩; have kr := blk_next (blk_new w13 32 #[.string ⟨#[17, 6]⟩, .int .i64 10]) hb14; obtain ⟨q0, q1, f0, f1⟩ := blk2 kr; have lr := blk_lt kr)
    | (go_at_call 14; (with_reducible refine (t4 _).mono ?_); rintro e w15 ⟨rfl, hb15⟩; have kr := blk_next (blk2_set ⟨#[17, 6]⟩ 4 kr) hb15; obtain ⟨q0, q1, f0, f1⟩ := blk2 kr; have lr := blk_lt kr)
    | (go_at_call 14; (with_reducible refine (t1 _).mono ?_); rintro e w16 ⟨rfl, hb16⟩; have kr := blk_next (blk2_set ⟨#[17, 6]⟩ 0 kr) hb16; obtain ⟨q0, q1, f0, f1⟩ := blk2 kr; have lr := blk_lt kr)
    | (go_at_call 15; (with_reducible refine (y1 _).mono ?_); rintro e w17 ⟨rfl, hb17⟩; have kr := blk_next kr hb17; obtain ⟨q0, q1, f0, f1⟩ := blk2 kr; have lr := blk_lt kr)
    | (go_at_call 15; (with_reducible refine (y2 _).mono ?_); rintro e w18 ⟨rfl, hb18⟩; have kr := blk_next kr hb18; obtain ⟨q0, q1, f0, f1⟩ := blk2 kr; have lr := blk_lt kr)
    | (go_at_call 15; (with_reducible refine (y3 _).mono ?_); rintro e w19 ⟨rfl, hb19⟩; have kr := blk_next kr hb19; obtain ⟨q0, q1, f0, f1⟩ := blk2 kr; have lr := blk_lt kr)
    | (go_at_call 15; (with_reducible refine (y4 _).mono ?_); rintro e w20 ⟨rfl, hb20⟩; have kr := blk_next kr hb20; obtain ⟨q0, q1, f0, f1⟩ := blk2 kr; have lr := blk_lt kr)
    | (go_at_call 13; (with_reducible refine (r13 _).mono ?_); rintro e w21 ⟨rfl, hb21⟩; have kr := blk_next kr hb21; obtain ⟨q0, q1, f0, f1⟩ := blk2 kr; have lr := blk_lt kr)
    | (go_at_call 16; (with_reducible refine (s2 _).mono ?_); rintro e w22 ⟨rfl, hb22⟩; have kr := blk_next (blk2_set ⟨#[13]⟩ 3 kr) hb22; obtain ⟨q0, q1, f0, f1⟩ := blk2 kr; have lr := blk_lt kr)
    | (go_at_call 16; (with_reducible refine (s4 _).mono ?_); rintro e w23 ⟨rfl, hb23⟩; have kx := blk_next (blk_new w22 32 #[.string ⟨#[13]⟩, .int .i64 1]) hb23; obtain ⟨x0, x1, _⟩ := blk2 kx)
    | (go_at_call 17; (with_reducible refine (rt4 _).mono ?_); rintro e w24 ⟨rfl, hb24⟩)
    | (go_at_call 18; (with_reducible refine (ck8 _).mono ?_); rintro e w25 ⟨rfl, hb25⟩)
    | (go_at_call 19; (with_reducible refine (awake_any _).mono ?_); rintro e w26 ⟨rfl, hb26⟩))
  go_ret
  have b1 := below_call (below_box (Below.refl w.heap.size w) _) hb1
  have b4 := below_call (below_box (below_call (below_box (below_call (below_box b1 _) hb2) _) hb3) _) hb4
  have b13 := below_call (below_call (below_call (below_call (below_box b4 _) hb5) hb6) hb7) hb13
  have b14 := below_call (below_box b13 _) hb14
  have l13 := b13.size
  have b16 := below_call (below2 (below_call (below2 b14 l13 _ _) hb15) l13 _ _) hb16
  have b21 := below_call (below_call (below_call (below_call (below_call b16 hb17) hb18) hb19) hb20) hb21
  have b22 := below_call (below2 b21 l13 _ _) hb22
  have b26 := below_call (below_call (below_call (below_call (below_box b22 _) hb23) hb24) hb25) hb26
  exact ⟨rfl, b26⟩
end Go.Proofs.Yteopglkehlckoaa
