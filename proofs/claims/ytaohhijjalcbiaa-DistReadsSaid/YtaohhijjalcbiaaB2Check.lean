/-
  The reference's writers of bits: Check, and one bit more.
-/
import Derived.Test.YtaohhijjalcbiaaConv
import Derived.Test.YtaohhijjalcbiaaProg
import Derived.Test.YtaohhijjalcbiaaBytes
import Derived.WalkKit
import Derived.ProofKit
import Derived.OpenShut
import Derived.Lib.Hide
import Derived.Laws.IdiomStrings
namespace Go.Proofs.Ytaohhijjalcbiaa
open Go.ChangeShapes Go.WideShapes Go.ChangeAt Go.RowKit
set_option linter.unusedVariables false

theorem check_bad (S : ByteArray) (P N : Int) (h : N < 0 ∨ 7 < N ∨ P < 0) (w : World) :
    Calls Try.prog 77 #[.agg #[.string S, .int .i64 P, .int .i64 N]] w fun e w' => e = .returned (.int .i64 2) ∧ Below w.heap.size w w' := by
  by_cases h1 : N < 0
  · go_enter Try.func77, Try.ntmps77
    go_wp2
    go_ret
    exact ⟨rfl, (Below.refl _ _).alloc (Nat.le_refl _) _⟩
  · by_cases h2 : 7 < N
    · go_enter Try.func77, Try.ntmps77
      go_wp2
      go_ret
      exact ⟨rfl, (Below.refl _ _).alloc (Nat.le_refl _) _⟩
    · have h3 : P < 0 := by omega
      go_enter Try.func77, Try.ntmps77
      go_wp2
      go_ret
      exact ⟨rfl, (Below.refl _ _).alloc (Nat.le_refl _) _⟩

theorem check_some (S : ByteArray) (P N p : Int) (n : Nat) (r : Int) (hN : N = n) (hp : (2 : Int) ^ n = p) (h0 : 0 ≤ N) (h1 : N ≤ 7) (h2 : 0 ≤ P) (hp0 : 1 ≤ p) (hp1 : p ≤ 128) (hS : S.size ≤ 9223372036854775807)
    (h : (p ≤ P ∧ r = 2) ∨ (P < p ∧ 1048576 < S.size ∧ r = 4) ∨ (P < p ∧ S.size ≤ 1048576 ∧ r = 0)) (w : World) :
    Calls Try.prog 77 #[.agg #[.string S, .int .i64 P, .int .i64 N]] w fun e w' => e = .returned (.int .i64 r) ∧ Below w.heap.size w w' := by
  subst hN
  rcases h with ⟨h3, rfl⟩ | ⟨h3, h4, rfl⟩ | ⟨h3, h4, rfl⟩
  all_goals
    go_enter Try.func77, Try.ntmps77
    go_wp2
    go_ret
    exact ⟨rfl, (Below.refl _ _).alloc (Nat.le_refl _) _⟩
/-- what Check answers -/
def chk (S : ByteArray) (P N : Int) : Int :=
  if N < 0 ∨ 7 < N ∨ P < 0 ∨ (2 : Int) ^ N.toNat ≤ P then 2 else if 1048576 < S.size then 4 else 0

theorem check_any (S : ByteArray) (P N : Int) (hS : S.size ≤ 9223372036854775807) (w : World) :
    Calls Try.prog 77 #[.agg #[.string S, .int .i64 P, .int .i64 N]] w fun e w' => e = .returned (.int .i64 (chk S P N)) ∧ Below w.heap.size w w' := by
  by_cases h : N < 0 ∨ 7 < N ∨ P < 0
  · have e : chk S P N = 2 := by unfold chk; rw [if_pos (by omega)]
    rw [e]
    exact check_bad S P N h w
  · obtain ⟨n, rfl⟩ := Int.eq_ofNat_of_zero_le (show 0 ≤ N by omega)
    have hp0 : 1 ≤ (2 : Int) ^ n := by rw [← pow_cast]; have := Nat.two_pow_pos n; omega
    have hp1 : (2 : Int) ^ n ≤ 128 := by
      rw [← pow_cast]
      have : 2 ^ n ≤ 2 ^ 7 := Nat.pow_le_pow_right (by omega) (by omega)
      omega
    refine check_some S P n _ n _ rfl rfl (by omega) (by omega) (by omega) hp0 hp1 hS ?_ w
    have et : ((n : Int)).toNat = n := by omega
    by_cases h2 : (2 : Int) ^ n ≤ P
    · exact .inl ⟨h2, by unfold chk; rw [et, if_pos (by omega)]⟩
    · by_cases h3 : 1048576 < S.size
      · exact .inr (.inl ⟨by omega, h3, by unfold chk; rw [et, if_neg (by omega), if_pos h3]⟩)
      · exact .inr (.inr ⟨by omega, by omega, by unfold chk; rw [et, if_neg (by omega), if_neg h3]⟩)

theorem one_back2 (w : World) (A B : Obj) (c : Int) (h0 : 0 ≤ c) (h1 : c < 256) : (convert 128 9 (.slice (some ⟨w.heap.size + 1 + 1, 0, none⟩) 1 1)).run Try.prog (((w.alloc A).alloc B).alloc (.cells #[.int .u8 c] 5)) =
    .ok (.string ⟨[UInt8.ofNat c.toNat].toArray⟩) (((w.alloc A).alloc B).alloc (.cells #[.int .u8 c] 5)) := by
  have h := one_back ((w.alloc A).alloc B) c h0 h1
  have e : ((w.alloc A).alloc B).heap.size = w.heap.size + 1 + 1 := by simp
  rw [e] at h
  exact h

theorem bit_less (S : ByteArray) (P b p : Int) (n : Nat) (hn : n < 7) (hp : (2 : Int) ^ n = p) (hp0 : 1 ≤ p) (hp1 : p ≤ 128) (h0 : 0 ≤ P) (h1 : P < p) (hb0 : 0 ≤ b) (hb1 : b ≤ 1) (q : Int) (hq : b * p = q) (hq0 : 0 ≤ q) (hq1 : q ≤ p) (w : World) :
    Calls Try.prog 78 #[.agg #[.string S, .int .i64 P, .int .i64 (n : Int)], .int .i64 b] w fun e w' => e = .returned (.agg #[.string S, .int .i64 (P + q), .int .i64 ((n : Int) + 1)]) ∧ Below w.heap.size w w' := by
  go_enter Try.func78, Try.ntmps78
  go_wp2
  exact bodyPost_ret (v := .agg #[.string S, .int .i64 (P + q), .int .i64 ((n : Int) + 1)]) (by simp [results, Try.results78, go_sem]) rfl ⟨rfl, ((Below.refl _ _).alloc (Nat.le_refl _) _).alloc (by simp) _⟩

theorem bit_full (S : ByteArray) (P b : Int) (h0 : 0 ≤ P) (h1 : P < 128) (hb0 : 0 ≤ b) (hb1 : b ≤ 1) (hS : S.size ≤ 1048576) (w : World) :
    Calls Try.prog 78 #[.agg #[.string S, .int .i64 P, .int .i64 7], .int .i64 b] w fun e w' => e = .returned (.agg #[.string (S ++ ⟨[UInt8.ofNat (P + b * 128).toNat].toArray⟩), .int .i64 0, .int .i64 0]) ∧ Below w.heap.size w w' := by
  have hcv := one_back2 w
  have hc0 : 0 ≤ P + b * 128 := by omega
  have hc1 : P + b * 128 < 256 := by omega
  have hw : IntKind.u8.wrap (P + b * 128) = P + b * 128 := IntWalk.u8_in _ ⟨by omega, by omega⟩
  go_enter Try.func78, Try.ntmps78
  go_wp2
  exact bodyPost_ret (v := .agg #[.string (S ++ ⟨[UInt8.ofNat (P + b * 128).toNat].toArray⟩), .int .i64 0, .int .i64 0]) (by simp [results, Try.results78, go_sem]) rfl ⟨rfl, (((Below.refl _ _).alloc (Nat.le_refl _) _).alloc (by simp) _).alloc (by simp; omega) _⟩
end Go.Proofs.Ytaohhijjalcbiaa
