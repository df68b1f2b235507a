/-
  The checksum's words, and the project's small functions: turn, round, number, first, stir, filled.
-/
import Derived.Test.YtgiihdgkejhbeaaFieldIn
import Derived.BigQuiet
import Derived.Deep.QuietTactic
namespace Go.Proofs.Ytgiihdgkejhbeaa
open Go.ChangeShapes Go.WideShapes Go.ChangeAt Go.RowKit
set_option linter.unusedVariables false

/-- n rotated to the left by k bits -/
def tn (x : Int) (k : Nat) : Int := bits .or .u64 (IntKind.u64.wrap (x * 2 ^ k)) (x / 2 ^ (64 - k))
def rd (a x : Int) : Int := IntKind.u64.wrap (tn (IntKind.u64.wrap (a + IntKind.u64.wrap (x * 14029467366897019727))) 31 * 11400714785074694791)
def mg (n l : Int) : Int := IntKind.u64.wrap (IntKind.u64.wrap (bits .xor .u64 n (rd 0 l) * 11400714785074694791) + 9650029242287828579)
def st8 (n x : Int) : Int := IntKind.u64.wrap (IntKind.u64.wrap (tn (bits .xor .u64 n (rd 0 x)) 27 * 11400714785074694791) + 9650029242287828579)
def st4 (n x : Int) : Int := IntKind.u64.wrap (IntKind.u64.wrap (tn (bits .xor .u64 n (IntKind.u64.wrap (x * 11400714785074694791))) 23 * 14029467366897019727) + 1609587929392839161)
def st1 (n x : Int) : Int := IntKind.u64.wrap (tn (bits .xor .u64 n (IntKind.u64.wrap (x * 2870177450012600261))) 11 * 11400714785074694791)
def sr1 (n : Int) : Int := IntKind.u64.wrap (bits .xor .u64 n (n / 8589934592) * 14029467366897019727)
def sr2 (n : Int) : Int := IntKind.u64.wrap (bits .xor .u64 n (n / 536870912) * 1609587929392839161)
def sr3 (n : Int) : Int := bits .xor .u64 n (n / 4294967296)
def stirW (n : Int) : Int := sr3 (sr2 (sr1 n))
/-- four lanes -/
structure L4 where
  a : Int
  b : Int
  c : Int
  d : Int
def fst (s : Int) : L4 := ⟨IntKind.u64.wrap (IntKind.u64.wrap (s + 11400714785074694791) + 14029467366897019727), IntKind.u64.wrap (s + 14029467366897019727), s, IntKind.u64.wrap (s - 11400714785074694791)⟩
def mixL (L : L4) (l : List UInt8) : L4 := ⟨rd L.a (nuB (l.take 8) : Nat), rd L.b (nuB ((l.drop 8).take 8) : Nat), rd L.c (nuB ((l.drop 16).take 8) : Nat), rd L.d (nuB ((l.drop 24).take 8) : Nat)⟩
def mgd (L : L4) : Int :=
  mg (mg (mg (mg (IntKind.u64.wrap (IntKind.u64.wrap (IntKind.u64.wrap (IntKind.u64.wrap (0 + tn L.a 1) + tn L.b 7) + tn L.c 12) + tn L.d 18)) L.a) L.b) L.c) L.d
def tk : Nat → Int → List UInt8 → Int
  | 0, n, _ => n
  | f + 1, n, l =>
    if 8 ≤ l.length then tk f (st8 n (nuB (l.take 8) : Nat)) (l.drop 8)
    else if 4 ≤ l.length then tk f (st4 n (nuB (l.take 4) : Nat)) (l.drop 4)
    else if 0 < l.length then tk f (st1 n (nuB (l.take 1) : Nat)) (l.drop 1)
    else n

theorem below_drewN {B : Nat} {a w : World} (h : Below B a w) (n : Nat) : Below B a (w.drewN n) := ⟨h.os, h.tape, h.output, h.size, h.block⟩

theorem turn1 (x : Int) (w : World) : Calls Try.prog 48 #[.int .u64 x, .int .i64 1] w fun e w' => e = .returned (.int .u64 (tn x 1)) ∧ Below w.heap.size w w' := by
  rw [show tn x 1 = bits .or .u64 (IntKind.u64.wrap (x * 2)) (x / 9223372036854775808) from rfl]
  go_enter Try.func48, Try.ntmps48
  go_wp2
  go_quiet (fail)
  go_wp2
  go_ret
  exact ⟨rfl, below_drewN (Below.refl _ _) _⟩
theorem turn7 (x : Int) (w : World) : Calls Try.prog 48 #[.int .u64 x, .int .i64 7] w fun e w' => e = .returned (.int .u64 (tn x 7)) ∧ Below w.heap.size w w' := by
  rw [show tn x 7 = bits .or .u64 (IntKind.u64.wrap (x * 128)) (x / 144115188075855872) from rfl]
  go_enter Try.func48, Try.ntmps48
  go_wp2
  go_quiet (fail)
  go_wp2
  go_ret
  exact ⟨rfl, below_drewN (Below.refl _ _) _⟩
theorem turn12 (x : Int) (w : World) : Calls Try.prog 48 #[.int .u64 x, .int .i64 12] w fun e w' => e = .returned (.int .u64 (tn x 12)) ∧ Below w.heap.size w w' := by
  rw [show tn x 12 = bits .or .u64 (IntKind.u64.wrap (x * 4096)) (x / 4503599627370496) from rfl]
  go_enter Try.func48, Try.ntmps48
  go_wp2
  go_quiet (fail)
  go_wp2
  go_ret
  exact ⟨rfl, below_drewN (Below.refl _ _) _⟩
theorem turn18 (x : Int) (w : World) : Calls Try.prog 48 #[.int .u64 x, .int .i64 18] w fun e w' => e = .returned (.int .u64 (tn x 18)) ∧ Below w.heap.size w w' := by
  rw [show tn x 18 = bits .or .u64 (IntKind.u64.wrap (x * 262144)) (x / 70368744177664) from rfl]
  go_enter Try.func48, Try.ntmps48
  go_wp2
  go_quiet (fail)
  go_wp2
  go_ret
  exact ⟨rfl, below_drewN (Below.refl _ _) _⟩
theorem turn31 (x : Int) (w : World) : Calls Try.prog 48 #[.int .u64 x, .int .i64 31] w fun e w' => e = .returned (.int .u64 (tn x 31)) ∧ Below w.heap.size w w' := by
  rw [show tn x 31 = bits .or .u64 (IntKind.u64.wrap (x * 2147483648)) (x / 8589934592) from rfl]
  go_enter Try.func48, Try.ntmps48
  go_wp2
  go_quiet (fail)
  go_wp2
  go_ret
  exact ⟨rfl, below_drewN (Below.refl _ _) _⟩
theorem turn27 (x : Int) (w : World) : Calls Try.prog 48 #[.int .u64 x, .int .i64 27] w fun e w' => e = .returned (.int .u64 (tn x 27)) ∧ Below w.heap.size w w' := by
  rw [show tn x 27 = bits .or .u64 (IntKind.u64.wrap (x * 134217728)) (x / 137438953472) from rfl]
  go_enter Try.func48, Try.ntmps48
  go_wp2
  go_quiet (fail)
  go_wp2
  go_ret
  exact ⟨rfl, below_drewN (Below.refl _ _) _⟩
theorem turn23 (x : Int) (w : World) : Calls Try.prog 48 #[.int .u64 x, .int .i64 23] w fun e w' => e = .returned (.int .u64 (tn x 23)) ∧ Below w.heap.size w w' := by
  rw [show tn x 23 = bits .or .u64 (IntKind.u64.wrap (x * 8388608)) (x / 2199023255552) from rfl]
  go_enter Try.func48, Try.ntmps48
  go_wp2
  go_quiet (fail)
  go_wp2
  go_ret
  exact ⟨rfl, below_drewN (Below.refl _ _) _⟩
theorem turn11 (x : Int) (w : World) : Calls Try.prog 48 #[.int .u64 x, .int .i64 11] w fun e w' => e = .returned (.int .u64 (tn x 11)) ∧ Below w.heap.size w w' := by
  rw [show tn x 11 = bits .or .u64 (IntKind.u64.wrap (x * 2048)) (x / 9007199254740992) from rfl]
  go_enter Try.func48, Try.ntmps48
  go_wp2
  go_quiet (fail)
  go_wp2
  go_ret
  exact ⟨rfl, below_drewN (Below.refl _ _) _⟩

theorem below_call {a u w' : World} (h : Below a.heap.size a u) (hb : Below u.heap.size u w') : Below a.heap.size a w' := h.trans (hb.mono h.size)
theorem below_box {a w : World} (h : Below a.heap.size a w) (o : Obj) : Below a.heap.size a (w.alloc o) := h.alloc h.size o
theorem blk_next {u w' : World} {g : Nat} {t : TypeId} {cs : Array Value} (h : Blk u g t cs) (hb : Below u.heap.size u w') : Blk w' g t cs := blk_below h hb (blk_lt h)

theorem round_any (a x : Int) (w : World) : Calls Try.prog 45 #[.int .u64 a, .int .u64 x] w fun e w' => e = .returned (.int .u64 (rd a x)) ∧ Below w.heap.size w w' := by
  have hT := fun y u => turn31 y u
  go_enter Try.func45, Try.ntmps45
  go_wp2_with (go_at_call 48; (with_reducible refine (hT _ _).mono ?_); rintro e w1 ⟨rfl, hb1⟩)
  go_ret
  exact ⟨rfl, hb1⟩
theorem number_in (s : ByteArray) (z : Nat) (hs : s.size ≤ maxLen) (h1 : 1 ≤ z) (h2 : z ≤ 8) (h3 : z ≤ s.size) (w : World) :
    Calls Try.prog 46 #[.string s, .int .i64 (z : Int)] w fun e w' => e = .returned (.int .u64 (nuB (s.data.toList.take z) : Nat)) ∧ Below w.heap.size w w' := by
  have hR := fun u => read_ok s 0 z hs h1 h2 (by omega) u
  rw [List.drop_zero] at hR
  go_enter Try.func46, Try.ntmps46
  go_wp2_with (go_at_call 50; (refine (hR _).mono ?_); rintro e w1 ⟨rfl, hb1⟩)
  go_ret
  exact ⟨rfl, below_box hb1 _⟩
theorem first_any (s : Int) (w : World) : Calls Try.prog 33 #[.int .u64 s] w fun e w' => e = .returned (.agg #[.int .u64 (fst s).a, .int .u64 (fst s).b, .int .u64 (fst s).c, .int .u64 (fst s).d]) ∧ Below w.heap.size w w' := by
  go_enter Try.func33, Try.ntmps33
  go_wp2
  exact bodyPost_ret (v := .agg #[.int .u64 (fst s).a, .int .u64 (fst s).b, .int .u64 (fst s).c, .int .u64 (fst s).d]) (by simp [results, Try.results33, go_sem, fst]) rfl ⟨rfl, below_box (Below.refl _ _) _⟩
theorem stir_any (n : Int) (w : World) : Calls Try.prog 38 #[.int .u64 n] w fun e w' => e = .returned (.int .u64 (stirW n)) ∧ w = w' := by
  go_enter Try.func38, Try.ntmps38
  go_wp2
  go_ret
  exact ⟨rfl, rfl⟩
/-- a state's eight cells -/
def stv (L : L4) (t : Int) (s : ByteArray) (d : Int) : Value := .agg #[.int .u64 L.a, .int .u64 L.b, .int .u64 L.c, .int .u64 L.d, .int .i64 t, .string s, .int .u64 d]
theorem filled_any (a b c d t : Int) (s : ByteArray) (sd : Int) (w : World) : Calls Try.prog 36 #[.agg #[.int .u64 a, .int .u64 b, .int .u64 c, .int .u64 d, .int .i64 t, .string s, .int .u64 sd]] w fun e w' => e = .returned (.bool (decide (32 ≤ t))) ∧ Below w.heap.size w w' := by
  go_enter Try.func36, Try.ntmps36
  go_wp2
  go_ret
  exact ⟨rfl, below_box (Below.refl _ _) _⟩
end Go.Proofs.Ytgiihdgkejhbeaa
