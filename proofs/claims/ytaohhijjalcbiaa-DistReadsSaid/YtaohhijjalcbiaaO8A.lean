/-
  Package dist: sizes, widths, points; slices that are equal.
-/
import Derived.Test.YtaohhijjalcbiaaD8M
import Derived.Test.YtaohhijjalcbiaaBits
import Derived.Test.YtaohhijjalcbiaaSameL
import Derived.Test.YtaohhijjalcbiaaMem
import Derived.BigQuiet
import Derived.Deep.RegionHeld3
import Derived.OneCell
namespace Go.Proofs.Ytaohhijjalcbiaa
open Go.ChangeShapes Go.WideShapes Go.ChangeAt Go.RowKit
set_option linter.unusedVariables false
set_option linter.unusedSimpArgs false

theorem bel_call {a u w' : World} (h : Below a.heap.size a u) (hb : Below u.heap.size u w') : Below a.heap.size a w' := h.trans (hb.mono h.size)
theorem bel_box {a w : World} (h : Below a.heap.size a w) (o : Obj) : Below a.heap.size a (w.alloc o) := h.alloc h.size o

/-- probabilities in memory -/
def Prb (w : World) (A : Option Addr) (n : Nat) (ps : List Int) : Prop := ps.length = n ∧ n ≤ 1000000 ∧ IntsAt w w.heap.size A ps
theorem Prb.below {w w' : World} {A : Option Addr} {n : Nat} {ps : List Int} (h : Prb w A n ps) (hb : Below w.heap.size w w') : Prb w' A n ps := ⟨h.1, h.2.1, (h.2.2.below hb).more hb.size⟩
theorem Prb.alloc {w : World} {A : Option Addr} {n : Nat} {ps : List Int} (h : Prb w A n ps) (o : Obj) : Prb (w.alloc o) A n ps := h.below (bel_box (Below.refl _ _) o)

theorem pow_wrap8 {L : Nat} (h2 : L ≤ 12) : wrap64 ((2 : Int) ^ L) = 2 ^ L := by
  have a := two12 h2
  have b := pow_pos' L
  generalize (2 : Int) ^ L = S at *
  unfold wrap64; omega
/-- how many points a distribution should have -/
def sizeD (log : Int) : Int := if log < 0 ∨ 12 < log then 0 else 2 ^ log.toNat
theorem size_c (log : Int) (A : Option Addr) (n cap : Nat) (w : World) :
    Calls Try.prog 13 #[.agg #[.int .i64 log, .slice A n cap]] w fun e w' => e = .returned (.int .i64 (sizeD log)) ∧ Below w.heap.size w w' := by
  unfold sizeD
  by_cases h1 : log < 0
  · rw [if_pos (by omega)]
    go_enter Try.func13, Try.ntmps13
    go_wp2
    go_ret
    exact ⟨rfl, bel_box (Below.refl _ _) _⟩
  · by_cases h2 : 12 < log
    · rw [if_pos (by omega)]
      go_enter Try.func13, Try.ntmps13
      go_wp2
      go_ret
      exact ⟨rfl, bel_box (Below.refl _ _) _⟩
    · rw [if_neg (by omega)]
      obtain ⟨L, rfl⟩ : ∃ L : Nat, log = L := ⟨log.toNat, by omega⟩
      rw [Int.toNat_natCast]
      have hw := pow_wrap8 (L := L) (by omega)
      obtain ⟨S, hS⟩ : ∃ S, (2 : Int) ^ L = S := ⟨_, rfl⟩
      rw [hS]
      rw [show (wrap64 ((2 : Int) ^ L) = 2 ^ L) = (wrap64 ((2 : Int) ^ L) = S) by rw [← hS]] at hw
      clear hS
      go_enter Try.func13, Try.ntmps13
      go_wp2
      go_ret
      exact ⟨rfl, bel_box (Below.refl _ _) _⟩
theorem rSize_c (log : Int) (A : Option Addr) (n cap : Nat) (w : World) :
    Calls Try.prog 14 #[.agg #[.int .i64 log, .slice A n cap]] w fun e w' => e = .returned (.int .i64 (sizeD log)) ∧ Below w.heap.size w w' := by
  unfold sizeD
  by_cases h1 : log < 0
  · rw [if_pos (by omega)]
    go_enter Try.func14, Try.ntmps14
    go_wp2
    go_ret
    exact ⟨rfl, bel_box (Below.refl _ _) _⟩
  · by_cases h2 : 12 < log
    · rw [if_pos (by omega)]
      go_enter Try.func14, Try.ntmps14
      go_wp2
      go_ret
      exact ⟨rfl, bel_box (Below.refl _ _) _⟩
    · rw [if_neg (by omega)]
      obtain ⟨L, rfl⟩ : ∃ L : Nat, log = L := ⟨log.toNat, by omega⟩
      rw [Int.toNat_natCast]
      have hw := pow_wrap8 (L := L) (by omega)
      obtain ⟨S, hS⟩ : ∃ S, (2 : Int) ^ L = S := ⟨_, rfl⟩
      rw [hS]
      rw [show (wrap64 ((2 : Int) ^ L) = 2 ^ L) = (wrap64 ((2 : Int) ^ L) = S) by rw [← hS]] at hw
      clear hS
      go_enter Try.func14, Try.ntmps14
      go_wp2
      go_ret
      exact ⟨rfl, bel_box (Below.refl _ _) _⟩

theorem width_c (left : Int) (h1 : 1 ≤ left) (h2 : left ≤ 4096) (w : World) :
    Calls Try.prog 69 #[.int .i64 left] w fun e w' => e = .returned (.agg #[.int .i64 (wb left : Nat), .int .i64 (wt left)]) ∧ Below w.heap.size w w' := by
  obtain ⟨b, H, e1, e2, e3, e4, e5, e6, e7, e8, e9, e10, e11, e12⟩ := wb_all h1 h2
  have hB : ∀ u, Calls Try.prog 87 #[.int .i64 (left + 1)] u fun e w' => e = .returned (.int .i64 ((b + 1 : Nat) : Int)) ∧ u = w' := fun u => by
    have k := bits_any (left + 1) (by omega) (by omega) u
    rwa [show nb (left + 1) = b + 1 from e1] at k
  have hw : wrap64 ((2 : Int) ^ (b + 1)) = 2 * H := by
    have := pow_cast (b + 1)
    rw [e5] at this
    unfold wrap64; omega
  rw [e1, e8]
  clear e1 e4 e5 e8 e9 e10
  have hb1 : 0 ≤ ((b + 1 : Nat) : Int) := by omega
  have hb2 : ((b + 1 : Nat) : Int) ≤ 13 := by omega
  have hbt : ((b + 1 : Nat) : Int).toNat = b + 1 := by omega
  generalize hbb : ((b + 1 : Nat) : Int) = bb at *
  have hw' : wrap64 ((2 : Int) ^ bb.toNat) = 2 * H := by rw [hbt]; exact hw
  clear hw hbb hbt
  go_enter Try.func69, Try.ntmps69
  go_wp2_with (go_at_call 87; (with_reducible refine (hB _).mono ?_); rintro e w' ⟨rfl, rfl⟩)
  have ee : (2 * (H : Int) - 1 - (left + 1)) = 2 * H - 2 - left := by omega
  rw [ee]
  exact bodyPost_ret (v := .agg #[.int .i64 bb, .int .i64 (2 * H - 2 - left)]) (by simp [results, Try.results69, go_sem]) rfl ⟨rfl, bel_box (Below.refl _ _) _⟩
theorem half_c (b : Nat) (t : Int) (h1 : 1 ≤ b) (h2 : b ≤ 13) (w : World) :
    Calls Try.prog 70 #[.agg #[.int .i64 (b : Int), .int .i64 t]] w fun e w' => e = .returned (.int .i64 (2 ^ (b - 1))) ∧ Below w.heap.size w w' := by
  obtain ⟨k, rfl⟩ : ∃ k, b = k + 1 := ⟨b - 1, by omega⟩
  rw [Nat.add_sub_cancel]
  have hw := pow_wrap8 (L := k) (by omega)
  have hbt : ((k + 1 : Nat) : Int).toNat - 1 = k := by omega
  obtain ⟨S, hS⟩ : ∃ S, (2 : Int) ^ k = S := ⟨_, rfl⟩
  rw [hS]
  rw [hS] at hw
  have hb1 : 1 ≤ ((k + 1 : Nat) : Int) := by omega
  have hb2 : ((k + 1 : Nat) : Int) ≤ 13 := by omega
  generalize ((k + 1 : Nat) : Int) = bb at *
  have hw' : wrap64 ((2 : Int) ^ (bb.toNat - 1)) = S := by rw [hbt, hS, hw]
  clear hw hbt hS
  go_enter Try.func70, Try.ntmps70
  go_wp2
  go_ret
  exact ⟨by show Ending.returned (.int .i64 (wrap64 (2 ^ (bb.toNat - 1)))) = _; rw [hw'], bel_box (Below.refl _ _) _⟩
end Go.Proofs.Ytaohhijjalcbiaa
