/-
  XxhApart: the law's walk, for all numbers.
-/
import Derived.Test.YtgiihdgkejhbeaaInj
import Derived.Test.YtgiihdgkejhbeaaModK
import Derived.Test.YtgiihdgkejhbeaaConv
namespace Go.Proofs.Ytgiihdgkejhbeaa
open Go.ChangeShapes Go.WideShapes Go.ChangeAt Go.RowKit
set_option linter.unusedVariables false

theorem nuB_inj : ∀ (l m : List UInt8), l.length = m.length → nuB l = nuB m → l = m
  | [], [], _, _ => rfl
  | [], _ :: _, h, _ => by simp at h
  | _ :: _, [], h, _ => by simp at h
  | x :: l, y :: m, h, e => by
    simp only [nuB] at e
    have hx := x.toNat_lt
    have hy := y.toNat_lt
    have e1 : x.toNat = y.toNat := by omega
    have e2 : nuB l = nuB m := by omega
    rw [UInt8.toNat_inj.1 e1, nuB_inj l m (by simpa using h) e2]
theorem seed_short (e : Int) (X : ByteArray) (hX : X.size < 32) : seedW e X = stirW (tk X.size (IntKind.u64.wrap (IntKind.u64.wrap (e + 2870177450012600261) + IntKind.u64.wrap X.size)) X.data.toList) := by
  have hl : ¬ 32 ≤ X.data.toList.length := by show ¬ 32 ≤ X.size; omega
  have hA : adT ⟨#[]⟩ X = X := by
    show (⟨(tl (0 + X.size) X.data.toList).toArray⟩ : ByteArray) = X
    rw [tl_end _ _ hl, ba_list]
  unfold seedW sumW
  rw [hA, if_neg (by omega)]
theorem U_nuB (l : List UInt8) (h : l.length ≤ 8) : U (nuB l : Nat) := by
  have h1 := nuB_lt l
  have h2 : 2 ^ (8 * l.length) ≤ 18446744073709551616 := pow_le64 (by omega)
  exact ⟨by omega, by omega⟩
theorem seed_inj (e : Int) (z : Nat) (hz : z = 1 ∨ z = 4 ∨ z = 8) (X Y : ByteArray) (hX : X.size = z) (hY : Y.size = z) (h : seedW e X = seedW e Y) : X = Y := by
  have lX : X.data.toList.length = z := hX
  have lY : Y.data.toList.length = z := hY
  rw [seed_short e X (by omega), seed_short e Y (by omega), hX, hY] at h
  have key : nuB X.data.toList = nuB Y.data.toList := by
    rcases hz with rfl | rfl | rfl
    · rw [tk_1 0 _ _ (by omega) (by omega) (by omega), tk_1 0 _ _ (by omega) (by omega) (by omega), List.take_of_length_le (by omega), List.take_of_length_le (by omega)] at h
      have h2 := st1_inj _ (U_wrap _) (U_nuB _ (by omega)) (U_nuB _ (by omega)) (stir_inj (U_wrap _) (U_wrap _) h)
      omega
    · rw [tk_4 3 _ _ (by omega) (by omega), tk_4 3 _ _ (by omega) (by omega), List.take_of_length_le (by omega), List.take_of_length_le (by omega), List.drop_of_length_le (by omega), List.drop_of_length_le (by omega), tk_0, tk_0] at h
      have h2 := st4_inj _ (U_wrap _) (U_nuB _ (by omega)) (U_nuB _ (by omega)) (stir_inj (U_wrap _) (U_wrap _) h)
      omega
    · rw [tk_8 7 _ _ (by omega), tk_8 7 _ _ (by omega), List.take_of_length_le (by omega), List.take_of_length_le (by omega), List.drop_of_length_le (by omega), List.drop_of_length_le (by omega), tk_0, tk_0] at h
      have h2 := st8_inj _ (U_wrap _) (U_nuB _ (by omega)) (U_nuB _ (by omega)) (stir_inj (U_wrap _) (U_wrap _) h)
      omega
  have hl := nuB_inj _ _ (by rw [lX, lY]) key
  rw [← ba_list X, hl, ba_list]

set_option maxRecDepth 100000 in
set_option maxHeartbeats 2000000 in
theorem apart_law (a b v e k : Int) (z : Nat) (w : World) (hk : (k = 0 ∧ z = 1) ∨ (k = 1 ∧ z = 4) ∨ (k = 2 ∧ z = 8))
    (hEnd : ∀ X Y : ByteArray, X.size = z → Y.size = z → ∃ x1 x2 x3 : Int,
      (∀ u, Calls Try.prog 12 #[.string X, .int .u64 e] u fun r w' => r = .returned (.int .u64 x1) ∧ Below u.heap.size u w') ∧
      (∀ u, Calls Try.prog 12 #[.string Y, .int .u64 e] u fun r w' => r = .returned (.int .u64 x2) ∧ Below u.heap.size u w') ∧
      (x1 == x2) = (X.toList == Y.toList) ∧
      (∀ u, Calls Try.prog 14 #[.string X] u fun r w' => r = .returned (.int .u32 (IntKind.u32.wrap x3)) ∧ Below u.heap.size u w') ∧
      (∀ u, Calls Try.prog 10 #[.string X] u fun r w' => r = .returned (.int .u64 x3) ∧ Below u.heap.size u w') ∧ U x3)
    (hm : ∀ u, Calls Try.prog 24 #[.int .i64 v, .int .i64 3] u fun e w' => e = .returned (.int .i64 k) ∧ u = w') :
    Calls Try.prog 7 #[.int .u64 a, .int .u64 b, .int .i64 v, .int .u64 e] w fun r w' => r = .returned (.bool true) ∧ Below w.heap.size w w' := by
  have hz8 : z ≤ 8 := by omega
  go_enter Try.func7, Try.ntmps7
  go_upto_region 2 with (go_at_call 5; (with_reducible refine (known_any _).mono ?_); rintro r w1 ⟨rfl, hb1⟩)
  go_cut [10] from 14 to 67 (fun sz wx => sz = .int .i64 (z : Int) ∧ Below w.heap.size w wx)
  case first =>
    rcases hk with ⟨rfl, rfl⟩ | ⟨rfl, rfl⟩ | ⟨rfl, rfl⟩
    all_goals
      go_wp2_with (go_at_call 24; (with_reducible refine (hm _).mono ?_); rintro r w2 ⟨rfl, rfl⟩)
      go_meet
      exact ⟨rfl, below_box hb1 _⟩
  case rest =>
    obtain ⟨rfl, hbw⟩ := hcut
    clear hk hm
    go_wp2_with fail
    go_loopw [11, 12, 13] (fun x y i wr => ∃ (j : Nat) (X Y : ByteArray), j ≤ z ∧ X.size = j ∧ Y.size = j ∧ x = .string X ∧ y = .string Y ∧ i = .int .i64 (j : Int) ∧ Below w.heap.size w wr) (fun _ _ i _ => z - (intOf i).toNat)
    case atStart => exact ⟨0, ⟨#[]⟩, ⟨#[]⟩, by omega, rfl, rfl, rfl, rfl, rfl, hbw⟩
    case round =>
      obtain ⟨j, X, Y, hj, hX, hY, rfl, rfl, rfl, hbr⟩ := hrel
      by_cases hlt : j < z
      · have hlti : (j : Int) < (z : Int) := by omega
        have nA := Int.emod_nonneg (a / 2 ^ (8 * j)) (show (256 : Int) ≠ 0 by decide)
        have lA := Int.emod_lt_of_pos (a / 2 ^ (8 * j)) (show (0 : Int) < 256 by decide)
        have nB := Int.emod_nonneg (b / 2 ^ (8 * j)) (show (256 : Int) ≠ 0 by decide)
        have lB := Int.emod_lt_of_pos (b / 2 ^ (8 * j)) (show (0 : Int) < 256 by decide)
        have hA := one_back wr (a / 2 ^ (8 * j) % 256) nA lA
        have hB := one_back (wr.alloc (.cells #[.int .u8 (a / 2 ^ (8 * j) % 256)] 5)) (b / 2 ^ (8 * j) % 256) nB lB
        rw [show (wr.alloc (.cells #[.int .u8 (a / 2 ^ (8 * j) % 256)] 5)).heap.size = wr.heap.size + 1 by simp] at hB
        obtain ⟨P, hP⟩ : ∃ P : ByteArray, P = ⟨[UInt8.ofNat (a / 2 ^ (8 * j) % 256).toNat].toArray⟩ := ⟨_, rfl⟩
        obtain ⟨R, hR⟩ : ∃ R : ByteArray, R = ⟨[UInt8.ofNat (b / 2 ^ (8 * j) % 256).toNat].toArray⟩ := ⟨_, rfl⟩
        have sP : P.size = 1 := by rw [hP]; rfl
        have sR : R.size = 1 := by rw [hR]; rfl
        rw [← hP] at hA
        rw [← hR] at hB
        have c1 : ¬ 9223372036854775807 < X.size + P.size := by omega
        have c2 : ¬ 9223372036854775807 < Y.size + R.size := by omega
        have xs : (X ++ P).size = j + 1 := by rw [ByteArray.size_append]; omega
        have ys : (Y ++ R).size = j + 1 := by rw [ByteArray.size_append]; omega
        clear hP hR nA lA nB lB
        go_wp2_with fail
        go_roundw
        case rel => exact ⟨j + 1, X ++ P, Y ++ R, by omega, xs, ys, rfl, rfl, by go_num, below_box (below_box hbr _) _⟩
        case measure => simp [intOf]; omega
      · obtain rfl : j = z := by omega
        have HE := hEnd X Y hX hY
        obtain ⟨x1, x2, x3, e1, e2, e3, e4, e5, e6⟩ := HE
        have ht : x3.tmod 4294967296 = x3 % 4294967296 := Int.tmod_eq_emod_of_nonneg e6.1
        clear e6
        have hlti : ¬ (j : Int) < (j : Int) := by omega
        go_wp2_with (first
          | (go_at_call 12; (with_reducible refine (e1 _).mono ?_); rintro r w2 ⟨rfl, hb2⟩)
          | (go_at_call 12; (with_reducible refine (e2 _).mono ?_); rintro r w3 ⟨rfl, hb3⟩)
          | (go_at_call 14; (with_reducible refine (e4 _).mono ?_); rintro r w4 ⟨rfl, hb4⟩)
          | (go_at_call 10; (with_reducible refine (e5 _).mono ?_); rintro r w5 ⟨rfl, hb5⟩))
        go_ret
        exact ⟨rfl, below_call (below_call (below_call (below_call hbr hb2) hb3) hb4) hb5⟩

theorem apart_any (a b v e : Int) (h0 : -9223372036854775808 ≤ v) (h1 : v ≤ 9223372036854775807) (w : World) :
    Calls Try.prog 7 #[.int .u64 a, .int .u64 b, .int .i64 v, .int .u64 e] w fun r w' => r = .returned (.bool true) ∧ Below w.heap.size w w' := by
  have hE : ∀ z : Nat, (z = 1 ∨ z = 4 ∨ z = 8) → ∀ X Y : ByteArray, X.size = z → Y.size = z → ∃ x1 x2 x3 : Int,
      (∀ u, Calls Try.prog 12 #[.string X, .int .u64 e] u fun r w' => r = .returned (.int .u64 x1) ∧ Below u.heap.size u w') ∧
      (∀ u, Calls Try.prog 12 #[.string Y, .int .u64 e] u fun r w' => r = .returned (.int .u64 x2) ∧ Below u.heap.size u w') ∧
      (x1 == x2) = (X.toList == Y.toList) ∧
      (∀ u, Calls Try.prog 14 #[.string X] u fun r w' => r = .returned (.int .u32 (IntKind.u32.wrap x3)) ∧ Below u.heap.size u w') ∧
      (∀ u, Calls Try.prog 10 #[.string X] u fun r w' => r = .returned (.int .u64 x3) ∧ Below u.heap.size u w') ∧ U x3 := fun z hz X Y hX hY => by
    refine ⟨seedW e X, seedW e Y, seedW 0 X, fun u => seeded_any X e (by omega) u, fun u => seeded_any Y e (by omega) u, ?_, fun u => low_any X (by omega) u, fun u => of_any X (by omega) u, U_wrap _⟩
    rw [Bool.eq_iff_iff, beq_iff_eq, beq_iff_eq, ByteArray.toList_eq, ByteArray.toList_eq]
    constructor
    · intro h
      rw [seed_inj e z hz X Y hX hY h]
    · intro h
      rw [show X = Y by rw [← ba_list X, h, ba_list]]
  have hm := fun u => mod_any v 3 h0 h1 (by omega) (by omega) u
  have n0 := Int.emod_nonneg v (show (3 : Int) ≠ 0 by decide)
  have n1 := Int.emod_lt_of_pos v (show (0 : Int) < 3 by decide)
  generalize v % 3 = k at *
  have hk : k = 0 ∨ k = 1 ∨ k = 2 := by omega
  rcases hk with h | h | h
  · exact apart_law a b v e k 1 w (.inl ⟨h, rfl⟩) (hE 1 (by decide)) hm
  · exact apart_law a b v e k 4 w (.inr (.inl ⟨h, rfl⟩)) (hE 4 (by decide)) hm
  · exact apart_law a b v e k 8 w (.inr (.inr ⟨h, rfl⟩)) (hE 8 (by decide)) hm
end Go.Proofs.Ytgiihdgkejhbeaa
