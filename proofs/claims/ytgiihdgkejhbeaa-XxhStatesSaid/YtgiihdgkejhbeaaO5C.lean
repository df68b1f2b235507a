/-
  The project's merging of lanes, and the bytes that fill no block.
-/
import Derived.Test.YtgiihdgkejhbeaaO5B
import Derived.WalkMore
namespace Go.Proofs.Ytgiihdgkejhbeaa
open Go.ChangeShapes Go.WideShapes Go.ChangeAt Go.RowKit
set_option linter.unusedVariables false

theorem wrap_wrap (x : Int) : IntKind.u64.wrap (IntKind.u64.wrap x) = IntKind.u64.wrap x := by
  rw [IntKind.wrap_u64, IntKind.wrap_u64]
  exact Int.emod_emod_of_dvd _ (Int.dvd_refl _)
theorem wrap_tn (x : Int) (k : Nat) : IntKind.u64.wrap (tn x k) = tn x k := wrap_wrap _

def sm (a b c d : Int) : Nat → Int
  | 0 => 0
  | 1 => tn a 1
  | 2 => IntKind.u64.wrap (tn a 1 + tn b 7)
  | 3 => IntKind.u64.wrap (IntKind.u64.wrap (tn a 1 + tn b 7) + tn c 12)
  | _ => IntKind.u64.wrap (IntKind.u64.wrap (IntKind.u64.wrap (tn a 1 + tn b 7) + tn c 12) + tn d 18)
def sg (a b c d x : Int) : Nat → Int
  | 0 => x
  | 1 => mg x a
  | 2 => mg (mg x a) b
  | 3 => mg (mg (mg x a) b) c
  | _ => mg (mg (mg (mg x a) b) c) d

set_option maxHeartbeats 1000000 in
theorem merged_any (a b c d : Int) (w : World) :
    Calls Try.prog 37 #[.agg #[.int .u64 a, .int .u64 b, .int .u64 c, .int .u64 d]] w fun e w' => e = .returned (.int .u64 (sg a b c d (sm a b c d 4) 4)) ∧ Below w.heap.size w w' := by
  have x0 : ∀ u, (Instr.index 30 (.agg #[.int .u64 a, .int .u64 b, .int .u64 c, .int .u64 d]) (.int .i64 0)).run Try.prog u = .ok (.int .u64 a) u := fun u => by kernel_rfl
  have x1 : ∀ u, (Instr.index 30 (.agg #[.int .u64 a, .int .u64 b, .int .u64 c, .int .u64 d]) (.int .i64 1)).run Try.prog u = .ok (.int .u64 b) u := fun u => by kernel_rfl
  have x2 : ∀ u, (Instr.index 30 (.agg #[.int .u64 a, .int .u64 b, .int .u64 c, .int .u64 d]) (.int .i64 2)).run Try.prog u = .ok (.int .u64 c) u := fun u => by kernel_rfl
  have x3 : ∀ u, (Instr.index 30 (.agg #[.int .u64 a, .int .u64 b, .int .u64 c, .int .u64 d]) (.int .i64 3)).run Try.prog u = .ok (.int .u64 d) u := fun u => by kernel_rfl
  have q1 := wrap_tn a 1
  go_enter Try.func37, Try.ntmps37
  go_wp2
  go_loopw [4, 5, 6, 11] (fun n _ _ i wr => ∃ (k : Nat) (z : Int), z = (k : Int) ∧ k ≤ 4 ∧ i = .int .i64 z ∧ n = .int .u64 (sm a b c d k) ∧ Blk wr w.heap.size 30 #[.int .u64 a, .int .u64 b, .int .u64 c, .int .u64 d] ∧ Blk wr (w.heap.size + 1) 65 #[.int .i64 1, .int .i64 7, .int .i64 12, .int .i64 18] ∧ Below w.heap.size w wr) (fun _ _ _ i _ => 4 - (intOf i).toNat)
  case atStart => exact ⟨0, 0, rfl, by omega, rfl, rfl, blk_alloc (blk_new _ _ _) _, blk_new2 _ _ _ _, below_box (below_box (Below.refl _ _) _) _⟩
  case round =>
    obtain ⟨k, z, hz, hk, rfl, rfl, k0, k1, hbw⟩ := hrel
    have hk5 : k = 0 ∨ k = 1 ∨ k = 2 ∨ k = 3 ∨ k = 4 := by omega
    have K0 := Lib.hid k0
    have K1 := Lib.hid k1
    have HB := Lib.hid hbw
    have t0 := blk_cell k1 0
    have t1 := blk_cell k1 1
    have t2 := blk_cell k1 2
    have t3 := blk_cell k1 3
    have c0 := blk_cell k0 0
    have c1 := blk_cell k0 1
    have c2 := blk_cell k0 2
    have c3 := blk_cell k0 3
    clear hk k0 k1 hbw
    rcases hk5 with rfl | rfl | rfl | rfl | rfl
    all_goals
      simp at hz
      subst hz
      simp only [sm]
    · go_wp2_with (go_at_call 48; (with_reducible refine (turn1 _ _).mono ?_); rintro e w1 ⟨rfl, hb1⟩)
      go_roundw
      case rel => exact ⟨1, 1, rfl, by omega, by go_num, by first | rfl | simp, blk_next K0.out hb1, blk_next K1.out hb1, below_call HB.out hb1⟩
      case measure => simp [intOf]
    · go_wp2_with (go_at_call 48; (with_reducible refine (turn7 _ _).mono ?_); rintro e w1 ⟨rfl, hb1⟩)
      go_roundw
      case rel => exact ⟨2, 2, rfl, by omega, by go_num, rfl, blk_next K0.out hb1, blk_next K1.out hb1, below_call HB.out hb1⟩
      case measure => simp [intOf]
    · go_wp2_with (go_at_call 48; (with_reducible refine (turn12 _ _).mono ?_); rintro e w1 ⟨rfl, hb1⟩)
      go_roundw
      case rel => exact ⟨3, 3, rfl, by omega, by go_num, rfl, blk_next K0.out hb1, blk_next K1.out hb1, below_call HB.out hb1⟩
      case measure => simp [intOf]
    · go_wp2_with (go_at_call 48; (with_reducible refine (turn18 _ _).mono ?_); rintro e w1 ⟨rfl, hb1⟩)
      go_roundw
      case rel => exact ⟨4, 4, rfl, by omega, by go_num, rfl, blk_next K0.out hb1, blk_next K1.out hb1, below_call HB.out hb1⟩
      case measure => simp [intOf]
    · go_wp2
      go_loopw [4, 8, 24] (fun n _ i wr => ∃ (k : Nat) (z : Int), z = (k : Int) ∧ k ≤ 4 ∧ i = .int .i64 z ∧ n = .int .u64 (sg a b c d (sm a b c d 4) k) ∧ Below w.heap.size w wr) (fun _ _ i _ => 4 - (intOf i).toNat)
      case atStart => exact ⟨0, 0, rfl, by omega, rfl, rfl, HB.out⟩
      case round =>
        obtain ⟨k, z, hz, hk, rfl, rfl, hbw⟩ := hrel
        have hk5 : k = 0 ∨ k = 1 ∨ k = 2 ∨ k = 3 ∨ k = 4 := by omega
        have HB := Lib.hid hbw
        clear hk hbw t0 t1 t2 t3 c0 c1 c2 c3
        rcases hk5 with rfl | rfl | rfl | rfl | rfl
        all_goals
          simp at hz
          subst hz
        · go_wp2_with (go_at_call 45; (with_reducible refine (round_any _ _ _).mono ?_); rintro e w1 ⟨rfl, hb1⟩)
          go_roundw
          case rel => exact ⟨1, 1, rfl, by omega, by go_num, rfl, below_call HB.out hb1⟩
          case measure => simp [intOf]
        · go_wp2_with (go_at_call 45; (with_reducible refine (round_any _ _ _).mono ?_); rintro e w1 ⟨rfl, hb1⟩)
          go_roundw
          case rel => exact ⟨2, 2, rfl, by omega, by go_num, rfl, below_call HB.out hb1⟩
          case measure => simp [intOf]
        · go_wp2_with (go_at_call 45; (with_reducible refine (round_any _ _ _).mono ?_); rintro e w1 ⟨rfl, hb1⟩)
          go_roundw
          case rel => exact ⟨3, 3, rfl, by omega, by go_num, rfl, below_call HB.out hb1⟩
          case measure => simp [intOf]
        · go_wp2_with (go_at_call 45; (with_reducible refine (round_any _ _ _).mono ?_); rintro e w1 ⟨rfl, hb1⟩)
          go_roundw
          case rel => exact ⟨4, 4, rfl, by omega, by go_num, rfl, below_call HB.out hb1⟩
          case measure => simp [intOf]
        · go_wp2
          go_ret
          exact ⟨rfl, HB.out⟩

def szOf : Value → Nat
  | .string s => s.size
  | _ => 0
theorem tk_8 (f : Nat) (n : Int) (l : List UInt8) (h : 8 ≤ l.length) : tk (f + 1) n l = tk f (st8 n (nuB (l.take 8) : Nat)) (l.drop 8) := by rw [tk, if_pos h]
theorem tk_4 (f : Nat) (n : Int) (l : List UInt8) (h8 : ¬ 8 ≤ l.length) (h : 4 ≤ l.length) : tk (f + 1) n l = tk f (st4 n (nuB (l.take 4) : Nat)) (l.drop 4) := by rw [tk, if_neg h8, if_pos h]
theorem tk_1 (f : Nat) (n : Int) (l : List UInt8) (h8 : ¬ 8 ≤ l.length) (h4 : ¬ 4 ≤ l.length) (h : 0 < l.length) : tk (f + 1) n l = tk f (st1 n (nuB (l.take 1) : Nat)) (l.drop 1) := by rw [tk, if_neg h8, if_neg h4, if_pos h]
theorem tk_0 (f : Nat) (n : Int) : tk f n [] = n := by cases f <;> simp [tk]

theorem number8' (s : ByteArray) (hs : s.size ≤ 9223372036854775807) (h : 8 ≤ s.size) (w : World) :
    Calls Try.prog 46 #[.string s, .int .i64 8] w fun e w' => e = .returned (.int .u64 (nuB (s.data.toList.take 8) : Nat)) ∧ Below w.heap.size w w' := number_in s 8 hs (by decide) (by decide) h w
theorem number4' (s : ByteArray) (hs : s.size ≤ 9223372036854775807) (h : 4 ≤ s.size) (w : World) :
    Calls Try.prog 46 #[.string s, .int .i64 4] w fun e w' => e = .returned (.int .u64 (nuB (s.data.toList.take 4) : Nat)) ∧ Below w.heap.size w w' := number_in s 4 hs (by decide) (by decide) h w
theorem number1' (s : ByteArray) (hs : s.size ≤ 9223372036854775807) (h : 1 ≤ s.size) (w : World) :
    Calls Try.prog 46 #[.string s, .int .i64 1] w fun e w' => e = .returned (.int .u64 (nuB (s.data.toList.take 1) : Nat)) ∧ Below w.heap.size w w' := number_in s 1 hs (by decide) (by decide) h w

set_option maxHeartbeats 1000000 in
theorem taken_any (n : Int) (s : ByteArray) (hs : s.size ≤ 9223372036854775807) (w : World) :
    Calls Try.prog 39 #[.int .u64 n, .string s] w fun e w' => e = .returned (.int .u64 (tk s.size n s.data.toList)) ∧ Below w.heap.size w w' := by
  obtain ⟨R, hR⟩ : ∃ R, tk s.size n s.data.toList = R := ⟨_, rfl⟩
  rw [hR]
  go_enter Try.func39, Try.ntmps39
  go_wp2
  go_step3
  go_wp2
  go_step3
  go_wp2
  go_loopw [0, 1] (fun m b wr => ∃ (f : Nat) (n' : Int) (t : ByteArray), t.size ≤ f ∧ Hid (tk f n' t.data.toList = R) ∧ m = .int .u64 n' ∧ b = .string t ∧ t.size ≤ s.size ∧ Below w.heap.size w wr) (fun _ b _ => szOf b)
  case atStart => exact ⟨s.size, n, s, Nat.le_refl _, hR, rfl, rfl, Nat.le_refl _, Below.refl _ _⟩
  case round =>
    obtain ⟨f, n', t, hf, ht, rfl, rfl, hts, hbw⟩ := hrel
    have htm : t.size ≤ 9223372036854775807 := Nat.le_trans hts hs
    have hlen : t.data.toList.length = t.size := rfl
    have HB := Lib.hid hbw
    clear hbw hR
    by_cases h8 : 8 ≤ t.size
    · have h8i : (8 : Int) ≤ (t.size : Int) := by omega
      obtain ⟨g, rfl⟩ : ∃ g, f = g + 1 := ⟨f - 1, by omega⟩
      have ht2 := ht.out
      rw [tk_8 g n' _ (by rw [hlen]; exact h8), ← tail_list] at ht2
      have HT := Lib.hid ht2
      have he : (t.extract 8 t.size).size = t.size - 8 := by rw [ByteArray.size_extract, Nat.min_self]
      clear ht ht2
      go_wp2_with (first
        | (go_at_call 46; (with_reducible refine (number8' t htm h8 _).mono ?_); rintro e w1 ⟨rfl, hb1⟩)
        | (go_at_call 45; (with_reducible refine (round_any _ _ _).mono ?_); rintro e w2 ⟨rfl, hb2⟩)
        | (go_at_call 48; (with_reducible refine (turn27 _ _).mono ?_); rintro e w3 ⟨rfl, hb3⟩))
      go_roundw
      case rel => exact ⟨g, _, t.extract 8 t.size, by omega, HT.out, rfl, rfl, by omega, below_call (below_call (below_call HB.out hb1) hb2) hb3⟩
      case measure => show (t.extract 8 t.size).size < t.size; omega
    · by_cases h4 : 4 ≤ t.size
      · have h8i : ¬ (8 : Int) ≤ (t.size : Int) := by omega
        have h4i : (4 : Int) ≤ (t.size : Int) := by omega
        obtain ⟨g, rfl⟩ : ∃ g, f = g + 1 := ⟨f - 1, by omega⟩
        have ht2 := ht.out
        rw [tk_4 g n' _ (by rw [hlen]; exact h8) (by rw [hlen]; exact h4), ← tail_list] at ht2
        have HT := Lib.hid ht2
        have he : (t.extract 4 t.size).size = t.size - 4 := by rw [ByteArray.size_extract, Nat.min_self]
        clear ht ht2
        go_wp2_with (first
          | (go_at_call 46; (with_reducible refine (number4' t htm h4 _).mono ?_); rintro e w1 ⟨rfl, hb1⟩)
          | (go_at_call 48; (with_reducible refine (turn23 _ _).mono ?_); rintro e w3 ⟨rfl, hb3⟩))
        go_roundw
        case rel => exact ⟨g, _, t.extract 4 t.size, by omega, HT.out, rfl, rfl, by omega, below_call (below_call HB.out hb1) hb3⟩
        case measure => show (t.extract 4 t.size).size < t.size; omega
      · by_cases h0 : 1 ≤ t.size
        · have h8i : ¬ (8 : Int) ≤ (t.size : Int) := by omega
          have h4i : ¬ (4 : Int) ≤ (t.size : Int) := by omega
          have h0i : (0 : Int) < (t.size : Int) := by omega
          obtain ⟨g, rfl⟩ : ∃ g, f = g + 1 := ⟨f - 1, by omega⟩
          have ht2 := ht.out
          rw [tk_1 g n' _ (by rw [hlen]; exact h8) (by rw [hlen]; exact h4) (by rw [hlen]; exact h0), ← tail_list] at ht2
          have HT := Lib.hid ht2
          have he : (t.extract 1 t.size).size = t.size - 1 := by rw [ByteArray.size_extract, Nat.min_self]
          clear ht ht2
          go_wp2_with (first
            | (go_at_call 46; (with_reducible refine (number1' t htm h0 _).mono ?_); rintro e w1 ⟨rfl, hb1⟩)
            | (go_at_call 48; (with_reducible refine (turn11 _ _).mono ?_); rintro e w3 ⟨rfl, hb3⟩))
          go_roundw
          case rel => exact ⟨g, _, t.extract 1 t.size, by omega, HT.out, rfl, rfl, by omega, below_call (below_call HB.out hb1) hb3⟩
          case measure => show (t.extract 1 t.size).size < t.size; omega
        · have hz : t.size = 0 := by omega
          have hnil : t.data.toList = [] := List.eq_nil_of_length_eq_zero hz
          have ht2 := ht.out
          rw [hnil, tk_0] at ht2
          have HT := Lib.hid ht2
          have h0i : (t.size : Int) = 0 := by omega
          clear ht ht2
          go_wp2
          rw [Exit.noGoto_ret]
          go_ret
          exact ⟨by rw [← HT.out]; rfl, HB.out⟩
end Go.Proofs.Ytgiihdgkejhbeaa
