/-
  Reading a field within bounds: the project's own function and the reference's (from package ints' texts).
-/
import Derived.Test.YtgiihdgkejhbeaaProg
import Derived.Test.YtgiihdgkejhbeaaAid
import Derived.Test.YtgiihdgkejhbeaaBytes
import Derived.Laws.IdiomStrings
namespace Go.Proofs.Ytgiihdgkejhbeaa
open Go.ChangeShapes Go.WideShapes Go.ChangeAt Go.RowKit
set_option linter.unusedVariables false

theorem isSize_yes (n : Int) (h0 : 1 ≤ n) (h1 : n ≤ 8) (w : World) :
    Calls Try.prog 51 #[.int .i64 n] w fun e w' => e = .returned (.bool true) ∧ w = w' := by
  go_enter Try.func51, Try.ntmps51
  go_wp2
  go_ret
  exact ⟨by simp; try omega, rfl⟩
/-- the number of bytes, the lowest first -/
def nuB : List UInt8 → Nat
  | [] => 0
  | c :: r => c.toNat + 256 * nuB r

theorem nuB_snoc (l : List UInt8) (c : UInt8) : nuB (l ++ [c]) = nuB l + c.toNat * 2 ^ (8 * l.length) := by
  induction l with
  | nil => simp [nuB]
  | cons x r ih =>
    simp only [List.cons_append, nuB, ih, List.length_cons]
    have e : c.toNat * 2 ^ (8 * (r.length + 1)) = 256 * (c.toNat * 2 ^ (8 * r.length)) := by
      rw [Nat.mul_add 8, Nat.pow_add, show (2 : Nat) ^ (8 * 1) = 256 from rfl, ← Nat.mul_assoc, Nat.mul_comm _ 256]
    omega
theorem nuB_lt (l : List UInt8) : nuB l < 2 ^ (8 * l.length) := by
  induction l with
  | nil => simp [nuB]
  | cons x r ih =>
    simp only [nuB, List.length_cons]
    have hx := x.toNat_lt
    rw [Nat.mul_add 8, Nat.pow_add]
    omega

theorem take_snoc (s : ByteArray) (k : Nat) (h : k < s.size) : s.data.toList.take (k + 1) = s.data.toList.take k ++ [s[k]] := by
  rw [List.take_succ_eq_append_getElem (by simpa using h)]; rfl

theorem or_place (a c k : Nat) (ha : a < 2 ^ (8 * k)) (hc : c < 256) (hk : k < 8) :
    bits BinOp.or IntKind.u64 (a : Int) (IntKind.u64.wrap ((c : Int) * 2 ^ (8 * k))) = ((a + c * 2 ^ (8 * k) : Nat) : Int) := by
  have hp : 2 ^ (8 * k) * 256 ≤ 18446744073709551616 := by
    have e : 2 ^ (8 * k) * 256 = 2 ^ (8 * (k + 1)) := by rw [Nat.mul_add, Nat.pow_add]
    rw [e]
    exact pow_le64 (by omega)
  have hm : c * 2 ^ (8 * k) ≤ 255 * 2 ^ (8 * k) := Nat.mul_le_mul_right _ (by omega)
  have e1 : (c : Int) * 2 ^ (8 * k) = ((c * 2 ^ (8 * k) : Nat) : Int) := by simp
  rw [e1, u64in (by omega) (by omega), u64_or_nat a (c * 2 ^ (8 * k)) (by omega) (by omega)]
  rw [Nat.or_comm, ← Nat.shiftLeft_eq, ← Nat.shiftLeft_add_eq_or_of_lt ha]
  omega

theorem number_any (s : ByteArray) (hs : s.size ≤ 8) (w : World) :
    Calls Try.prog 52 #[.string s] w fun e w' => e = .returned (.int .u64 (nuB s.data.toList : Nat)) ∧ w = w' := by
  go_enter Try.func52, Try.ntmps52
  go_wp2
  go_loop [3, 4, 7] (fun n _ i => ∃ (k : Nat) (x : Int), k ≤ s.size ∧ Hid (x = ((nuB (s.data.toList.take k) : Nat) : Int)) ∧ n = .int .u64 x ∧ i = .int .i64 (k : Int)) (fun _ _ i => s.size - (intOf i).toNat)
  case atStart => exact ⟨0, 0, by omega, rfl, rfl, rfl⟩
  case round =>
    obtain ⟨k, x, hk, hx, rfl, rfl⟩ := hrel
    by_cases hlt : k < s.size
    · go_wp2
      go_round
      case rel =>
        refine ⟨k + 1, _, by omega, ?_, rfl, by go_num⟩
        show _ = _
        have hl : (s.data.toList.take k).length = k := by simp; omega
        have hb := nuB_lt (s.data.toList.take k)
        rw [hl] at hb
        rw [take_snoc s k hlt, nuB_snoc, hl, hx.out]
        have hc := s[k].toNat_lt
        have e : IntKind.u64.wrap (s[k].toNat : Int) = (s[k].toNat : Int) := u64in (by omega) (by omega)
        rw [e]
        exact or_place _ _ _ hb (by omega) (by omega)
      case measure => simp [intOf]; omega
    · obtain rfl : k = s.size := by omega
      go_wp2
      go_ret
      exact ⟨ret_int (by rw [hx.out, List.take_of_length_le (by simp)]), rfl⟩

theorem str_cut (u : World) (s : ByteArray) (a z : Nat) (h : a + z ≤ s.size) :
    (Instr.slice 9 (.string s) (some (.int .i64 (a : Int))) (some (.int .i64 ((a : Int) + (z : Int)))) none).run Try.prog u = .ok (.string (s.extract a (a + z))) u := by
  have h1 : (0 : Int) ≤ (a : Int) := by omega
  have h2 : (a : Int) ≤ (a : Int) + (z : Int) := by omega
  have h3 : (a : Int) + (z : Int) ≤ (s.size : Int) := by omega
  have e2 : ((a : Int) + (z : Int)).toNat = a + z := by omega
  have e1 : ((a : Int)).toNat = a := by omega
  have := run_slice_string (P := Try.prog) u 9 s .i64 .i64 (a : Int) ((a : Int) + (z : Int)) Try.underlying9 h1 h2 h3
  rw [e1, e2] at this
  exact this
theorem cut_list (s : ByteArray) (a z : Nat) : (s.extract a (a + z)).data.toList = (s.data.toList.drop a).take z := by
  rw [ByteArray.data_extract, Array.toList_extract]
  simp [List.extract]
theorem cut_size (s : ByteArray) (a z : Nat) (h : a + z ≤ s.size) : (s.extract a (a + z)).size = z := by
  rw [ByteArray.size_extract]; omega

theorem read_ok (s : ByteArray) (a z : Nat) (hs : s.size ≤ maxLen) (h1 : 1 ≤ z) (h2 : z ≤ 8) (h3 : a + z ≤ s.size) (w : World) :
    Calls Try.prog 50 #[.string s, .int .i64 (a : Int), .int .i64 (z : Int)] w fun e w' => e = .returned (.tuple #[.int .u64 ((nuB ((s.data.toList.drop a).take z) : Nat) : Int), .int .i64 ((a : Int) + (z : Int)), .agg #[.int .i64 0, .int .i64 0]]) ∧ Below w.heap.size w w' := by
  unfold maxLen at hs
  have hcut := fun u => str_cut u s a z h3
  have hl := Lib.hid (cut_list s a z)
  have hn := fun u => number_any (s.extract a (a + z)) (by rw [cut_size s a z h3]; omega) u
  rw [hl.out] at hn
  go_enter Try.func50, Try.ntmps50
  go_wp2_with (first | (go_at_call 51; refine (isSize_yes _ (by omega) (by omega) _).mono ?_; rintro e w' ⟨rfl, rfl⟩) | (go_at_call 52; refine (hn _).mono ?_; rintro e w' ⟨rfl, rfl⟩))
  exact bodyPost_ret (v := .tuple #[.int .u64 ((nuB ((s.data.toList.drop a).take z) : Nat) : Int), .int .i64 ((a : Int) + (z : Int)), .agg #[.int .i64 0, .int .i64 0]]) (by simp [results, Try.results50, go_sem]) rfl ⟨rfl, (Below.refl _ _).alloc (Nat.le_refl _) _⟩

theorem nuB_end (l : List UInt8) (k : Nat) (h : l.length ≤ k) : nuB (l.drop k) = 0 := by rw [List.drop_eq_nil_of_le h]; rfl

theorem refRead_step (s : ByteArray) (a z j : Nat) (x : Int) (h3 : a + z ≤ s.size) (hj : j < z) (hz : z ≤ 8) (hx : x = ((nuB (((s.data.toList.drop a).take z).drop (j + 1)) : Nat) : Int)) (h : a + j < s.size) :
    IntKind.u64.wrap (IntKind.u64.wrap (x * 256) + IntKind.u64.wrap ((s[a + j]'h).toNat : Int)) = ((nuB (((s.data.toList.drop a).take z).drop j) : Nat) : Int) := by
  have hc := (s[a + j]'h).toNat_lt
  have hl : ((s.data.toList.drop a).take z).length = z := by simp; omega
  have hd : ((s.data.toList.drop a).take z).drop j = (s[a + j]'h) :: ((s.data.toList.drop a).take z).drop (j + 1) := by
    rw [List.drop_eq_getElem_cons (by omega)]
    congr 1
    simp
    rfl
  have hb := nuB_lt (((s.data.toList.drop a).take z).drop j)
  have hp : 2 ^ (8 * (((s.data.toList.drop a).take z).drop j).length) ≤ 18446744073709551616 := pow_le64 (by rw [List.length_drop, hl]; omega)
  rw [hd] at hb hp ⊢
  simp only [nuB] at hb ⊢
  generalize nuB (((s.data.toList.drop a).take z).drop (j + 1)) = y at *
  subst hx
  have e1 : IntKind.u64.wrap ((y : Int) * 256) = (y : Int) * 256 := u64in (by omega) (by omega)
  have e2 : IntKind.u64.wrap ((s[a + j]'h).toNat : Int) = ((s[a + j]'h).toNat : Int) := u64in (by omega) (by omega)
  rw [e1, e2, u64in (by omega) (by omega)]
  omega

theorem refRead_ok (s : ByteArray) (a z : Nat) (hs : s.size ≤ maxLen) (h1 : 1 ≤ z) (h2 : z ≤ 8) (h3 : a + z ≤ s.size) (w : World) :
    Calls Try.prog 49 #[.string s, .int .i64 (a : Int), .int .i64 (z : Int)] w fun e w' => e = .returned (.tuple #[.int .u64 ((nuB ((s.data.toList.drop a).take z) : Nat) : Int), .int .i64 ((a : Int) + (z : Int)), .agg #[.int .i64 0, .int .i64 0]]) ∧ Below w.heap.size w w' := by
  unfold maxLen at hs
  have hz := Lib.hid (nuB_end ((s.data.toList.drop a).take z) z (by simp; omega))
  have hd : decide (s.size < a) = false := by simp; omega
  go_enter Try.func49, Try.ntmps49
  go_wp2
  go_loop [9, 10] (fun n i => ∃ (k : Nat) (x : Int), k ≤ z ∧ Hid (x = ((nuB (((s.data.toList.drop a).take z).drop k) : Nat) : Int)) ∧ n = .int .u64 x ∧ i = .int .i64 ((k : Int) - 1)) (fun _ i => (intOf i + 1).toNat)
  case atStart => exact ⟨z, 0, by omega, by show _ = _; rw [hz.out]; rfl, rfl, rfl⟩
  case round =>
    obtain ⟨k, x, hk, hx, rfl, rfl⟩ := hrel
    by_cases hlt : 1 ≤ k
    · obtain ⟨j, rfl⟩ : ∃ j, k = j + 1 := ⟨k - 1, by omega⟩
      go_wp2
      go_round
      case rel =>
        refine ⟨j, _, by omega, ?_, rfl, by go_num⟩
        exact refRead_step s a z j x h3 (by omega) h2 hx.out (by omega)
      case measure => simp [intOf]
    · obtain rfl : k = 0 := by omega
      go_wp2
      exact bodyPost_ret (v := .tuple #[.int .u64 x, .int .i64 ((a : Int) + (z : Int)), .agg #[.int .i64 0, .int .i64 0]]) (by simp [results, Try.results49, go_sem]) rfl ⟨by rw [hx.out, List.drop_zero], (Below.refl _ _).alloc (Nat.le_refl _) _⟩
end Go.Proofs.Ytgiihdgkejhbeaa
