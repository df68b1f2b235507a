/-
  Fields: the project's own function and the reference's write the bytes of a number, or return the range error.
-/
import Derived.Test.YtjflkjkkamapdaaField
namespace Go.Proofs.Ytjflkjkkamapdaa
open Go.ChangeShapes Go.WideShapes Go.ChangeAt Go.RowKit

theorem isSize_yes (n : Int) (h0 : 1 ≤ n) (h1 : n ≤ 8) (w : World) :
    Calls Try.prog 34 #[.int .i64 n] w fun e w' => e = .returned (.bool true) ∧ w = w' := by
  go_enter Try.func34, Try.ntmps34
  go_wp2
  go_ret
  exact ⟨by simp; try omega, rfl⟩
theorem isSize_no (n : Int) (h : n < 1 ∨ 8 < n) (w : World) :
    Calls Try.prog 34 #[.int .i64 n] w fun e w' => e = .returned (.bool false) ∧ w = w' := by
  rcases h with h | h
  all_goals
    go_enter Try.func34, Try.ntmps34
    go_wp2
    go_ret
    exact ⟨by simp; try omega, rfl⟩

theorem little_bad (n size : Int) (h : size < 1 ∨ 8 < size) (w : World) :
    Calls Try.prog 19 #[.int .u64 n, .int .i64 size] w fun e w' => e = .returned (.tuple #[.string ⟨#[]⟩, .int .i64 2]) ∧ w = w' := by
  go_enter Try.func19, Try.ntmps19
  go_wp2_with (go_at_call 34; refine (isSize_no _ h _).mono ?_; rintro e w' ⟨rfl, rfl⟩)
  go_ret2
  exact ⟨rfl, rfl⟩

theorem shr_out {n k : Nat} (h : 2 ^ (8 * k) ≤ n) : ((n : Int) / 2 ^ (8 * k) != 0) = true := by
  have e : (n : Int) / 2 ^ (8 * k) = ((n / 2 ^ (8 * k) : Nat) : Int) := by simp
  have h1 : 1 ≤ n / 2 ^ (8 * k) := (Nat.le_div_iff_mul_le (Nat.two_pow_pos _)).2 (by omega)
  rw [e, bne_iff_ne]
  omega
theorem shr_in {n k : Nat} (h : n < 2 ^ (8 * k)) : ((n : Int) / 2 ^ (8 * k) != 0) = false := by
  have e : (n : Int) / 2 ^ (8 * k) = ((n / 2 ^ (8 * k) : Nat) : Int) := by simp
  rw [e, Nat.div_eq_of_lt h]
  rfl

theorem little_big (n size : Nat) (h0 : 1 ≤ size) (h1 : size ≤ 8) (_hn : n < 18446744073709551616) (hb : 2 ^ (8 * size) ≤ n) (w : World) :
    Calls Try.prog 19 #[.int .u64 (n : Int), .int .i64 (size : Int)] w fun e w' => e = .returned (.tuple #[.string ⟨#[]⟩, .int .i64 2]) ∧ w = w' := by
  have ht := shr_out hb
  clear hb
  go_enter Try.func19, Try.ntmps19
  go_wp2_with (go_at_call 34; refine (isSize_yes _ (by omega) (by omega) _).mono ?_; rintro e w' ⟨rfl, rfl⟩)
  go_ret2
  exact ⟨rfl, rfl⟩

theorem little_ok (n size : Nat) (h0 : 1 ≤ size) (h1 : size ≤ 8) (_hn : n < 18446744073709551616) (hb : n < 2 ^ (8 * size)) (w : World) :
    Calls Try.prog 19 #[.int .u64 (n : Int), .int .i64 (size : Int)] w fun e w' => e = .returned (.tuple #[.string ⟨(leB n size).toArray⟩, .int .i64 0]) ∧ Below w.heap.size w w' := by
  have ht := shr_in hb
  clear hb
  go_enter Try.func19, Try.ntmps19
  go_wp2_with (first | (go_at_call 34; refine (isSize_yes _ (by omega) (by omega) _).mono ?_; rintro e w' ⟨rfl, rfl⟩) | (go_at_call 35; refine (field_any n size h0 h1 _).mono ?_; rintro e w' ⟨rfl, hb⟩))
  go_ret2
  exact ⟨rfl, hb⟩

theorem refLittle_bad (n size : Int) (h : size < 1 ∨ 8 < size) (w : World) :
    Calls Try.prog 20 #[.int .u64 n, .int .i64 size] w fun e w' => e = .returned (.tuple #[.string ⟨#[]⟩, .int .i64 2]) ∧ w = w' := by
  rcases h with h | h
  all_goals
    go_enter Try.func20, Try.ntmps20
    go_wp2
    go_ret2
    exact ⟨rfl, rfl⟩

theorem one_back (u : World) (c : Int) (h0 : 0 ≤ c) (h1 : c < 256) : (convert 51 9 (.slice (some ⟨u.heap.size, 0, none⟩) 1 1)).run Try.prog (u.alloc (.cells #[.int .u8 c] 5)) =
    .ok (.string ⟨[UInt8.ofNat c.toNat].toArray⟩) (u.alloc (.cells #[.int .u8 c] 5)) := by
  have h := run_convert_bytes_back (P := Try.prog) (u.alloc (.cells #[.int .u8 c] 5)) 51 9 5 ⟨u.heap.size, 0, none⟩ 1 [UInt8.ofNat c.toNat] Try.underlying51 Try.underlying5 Try.underlying9 (fun j hj => by
    have hj' : j = 0 := by simpa using hj
    subst hj'
    rw [add_plain, World.cell?_alloc_at _ _ _ _ rfl]
    simp
    omega)
  exact h

theorem leB_succ (n k : Nat) : leB n (k + 1) = leB n k ++ [UInt8.ofNat (n / 2 ^ (8 * k))] := by simp [leB, List.range_succ]
theorem byte_step {n k : Nat} {x : Int} (hx : x = ((n / 2 ^ (8 * k) : Nat) : Int)) : UInt8.ofNat (x % 256).toNat = UInt8.ofNat (n / 2 ^ (8 * k)) := by
  have e : (x % 256).toNat = n / 2 ^ (8 * k) % 256 := by rw [hx]; omega
  rw [e]
  apply UInt8.toNat.inj
  simp
theorem div_step {n k : Nat} {x : Int} (hx : x = ((n / 2 ^ (8 * k) : Nat) : Int)) : x / 256 = ((n / 2 ^ (8 * (k + 1)) : Nat) : Int) := by
  have e : 2 ^ (8 * (k + 1)) = 2 ^ (8 * k) * 256 := by rw [Nat.mul_add, Nat.pow_add]
  rw [hx, e, ← Nat.div_div_eq_div_mul]
  omega

theorem ret_str {s t : ByteArray} {k : Int} (h : s = t) : Ending.returned (.tuple #[.string s, .int .i64 k]) = .returned (.tuple #[.string t, .int .i64 k]) := by rw [h]

theorem refLittle_loop (n size : Nat) (r : Ending) (h0 : 1 ≤ size) (h1 : size ≤ 8) (hn : n < 18446744073709551616)
    (hr : (n / 2 ^ (8 * size) = 0 ∧ r = .returned (.tuple #[.string ⟨(leB n size).toArray⟩, .int .i64 0])) ∨ (1 ≤ n / 2 ^ (8 * size) ∧ r = .returned (.tuple #[.string ⟨#[]⟩, .int .i64 2]))) (w : World) :
    Calls Try.prog 20 #[.int .u64 (n : Int), .int .i64 (size : Int)] w fun e w' => e = r ∧ Below w.heap.size w w' := by
  have HR := Lib.hid hr
  clear hr
  have hb0 : Below w.heap.size w w := Below.refl _ _
  have hz := Lib.hid (show ((n / 2 ^ (8 * 0) : Nat) : Int) = n by simp)
  have hcv := one_back
  go_enter Try.func20, Try.ntmps20
  go_wp2
  go_loopw [0, 6, 7] (fun m o i wr => ∃ (k : Nat) (x : Int) (s : ByteArray), k ≤ size ∧ 0 ≤ x ∧ x ≤ n ∧ s.size ≤ k ∧ Hid (x = ((n / 2 ^ (8 * k) : Nat) : Int)) ∧ Hid (s = ⟨(leB n k).toArray⟩) ∧ m = .int .u64 x ∧ o = .string s ∧ i = .int .i64 (k : Int) ∧ Below w.heap.size w wr) (fun _ _ i _ => size - (intOf i).toNat)
  case atStart => exact ⟨0, n, ⟨#[]⟩, by omega, by omega, by omega, by decide, hz.out.symm, rfl, rfl, rfl, rfl, hb0⟩
  case round =>
    obtain ⟨k, x, s, hk, hx0, hx1, hsz, hx, hs, rfl, rfl, rfl, hb⟩ := hrel
    by_cases hlt : k < size
    · have hc0 : 0 ≤ x % 256 := by omega
      have hc1 : x % 256 < 256 := by omega
      go_wp2
      go_roundw
      case rel =>
        refine ⟨k + 1, _, _, by omega, ?_, ?_, ?_, div_step hx.out, ?_, rfl, rfl, by go_num, (hb.alloc hb.size _)⟩
        · omega
        · omega
        · rw [ByteArray.size_append]; exact Nat.add_le_add hsz (Nat.le_refl 1)
        · show _ = _
          rw [leB_succ, byte_step hx.out, hs.out]
          exact ByteArray.ext (by simp)
      case measure => simp [intOf]; omega
    · obtain rfl : k = size := by omega
      rcases HR.out with ⟨hq, rfl⟩ | ⟨hq, rfl⟩
      · have hx2 := hx.out
        have hx3 : x ≤ 0 := by omega
        clear hx2 hq
        go_wp2
        go_ret2
        exact ⟨ret_str hs.out, hb⟩
      · have hx2 := hx.out
        have hx3 : 0 < x := by omega
        clear hx2 hq
        go_wp2
        go_ret2
        exact ⟨rfl, hb⟩
theorem refLittle_ok (n size : Nat) (h0 : 1 ≤ size) (h1 : size ≤ 8) (hn : n < 18446744073709551616) (hb : n < 2 ^ (8 * size)) (w : World) :
    Calls Try.prog 20 #[.int .u64 (n : Int), .int .i64 (size : Int)] w fun e w' => e = .returned (.tuple #[.string ⟨(leB n size).toArray⟩, .int .i64 0]) ∧ Below w.heap.size w w' :=
  refLittle_loop n size _ h0 h1 hn (.inl ⟨Nat.div_eq_of_lt hb, rfl⟩) w
theorem refLittle_big (n size : Nat) (h0 : 1 ≤ size) (h1 : size ≤ 8) (hn : n < 18446744073709551616) (hb : 2 ^ (8 * size) ≤ n) (w : World) :
    Calls Try.prog 20 #[.int .u64 (n : Int), .int .i64 (size : Int)] w fun e w' => e = .returned (.tuple #[.string ⟨#[]⟩, .int .i64 2]) ∧ Below w.heap.size w w' :=
  refLittle_loop n size _ h0 h1 hn (.inr ⟨(Nat.le_div_iff_mul_le (Nat.two_pow_pos _)).2 (by omega), rfl⟩) w
end Go.Proofs.Ytjflkjkkamapdaa
