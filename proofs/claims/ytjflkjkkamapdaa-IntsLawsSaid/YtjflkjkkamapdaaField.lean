/-
  What the project's own function of fields writes: the bytes of a number, the lowest first.
-/
import Derived.Test.YtjflkjkkamapdaaSums
import Derived.Laws.IdiomStrings
namespace Go.Proofs.Ytjflkjkkamapdaa
open Go.ChangeShapes Go.WideShapes Go.ChangeAt Go.RowKit

theorem info5 : (Try.prog.info? 5).map (fun i => (i.zero, i.size, i.bytes)) = some (some (.int .u8 0), 1, 1) := by kernel_rfl

/-- the bytes of a number, the lowest first -/
def leB (n size : Nat) : List UInt8 := (List.range size).map fun i => UInt8.ofNat (n / 2 ^ (8 * i))
theorem leB_length (n size : Nat) : (leB n size).length = size := by simp [leB]
theorem leB_get (n size i : Nat) (h : i < (leB n size).length) : (leB n size)[i] = UInt8.ofNat (n / 2 ^ (8 * i)) := by simp [leB]

/-- the bytes while they are written -/
def part (n size k : Nat) : Array Value := ((List.range size).map fun i => if i < k then Value.int .u8 ((n / 2 ^ (8 * i) % 256 : Nat) : Int) else Value.int .u8 0).toArray
theorem part_size (n size k : Nat) : (part n size k).size = size := by simp [part]
theorem part_get (n size k i : Nat) (h : i < size) : (part n size k)[i]? = some (if i < k then Value.int .u8 ((n / 2 ^ (8 * i) % 256 : Nat) : Int) else Value.int .u8 0) := by
  simp [part, h]
theorem part_zero (n size : Nat) : madeCells #[.int .u8 0] size = part n size 0 := by
  apply Array.ext_getElem?
  intro i
  by_cases h : i < size
  · rw [part_get n size 0 i h]
    simp [madeCells, h, Nat.mod_one]
  · simp [madeCells, part, h]
theorem part_step (n size k : Nat) (_hk : k < size) : (part n size k).setIfInBounds k (.int .u8 ((n / 2 ^ (8 * k) % 256 : Nat) : Int)) = part n size (k + 1) := by
  apply Array.ext_getElem?
  intro i
  by_cases h : i < size
  · rw [part_get n size (k + 1) i h]
    rw [Array.getElem?_setIfInBounds]
    by_cases e : k = i
    · subst e
      simp [part_size, h]
    · rw [if_neg e, part_get n size k i h]
      by_cases h2 : i < k
      · rw [if_pos h2, if_pos (by omega)]
      · rw [if_neg h2, if_neg (by omega)]
  · rw [Array.getElem?_eq_none (by simp [part_size]; omega), Array.getElem?_eq_none (by simp [part_size]; omega)]

theorem cast_byte (n k : Nat) : (n : Int) / 2 ^ (8 * k) % 256 = ((n / 2 ^ (8 * k) % 256 : Nat) : Int) := by simp

theorem back_of (n size : Nat) (w : World) : (convert 51 9 (.slice (some ⟨w.heap.size, 0, none⟩) size size)).run Try.prog (w.alloc (.cells (part n size size) 5)) =
    .ok (.string ⟨(leB n size).toArray⟩) (w.alloc (.cells (part n size size) 5)) := by
  have h := run_convert_bytes_back (P := Try.prog) (w.alloc (.cells (part n size size) 5)) 51 9 5 ⟨w.heap.size, 0, none⟩ size (leB n size) Try.underlying51 Try.underlying5 Try.underlying9 (fun j hj => by
    have hj' : j < size := by simpa [leB_length] using hj
    rw [add_plain, Nat.zero_add, World.cell?_alloc_at _ _ _ _ rfl, part_get _ _ _ _ hj', if_pos hj', leB_get]
    simp)
  rw [leB_length] at h
  exact h

theorem field_any (n size : Nat) (h0 : 1 ≤ size) (h1 : size ≤ 8) (w : World) :
    Calls Try.prog 35 #[.int .u64 (n : Int), .int .i64 (size : Int)] w fun e w' => e = .returned (.string ⟨(leB n size).toArray⟩) ∧ Below w.heap.size w w' := by
  obtain ⟨i0, hi, hz0, hz1, hz2⟩ := info_parts info5
  have hmk : ∀ u : World, (Instr.makeSlice 51 (.int .i64 (size : Int)) (.int .i64 (size : Int))).run Try.prog u =
      .ok (.slice (some ⟨u.heap.size, 0, none⟩) size size) (u.alloc (.cells (part n size 0) 5)) := fun u => by
    have h := run_make (P := Try.prog) u 51 5 i0 (.int .u8 0) Try.underlying51 hi hz0 .i64 .i64 (size : Int) (size : Int) (by omega) (Int.le_refl _) (by rw [hz2]; omega) (by omega)
    rw [← part_zero]
    simpa [hz1, Value.cells] using h
  have hback := back_of n size w
  go_enter Try.func35, Try.ntmps35
  go_wp2
  go_loopw [6, 11] (fun _ i wr => ∃ k : Nat, k ≤ size ∧ i = .int .i64 (k : Int) ∧ wr = w.alloc (.cells (part n size k) 5)) (fun _ i _ => size - (intOf i).toNat)
  case atStart => exact ⟨0, by omega, rfl, rfl⟩
  case round =>
    obtain ⟨k, hk, rfl, rfl⟩ := hrel
    by_cases hlt : k < size
    · have hcell : (w.alloc (.cells (part n size k) 5)).cell? ⟨w.heap.size, k, none⟩ = some (.int .u8 0) := by
        rw [World.cell?_alloc_at _ _ _ _ rfl, part_get _ _ _ _ hlt, if_neg (by omega)]
      go_wp2
      go_roundw
      case rel => exact ⟨k + 1, by omega, by go_num, by rw [cast_byte, part_step n size k hlt]⟩
      case measure => simp [intOf]; omega
    · obtain rfl : k = size := by omega
      go_wp2
      go_ret
      exact ⟨rfl, (Below.refl _ _).alloc (Nat.le_refl _) _⟩
end Go.Proofs.Ytjflkjkkamapdaa
