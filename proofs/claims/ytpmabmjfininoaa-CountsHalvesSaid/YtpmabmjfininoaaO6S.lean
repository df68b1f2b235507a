/-
  Same, of the program and of the reference.
-/
import Derived.Lib.Bytealg
import Derived.Deep.QuietTactic
import Derived.BigQuiet
import Derived.Test.YtpmabmjfininoaaO6W
import Derived.Test.YtpmabmjfininoaaSameL
namespace Go.Proofs.Ytpmabmjfininoaa
open Go.ChangeShapes Go.WideShapes Go.ChangeAt Go.RowKit Go.Shelf
set_option linter.unusedVariables false
set_option linter.unusedSimpArgs false

theorem count_c (s : ByteArray) (c : UInt8) (w : World) :
    Calls Try.prog 44 #[.string s, .string ⟨#[c]⟩] w fun e w' => e = .returned (.int .i64 (Lib.countByte s.data.toList c)) ∧ w' = w := by
  go_enter Try.func44, Try.ntmps44
  go_wp2
  rw [run_callFunc_extern Try.func49 (by kernel_rfl) (by kernel_rfl) (by kernel_rfl) (e := Extern.BytealgCount.count) (by kernel_rfl), Lib.run_countString]
  simp only [Result.andThen]
  rw [Oper.upon_value]
  go_wp2
  go_ret
  exact ⟨rfl, rfl⟩

theorem count_c' (s sub : ByteArray) (c : UInt8) (h : sub = ⟨#[c]⟩) (w : World) :
    Calls Try.prog 44 #[.string s, .string sub] w fun e w' => e = .returned (.int .i64 (Lib.countByte s.data.toList c)) ∧ w' = w := by
  subst h
  exact count_c s c w

/-- a string has bytes, which are all equal -/
def samB (s : ByteArray) : Bool := match s.data.toList with | [] => false | c :: l => decide (l.count c = l.length)
theorem samB_empty {s : ByteArray} (h : s.size = 0) : samB s = false := by
  have hl : s.data.toList = [] := List.eq_nil_of_length_eq_zero (by simpa using h)
  unfold samB; rw [hl]
theorem split_at {s : ByteArray} (h : 0 < s.size) : ∃ l, s.data.toList = s[0] :: l ∧ s.size = l.length + 1 := by
  obtain ⟨⟨L⟩⟩ := s
  cases L with
  | nil => exact absurd h (by decide)
  | cons c l => exact ⟨l, rfl, rfl⟩
theorem extract_one {s : ByteArray} (h : 0 < s.size) : s.extract 0 1 = ⟨#[s[0]]⟩ := by
  obtain ⟨l, hl, hn⟩ := split_at h
  apply ByteArray.ext
  apply Array.ext'
  rw [ByteArray.data_extract]
  simp [hl]
theorem samB_count {s : ByteArray} (h : 0 < s.size) : (((Lib.countByte s.data.toList s[0] : Nat) : Int) == (s.size : Int)) = samB s := by
  obtain ⟨l, hl, hn⟩ := split_at h
  unfold samB Lib.countByte
  rw [hl, hn, List.count_cons_self]
  rw [Bool.eq_iff_iff]
  simp
  omega
theorem samB_all {s : ByteArray} (h : 0 < s.size) : samB s = true ↔ ∀ k (hk : k < s.size), s[k] = s[0] := by
  obtain ⟨⟨L⟩⟩ := s
  cases L with
  | nil => exact absurd h (by decide)
  | cons c l =>
    show decide (l.count c = l.length) = true ↔ _
    rw [decide_eq_true_iff, List.count_eq_length]
    constructor
    · intro ha k hk
      rcases k with _ | k
      · rfl
      · exact (ha _ (List.getElem_mem (Nat.lt_of_succ_lt_succ hk))).symm
    · intro ha b hb
      obtain ⟨k, hk, rfl⟩ := List.mem_iff_getElem.1 hb
      exact (ha (k + 1) (Nat.succ_lt_succ hk)).symm

theorem same_c (s : ByteArray) (hs : s.size ≤ 1048576) (w : World) :
    Calls Try.prog 31 #[.string s] w fun e w' => e = .returned (.bool (samB s)) ∧ Below w.heap.size w w' := by
  rcases Nat.eq_zero_or_pos s.size with h0 | h0
  · rw [samB_empty h0]
    have hd : decide ((0 : Int) < (s.size : Int)) = false := decide_eq_false (by omega)
    go_enter Try.func31, Try.ntmps31
    go_wp2
    go_ret
    exact ⟨rfl, Below.refl _ _⟩
  · have hd : decide ((0 : Int) < (s.size : Int)) = true := decide_eq_true (by omega)
    have hcc := count_c' s (s.extract 0 1) _ (extract_one h0)
    have HS := Lib.hid (samB_count h0)
    generalize Lib.countByte s.data.toList s[0] = c at *
    go_enter Try.func31, Try.ntmps31
    go_wp2_with (go_at_call 44; (with_reducible refine (hcc _).mono ?_); rintro e w' ⟨rfl, rfl⟩)
    go_ret
    exact ⟨by rw [← HS.out]; rfl, Below.refl _ _⟩

theorem rsame_c (s : ByteArray) (hs : s.size ≤ 1048576) (w : World) :
    Calls Try.prog 32 #[.string s] w fun e w' => e = .returned (.bool (samB s)) ∧ Below w.heap.size w w' := by
  rcases Nat.eq_zero_or_pos s.size with h0 | h0
  · have HE := Lib.hid (samB_empty h0)
    have he : s.toList.isEmpty = true := by
      have hl : s.data.toList = [] := List.eq_nil_of_length_eq_zero (by simpa using h0)
      rw [ByteArray.toList_eq, hl]; rfl
    go_enter Try.func32, Try.ntmps32
    go_wp2
    go_loop [3] (fun i => i = .int .i64 1) (fun _ => 0)
    case atStart => exact rfl
    case round =>
      obtain rfl := hrel
      go_wp2
      go_ret
      exact ⟨by rw [HE.out]; rfl, Below.refl _ _⟩
  · have he : s.toList.isEmpty = false := by
      obtain ⟨l, hl, hn⟩ := split_at h0
      rw [ByteArray.toList_eq, hl]; rfl
    have HA := Lib.hid (samB_all h0)
    have HZ : Hid (∀ j (hj : j < s.size), j < 0 + 1 → s[j] = s[0]) := Lib.hid (fun j hj h => by
      have hj0 : j = 0 := by omega
      subst hj0
      rfl)
    go_enter Try.func32, Try.ntmps32
    go_wp2
    go_loopw [3] (fun i wr => ∃ (k n : Nat), k + 1 ≤ s.size ∧ Hid (∀ j (hj : j < s.size), j < k + 1 → s[j] = s[0]) ∧ i = .int .i64 ((k + 1 : Nat) : Int) ∧ wr = w.drewN n) (fun i _ => s.size - (intOf i).toNat)
    case atStart => exact ⟨0, 0, by omega, HZ, rfl, rfl⟩
    case round =>
      obtain ⟨k, n, hk, hA, rfl, rfl⟩ := hrel
      by_cases hlt : k + 1 < s.size
      · by_cases heq : s[k + 1] = s[0]
        · have HN : Hid (∀ j (hj : j < s.size), j < k + 1 + 1 → s[j] = s[0]) := Lib.hid (fun j hj h => by
            rcases Nat.lt_or_ge j (k + 1) with h1 | h1
            · exact hA.out j hj h1
            · have : j = k + 1 := by omega
              subst this; exact heq)
          have hv : s[k + 1].toNat = s[0].toNat := by rw [heq]
          clear hA heq
          generalize hj : k + 1 = j at *
          go_wp2
          go_quiet (fail)
          go_wp2
          go_roundw
          case rel => exact ⟨j, _, by omega, HN, by go_num, rfl⟩
          case measure => simp [intOf]; omega
        · have HF : Hid (samB s = false) := Lib.hid (by
            rw [← Bool.not_eq_true]
            exact fun h => heq ((HA.out.1 h) _ hlt))
          have hv : s[k + 1].toNat ≠ s[0].toNat := fun h => heq (UInt8.toNat_inj.1 h)
          clear hA heq
          generalize hj : k + 1 = j at *
          have hv' : ((s[j].toNat : Int) != (s[0].toNat : Int)) = true := by simp; omega
          clear hv
          go_wp2
          go_quiet (fail)
          go_wp2
          go_ret
          exact ⟨by rw [HF.out]; rfl, Below.drewN' (Below.drewN' (Below.refl _ _) _) _⟩
      · have HT : Hid (samB s = true) := Lib.hid (HA.out.2 (fun j hj => hA.out j hj (by omega)))
        clear hA
        generalize hj : k + 1 = j at *
        obtain rfl : j = s.size := by omega
        go_wp2
        go_ret
        exact ⟨by rw [HT.out]; rfl, Below.drewN' (Below.refl _ _) _⟩
end Go.Proofs.Ytpmabmjfininoaa
