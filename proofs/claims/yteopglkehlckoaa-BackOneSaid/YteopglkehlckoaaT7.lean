/-
  The project's reader of package back: the region, the bits, the look at one value, for every reader.
-/
import Derived.Test.YteopglkehlckoaaT6
import Derived.Test.YteopglkehlckoaaB3Take
import Derived.Test.YteopglkehlckoaaLeN
namespace Go.Proofs.Yteopglkehlckoaa
open Go.ChangeShapes Go.WideShapes Go.ChangeAt Go.RowKit
set_option linter.unusedVariables false

/-- the highest bit of b below k that is 1 -/
def hb (b : Nat) : Nat → Nat
  | 0 => 0
  | k + 1 => if b / 2 ^ k % 2 = 1 then k else hb b k

theorem hb_le (b k : Nat) : hb b k ≤ k := by
  induction k with
  | zero => exact Nat.le_refl _
  | succ k ih =>
    simp only [hb]
    split <;> omega

theorem highest_any (b : Nat) (hb2 : b < 256) (w : World) : Calls Try.prog 41 #[.int .u8 (b : Int)] w fun e w' => e = .returned (.int .i64 (hb b 8 : Nat)) ∧ w = w' := by
  go_enter Try.func41, Try.ntmps41
  go_wp2
  go_loop [3, 5] (fun h i => ∃ k x : Nat, k ≤ 8 ∧ Hid (x = hb b k) ∧ h = .int .i64 (x : Int) ∧ i = .int .i64 (k : Int)) (fun _ i => 8 - (intOf i).toNat)
  case atStart => exact ⟨0, 0, by omega, rfl, rfl, rfl⟩
  case round =>
    obtain ⟨k, x, hk, hx, rfl, rfl⟩ := hrel
    by_cases hlt : k < 8
    · obtain ⟨z, hz⟩ : ∃ z, z = b / 2 ^ k % 2 := ⟨_, rfl⟩
      have hz2 : z < 2 := by rw [hz]; exact Nat.mod_lt _ (by omega)
      have hbt := u8_bit b k hb2
      rw [← hz] at hbt
      have HZ := Lib.hid hz
      clear hz
      by_cases h1 : z = 1
      · subst h1
        go_wp2
        go_round
        case rel => exact ⟨k + 1, k, by omega, by show _ = _; simp only [hb]; rw [if_pos HZ.out.symm], rfl, by go_num⟩
        case measure => simp [intOf]; omega
      · obtain rfl : z = 0 := by omega
        go_wp2
        go_round
        case rel => exact ⟨k + 1, x, by omega, by show _ = _; simp only [hb]; rw [if_neg (by rw [← HZ.out]; decide)]; exact hx.out, rfl, by go_num⟩
        case measure => simp [intOf]; omega
    · obtain rfl : k = 8 := by omega
      go_wp2
      go_ret
      exact ⟨ret_int (by rw [hx.out]), rfl⟩
theorem hi_last (S : ByteArray) (m c k : Nat) (hk : k ≤ 8) (hbit : ∀ i, i < 8 → bitAt S (8 * m + i) = c / 2 ^ i % 2) (hex : ∃ i, i < k ∧ c / 2 ^ i % 2 = 1) : hiBit S (8 * m + k) = 8 * m + hb c k := by
  induction k with
  | zero => obtain ⟨i, hi, _⟩ := hex; omega
  | succ k ih =>
    rw [← Nat.add_assoc]
    simp only [hiBit, hb]
    rw [hbit k (by omega)]
    have hz : c / 2 ^ k % 2 < 2 := Nat.mod_lt _ (by omega)
    by_cases h1 : c / 2 ^ k % 2 = 1
    · rw [if_neg (by omega), if_pos h1]
    · rw [if_pos (by omega), if_neg h1]
      obtain ⟨i, hi, hi1⟩ := hex
      refine ih (by omega) ⟨i, ?_, hi1⟩
      rcases Nat.lt_or_ge i k with h | h
      · exact h
      · have : i = k := by omega
        subst this
        exact absurd hi1 h1

theorem hi_all (S : ByteArray) (h0 : 0 < S.size) (hc : lastB S ≠ 0) : hiBit S (8 * S.size) = 8 * (S.size - 1) + hb (lastB S) 8 := by
  have hlt : S.size - 1 < S.size := by omega
  have hl : lastB S = (S[S.size - 1]'hlt).toNat := by unfold lastB; rw [dif_pos hlt]
  have h := hi_last S (S.size - 1) (lastB S) 8 (by omega) (fun i hi => by
    unfold bitAt
    have e1 : (8 * (S.size - 1) + i) / 8 = S.size - 1 := by omega
    have e2 : (8 * (S.size - 1) + i) % 8 = i := by omega
    rw [dif_pos (by omega), hl]
    simp only [e1, e2]) (byte_bit _ (by rw [hl]; exact UInt8.toNat_lt _) hc)
  rw [← h]
  congr 1
  omega

theorem ownBits_long (S : ByteArray) (hS : S.size ≤ 9223372036854775807) (h : decide ((1048576 : Int) < (S.size : Int)) = true) (w : World) :
    Calls Try.prog 24 #[.string S] w fun e w' => e = .returned (.tuple #[.int .i64 0, .int .i64 4]) ∧ w = w' := by
  go_enter Try.func24, Try.ntmps24
  go_wp2
  go_ret2
  exact ⟨rfl, rfl⟩
theorem ownBits_none (w : World) : Calls Try.prog 24 #[.string ⟨#[]⟩] w fun e w' => e = .returned (.tuple #[.int .i64 0, .int .i64 22]) ∧ w = w' := by
  go_enter Try.func24, Try.ntmps24
  go_wp2
  go_ret2
  exact ⟨rfl, rfl⟩
theorem ownBits_last (S : ByteArray) (hS : S.size ≤ 1048576) (h0 : 0 < S.size) (hc : lastB S = 0) (w : World) :
    Calls Try.prog 24 #[.string S] w fun e w' => e = .returned (.tuple #[.int .i64 0, .int .i64 22]) ∧ w = w' := by
  have hlt : S.size - 1 < S.size := by omega
  have hz : ((S[S.size - 1]'hlt).toNat : Int) = 0 := by
    unfold lastB at hc
    rw [dif_pos hlt] at hc
    omega
  clear hc
  go_enter Try.func24, Try.ntmps24
  go_wp2
  go_ret2
  exact ⟨rfl, rfl⟩
theorem ownBits_find (S : ByteArray) (hS : S.size ≤ 1048576) (h0 : 0 < S.size) (hc : lastB S ≠ 0) (w : World) :
    Calls Try.prog 24 #[.string S] w fun e w' => e = .returned (.tuple #[.int .i64 (hiBit S (8 * S.size) : Nat), .int .i64 0]) ∧ w = w' := by
  have hlt : S.size - 1 < S.size := by omega
  have hl : lastB S = (S[S.size - 1]'hlt).toNat := by unfold lastB; rw [dif_pos hlt]
  have hz : (((S[S.size - 1]'hlt).toNat : Int) == 0) = false := by
    rw [hl] at hc
    simp
    omega
  have hH := fun u => highest_any (S[S.size - 1]'hlt).toNat (UInt8.toNat_lt _) u
  rw [← hl] at hH
  have h8 := hb_le (lastB S) 8
  have hfin : 8 * ((S.size : Int) - 1) + (hb (lastB S) 8 : Nat) = (hiBit S (8 * S.size) : Nat) := by rw [hi_all S h0 hc]; omega
  rw [← hfin]
  have hl2 : ((S[S.size - 1]'hlt).toNat : Int) = (lastB S : Nat) := by rw [hl]
  rw [hl2] at hz
  clear hc hfin hl
  generalize hb (lastB S) 8 = x at *
  generalize lastB S = c at *
  go_enter Try.func24, Try.ntmps24
  go_wp2_with ((go_at_call 41; (with_reducible refine (hH _).mono ?_); rintro e w1 ⟨rfl, rfl⟩))
  go_ret2
  exact ⟨rfl, rfl⟩

theorem ownBits_any (S : ByteArray) (hS : S.size ≤ 9223372036854775807) (w : World) :
    Calls Try.prog 24 #[.string S] w fun e w' => e = .returned (.tuple #[.int .i64 (strN S), .int .i64 (strE S)]) ∧ w = w' := by
  by_cases h1 : 1048576 < S.size
  · have e : strE S = 4 := by unfold strE; rw [if_pos h1]
    unfold strN
    rw [e, if_neg (by decide)]
    exact ownBits_long S hS (decide_eq_true (by omega)) w
  · by_cases h2 : S.size = 0
    · have e : strE S = 22 := by unfold strE; rw [if_neg h1, if_pos (.inl h2)]
      unfold strN
      rw [e, if_neg (by decide)]
      have hS0 : S = ⟨#[]⟩ := by
        apply ByteArray.ext
        exact Array.eq_empty_of_size_eq_zero h2
      rw [hS0]
      exact ownBits_none w
    · by_cases h3 : lastB S = 0
      · have e : strE S = 22 := by unfold strE; rw [if_neg h1, if_pos (.inr h3)]
        unfold strN
        rw [e, if_neg (by decide)]
        exact ownBits_last S (by omega) (by omega) h3 w
      · have e : strE S = 0 := by unfold strE; rw [if_neg h1, if_neg (by omega)]
        unfold strN
        rw [e, if_pos rfl]
        exact ownBits_find S (by omega) (by omega) h3 w

theorem ownRead_any (S : ByteArray) (hS : S.size ≤ 9223372036854775807) (w : World) :
    Calls Try.prog 13 #[.string S] w fun e w' => e = .returned (.tuple #[.agg #[.string (breS S), .int .i64 (strN S)], .int .i64 (strE S)]) ∧ Below w.heap.size w w' := by
  have hB := fun u => ownBits_any S hS u
  unfold breS
  by_cases hc : strE S = 0
  · rw [if_pos hc]
    rw [hc] at hB ⊢
    generalize strN S = n at *
    clear hc
    go_enter Try.func13, Try.ntmps13
    go_wp2_with ((go_at_call 24; (with_reducible refine (hB _).mono ?_); rintro e w' ⟨rfl, rfl⟩))
    exact bodyPost_ret (v := .tuple #[.agg #[.string S, .int .i64 n], .int .i64 0]) (by simp [results, Try.results13, go_sem]) rfl ⟨rfl, (Below.refl _ _).alloc (Nat.le_refl _) _⟩
  · rw [if_neg hc]
    have t2 : (strE S != 0) = true := by simp [hc]
    rw [strN_bad hc] at hB ⊢
    generalize strE S = c at *
    clear hc
    go_enter Try.func13, Try.ntmps13
    go_wp2_with ((go_at_call 24; (with_reducible refine (hB _).mono ?_); rintro e w' ⟨rfl, rfl⟩))
    exact bodyPost_ret (v := .tuple #[.agg #[.string ⟨#[]⟩, .int .i64 0], .int .i64 c]) (by simp [results, Try.results13, go_sem]) rfl ⟨rfl, (Below.refl _ _).alloc (Nat.le_refl _) _⟩

/-- a reader with its error: three cells -/
def at3r (s : ByteArray) (l c : Int) : Array Value := #[.string s, .int .i64 l, .int .i64 c]
theorem blk3r {w : World} {g : Nat} {t : TypeId} {s : ByteArray} {l c : Int} (h : Blk w g t (at3r s l c)) :
    (w.cell? ⟨g, 0, none⟩ = some (.string s) ∧ w.cell? ⟨g, 1, none⟩ = some (.int .i64 l) ∧ w.cell? ⟨g, 2, none⟩ = some (.int .i64 c)) ∧
    (w.frozen? ⟨g, 0, none⟩ = false ∧ w.frozen? ⟨g, 1, none⟩ = false ∧ w.frozen? ⟨g, 2, none⟩ = false) :=
  ⟨⟨blk_cell h 0, blk_cell h 1, blk_cell h 2⟩, blk_frozen h 0, blk_frozen h 1, blk_frozen h 2⟩
theorem blk3r_err {w : World} {g : Nat} {t : TypeId} {s : ByteArray} {l c c' : Int} (h : Blk w g t (at3r s l c)) : Blk (w.setCell ⟨g, 2, none⟩ (.int .i64 c')) g t (at3r s l c') := blk_set h 2 _
theorem blk3r_left {w : World} {g : Nat} {t : TypeId} {s : ByteArray} {l l' c : Int} (h : Blk w g t (at3r s l c)) : Blk (w.setCell ⟨g, 1, none⟩ (.int .i64 l')) g t (at3r s l' c) := blk_set h 1 _

/-- what look gives: a new reader -/
def Looked (S : ByteArray) (L : Int) (w : World) (e : Ending) (w' : World) : Prop := ∃ g, e = .returned (.pointer (some ⟨g, 0, none⟩)) ∧ w.heap.size ≤ g ∧ Blk w' g 71 (at3r S L (brtE S L)) ∧ Below w.heap.size w w'
def LkW (w : World) (S : ByteArray) (L : Int) : World := (w.alloc (.cells #[.string S, .int .i64 L] 32)).alloc (.cells #[.string S, .int .i64 L, .int .i64 0] 71)
theorem LkW_blk (w : World) (S : ByteArray) (L : Int) : Blk (LkW w S L) (w.heap.size + 1) 71 (at3r S L 0) := blk_new2 w _ _ _
theorem LkW_below (w : World) (S : ByteArray) (L : Int) : Below w.heap.size w (LkW w S L) := below_box (below_box (Below.refl _ _) _) _

theorem look_bad (S : ByteArray) (L n c : Int) (hB : ∀ u, Calls Try.prog 24 #[.string S] u fun e w' => e = .returned (.tuple #[.int .i64 n, .int .i64 c]) ∧ u = w')
    (h : (c != 0) = true ∨ ((c != 0) = false ∧ (L < 0 ∨ n < L))) (w : World) :
    Calls Try.prog 38 #[.agg #[.string S, .int .i64 L]] w fun e w' => e = .returned (.pointer (some ⟨w.heap.size + 1, 0, none⟩)) ∧ Blk w' (w.heap.size + 1) 71 (at3r S L 10) ∧ Below w.heap.size w w' := by
  have hM := fun (u : World) (hu : Blk u (w.heap.size + 1) 71 (at3r S L 0)) => meet_zero (w.heap.size + 1) 2 10 u (blk3r hu).1.2.2 (blk3r hu).2.2.2
  have KB := Lib.hid (LkW_blk w S L)
  have HM := Lib.hid hM
  clear hM
  rcases h with h1 | ⟨h1, h2 | h2⟩
  · go_enter Try.func38, Try.ntmps38
    go_wp2_with (first
      | (go_at_call 24; (with_reducible refine (hB _).mono ?_); rintro e w' ⟨rfl, rfl⟩)
      | (go_at_call 45; (refine (HM.out _ KB.out).mono ?_); rintro e w2 ⟨rfl, rfl⟩))
    go_ret
    exact ⟨rfl, blk3r_err KB.out, (LkW_below w S L).setCell (by simp) _⟩
  · go_enter Try.func38, Try.ntmps38
    go_wp2_with (first
      | (go_at_call 24; (with_reducible refine (hB _).mono ?_); rintro e w' ⟨rfl, rfl⟩)
      | (go_at_call 45; (refine (HM.out _ KB.out).mono ?_); rintro e w2 ⟨rfl, rfl⟩))
    go_ret
    exact ⟨rfl, blk3r_err KB.out, (LkW_below w S L).setCell (by simp) _⟩
  · by_cases h0 : L < 0
    · go_enter Try.func38, Try.ntmps38
      go_wp2_with (first
        | (go_at_call 24; (with_reducible refine (hB _).mono ?_); rintro e w' ⟨rfl, rfl⟩)
        | (go_at_call 45; (refine (HM.out _ KB.out).mono ?_); rintro e w2 ⟨rfl, rfl⟩))
      go_ret
      exact ⟨rfl, blk3r_err KB.out, (LkW_below w S L).setCell (by simp) _⟩
    · go_enter Try.func38, Try.ntmps38
      go_wp2_with (first
        | (go_at_call 24; (with_reducible refine (hB _).mono ?_); rintro e w' ⟨rfl, rfl⟩)
        | (go_at_call 45; (refine (HM.out _ KB.out).mono ?_); rintro e w2 ⟨rfl, rfl⟩))
      go_ret
      exact ⟨rfl, blk3r_err KB.out, (LkW_below w S L).setCell (by simp) _⟩

theorem look_good (S : ByteArray) (L n : Int) (hB : ∀ u, Calls Try.prog 24 #[.string S] u fun e w' => e = .returned (.tuple #[.int .i64 n, .int .i64 0]) ∧ u = w')
    (h0 : 0 ≤ L) (h1 : L ≤ n) (w : World) :
    Calls Try.prog 38 #[.agg #[.string S, .int .i64 L]] w fun e w' => e = .returned (.pointer (some ⟨w.heap.size + 1, 0, none⟩)) ∧ Blk w' (w.heap.size + 1) 71 (at3r S L 0) ∧ Below w.heap.size w w' := by
  have KB := Lib.hid (LkW_blk w S L)
  go_enter Try.func38, Try.ntmps38
  go_wp2_with ((go_at_call 24; (with_reducible refine (hB _).mono ?_); rintro e w' ⟨rfl, rfl⟩))
  go_ret
  exact ⟨rfl, KB.out, LkW_below w S L⟩

theorem look_any (S : ByteArray) (L : Int) (hS : S.size ≤ 9223372036854775807) (w : World) : Calls Try.prog 38 #[.agg #[.string S, .int .i64 L]] w (Looked S L w) := by
  have hB := fun u => ownBits_any S hS u
  have key : ∀ r : Int, brtE S L = r → (Calls Try.prog 38 #[.agg #[.string S, .int .i64 L]] w fun e w' => e = .returned (.pointer (some ⟨w.heap.size + 1, 0, none⟩)) ∧ Blk w' (w.heap.size + 1) 71 (at3r S L r) ∧ Below w.heap.size w w') → Calls Try.prog 38 #[.agg #[.string S, .int .i64 L]] w (Looked S L w) := by
    intro r hr h
    exact h.mono fun e w' ⟨b1, b2, b3⟩ => ⟨w.heap.size + 1, b1, by omega, by rw [hr]; exact b2, b3⟩
  by_cases hc : strE S = 0
  · by_cases hl : 0 ≤ L ∧ L ≤ strN S
    · rw [hc] at hB
      exact key 0 (by unfold brtE; rw [if_pos ⟨hc, hl.1, hl.2⟩]) (look_good S L _ hB hl.1 hl.2 w)
    · exact key 10 (by unfold brtE; rw [if_neg (fun h => hl h.2)]) (look_bad S L _ _ hB (.inr ⟨by simp [hc], by omega⟩) w)
  · exact key 10 (by unfold brtE; rw [if_neg (fun h => hc h.1)]) (look_bad S L _ _ hB (.inl (by simp [hc])) w)

theorem ownRight3_any (S : ByteArray) (L : Int) (hS : S.size ≤ 9223372036854775807) (w : World) :
    Calls Try.prog 17 #[.agg #[.string S, .int .i64 L]] w fun e w' => e = .returned (.int .i64 (brtE S L)) ∧ Below w.heap.size w w' := by
  have hO := fun u => look_any S L hS u
  unfold Looked at hO
  generalize brtE S L = c at *
  go_enter Try.func17, Try.ntmps17
  go_wp2_with ((go_at_call 38; (with_reducible refine (hO _).mono ?_); rintro e w1 ⟨g, rfl, hg, hB, hb1⟩; have y3 := (blk3r hB).1.2.2))
  go_ret
  exact ⟨rfl, ((Below.refl _ _).alloc (Nat.le_refl _) _).trans (hb1.mono (by simp))⟩

end Go.Proofs.Yteopglkehlckoaa
