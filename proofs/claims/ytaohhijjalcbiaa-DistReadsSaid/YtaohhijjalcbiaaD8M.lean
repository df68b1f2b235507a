/-
  Plain mathematics of distributions: points, widths, descriptions as lists of numbers with how many bits each has, and what is read of bits. Nothing here speaks of the program.
-/
import Derived.Test.YtaohhijjalcbiaaLeL
namespace Go.Proofs.Ytaohhijjalcbiaa

/-- the points of a probability, and of a list -/
def pt (p : Int) : Int := if p = -1 then 1 else p
def pts : List Int → Int
  | [] => 0
  | p :: r => pt p + pts r
/-- how many bits a value has at most, and below which number it has one less, with points left -/
def wb (left : Int) : Nat := nb (left + 1)
def wt (left : Int) : Int := 2 ^ wb left - 1 - (left + 1)

theorem wb_in {left : Int} (h1 : 1 ≤ left) (h2 : left ≤ 4096) : 2 ≤ wb left ∧ wb left ≤ 13 ∧ (2 : Int) ^ (wb left - 1) ≤ left + 1 ∧ left + 1 < (2 : Int) ^ wb left := by
  have a := (nb_iff (n := left + 1) (by omega) 1).2 (by have : (2 : Int) ^ 1 = 2 := by decide
                                                        omega)
  have b : wb left ≤ 13 := by
    rcases Nat.lt_or_ge (wb left) 14 with h | h
    · omega
    · have := (nb_iff (n := left + 1) (by omega) 13).1 (by unfold wb at h; omega)
      have e : (2 : Int) ^ 13 = 8192 := by decide
      omega
  have c := (nb_iff (n := left + 1) (by omega) (wb left - 1)).1 (by unfold wb; omega)
  have d : left + 1 < (2 : Int) ^ wb left := by
    rcases Int.lt_or_le (left + 1) (2 ^ wb left) with h | h
    · exact h
    · have := (nb_iff (n := left + 1) (by omega) (wb left)).2 h
      unfold wb at this; omega
  exact ⟨by unfold wb; omega, b, c, d⟩
theorem pow_half {b : Nat} (h : 1 ≤ b) : (2 : Int) ^ b = 2 * 2 ^ (b - 1) := by
  obtain ⟨k, rfl⟩ : ∃ k, b = k + 1 := ⟨b - 1, by omega⟩
  rw [Nat.add_sub_cancel, Int.pow_succ]; omega
/-- all that is needed of the widths, as numbers: H the half -/
theorem wb_all {left : Int} (h1 : 1 ≤ left) (h2 : left ≤ 4096) : ∃ (b : Nat) (H : Nat), wb left = b + 1 ∧ 1 ≤ b ∧ b ≤ 12 ∧ 2 ^ b = H ∧ 2 ^ (b + 1) = 2 * H ∧ (H : Int) ≤ left + 1 ∧ left + 1 < 2 * H ∧ wt left = 2 * H - 2 - left ∧ 0 ≤ wt left ∧ wt left < H ∧ 2 ≤ H ∧ H ≤ 4096 := by
  obtain ⟨a, b, c, d⟩ := wb_in h1 h2
  have hp := pow_half (b := wb left) (by omega)
  have hc := pow_cast (wb left - 1)
  refine ⟨wb left - 1, 2 ^ (wb left - 1), by omega, by omega, by omega, rfl, ?_, by omega, by omega, ?_, ?_, ?_, ?_, ?_⟩
  · rw [Nat.pow_succ]; omega
  · unfold wt; omega
  · unfold wt; omega
  · unfold wt; omega
  · have : 2 ^ 1 ≤ 2 ^ (wb left - 1) := Nat.pow_le_pow_right (by omega) (by omega)
    omega
  · have : 2 ^ (wb left - 1) ≤ 2 ^ 12 := Nat.pow_le_pow_right (by omega) (by omega)
    omega

/-- how a probability is written: so many bits, and the number -/
def enc (left p : Int) : Nat × Nat :=
  if p + 1 < wt left then (wb left - 1, (p + 1).toNat) else if p + 1 < 2 ^ (wb left - 1) then (wb left, (p + 1).toNat) else (wb left, (p + 1 + wt left).toNat)
theorem enc_fits {left p : Int} (h1 : 1 ≤ left) (h2 : left ≤ 4096) (hp : -1 ≤ p) (hl : p ≤ left) : 1 ≤ (enc left p).1 ∧ (enc left p).1 ≤ 13 ∧ (enc left p).2 < 2 ^ (enc left p).1 := by
  obtain ⟨b, H, e1, e2, e3, e4, e5, e6, e7, e8, e9, e10, e11, e12⟩ := wb_all h1 h2
  have hc := pow_cast b
  unfold enc
  rw [e1, Nat.add_sub_cancel]
  by_cases c1 : p + 1 < wt left
  · rw [if_pos c1]; exact ⟨by simpa using e2, by simp; omega, by show (p + 1).toNat < 2 ^ b; omega⟩
  · rw [if_neg c1]
    by_cases c2 : p + 1 < 2 ^ b
    · rw [if_pos c2]; exact ⟨by simp, by simp; omega, by show (p + 1).toNat < 2 ^ (b + 1); omega⟩
    · rw [if_neg c2]; exact ⟨by simp, by simp; omega, by show (p + 1 + wt left).toNat < 2 ^ (b + 1); omega⟩

/-- how many zeros stand behind a zero -/
def zerosP (z : Nat) : List (Nat × Nat) := if z < 3 then [(2, z)] else (2, 3) :: zerosP (z - 3)
termination_by z
theorem zerosP_few {z : Nat} (h : z < 3) : zerosP z = [(2, z)] := by rw [zerosP, if_pos h]
theorem zerosP_more {z : Nat} (h : 3 ≤ z) : zerosP z = (2, 3) :: zerosP (z - 3) := by rw [zerosP, if_neg (by omega)]

/-- the numbers of a description behind its first 4 bits; within zeros, so many of them -/
def desc : Option Nat → Int → List Int → List (Nat × Nat)
  | none, _, [] => []
  | some k, _, [] => zerosP k
  | none, left, p :: r => enc left p :: (if p = 0 then desc (some 0) left r else desc none (left - pt p) r)
  | some k, left, p :: r => if p = 0 then desc (some (k + 1)) left r else zerosP k ++ (enc left p :: desc none (left - pt p) r)

/-- how many zeros a list begins with -/
def zr : List Int → Nat
  | [] => 0
  | p :: r => if p = 0 then zr r + 1 else 0
theorem zr_le : ∀ l : List Int, zr l ≤ l.length
  | [] => Nat.le_refl _
  | p :: r => by
    have := zr_le r
    simp only [zr, List.length_cons]
    split <;> omega
theorem desc_zeros : ∀ (l : List Int) (k : Nat) (left : Int), desc (some k) left l = zerosP (k + zr l) ++ desc none left (l.drop (zr l))
  | [], k, left => by simp [desc, zr]
  | p :: r, k, left => by
    by_cases hp : p = 0
    · simp only [desc, zr, if_pos hp]
      rw [desc_zeros r (k + 1) left, show k + 1 + zr r = k + (zr r + 1) by omega, List.drop_succ_cons]
    · simp only [desc, zr, if_neg hp, Nat.add_zero, List.drop_zero]
theorem zr_zero : ∀ (l : List Int) (j : Nat), j < zr l → l.getD j 0 = 0
  | [], j, h => by simp [zr] at h
  | p :: r, j, h => by
    by_cases hp : p = 0
    · cases j with
      | zero => simp [hp]
      | succ j => simp only [zr, if_pos hp] at h; simpa using zr_zero r j (by omega)
    · simp [zr, hp] at h
theorem zr_stop : ∀ (l : List Int), zr l < l.length → l.getD (zr l) 0 ≠ 0
  | [], h => by simp at h
  | p :: r, h => by
    by_cases hp : p = 0
    · simp only [zr, if_pos hp, List.length_cons] at h ⊢
      simpa using zr_stop r (by omega)
    · simp only [zr, if_neg hp]; simpa using hp

/-- probabilities that make up the points that are left -/
def okP (left : Int) (l : List Int) : Prop := (∀ p ∈ l, -1 ≤ p) ∧ pts l = left ∧ (l = [] ∨ l.getLast? ≠ some 0)

theorem pt_pos {p : Int} (h : -1 ≤ p) : 0 ≤ pt p ∧ p ≤ pt p ∧ (p ≠ 0 → 1 ≤ pt p) := by
  unfold pt; split <;> omega
theorem pts_pos : ∀ {l : List Int}, (∀ p ∈ l, -1 ≤ p) → 0 ≤ pts l
  | [], _ => Int.le_refl _
  | p :: r, h => by
    have a := (pt_pos (h p (List.mem_cons_self ..))).1
    have b := pts_pos (l := r) (fun q hq => h q (List.mem_cons_of_mem _ hq))
    simp only [pts]; omega
theorem pts_last : ∀ {l : List Int}, (∀ p ∈ l, -1 ≤ p) → l ≠ [] → l.getLast? ≠ some 0 → 1 ≤ pts l
  | [], _, h, _ => absurd rfl h
  | [p], h, _, hl => by
    have a := pt_pos (h p (List.mem_cons_self ..))
    have : p ≠ 0 := fun e => hl (by rw [e]; rfl)
    have := a.2.2 this
    simp only [pts]; omega
  | p :: q :: r, h, _, hl => by
    have a := (pt_pos (h p (List.mem_cons_self ..))).1
    have b := pts_last (l := q :: r) (fun x hx => h x (List.mem_cons_of_mem _ hx)) (by simp) (by rw [List.getLast?_cons_cons] at hl; exact hl)
    simp only [pts] at b ⊢; omega
theorem okP_cons {left p : Int} {r : List Int} (h : okP left (p :: r)) : -1 ≤ p ∧ p ≤ left ∧ 1 ≤ left ∧ okP (left - pt p) r ∧ (p = 0 → r ≠ [] ∧ 1 ≤ left) := by
  obtain ⟨h1, h2, h3⟩ := h
  have hp := h1 p (List.mem_cons_self ..)
  have hr : ∀ q ∈ r, -1 ≤ q := fun q hq => h1 q (List.mem_cons_of_mem _ hq)
  have a := pt_pos hp
  have b := pts_pos hr
  have hl : (p :: r).getLast? ≠ some 0 := by rcases h3 with h3 | h3; exact absurd h3 (by simp); exact h3
  have c := pts_last h1 (by simp) hl
  simp only [pts] at h2 c
  refine ⟨hp, by omega, by omega, ⟨hr, by omega, ?_⟩, fun e => ⟨fun er => hl (by rw [er, e]; rfl), by omega⟩⟩
  cases r with
  | nil => exact .inl rfl
  | cons q s => rw [List.getLast?_cons_cons] at hl; exact .inr hl

/-- how many bits numbers have together, and the number that they make -/
def totP : List (Nat × Nat) → Nat
  | [] => 0
  | x :: r => x.1 + totP r
def valP : List (Nat × Nat) → Nat
  | [] => 0
  | x :: r => x.2 + 2 ^ x.1 * valP r
def fitsP (l : List (Nat × Nat)) : Prop := ∀ x ∈ l, x.1 ≤ 13 ∧ x.2 < 2 ^ x.1
theorem totP_append (a b : List (Nat × Nat)) : totP (a ++ b) = totP a + totP b := by
  induction a with
  | nil => simp [totP]
  | cons x r ih => simp only [List.cons_append, totP]; omega
theorem valP_append (a b : List (Nat × Nat)) : valP (a ++ b) = valP a + valP b * 2 ^ totP a := by
  induction a with
  | nil => simp [totP, valP]
  | cons x r ih =>
    simp only [List.cons_append, totP, valP]
    rw [ih, Nat.mul_add, Nat.pow_add, Nat.add_assoc]
    congr 2
    rw [Nat.mul_left_comm]
theorem valP_lt : ∀ {l : List (Nat × Nat)}, fitsP l → valP l < 2 ^ totP l
  | [], _ => by simp [totP, valP]
  | x :: r, h => by
    simp only [totP, valP]
    have hx := (h x (List.mem_cons_self ..)).2
    have ih := valP_lt (l := r) (fun y hy => h y (List.mem_cons_of_mem _ hy))
    have h2 : 2 ^ x.1 * (valP r + 1) ≤ 2 ^ x.1 * 2 ^ totP r := Nat.mul_le_mul_left _ ih
    rw [Nat.mul_add, Nat.mul_one] at h2
    rw [Nat.pow_add]
    omega
theorem fitsP_append {a b : List (Nat × Nat)} (ha : fitsP a) (hb : fitsP b) : fitsP (a ++ b) := fun x hx => by
  rcases List.mem_append.1 hx with h | h
  · exact ha x h
  · exact hb x h
theorem zerosP_fits (z : Nat) : fitsP (zerosP z) := by
  induction z using Nat.strongRecOn with
  | _ z ih =>
    by_cases h : z < 3
    · rw [zerosP_few h]; intro x hx; rw [List.mem_singleton.1 hx]; exact ⟨by simp, by show z < 2 ^ 2; omega⟩
    · rw [zerosP_more (by omega)]
      intro x hx
      rcases List.mem_cons.1 hx with rfl | hx
      · exact ⟨by simp, by decide⟩
      · exact ih (z - 3) (by omega) x hx
theorem zerosP_tot (z : Nat) : totP (zerosP z) = 2 * (z / 3 + 1) := by
  induction z using Nat.strongRecOn with
  | _ z ih =>
    by_cases h : z < 3
    · rw [zerosP_few h]; simp only [totP]; omega
    · rw [zerosP_more (by omega)]
      simp only [totP]
      rw [ih (z - 3) (by omega)]; omega
theorem desc_fits : ∀ (m : Option Nat) (left : Int) (l : List Int), left ≤ 4096 → okP left l → fitsP (desc m left l)
  | none, left, [], _, _ => fun x hx => by simp [desc] at hx
  | some k, left, [], _, _ => zerosP_fits k
  | none, left, p :: r, h2, h => by
    obtain ⟨a, b, c, d, e⟩ := okP_cons h
    have f := enc_fits c h2 a b
    have g := pt_pos a
    intro x hx
    simp only [desc] at hx
    rcases List.mem_cons.1 hx with rfl | hx
    · exact f.2
    · by_cases hp : p = 0
      · rw [if_pos hp] at hx
        have e0 : pt p = 0 := by rw [hp]; rfl
        rw [e0, Int.sub_zero] at d
        exact desc_fits _ _ r h2 d x hx
      · rw [if_neg hp] at hx
        exact desc_fits _ _ r (by omega) d x hx
  | some k, left, p :: r, h2, h => by
    obtain ⟨a, b, c, d, e⟩ := okP_cons h
    have f := enc_fits c h2 a b
    have g := pt_pos a
    simp only [desc]
    by_cases hp : p = 0
    · rw [if_pos hp]
      have e0 : pt p = 0 := by rw [hp]; rfl
      rw [e0, Int.sub_zero] at d
      exact desc_fits _ _ r h2 d
    · rw [if_neg hp]
      refine fitsP_append (zerosP_fits k) ?_
      intro x hx
      rcases List.mem_cons.1 hx with rfl | hx
      · exact f.2
      · exact desc_fits _ _ r (by omega) d x hx
theorem desc_tot : ∀ (m : Option Nat) (left : Int) (l : List Int), left ≤ 4096 → okP left l → totP (desc m left l) ≤ 15 * l.length + (match m with | none => 0 | some k => 2 * (k + 1))
  | none, left, [], _, _ => by simp [desc, totP]
  | some k, left, [], _, _ => by simp only [desc, zerosP_tot]; omega
  | none, left, p :: r, h2, h => by
    obtain ⟨a, b, c, d, e⟩ := okP_cons h
    have f := enc_fits c h2 a b
    have g := pt_pos a
    simp only [desc, totP, List.length_cons]
    by_cases hp : p = 0
    · rw [if_pos hp]
      have e0 : pt p = 0 := by rw [hp]; rfl
      rw [e0, Int.sub_zero] at d
      have := desc_tot (some 0) _ r h2 d
      simp only at this ⊢; omega
    · rw [if_neg hp]
      have := desc_tot none _ r (show left - pt p ≤ 4096 by omega) d
      simp only at this ⊢; omega
  | some k, left, p :: r, h2, h => by
    obtain ⟨a, b, c, d, e⟩ := okP_cons h
    have f := enc_fits c h2 a b
    have g := pt_pos a
    simp only [desc, List.length_cons]
    by_cases hp : p = 0
    · rw [if_pos hp]
      have e0 : pt p = 0 := by rw [hp]; rfl
      rw [e0, Int.sub_zero] at d
      have := desc_tot (some (k + 1)) _ r h2 d
      simp only at this ⊢; omega
    · rw [if_neg hp, totP_append, zerosP_tot]
      have := desc_tot none _ r (show left - pt p ≤ 4096 by omega) d
      simp only [totP] at this ⊢; omega

/-- a description: its numbers -/
def dsc (L : Nat) (l : List Int) : List (Nat × Nat) := (4, L - 5) :: desc none (2 ^ L) l
theorem two12 {L : Nat} (h2 : L ≤ 12) : (2 : Int) ^ L ≤ 4096 := by
  have a : (2 : Nat) ^ L ≤ 2 ^ 12 := Nat.pow_le_pow_right (by omega) h2
  have := pow_cast L
  omega
theorem dsc_fits {L : Nat} {l : List Int} (h2 : L ≤ 12) (h : okP (2 ^ L) l) : fitsP (dsc L l) := by
  intro x hx
  rcases List.mem_cons.1 hx with rfl | hx
  · exact ⟨by simp, by show L - 5 < 2 ^ 4; omega⟩
  · exact desc_fits none _ l (two12 h2) h x hx
theorem dsc_tot {L : Nat} {l : List Int} (h2 : L ≤ 12) (h : okP (2 ^ L) l) : totP (dsc L l) ≤ 4 + 15 * l.length := by
  have := desc_tot none _ l (two12 h2) h
  simp only [dsc, totP] at this ⊢; omega
end Go.Proofs.Ytaohhijjalcbiaa
