/-
  Plain mathematics: what is read of bits: probabilities, zeros, lists, descriptions. Nothing here speaks of the program.
-/
import Derived.Test.YtaohhijjalcbiaaD8M
import Derived.Test.YtaohhijjalcbiaaLeN
namespace Go.Proofs.Ytaohhijjalcbiaa

theorem numB_mod (S : ByteArray) (B n m : Nat) (h : m ≤ n) : numB S B n % 2 ^ m = numB S B m := by
  induction n with
  | zero =>
    obtain rfl : m = 0 := by omega
    simp [numB]
  | succ n ih =>
    by_cases hm : m = n + 1
    · subst hm
      exact Nat.mod_eq_of_lt (numB_lt S B (n + 1))
    · simp only [numB]
      obtain ⟨d, rfl⟩ : ∃ d, n = m + d := ⟨n - m, by omega⟩
      rw [Nat.pow_add, Nat.mul_left_comm, Nat.add_mul_mod_self_left]
      exact ih (by omega)

/-- a probability is read, with points left: it, and where it ends -/
def rdP (S : ByteArray) (B : Nat) (left : Int) : Option (Int × Nat) :=
  if 8 * S.size < B + (wb left - 1) then none
  else if ((numB S B (wb left - 1) : Nat) : Int) < wt left then some ((numB S B (wb left - 1) : Nat) - 1, B + (wb left - 1))
  else if 8 * S.size < B + wb left then none
  else some ((if (2 : Int) ^ (wb left - 1) ≤ (numB S B (wb left) : Nat) then (numB S B (wb left) : Nat) - wt left else (numB S B (wb left) : Nat)) - 1, B + wb left)

theorem rdP_in {S : ByteArray} {B : Nat} {left : Int} (h1 : 1 ≤ left) (h2 : left ≤ 4096) {p : Int} {B' : Nat} (h : rdP S B left = some (p, B')) : -1 ≤ p ∧ p ≤ left ∧ B + 1 ≤ B' ∧ B' ≤ B + 13 ∧ B' ≤ 8 * S.size := by
  obtain ⟨b, H, e1, e2, e3, e4, e5, e6, e7, e8, e9, e10, e11, e12⟩ := wb_all h1 h2
  unfold rdP at h
  rw [e1, Nat.add_sub_cancel] at h
  have l1 := numB_lt S B b
  have l2 := numB_lt S B (b + 1)
  have hc := pow_cast b
  rw [e4] at l1
  rw [e5] at l2
  by_cases c1 : 8 * S.size < B + b
  · rw [if_pos c1] at h; cases h
  · rw [if_neg c1] at h
    by_cases c2 : ((numB S B b : Nat) : Int) < wt left
    · rw [if_pos c2] at h
      simp only [Option.some.injEq, Prod.mk.injEq] at h
      omega
    · rw [if_neg c2] at h
      by_cases c3 : 8 * S.size < B + (b + 1)
      · rw [if_pos c3] at h; cases h
      · rw [if_neg c3] at h
        simp only [Option.some.injEq, Prod.mk.injEq] at h
        by_cases c4 : (2 : Int) ^ b ≤ (numB S B (b + 1) : Nat)
        · rw [if_pos c4] at h; omega
        · rw [if_neg c4] at h; omega

/-- zeros are read: the list with them, and where they end -/
def rdZ (S : ByteArray) (sym : Nat) (acc : List Int) (B : Nat) : Option (List Int × Nat) :=
  if h : 8 * S.size < B + 2 then none
  else if sym < acc.length + numB S B 2 then none
  else if numB S B 2 = 3 then rdZ S sym (acc ++ List.replicate (numB S B 2) 0) (B + 2)
  else some (acc ++ List.replicate (numB S B 2) 0, B + 2)
termination_by 8 * S.size - B
theorem rdZ_in : ∀ (f : Nat) {S : ByteArray} {sym : Nat} {acc : List Int} {B : Nat} {l : List Int} {B' : Nat}, 8 * S.size - B ≤ f → acc.length ≤ sym → rdZ S sym acc B = some (l, B') →
    ∃ z, l = acc ++ List.replicate z 0 ∧ l.length ≤ sym ∧ B + 2 ≤ B' ∧ B' ≤ B + 2 + 2 * z ∧ B' ≤ 8 * S.size
  | 0, S, sym, acc, B, l, B', hf, ha, h => by
    rw [rdZ, dif_pos (by omega)] at h; cases h
  | f + 1, S, sym, acc, B, l, B', hf, ha, h => by
    rw [rdZ] at h
    by_cases c1 : 8 * S.size < B + 2
    · rw [dif_pos c1] at h; cases h
    · rw [dif_neg c1] at h
      by_cases c2 : sym < acc.length + numB S B 2
      · rw [if_pos c2] at h; cases h
      · rw [if_neg c2] at h
        by_cases c3 : numB S B 2 = 3
        · rw [if_pos c3, c3] at h
          obtain ⟨z, a, b, c, d, e⟩ := rdZ_in f (by omega) (by rw [List.length_append, List.length_replicate]; omega) h
          refine ⟨3 + z, ?_, b, by omega, by omega, e⟩
          rw [a, List.append_assoc, List.replicate_append_replicate]
        · rw [if_neg c3] at h
          simp only [Option.some.injEq, Prod.mk.injEq] at h
          obtain ⟨rfl, rfl⟩ := h
          exact ⟨_, rfl, by rw [List.length_append, List.length_replicate]; omega, by omega, by omega, by omega⟩

/-- a list is read, in f steps at most -/
def rdL (S : ByteArray) (sym : Nat) : Nat → Int → List Int → Nat → Option (List Int × Nat)
  | 0, _, _, _ => none
  | f + 1, left, acc, B =>
    if left ≤ 0 then some (acc, B) else
    match rdP S B left with
    | none => none
    | some (p, B1) =>
      if acc.length = sym then none else
      if p = 0 then
        match rdZ S sym (acc ++ [0]) B1 with
        | none => none
        | some (l, B2) => rdL S sym f left l B2
      else rdL S sym f (left - pt p) (acc ++ [p]) B1
/-- more steps than are needed do no harm -/
theorem rdL_steps (S : ByteArray) (sym : Nat) (hs : sym ≤ 256) : ∀ (f g : Nat) (left : Int) (acc : List Int) (B : Nat), left ≤ 4096 → acc.length ≤ sym → sym + 2 ≤ f + acc.length → sym + 2 ≤ g + acc.length → rdL S sym f left acc B = rdL S sym g left acc B
  | 0, g, left, acc, B, _, h1, h2, h3 => by omega
  | f + 1, 0, left, acc, B, _, h1, h2, h3 => by omega
  | f + 1, g + 1, left, acc, B, hl, h1, h2, h3 => by
    simp only [rdL]
    by_cases c1 : left ≤ 0
    · rw [if_pos c1, if_pos c1]
    · rw [if_neg c1, if_neg c1]
      cases hp : rdP S B left with
      | none => rfl
      | some x =>
        obtain ⟨p, B1⟩ := x
        simp only
        by_cases c2 : acc.length = sym
        · rw [if_pos c2, if_pos c2]
        · rw [if_neg c2, if_neg c2]
          have hin := rdP_in (by omega) hl hp
          by_cases c3 : p = 0
          · rw [if_pos c3, if_pos c3]
            cases hz : rdZ S sym (acc ++ [0]) B1 with
            | none => rfl
            | some y =>
              obtain ⟨l, B2⟩ := y
              obtain ⟨z, a, b, _⟩ := rdZ_in _ (Nat.le_refl _) (by simp; omega) hz
              have hll : acc.length + 1 ≤ l.length := by rw [a]; simp
              exact rdL_steps S sym hs f g left l B2 hl b (by omega) (by omega)
          · rw [if_neg c3, if_neg c3]
            have := pt_pos hin.1
            exact rdL_steps S sym hs f g _ _ B1 (by omega) (by simp; omega) (by simp; omega) (by simp; omega)
/-- where a list ends, and what it is -/
theorem rdL_in (S : ByteArray) (sym : Nat) : ∀ (f : Nat) (left : Int) (acc : List Int) (B : Nat) (l : List Int) (B' : Nat), left ≤ 4096 → acc.length ≤ sym → rdL S sym f left acc B = some (l, B') →
    ∃ m, l = acc ++ m ∧ l.length ≤ sym ∧ B ≤ B' ∧ B' ≤ B + 15 * m.length ∧ (B ≤ 8 * S.size → B' ≤ 8 * S.size)
  | 0, left, acc, B, l, B', _, _, h => by simp [rdL] at h
  | f + 1, left, acc, B, l, B', hl, h1, h => by
    simp only [rdL] at h
    by_cases c1 : left ≤ 0
    · rw [if_pos c1] at h
      simp only [Option.some.injEq, Prod.mk.injEq] at h
      obtain ⟨rfl, rfl⟩ := h
      exact ⟨[], by simp, h1, Nat.le_refl _, by simp, fun h => h⟩
    · rw [if_neg c1] at h
      cases hp : rdP S B left with
      | none => rw [hp] at h; cases h
      | some x =>
        obtain ⟨p, B1⟩ := x
        rw [hp] at h
        simp only at h
        have hin := rdP_in (by omega) hl hp
        by_cases c2 : acc.length = sym
        · rw [if_pos c2] at h; cases h
        · rw [if_neg c2] at h
          by_cases c3 : p = 0
          · rw [if_pos c3] at h
            cases hz : rdZ S sym (acc ++ [0]) B1 with
            | none => rw [hz] at h; cases h
            | some y =>
              obtain ⟨l2, B2⟩ := y
              rw [hz] at h
              simp only at h
              obtain ⟨z, a, b, c, d, e⟩ := rdZ_in _ (Nat.le_refl _) (by simp; omega) hz
              obtain ⟨m, q1, q2, q3, q4, q5⟩ := rdL_in S sym f left l2 B2 l B' hl b h
              refine ⟨0 :: (List.replicate z 0 ++ m), ?_, q2, by omega, ?_, fun _ => q5 e⟩
              · rw [q1, a]; simp
              · simp only [List.length_cons, List.length_append, List.length_replicate]; omega
          · rw [if_neg c3] at h
            have := pt_pos hin.1
            obtain ⟨m, q1, q2, q3, q4, q5⟩ := rdL_in S sym f _ _ B1 l B' (by omega) (by simp; omega) h
            refine ⟨p :: m, by rw [q1]; simp, q2, by omega, by simp only [List.length_cons]; omega, fun _ => q5 hin.2.2.2.2⟩

/-- what is read: the error, the distribution and where it ends -/
def rdR (S : ByteArray) (sym : Nat) : Option (List Int × Nat) := rdL S sym 300 (2 ^ (5 + numB S 0 4)) [] 4
def rdE (S : ByteArray) (most : Int) (sym : Nat) : Int :=
  if 8 * S.size < 4 then 23 else if most < 5 + (numB S 0 4 : Nat) then 31 else if (rdR S sym).isSome = true then 0 else 23
end Go.Proofs.Ytaohhijjalcbiaa
