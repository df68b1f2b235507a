/-
  Plain mathematics: a description is read back, and strings that agree are read alike. Nothing here speaks of the program.
-/
import Derived.Test.YtaohhijjalcbiaaD8R
namespace Go.Proofs.Ytaohhijjalcbiaa
set_option linter.unusedVariables false

/-- a string has numbers with their bits from a bit on -/
def Has (S : ByteArray) : Nat → List (Nat × Nat) → Prop
  | _, [] => True
  | B, x :: r => B + x.1 ≤ 8 * S.size ∧ numB S B x.1 = x.2 ∧ Has S (B + x.1) r
theorem has_append {S : ByteArray} : ∀ {B : Nat} {a b : List (Nat × Nat)}, Has S B (a ++ b) → Has S B a ∧ Has S (B + totP a) b
  | B, [], b, h => ⟨trivial, by simpa [totP] using h⟩
  | B, x :: r, b, h => by
    obtain ⟨h1, h2, h3⟩ := h
    obtain ⟨q1, q2⟩ := has_append (a := r) (b := b) h3
    refine ⟨⟨h1, h2, q1⟩, ?_⟩
    simp only [totP]
    rwa [← Nat.add_assoc]

theorem rdP_enc {S : ByteArray} {B : Nat} {left p : Int} (h1 : 1 ≤ left) (h2 : left ≤ 4096) (hp : -1 ≤ p) (hl : p ≤ left) (hb : B + (enc left p).1 ≤ 8 * S.size) (hn : numB S B (enc left p).1 = (enc left p).2) : rdP S B left = some (p, B + (enc left p).1) := by
  obtain ⟨b, H, e1, e2, e3, e4, e5, e6, e7, e8, e9, e10, e11, e12⟩ := wb_all h1 h2
  have hc := pow_cast b
  have hm := numB_mod S B (b + 1) b (by omega)
  have l2 := numB_lt S B (b + 1)
  unfold enc at hb hn ⊢
  unfold rdP
  rw [e1, Nat.add_sub_cancel] at hb hn ⊢
  rw [e4] at hm
  rw [e5] at l2
  have hH : (2 : Int) ^ b = H := by omega
  rw [hH] at hb hn ⊢
  generalize wt left = T at *
  by_cases c1 : p + 1 < T
  · rw [if_pos c1] at hb hn ⊢
    simp only at hb hn ⊢
    rw [if_neg (by omega), if_pos (by omega), hn]
    congr 2
    omega
  · rw [if_neg c1] at hb hn ⊢
    by_cases c2 : p + 1 < H
    · rw [if_pos c2] at hb hn ⊢
      simp only at hb hn ⊢
      have hx : numB S B b = numB S B (b + 1) := by rw [← hm, hn]; exact Nat.mod_eq_of_lt (by omega)
      rw [if_neg (by omega), hx, hn, if_neg (by omega), if_neg (by omega), if_neg (by omega)]
      congr 2
      omega
    · rw [if_neg c2] at hb hn ⊢
      simp only at hb hn ⊢
      have hx : numB S B b = (p + 1 + T).toNat - H := by
        rw [← hm, hn]
        have e : (p + 1 + T).toNat = (p + 1 + T).toNat - H + H := by omega
        rw [e, Nat.add_mod_right, Nat.mod_eq_of_lt (by omega)]
        omega
      rw [if_neg (by omega), hx, if_neg (by omega), if_neg (by omega), hn, if_pos (by omega)]
      congr 2
      omega
theorem rdZ_zeros (S : ByteArray) (sym : Nat) : ∀ (z B : Nat) (acc : List Int), Has S B (zerosP z) → acc.length + z ≤ sym → rdZ S sym acc B = some (acc ++ List.replicate z 0, B + totP (zerosP z)) := by
  intro z
  induction z using Nat.strongRecOn with
  | _ z ih =>
    intro B acc h hl
    by_cases h3 : z < 3
    · rw [zerosP_few h3] at h ⊢
      obtain ⟨q1, q2, _⟩ := h
      simp only at q1 q2
      rw [rdZ, dif_neg (by omega), q2, if_neg (by omega), if_neg (by omega)]
      simp [totP]
    · rw [zerosP_more (by omega)] at h ⊢
      obtain ⟨q1, q2, q3⟩ := h
      simp only at q1 q2 q3
      rw [rdZ, dif_neg (by omega), q2, if_neg (by omega), if_pos rfl, ih (z - 3) (by omega) (B + 2) _ q3 (by simp; omega), List.append_assoc, List.replicate_append_replicate]
      simp only [totP]
      rw [show 3 + (z - 3) = z by omega, Nat.add_assoc]
theorem zr_split : ∀ (l : List Int), l = List.replicate (zr l) 0 ++ l.drop (zr l)
  | [] => rfl
  | p :: r => by
    by_cases hp : p = 0
    · simp only [zr, if_pos hp]
      rw [List.replicate_succ, List.drop_succ_cons, List.cons_append, ← zr_split r, hp]
    · simp [zr, hp]
theorem okP_drop' : ∀ {l : List Int} {left : Int} (j : Nat), okP left l → j ≤ zr l → okP left (l.drop j)
  | [], left, j, h, _ => by simpa using h
  | p :: r, left, 0, h, _ => h
  | p :: r, left, j + 1, h, hj => by
    by_cases hp : p = 0
    · simp only [zr, if_pos hp] at hj
      have a := (okP_cons h).2.2.2.1
      rw [hp, show pt 0 = 0 from rfl, Int.sub_zero] at a
      rw [List.drop_succ_cons]
      exact okP_drop' j a (by omega)
    · simp [zr, hp] at hj
theorem rdL_desc (S : ByteArray) (sym : Nat) : ∀ (n : Nat) (ps : List Int), ps.length ≤ n → ∀ (f : Nat) (left : Int) (acc : List Int) (B : Nat), ps.length < f → left ≤ 4096 → okP left ps → acc.length + ps.length ≤ sym → Has S B (desc none left ps) →
    rdL S sym f left acc B = some (acc ++ ps, B + totP (desc none left ps))
  | n, [], _, f, left, acc, B, hf, hl, hok, hs, hh => by
    obtain ⟨k, rfl⟩ : ∃ k, f = k + 1 := ⟨f - 1, by omega⟩
    have h0 : left = 0 := by have := hok.2.1; simp [pts] at this; omega
    rw [rdL, if_pos (by omega)]
    simp [desc, totP]
  | 0, p :: r, h0, _, _, _, _, _, _, _, _, _ => by simp at h0
  | n + 1, p :: r, hn, f, left, acc, B, hf, hl, hok, hs, hh => by
    obtain ⟨k, rfl⟩ : ∃ k, f = k + 1 := ⟨f - 1, by omega⟩
    obtain ⟨a, b, c, d, e⟩ := okP_cons hok
    have hpp := pt_pos a
    simp only [desc] at hh ⊢
    obtain ⟨q1, q2, q3⟩ := hh
    simp only [List.length_cons] at hn hf hs
    rw [rdL, if_neg (by omega), rdP_enc c hl a b q1 q2]
    simp only
    rw [if_neg (by omega)]
    by_cases hp : p = 0
    · rw [if_pos hp] at q3 ⊢
      rw [desc_zeros, Nat.zero_add] at q3 ⊢
      obtain ⟨z1, z2⟩ := has_append q3
      have hzl := zr_le r
      rw [hp, show pt 0 = 0 from rfl, Int.sub_zero] at d
      rw [rdZ_zeros S sym (zr r) _ _ z1 (by simp; omega)]
      simp only [if_pos hp]
      have hd : (r.drop (zr r)).length = r.length - zr r := List.length_drop
      rw [rdL_desc S sym n (r.drop (zr r)) (by omega) k left _ _ (by omega) hl (okP_drop' _ d (Nat.le_refl _)) (by simp; omega) z2]
      have hspl := zr_split r
      refine congrArg some (Prod.ext ?_ ?_)
      · simp only
        rw [List.append_assoc, List.append_assoc, ← hspl, hp]; rfl
      · simp only [totP, totP_append]
        omega
    · rw [if_neg hp] at q3 ⊢
      rw [if_neg hp, rdL_desc S sym n r (by omega) k (left - pt p) _ _ (by omega) (by omega) d (by simp; omega) q3]
      refine congrArg some (Prod.ext ?_ ?_)
      · simp
      · simp only [totP]
        omega

/-- numbers of a number -/
theorem has_val (S : ByteArray) (V c : Nat) (hS : c ≤ S.size) (hV : ∀ b n, b + n ≤ 8 * c → numB S b n = V / 2 ^ b % 2 ^ n) : ∀ (l : List (Nat × Nat)) (B : Nat), fitsP l → B + totP l ≤ 8 * c → V / 2 ^ B % 2 ^ totP l = valP l → Has S B l
  | [], B, _, _, _ => trivial
  | x :: r, B, hf, hb, hv => by
    have hx := (hf x (List.mem_cons_self ..)).2
    simp only [totP] at hb
    simp only [totP, valP] at hv
    have hm : V / 2 ^ B % 2 ^ x.1 = x.2 := by
      have e := Nat.mod_mod_of_dvd (V / 2 ^ B) (Nat.pow_dvd_pow 2 (show x.1 ≤ x.1 + totP r by omega))
      rw [hv, Nat.add_mul_mod_self_left, Nat.mod_eq_of_lt hx] at e
      exact e.symm
    refine ⟨by omega, by rw [hV B x.1 (by omega), hm], has_val S V c hS hV r (B + x.1) (fun y hy => hf y (List.mem_cons_of_mem _ hy)) (by omega) ?_⟩
    rw [Nat.pow_add, ← Nat.div_div_eq_div_mul]
    have e : V / 2 ^ B / 2 ^ x.1 % 2 ^ totP r = (V / 2 ^ B % 2 ^ (x.1 + totP r)) / 2 ^ x.1 := by
      rw [Nat.pow_add, Nat.mod_mul_right_div_self]
    rw [e, hv, Nat.add_mul_div_left _ _ (Nat.two_pow_pos _), Nat.div_eq_of_lt hx, Nat.zero_add]
theorem numB_agree {S S' : ByteArray} {K : Nat} (h : ∀ k, k < K → bitAt S k = bitAt S' k) (b : Nat) : ∀ n, b + n ≤ K → numB S b n = numB S' b n
  | 0, _ => rfl
  | n + 1, hn => by simp only [numB]; rw [numB_agree h b n (by omega), h (b + n) (by omega)]

/-- strings that agree are read alike -/
theorem rdP_agree {S S' : ByteArray} {K : Nat} (h : ∀ k, k < K → bitAt S k = bitAt S' k) (hK' : K ≤ 8 * S'.size) {B : Nat} {left : Int} (h1 : 1 ≤ left) (h2 : left ≤ 4096) {p : Int} {B1 : Nat} (hp : rdP S B left = some (p, B1)) (hB : B1 ≤ K) : rdP S' B left = some (p, B1) := by
  obtain ⟨b, H, e1, e2, e3, e4, e5, e6, e7, e8, e9, e10, e11, e12⟩ := wb_all h1 h2
  unfold rdP at hp ⊢
  rw [e1, Nat.add_sub_cancel] at hp ⊢
  by_cases c1 : 8 * S.size < B + b
  · rw [if_pos c1] at hp; cases hp
  · rw [if_neg c1] at hp
    by_cases c2 : ((numB S B b : Nat) : Int) < wt left
    · rw [if_pos c2] at hp
      have hq := hp
      simp only [Option.some.injEq, Prod.mk.injEq] at hq
      have e := numB_agree h B b (by omega)
      rw [if_neg (by omega), ← e, if_pos c2]; exact hp
    · rw [if_neg c2] at hp
      by_cases c3 : 8 * S.size < B + (b + 1)
      · rw [if_pos c3] at hp; cases hp
      · rw [if_neg c3] at hp
        have hq := hp
        simp only [Option.some.injEq, Prod.mk.injEq] at hq
        have e := numB_agree h B b (by omega)
        have e2 := numB_agree h B (b + 1) (by omega)
        rw [if_neg (by omega), ← e, if_neg c2, if_neg (by omega), ← e2]; exact hp
theorem rdZ_agree {S S' : ByteArray} {K sym : Nat} (h : ∀ k, k < K → bitAt S k = bitAt S' k) (hK' : K ≤ 8 * S'.size) : ∀ (f : Nat) (acc : List Int) (B : Nat) (l : List Int) (B1 : Nat), 8 * S.size - B ≤ f → acc.length ≤ sym → rdZ S sym acc B = some (l, B1) → B1 ≤ K → rdZ S' sym acc B = some (l, B1)
  | 0, acc, B, l, B1, hf, _, hz, _ => by rw [rdZ, dif_pos (by omega)] at hz; cases hz
  | f + 1, acc, B, l, B1, hf, ha, hz, hB => by
    have hin := rdZ_in _ (Nat.le_refl _) ha hz
    obtain ⟨z, _, _, i3, _, _⟩ := hin
    rw [rdZ] at hz ⊢
    by_cases c1 : 8 * S.size < B + 2
    · rw [dif_pos c1] at hz; cases hz
    · rw [dif_neg c1] at hz
      rw [dif_neg (by omega), ← numB_agree h B 2 (by omega)]
      by_cases c2 : sym < acc.length + numB S B 2
      · rw [if_pos c2] at hz; cases hz
      · rw [if_neg c2] at hz ⊢
        by_cases c3 : numB S B 2 = 3
        · rw [if_pos c3] at hz ⊢
          exact rdZ_agree h hK' f _ _ l B1 (by omega) (by simp; omega) hz hB
        · rw [if_neg c3] at hz ⊢; exact hz
theorem rdL_agree {S S' : ByteArray} {K sym : Nat} (h : ∀ k, k < K → bitAt S k = bitAt S' k) (hK' : K ≤ 8 * S'.size) : ∀ (f : Nat) (left : Int) (acc : List Int) (B : Nat) (l : List Int) (B1 : Nat), left ≤ 4096 → acc.length ≤ sym → rdL S sym f left acc B = some (l, B1) → B1 ≤ K → rdL S' sym f left acc B = some (l, B1)
  | 0, left, acc, B, l, B1, _, _, hr, _ => by simp [rdL] at hr
  | f + 1, left, acc, B, l, B1, hl, ha, hr, hB => by
    rw [rdL] at hr ⊢
    by_cases c1 : left ≤ 0
    · rw [if_pos c1] at hr ⊢; exact hr
    · rw [if_neg c1] at hr ⊢
      cases hp : rdP S B left with
      | none => rw [hp] at hr; cases hr
      | some x =>
        obtain ⟨p, B2⟩ := x
        rw [hp] at hr
        simp only at hr
        have hin := rdP_in (by omega) hl hp
        by_cases c2 : acc.length = sym
        · rw [if_pos c2] at hr; cases hr
        · rw [if_neg c2] at hr
          by_cases c3 : p = 0
          · rw [if_pos c3] at hr
            cases hz : rdZ S sym (acc ++ [0]) B2 with
            | none => rw [hz] at hr; cases hr
            | some y =>
              obtain ⟨l2, B3⟩ := y
              rw [hz] at hr
              simp only at hr
              obtain ⟨z, i1, i2, i3, i4, i5⟩ := rdZ_in _ (Nat.le_refl _) (by simp; omega) hz
              obtain ⟨m, j1, j2, j3, _⟩ := rdL_in S sym f left l2 B3 l B1 hl i2 hr
              rw [rdP_agree h hK' (by omega) hl hp (by omega)]
              simp only
              rw [if_neg c2, if_pos c3, rdZ_agree h hK' _ _ _ l2 B3 (Nat.le_refl _) (by simp; omega) hz (by omega)]
              exact rdL_agree h hK' f left l2 B3 l B1 hl i2 hr hB
          · rw [if_neg c3] at hr
            have hpp := pt_pos hin.1
            obtain ⟨m, j1, j2, j3, _⟩ := rdL_in S sym f _ _ B2 l B1 (by omega) (by simp; omega) hr
            rw [rdP_agree h hK' (by omega) hl hp (by omega)]
            simp only
            rw [if_neg c2, if_neg c3]
            exact rdL_agree h hK' f _ _ B2 l B1 (by omega) (by simp; omega) hr hB
end Go.Proofs.Ytaohhijjalcbiaa
