/-
  The laws of stage 8: descriptions read back, and cut off.
-/
import Derived.Test.YtaohhijjalcbiaaL8A
import Derived.Test.YtaohhijjalcbiaaD8B
import Derived.Test.YtaohhijjalcbiaaK8D
namespace Go.Proofs.Ytaohhijjalcbiaa
open Go.ChangeShapes Go.WideShapes Go.ChangeAt Go.RowKit
set_option linter.unusedVariables false
set_option linter.unusedSimpArgs false

theorem bitAt_append (A B : ByteArray) (k : Nat) (h : k < 8 * A.size) : bitAt (A ++ B) k = bitAt A k := by
  unfold bitAt
  have h1 : k / 8 < A.size := by omega
  have h2 : k / 8 < (A ++ B).size := by rw [ByteArray.size_append]; omega
  rw [dif_pos h1, dif_pos h2]
  have e : (A ++ B)[k / 8]'h2 = A[k / 8]'h1 := by
    rw [ByteArray.getElem_append_left h1]
  rw [e]
theorem bitAt_extract (S : ByteArray) (m k : Nat) (hm : m ≤ S.size) (h : k < 8 * m) : bitAt (S.extract 0 m) k = bitAt S k := by
  have hs : (S.extract 0 m).size = m := by simp; omega
  unfold bitAt
  have h1 : k / 8 < S.size := by omega
  have h2 : k / 8 < (S.extract 0 m).size := by rw [hs]; omega
  rw [dif_pos h1, dif_pos h2]
  have e : (S.extract 0 m)[k / 8]'h2 = S[k / 8]'h1 := by
    rw [ByteArray.getElem_extract]
    simp
  rw [e]
theorem extract_all (S : ByteArray) : S.extract 0 S.size = S := by simp

/-- what a description is -/
theorem dsc_has {L : Nat} {ps : List Int} (h5 : 5 ≤ L) (h12 : L ≤ 12) (ok : okP (2 ^ L) ps) (S : ByteArray) (c : Nat) (hc : c = (totP (dsc L ps) + 7) / 8) (hS : c ≤ S.size) (hag : ∀ k, k < 8 * c → bitAt S k = bitAt ⟨(leB (valP (dsc L ps)) c).toArray⟩ k) :
    Has S 0 (dsc L ps) := by
  have hf := dsc_fits h12 ok
  refine has_val S (valP (dsc L ps)) c hS (fun b n hb => ?_) (dsc L ps) 0 hf (by omega) ?_
  · rw [numB_agree (K := 8 * c) hag b n hb, leB_num _ _ _ _ hb]
  · rw [Nat.pow_zero, Nat.div_one]; exact Nat.mod_eq_of_lt (valP_lt hf)
theorem dsc_read {L : Nat} {ps : List Int} (h5 : 5 ≤ L) (h12 : L ≤ 12) (ok : okP (2 ^ L) ps) (hl : ps.length ≤ 256) (S : ByteArray) (hh : Has S 0 (dsc L ps)) : 4 ≤ 8 * S.size ∧ numB S 0 4 = L - 5 ∧ rdR S 256 = some (ps, totP (dsc L ps)) := by
  obtain ⟨a, b, c⟩ := hh
  simp only at a b c
  rw [Nat.zero_add] at a c
  refine ⟨a, b, ?_⟩
  unfold rdR
  rw [b, show 5 + (L - 5) = L by omega]
  have k := rdL_desc S 256 ps.length ps (Nat.le_refl _) 300 (2 ^ L) [] 4 (by omega) (two12 h12) ok (by simpa using hl) c
  rw [k]
  simp [dsc, totP]
theorem rdOut_ok {T : ByteArray} {L : Nat} {ps : List Int} {t : Nat} (h5 : 5 ≤ L) (h12 : L ≤ 12) (a : 4 ≤ 8 * T.size) (b : numB T 0 4 = L - 5) (c : rdR T 256 = some (ps, t)) : rdOut T 0 12 256 = ((L : Int), ps, (((t + 7) / 8 : Nat) : Int), (0 : Int), (0 : Int)) := by
  have e : rdE T 12 256 = 0 := by
    unfold rdE
    rw [if_neg (by omega), if_neg (by rw [b]; omega), c]; rfl
  unfold rdOut
  rw [show (256 : Int).toNat = 256 from rfl, if_pos e, c, b]
  simp only [Int.zero_add]
  rw [show (5 + ((L - 5 : Nat) : Int)) = (L : Int) by omega]
theorem dscS_size (L : Nat) (ps : List Int) : (dscS L ps).size = (totP (dsc L ps) + 7) / 8 := by
  unfold dscS
  rw [Int.toNat_natCast]
  show (leB _ _).toArray.size = _
  simp [leB_length]
theorem dscS_eq (L : Nat) (ps : List Int) : dscS L ps = ⟨(leB (valP (dsc L ps)) ((totP (dsc L ps) + 7) / 8)).toArray⟩ := by
  unfold dscS
  rw [Int.toNat_natCast]
theorem back_out {L : Nat} {ps : List Int} (h5 : 5 ≤ L) (h12 : L ≤ 12) (ok : okP (2 ^ L) ps) (hl : ps.length ≤ 256) (more : ByteArray) : rdOut (dscS L ps ++ more) 0 12 256 = ((L : Int), ps, ((dscS L ps).size : Int), (0 : Int), (0 : Int)) := by
  have hsz := dscS_size L ps
  have hh := dsc_has h5 h12 ok (dscS L ps ++ more) _ rfl (by rw [ByteArray.size_append, hsz]; omega) (fun k hk => by
    rw [bitAt_append _ _ _ (by rw [hsz]; exact hk), dscS_eq])
  obtain ⟨a, b, c⟩ := dsc_read h5 h12 ok hl _ hh
  rw [rdOut_ok h5 h12 a b c, hsz]
theorem cut_out {L : Nat} {ps : List Int} (h5 : 5 ≤ L) (h12 : L ≤ 12) (ok : okP (2 ^ L) ps) (hl : ps.length ≤ 256) (m : Nat) (hm : m < (dscS L ps).size) : rdOut ((dscS L ps).extract 0 m) 0 12 256 = (0, [], 0, 23, 0) := by
  have hsz := dscS_size L ps
  have hh := dsc_has h5 h12 ok (dscS L ps) _ rfl (by rw [hsz]; omega) (fun k hk => by rw [dscS_eq])
  obtain ⟨a, b, c⟩ := dsc_read h5 h12 ok hl _ hh
  have hs : ((dscS L ps).extract 0 m).size = m := by simp; omega
  have hag : ∀ k, k < 8 * m → bitAt ((dscS L ps).extract 0 m) k = bitAt (dscS L ps) k := fun k hk => bitAt_extract _ m k (by omega) hk
  have htot : 8 * m < totP (dsc L ps) := by omega
  have e : rdE ((dscS L ps).extract 0 m) 12 256 = 23 := by
    unfold rdE
    rw [hs]
    by_cases h4 : 8 * m < 4
    · rw [if_pos h4]
    · have hn : numB ((dscS L ps).extract 0 m) 0 4 = L - 5 := by rw [numB_agree (K := 8 * m) hag 0 4 (by omega), b]
      rw [if_neg h4, if_neg (by rw [hn]; omega)]
      cases hr : rdR ((dscS L ps).extract 0 m) 256 with
      | none => rfl
      | some x =>
        obtain ⟨l, B⟩ := x
        exfalso
        unfold rdR at hr c
        rw [hn, show 5 + (L - 5) = L by omega] at hr
        rw [b, show 5 + (L - 5) = L by omega] at c
        obtain ⟨_, _, _, _, _, i5⟩ := rdL_in _ 256 300 (2 ^ L) [] 4 l B (two12 h12) (by simp) hr
        have hB := i5 (by rw [hs]; omega)
        rw [hs] at hB
        have k := rdL_agree (S' := dscS L ps) (K := 8 * m) hag (by omega) 300 (2 ^ L) [] 4 l B (two12 h12) (by simp) hr hB
        rw [c] at k
        simp only [Option.some.injEq, Prod.mk.injEq] at k
        omega
  unfold rdOut
  rw [show (256 : Int).toNat = 256 from rfl, if_neg (by rw [e]; decide), e]
end Go.Proofs.Ytaohhijjalcbiaa
