/-
  Package dist: Write and Bits.
-/
import Derived.Test.YtaohhijjalcbiaaO8F
namespace Go.Proofs.Ytaohhijjalcbiaa
open Go.ChangeShapes Go.WideShapes Go.ChangeAt Go.RowKit
set_option linter.unusedVariables false
set_option linter.unusedSimpArgs false

theorem chkD_zero {log : Int} {ps : List Int} (h : chkD log ps = 0) : 5 ≤ log ∧ log ≤ 12 ∧ 0 < ps.length ∧ ps.length ≤ 256 ∧ okP (2 ^ log.toNat) ps := by
  unfold chkD at h
  by_cases h1 : log < 5 ∨ 12 < log
  · rw [if_pos h1] at h; exact absurd h (by decide)
  · rw [if_neg h1] at h
    by_cases h2 : ps.length = 0 ∨ 256 < ps.length ∨ ps.getD (ps.length - 1) 0 = 0 ∨ flB (2 ^ log.toNat) ps = false
    · rw [if_pos h2] at h; exact absurd h (by decide)
    · have a : ¬ ps.length = 0 := fun e => h2 (.inl e)
      have b : ¬ 256 < ps.length := fun e => h2 (.inr (.inl e))
      have c : ¬ ps.getD (ps.length - 1) 0 = 0 := fun e => h2 (.inr (.inr (.inl e)))
      have d : ¬ flB (2 ^ log.toNat) ps = false := fun e => h2 (.inr (.inr (.inr e)))
      obtain ⟨e, f⟩ := (flB_iff ps _).1 (by simpa using d)
      refine ⟨by omega, by omega, by omega, by omega, e, f, .inr fun hl => c ?_⟩
      rw [List.getLast?_eq_getElem?] at hl
      simp [List.getD, hl]
/-- a description -/
def dscS (log : Int) (ps : List Int) : ByteArray := ⟨(leB (valP (dsc log.toNat ps)) ((totP (dsc log.toNat ps) + 7) / 8)).toArray⟩
def dscR (log : Int) (ps : List Int) : ByteArray := if chkD log ps = 0 then dscS log ps else ⟨#[]⟩
def dscN (log : Int) (ps : List Int) : Int := if chkD log ps = 0 then (totP (dsc log.toNat ps) : Nat) else 0
theorem V2_zero (l : List (Nat × Nat)) : V2 0 0 l = valP l := by unfold V2; simp
theorem wrA_zero : wrA 0 0 = #[.string ⟨#[]⟩, .int .i64 0, .int .i64 0] := by
  unfold wrA at3 wrS wrQ wrN leB
  rfl

theorem write_c (log : Int) (A : Option Addr) (n cap : Nat) (ps : List Int) (hcap : n ≤ cap) (w : World) (h : Prb w A n ps) :
    Calls Try.prog 17 #[.agg #[.int .i64 log, .slice A n cap]] w fun e w' => e = .returned (.tuple #[.string (dscR log ps), .int .i64 (chkD log ps)]) ∧ Below w.heap.size w w' := by
  have hC := fun u (hu : Prb u A n ps) => check_c log A n cap ps u hu
  have hbl : ∀ u, Below w.heap.size w u → Prb u A n ps := fun u hu => h.below hu
  unfold dscR
  by_cases h0 : chkD log ps = 0
  · obtain ⟨c1, c2, c3, c4, c5⟩ := chkD_zero h0
    rw [if_pos h0]
    rw [h0] at hC ⊢
    have hl := h.1
    obtain ⟨b, off, rfl, hlt, hcc⟩ := h.2.2 (by omega)
    obtain ⟨L, rfl⟩ : ∃ L : Nat, log = L := ⟨log.toNat, by omega⟩
    rw [Int.toNat_natCast] at c5
    have hD := fun g u hb hB hBs hI => describe_c g L b off n cap w.heap.size ps (by omega) (by omega) hl (by omega) hcap c5 (by omega) u hb hB hBs hI
    have htt := dsc_tot (L := L) (by omega) c5
    have hV : V2 0 0 (dsc L ps) < 2 ^ totP (dsc L ps) := by
      have := V2_lt (V := 0) (t := 0) (by decide) (dsc_fits (L := L) (by omega) c5)
      rwa [Nat.zero_add] at this
    have hDn := fun u => ownDone_any (wrS (V2 0 0 (dsc L ps)) (totP (dsc L ps))) (wrQ (V2 0 0 (dsc L ps)) (totP (dsc L ps))) (wrN (totP (dsc L ps))) (by rw [wrS_size]; omega) u
    obtain ⟨d1, d2⟩ := wr_done hV (by omega)
    rw [d1, d2] at hDn
    unfold dscS
    rw [Int.toNat_natCast]
    rw [V2_zero] at hD hDn
    unfold WrLeft wrA at hD
    unfold at3 at hD
    rw [show wrS 0 0 = ⟨#[]⟩ from rfl, show wrQ 0 0 = 0 from rfl, show wrN 0 = 0 from rfl] at hD
    generalize wrS (valP (dsc L ps)) (totP (dsc L ps)) = S at *
    generalize wrQ (valP (dsc L ps)) (totP (dsc L ps)) = Q at *
    generalize wrN (totP (dsc L ps)) = N at *
    generalize (⟨(leB (valP (dsc L ps)) ((totP (dsc L ps) + 7) / 8)).toArray⟩ : ByteArray) = R at *
    have HI := Lib.hid h.2.2
    have HL := Lib.hid hl
    have HBL := Lib.hid hbl
    have HD := Lib.hid hD
    clear h0 d1 d2 hV htt c1 c2 c3 c4 c5 h hl hbl hcc hD
    go_enter Try.func17, Try.ntmps17
    go_wp2_with (first
      | (go_at_call 11; (with_reducible refine (hC _ (HBL.out _ (bel_box (Below.refl _ _) _))).mono ?_); rintro e w1 ⟨rfl, hb1⟩; have b1 := bel_call (bel_box (Below.refl _ _) _) hb1; have kd := blk_below (blk_new w 24 #[.int .i64 (L : Int), .slice (some ⟨b, off, none⟩) n cap]) hb1 (by simp); have y0 := blk_cell kd 0; have y1 := blk_cell kd 1; have hzz := blk_lt kd)
      | (go_at_call 32; (with_reducible refine (HD.out _ _ (blk_new w1 55 _) b1.size (bel_box b1 _).size (HI.out.below (bel_box b1 _))).mono ?_); rintro e w2 ⟨rfl, hb2, hg2⟩; obtain ⟨⟨z0, z1, z2⟩, _⟩ := blk3 hb2)
      | (go_at_call 33; (with_reducible refine (hDn _).mono ?_); rintro e w3 ⟨rfl, hb3⟩))
    go_ret2
    exact ⟨rfl, bel_call (below_grown (bel_box b1 _) hg2 (bel_box b1 _).size b1.size) hb3⟩
  · rw [if_neg h0]
    have h1 : (chkD log ps != 0) = true := by simpa using h0
    have HBL := Lib.hid hbl
    clear h0 h hbl
    generalize chkD log ps = y at *
    go_enter Try.func17, Try.ntmps17
    go_wp2_with (go_at_call 11; (with_reducible refine (hC _ (HBL.out _ (bel_box (Below.refl _ _) _))).mono ?_); rintro e w1 ⟨rfl, hb1⟩)
    go_ret2
    exact ⟨rfl, bel_call (bel_box (Below.refl _ _) _) hb1⟩

theorem bits_c (log : Int) (A : Option Addr) (n cap : Nat) (ps : List Int) (hcap : n ≤ cap) (w : World) (h : Prb w A n ps) :
    Calls Try.prog 19 #[.agg #[.int .i64 log, .slice A n cap]] w fun e w' => e = .returned (.tuple #[.int .i64 (dscN log ps), .int .i64 (chkD log ps)]) ∧ Below w.heap.size w w' := by
  have hC := fun u (hu : Prb u A n ps) => check_c log A n cap ps u hu
  have hbl : ∀ u, Below w.heap.size w u → Prb u A n ps := fun u hu => h.below hu
  unfold dscN
  by_cases h0 : chkD log ps = 0
  · obtain ⟨c1, c2, c3, c4, c5⟩ := chkD_zero h0
    rw [if_pos h0]
    rw [h0] at hC ⊢
    have hl := h.1
    obtain ⟨b, off, rfl, hlt, hcc⟩ := h.2.2 (by omega)
    obtain ⟨L, rfl⟩ : ∃ L : Nat, log = L := ⟨log.toNat, by omega⟩
    rw [Int.toNat_natCast] at c5 ⊢
    have hD := fun g u hb hB hBs hI => describe_c g L b off n cap w.heap.size ps (by omega) (by omega) hl (by omega) hcap c5 (by omega) u hb hB hBs hI
    have htt := dsc_tot (L := L) (by omega) c5
    unfold WrLeft wrA at hD
    unfold at3 at hD
    rw [show wrS 0 0 = ⟨#[]⟩ from rfl, show wrQ 0 0 = 0 from rfl, show wrN 0 = 0 from rfl] at hD
    have hsz := wrS_size (V2 0 0 (dsc L ps)) (totP (dsc L ps))
    have hnn : wrN (totP (dsc L ps)) = (totP (dsc L ps) % 8 : Nat) := rfl
    generalize wrS (V2 0 0 (dsc L ps)) (totP (dsc L ps)) = S at *
    generalize wrQ (V2 0 0 (dsc L ps)) (totP (dsc L ps)) = Q at *
    generalize wrN (totP (dsc L ps)) = N at *
    generalize totP (dsc L ps) = t at *
    have hN0 : 0 ≤ N := by omega
    have hN1 : N ≤ 7 := by omega
    have hS1 : S.size ≤ 7000000 := by omega
    have hSum : 8 * (S.size : Int) + N = t := by omega
    have HSUM := Lib.hid hSum
    have HI := Lib.hid h.2.2
    have HL := Lib.hid hl
    have HBL := Lib.hid hbl
    have HD := Lib.hid hD
    clear h0 htt c1 c2 c3 c4 c5 h hl hbl hcc hD hsz hnn hSum
    go_enter Try.func19, Try.ntmps19
    go_wp2_with (first
      | (go_at_call 11; (with_reducible refine (hC _ (HBL.out _ (bel_box (Below.refl _ _) _))).mono ?_); rintro e w1 ⟨rfl, hb1⟩; have b1 := bel_call (bel_box (Below.refl _ _) _) hb1; have kd := blk_below (blk_new w 24 #[.int .i64 (L : Int), .slice (some ⟨b, off, none⟩) n cap]) hb1 (by simp); have y0 := blk_cell kd 0; have y1 := blk_cell kd 1; have hzz := blk_lt kd)
      | (go_at_call 32; (with_reducible refine (HD.out _ _ (blk_new w1 55 _) b1.size (bel_box b1 _).size (HI.out.below (bel_box b1 _))).mono ?_); rintro e w2 ⟨rfl, hb2, hg2⟩; obtain ⟨⟨z0, z1, z2⟩, _⟩ := blk3 hb2))
    go_ret2
    exact ⟨by rw [← HSUM.out]; rfl, below_grown (bel_box b1 _) hg2 (bel_box b1 _).size b1.size⟩
  · rw [if_neg h0]
    have h1 : (chkD log ps != 0) = true := by simpa using h0
    have HBL := Lib.hid hbl
    clear h0 h hbl
    generalize chkD log ps = y at *
    go_enter Try.func19, Try.ntmps19
    go_wp2_with (go_at_call 11; (with_reducible refine (hC _ (HBL.out _ (bel_box (Below.refl _ _) _))).mono ?_); rintro e w1 ⟨rfl, hb1⟩)
    go_ret2
    exact ⟨rfl, bel_call (bel_box (Below.refl _ _) _) hb1⟩
end Go.Proofs.Ytaohhijjalcbiaa
