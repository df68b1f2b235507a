/-
  The reference of package dist: Read.
-/
import Derived.Test.YtaohhijjalcbiaaR8S
import Derived.Test.YtaohhijjalcbiaaO8P
import Derived.BigRegion
namespace Go.Proofs.Ytaohhijjalcbiaa
open Go.ChangeShapes Go.WideShapes Go.ChangeAt Go.RowKit
set_option linter.unusedVariables false
set_option linter.unusedSimpArgs false

theorem rrange_c (S : ByteArray) (hS : S.size ≤ 1048576) (at' most sym : Int) (h : at' < 0 ∨ (S.size : Int) < at' ∨ most < 5 ∨ 12 < most ∨ sym < 1 ∨ 256 < sym) (w : World) :
    Calls Try.prog 25 #[.string S, .int .i64 at', .int .i64 most, .int .i64 sym] w (RdLeft (0, [], 0, 2, 0) w) := by
  by_cases h1 : at' < 0
  · go_enter Try.func25, Try.ntmps25
    go_wp2
    refine bodyPost_ret (v := .tuple #[.agg #[.int .i64 0, .slice none 0 0], .int .i64 0, .agg #[.int .i64 2, .int .i64 0]]) (by simp [results, Try.results25, go_sem]) rfl ?_
    exact rdl_err (bel_box (bel_box (Below.refl _ _) _) _) 2 0
  by_cases h2 : (S.size : Int) < at'
  · go_enter Try.func25, Try.ntmps25
    go_wp2
    refine bodyPost_ret (v := .tuple #[.agg #[.int .i64 0, .slice none 0 0], .int .i64 0, .agg #[.int .i64 2, .int .i64 0]]) (by simp [results, Try.results25, go_sem]) rfl ?_
    exact rdl_err (bel_box (bel_box (Below.refl _ _) _) _) 2 0
  by_cases h3 : most < 5
  · go_enter Try.func25, Try.ntmps25
    go_wp2
    refine bodyPost_ret (v := .tuple #[.agg #[.int .i64 0, .slice none 0 0], .int .i64 0, .agg #[.int .i64 2, .int .i64 0]]) (by simp [results, Try.results25, go_sem]) rfl ?_
    exact rdl_err (bel_box (bel_box (Below.refl _ _) _) _) 2 0
  by_cases h4 : 12 < most
  · go_enter Try.func25, Try.ntmps25
    go_wp2
    refine bodyPost_ret (v := .tuple #[.agg #[.int .i64 0, .slice none 0 0], .int .i64 0, .agg #[.int .i64 2, .int .i64 0]]) (by simp [results, Try.results25, go_sem]) rfl ?_
    exact rdl_err (bel_box (bel_box (Below.refl _ _) _) _) 2 0
  by_cases h5 : sym < 1
  · go_enter Try.func25, Try.ntmps25
    go_wp2
    refine bodyPost_ret (v := .tuple #[.agg #[.int .i64 0, .slice none 0 0], .int .i64 0, .agg #[.int .i64 2, .int .i64 0]]) (by simp [results, Try.results25, go_sem]) rfl ?_
    exact rdl_err (bel_box (bel_box (Below.refl _ _) _) _) 2 0
  · have h6 : 256 < sym := by omega
    go_enter Try.func25, Try.ntmps25
    go_wp2
    refine bodyPost_ret (v := .tuple #[.agg #[.int .i64 0, .slice none 0 0], .int .i64 0, .agg #[.int .i64 2, .int .i64 0]]) (by simp [results, Try.results25, go_sem]) rfl ?_
    exact rdl_err (bel_box (bel_box (Below.refl _ _) _) _) 2 0


theorem grown_call {w w2 w3 : World} {r : Option Nat} (hB : w.grownBy w2 r) (hb : Below w2.heap.size w2 w3) : w.grownBy w3 r :=
  ⟨hb.os.trans hB.os, hb.tape.trans hB.tape, hb.output.trans hB.output, Nat.le_trans hB.size hb.size, fun k hk hne => (hb.block k (Nat.lt_of_lt_of_le hk hB.size)).trans (hB.block k hk hne)⟩
set_option maxHeartbeats 1000000 in
set_option maxRecDepth 100000 in
theorem rread_ok (S : ByteArray) (hS : S.size ≤ 1048576) (a m most sym : Nat) (hmin : (if (a : Int) + 600 < (S.size : Int) then (a : Int) + 600 else (S.size : Int)) = m) (ha : a ≤ m) (hmS : m ≤ S.size) (hm1 : 5 ≤ most) (hm2 : most ≤ 12) (hs1 : 1 ≤ sym) (hs2 : sym ≤ 256) (w : World) :
    Calls Try.prog 25 #[.string S, .int .i64 (a : Int), .int .i64 (most : Int), .int .i64 (sym : Int)] w (RdLeft (rdOut (S.extract a m) a most sym) w) := by
  have hT : (S.extract a m).size = m - a := by simp; omega
  have hTs : (S.extract a m).size ≤ 1048576 := by omega
  have d1 : decide ((a : Int) < 0) = false := decide_eq_false (by omega)
  have d2 : decide (S.size < a) = false := by simp; omega
  have d3 : decide ((most : Int) < 5) = false := decide_eq_false (by omega)
  have d4 : decide (12 < (most : Int)) = false := decide_eq_false (by omega)
  have d5 : decide ((sym : Int) < 1) = false := decide_eq_false (by omega)
  have d6 : decide (256 < (sym : Int)) = false := decide_eq_false (by omega)
  have hval := fun c hc => told_case (S.extract a m) a most sym c hc
  clear hT
  generalize hTT : S.extract a m = T at *
  have HVAL := Lib.hid hval
  clear hval
  go_enter Try.func25, Try.ntmps25
  go_upto_region 4 with fail
  have kg : Blk (((w.alloc (.cells #[.int .i64 0, .slice none 0 0] 24)).alloc (.cells #[.int .i64 0, .int .i64 0] 39)).alloc (.cells #[.string T, .int .i64 0, .int .i64 0] 78)) (w.heap.size + 1 + 1) 78 (rrA T ((0 : Nat) : Int) 0) := by
    have k := blk_new ((w.alloc (.cells #[.int .i64 0, .slice none 0 0] 24)).alloc (.cells #[.int .i64 0, .int .i64 0] 39)) 78 #[.string T, .int .i64 0, .int .i64 0]
    rw [show ((w.alloc (.cells #[.int .i64 0, .slice none 0 0] 24)).alloc (.cells #[.int .i64 0, .int .i64 0] 39)).heap.size = w.heap.size + 1 + 1 by simp] at k
    exact k
  have k8 := blk_alloc (blk_alloc (blk_new w 24 #[.int .i64 0, .slice none 0 0]) (.cells #[.int .i64 0, .int .i64 0] 39)) (.cells #[.string T, .int .i64 0, .int .i64 0] 78)
  have k10 := blk_alloc (blk_new2 w (.cells #[.int .i64 0, .slice none 0 0] 24) 39 #[.int .i64 0, .int .i64 0]) (.cells #[.string T, .int .i64 0, .int .i64 0] 78)
  have hbW := bel_box (bel_box (bel_box (Below.refl w.heap.size w) (.cells #[.int .i64 0, .slice none 0 0] 24)) (.cells #[.int .i64 0, .int .i64 0] 39)) (.cells #[.string T, .int .i64 0, .int .i64 0] 78)
  generalize ((w.alloc (.cells #[.int .i64 0, .slice none 0 0] 24)).alloc (.cells #[.int .i64 0, .int .i64 0] 39)).alloc (.cells #[.string T, .int .i64 0, .int .i64 0] 78) = W at *
  have htk : Calls Try.prog 44 #[.pointer (some ⟨w.heap.size + 1 + 1, 0, none⟩), .int .i64 4] _ _ := rtake_st (w.heap.size + 1 + 1) T 0 4 hTs (by omega) (by omega) _ kg
  have hnl := numB_lt T 0 4
  have hne8 : w.heap.size + 1 + 1 ≠ w.heap.size := by omega
  have hne10 : w.heap.size + 1 + 1 ≠ w.heap.size + 1 := by omega
  have HTK := Lib.hid htk
  have K8 := Lib.hid k8
  have K10 := Lib.hid k10
  have KG := Lib.hid kg
  have HBW := Lib.hid hbW
  clear htk k8 k10 kg hbW
  go_upto_region 5 with (go_at_call 44; (with_reducible refine HTK.out.mono ?_); rintro e w1 ⟨x, rfl, hg1, hc1⟩; have hx : x ≤ 15 := (by rcases hc1 with ⟨_, h, _⟩ | ⟨_, h, _⟩ <;> omega); have HG1 := Lib.hid hg1; have HC1 := Lib.hid hc1; clear hg1 hc1)
  have q8 := blk_alloc (blk_grown K8.out HG1.out hne8.symm) (.cells #[.int .i64 (5 + (x : Int)), .slice none 0 0] 24)
  have q10 := blk_alloc (blk_grown K10.out HG1.out hne10.symm) (.cells #[.int .i64 (5 + (x : Int)), .slice none 0 0] 24)
  have q12 := blk_new w1 24 #[.int .i64 (5 + (x : Int)), .slice none 0 0]
  have hg12 : w.heap.size + 1 + 1 < w1.heap.size := Nat.lt_of_lt_of_le (blk_lt KG.out) HG1.out.size
  have hbl := bel_box (below_grown HBW.out HG1.out (by have := blk_lt KG.out; omega) (by omega)) (.cells #[.int .i64 (5 + (x : Int)), .slice none 0 0] 24)
  have hq : (8 * T.size < 4 ∧ x = 0 ∧ Blk (w1.alloc (.cells #[.int .i64 (5 + (x : Int)), .slice none 0 0] 24)) (w.heap.size + 1 + 1) 78 (rrA T 0 23)) ∨ (4 ≤ 8 * T.size ∧ x = numB T 0 4 ∧ Blk (w1.alloc (.cells #[.int .i64 (5 + (x : Int)), .slice none 0 0] 24)) (w.heap.size + 1 + 1) 78 (rrA T ((4 : Nat) : Int) 0)) := by
    rcases HC1.out with ⟨q1, q2, q3⟩ | ⟨q1, q2, q3⟩
    · exact .inl ⟨by omega, q2, blk_alloc q3 _⟩
    · exact .inr ⟨by omega, q2, blk_alloc q3 _⟩
  clear HTK K8 K10 KG HBW HG1 HC1
  generalize w1.alloc (.cells #[.int .i64 (5 + (x : Int)), .slice none 0 0] 24) = V at *
  generalize w1.heap.size = p at *
  have Q8 := Lib.hid q8
  have Q10 := Lib.hid q10
  have Q12 := Lib.hid q12
  have HBL := Lib.hid hbl
  have z8 := blk_lt q8
  have z10 := blk_lt q10
  have y80 := blk_cell q8 0
  have y81 := blk_cell q8 1
  have f80 := blk_frozen q8 0
  have f81 := blk_frozen q8 1
  have y100 := blk_cell q10 0
  have y101 := blk_cell q10 1
  have f100 := blk_frozen q10 0
  have f101 := blk_frozen q10 1
  have y120 := blk_cell q12 0
  have y121 := blk_cell q12 1
  have f120 := blk_frozen q12 0
  have f121 := blk_frozen q12 1
  clear q8 q10 hbl
  rcases hq with ⟨s1, rfl, s3⟩ | ⟨s1, s2, s3⟩
  · obtain ⟨⟨c0, c1, c2⟩, g0, g1, g2⟩ := rr_cells s3
    have hout := HVAL.out 23 (.inl ⟨by unfold rdE; rw [if_pos s1], by decide⟩)
    have HOUT := Lib.hid hout
    clear hout HVAL s3 q12
    go_wp2_with fail
    go_region
    go_wp2
    refine bodyPost_ret (v := .tuple #[.agg #[.int .i64 0, .slice none 0 0], .int .i64 0, .agg #[.int .i64 23, .int .i64 a]]) (by simp [results, Try.results25, go_sem, y80, y81, y100, y101]) rfl ?_
    rw [HOUT.out]
    exact rdl_err ((((HBL.out.setCell (Nat.le_refl _) _).setCell (Nat.le_refl _) _).setCell (Nat.le_succ _) _).setCell (Nat.le_succ _) _).drew 23 a
  obtain ⟨⟨c0, c1, c2⟩, g0, g1, g2⟩ := rr_cells s3
  by_cases s4 : (most : Int) < 5 + (x : Int)
  · have hout := HVAL.out 31 (.inl ⟨by unfold rdE; rw [if_neg (by omega), ← s2, if_pos s4], by decide⟩)
    have HOUT := Lib.hid hout
    clear hout HVAL s3 q12 s2
    go_wp2_with fail
    go_region
    go_wp2
    refine bodyPost_ret (v := .tuple #[.agg #[.int .i64 0, .slice none 0 0], .int .i64 0, .agg #[.int .i64 31, .int .i64 a]]) (by simp [results, Try.results25, go_sem, y80, y81, y100, y101]) rfl ?_
    rw [HOUT.out]
    exact rdl_err (((((HBL.out.setCell (p := ⟨w.heap.size + 1 + 1, 2, none⟩) (by show w.heap.size ≤ w.heap.size + 1 + 1; omega) (.int .i64 31)).setCell (Nat.le_refl _) _).setCell (Nat.le_refl _) _).setCell (Nat.le_succ _) _).setCell (Nat.le_succ _) _).drew 31 a
  obtain ⟨L, hL⟩ : ∃ L, L = 5 + x := ⟨_, rfl⟩
  have hL2 : (5 : Int) + (x : Int) = (L : Int) := by omega
  rw [hL2] at y120 s4 q12
  have hL12 : L ≤ 12 := by omega
  have hRE : rdE T most sym = (if (rdR T sym).isSome = true then 0 else 23) := by unfold rdE; rw [if_neg (by omega), ← s2, hL2, if_neg s4]
  have hR : rdL T sym 300 (2 ^ L) [] 4 = rdR T sym := by unfold rdR; rw [← s2, ← hL]
  have hpr : Calls Try.prog 45 #[.pointer (some ⟨w.heap.size + 1 + 1, 0, none⟩), .int .i64 (2 ^ L), .int .i64 (sym : Int)] V fun r w' => ∃ A n c, r = .returned (.slice A n c) ∧ V.grownBy w' (some (w.heap.size + 1 + 1)) ∧
      ((∃ l B, rdR T sym = some (l, B) ∧ n = l.length ∧ Rq w' V.heap.size (w.heap.size + 1 + 1) T B (.slice A n c) l) ∨ (rdR T sym = none ∧ ∃ B : Int, Blk w' (w.heap.size + 1 + 1) 78 (rrA T B 23))) := by
    refine (rprobs_c V.heap.size (w.heap.size + 1 + 1) T sym (2 ^ L) 4 hTs hs2 (Int.le_of_lt (pow_pos' L)) (two12 hL12) s1 V rfl ⟨s3, World.ownsRow_nil _ _ _ _, blk_lt s3, Nat.le_refl _⟩).mono fun r w' q => ?_
    rw [hR] at q
    obtain ⟨h1, h2⟩ := q
    rcases h2 with ⟨l, B, v, h3, rfl, h5⟩ | ⟨h3, rfl, h5⟩
    · obtain ⟨A, c, rfl⟩ := own_slice h5.o
      exact ⟨A, _, c, rfl, h1, .inl ⟨l, B, h3, rfl, h5⟩⟩
    · exact ⟨none, 0, 0, rfl, h1, .inr ⟨h3, h5⟩⟩
  have hsh := shl_val (show L ≤ 20 by omega)
  have hL3 : ((L : Int)).toNat = L := Int.toNat_natCast L
  have hpp : (5 : Int) + (numB T 0 4 : Nat) = (L : Int) := by omega
  have Q12 := Lib.hid q12
  have HPR := Lib.hid hpr
  have HRE := Lib.hid hRE
  have HR := Lib.hid hR
  have HPP := Lib.hid hpp
  have hV8 := z8
  have hV10 := z10
  have hV12 := blk_lt q12
  have hVg := blk_lt s3
  have hp8 : w.heap.size ≠ p := by omega
  have hp10 : w.heap.size + 1 ≠ p := by omega
  have hpg : w.heap.size + 1 + 1 ≠ p := by omega
  clear hpr hRE hR hpp s3 q12 hL2 s2 hL
  go_upto_region 9 with (go_at_call 45; (with_reducible refine HPR.out.mono ?_); rintro e w3 ⟨A, n, c, rfl, hg3, hc3⟩; have HG3 := Lib.hid hg3; have x120 := blk_cell (blk_grown Q12.out hg3 hpg.symm) 0; have x121 := blk_cell (blk_grown Q12.out hg3 hpg.symm) 1; have fx120 := blk_frozen (blk_grown Q12.out hg3 hpg.symm) 0; have fx121 := blk_frozen (blk_grown Q12.out hg3 hpg.symm) 1; have zx := blk_lt (blk_grown Q12.out hg3 hpg.symm); clear hg3)
  clear y80 y81 y100 y101 f80 f81 f100 f101 y120 y121 f120 f121 x120 x121 fx120 fx121 c0 c1 c2 g0 g1 g2
  have k8 := blk_far (p := ⟨p, 1, none⟩) (blk_grown Q8.out HG3.out hne8.symm) hp8 (.slice A n c)
  have k10 := blk_far (p := ⟨p, 1, none⟩) (blk_grown Q10.out HG3.out hne10.symm) hp10 (.slice A n c)
  have k12 : Blk (w3.setCell ⟨p, 1, none⟩ (.slice A n c)) p 24 #[.int .i64 (L : Int), .slice A n c] := blk_set (blk_grown Q12.out HG3.out hpg.symm) 1 (.slice A n c)
  have hbU : Below w.heap.size w (w3.setCell ⟨p, 1, none⟩ (.slice A n c)) := (below_grown HBL.out HG3.out (by omega) (by omega)).setCell (p := ⟨p, 1, none⟩) (by show w.heap.size ≤ p; omega) (.slice A n c)
  rcases hc3 with ⟨l, B, hRR, rfl, hrq⟩ | ⟨hRN, B, hb23⟩
  · have kg := blk_far (p := ⟨p, 1, none⟩) hrq.a hpg (.slice A l.length c)
    obtain ⟨m', m1, m2, m3, m4, m5⟩ := rdL_in T sym 300 (2 ^ L) [] 4 l B (two12 hL12) (by simp) (HR.out.trans hRR)
    have hBl := m5 s1
    have h00 : rdE T most sym = 0 := by rw [HRE.out, hRR]; rfl
    have hnx := fun u => refNext_any T B (max_len hTs) u
    rw [nex_val hTs hBl] at hnx
    have hrg : rgt T B = 0 := by unfold rgt; rw [if_neg (by omega), if_neg (by omega)]
    rw [hrg] at hnx
    have hout : rdOut T a most sym = ((L : Int), l, ((a : Int) + ((B + 7) / 8 : Nat) : Int), (0 : Int), (0 : Int)) := by
      unfold rdOut
      rw [Int.toNat_natCast, if_pos h00, hRR]
      show (_, _, _, _, _) = _
      rw [HPP.out]
    have HOUT := Lib.hid hout
    have hnn : (B + 7) / 8 ≤ 1048576 := by omega
    have hsU : (w3.setCell ⟨p, 1, none⟩ (.slice A l.length c)).heap.size = w3.heap.size := by simp [World.setCell]
    have HUK : Hid (∀ k, k ≠ p → (w3.setCell ⟨p, 1, none⟩ (.slice A l.length c)).heap[k]? = w3.heap[k]?) := Lib.hid (fun k hk => Below.heap_setCell w3 ⟨p, 1, none⟩ (.slice A l.length c) k hk)
    have HSU := Lib.hid hsU
    have HRQ := Lib.hid hrq
    generalize (B + 7) / 8 = nn at *
    generalize w3.setCell ⟨p, 1, none⟩ (.slice A l.length c) = U at *
    have K8 := Lib.hid k8
    have K10 := Lib.hid k10
    have K12 := Lib.hid k12
    have HBU := Lib.hid hbU
    obtain ⟨⟨c0, c1, c2⟩, g0, g1, g2⟩ := rr_cells kg
    clear hrg hout h00 hRR HVAL hBl hrq k8 k10 k12 kg hbU hsU m1 m2 m3 m4 m5 HG3 HBL
    go_wp2_with (go_at_call 46; (with_reducible refine (hnx _).mono ?_); rintro e w4 ⟨rfl, hb4⟩; have k8 := blk_below K8.out hb4 (blk_lt K8.out); have k10 := blk_below K10.out hb4 (blk_lt K10.out); have k12 := blk_below K12.out hb4 (blk_lt K12.out); have z8 := blk_lt k8; have z10 := blk_lt k10; have y80 := blk_cell k8 0; have y81 := blk_cell k8 1; have f80 := blk_frozen k8 0; have f81 := blk_frozen k8 1; have y100 := blk_cell k10 0; have y101 := blk_cell k10 1; have f100 := blk_frozen k10 0; have f101 := blk_frozen k10 1; have y120 := blk_cell k12 0; have y121 := blk_cell k12 1; have hBB := Lib.hid (bel_call HBU.out hb4); have H4 := Lib.hid hb4; clear k8 k10 k12 hb4)
    obtain ⟨A2, c2', hv, hlc, hII⟩ := own_ints HRQ.out.o
    cases hv
    refine bodyPost_ret (v := .tuple #[.agg #[.int .i64 (L : Int), .slice A l.length c], .int .i64 ((a : Int) + nn), .agg #[.int .i64 0, .int .i64 0]]) (by simp [results, Try.results25, go_sem, y80, y81, y100, y101]) rfl ?_
    rw [HOUT.out]
    have hgb := HRQ.out.s
    have hsU := HSU.out
    have h4s := H4.out.size
    refine ⟨A, c, rfl, hII _ (fun k hk hks => ?_) (by simp [World.setCell]; omega), hlc, ((((hBB.out.setCell (Nat.le_refl _) _).setCell (Nat.le_refl _) _).setCell (Nat.le_succ _) _).setCell (Nat.le_succ _) _)⟩
    rw [Below.heap_setCell _ _ _ k (by show k ≠ w.heap.size + 1; omega), Below.heap_setCell _ _ _ k (by show k ≠ w.heap.size + 1; omega), Below.heap_setCell _ _ _ k (by show k ≠ w.heap.size; omega), Below.heap_setCell _ _ _ k (by show k ≠ w.heap.size; omega), H4.out.block k (by omega), HUK.out k (by omega)]
  · have kg := blk_far (p := ⟨p, 1, none⟩) hb23 hpg (.slice A n c)
    have hout := HVAL.out 23 (.inl ⟨by rw [HRE.out, hRN]; rfl, by decide⟩)
    have HOUT := Lib.hid hout
    generalize w3.setCell ⟨p, 1, none⟩ (.slice A n c) = U at *
    have HBU := Lib.hid hbU
    have z8 := blk_lt k8
    have z10 := blk_lt k10
    have y80 := blk_cell k8 0
    have y81 := blk_cell k8 1
    have f80 := blk_frozen k8 0
    have f81 := blk_frozen k8 1
    have y100 := blk_cell k10 0
    have y101 := blk_cell k10 1
    have f100 := blk_frozen k10 0
    have f101 := blk_frozen k10 1
    obtain ⟨⟨c0, c1, c2⟩, g0, g1, g2⟩ := rr_cells kg
    clear hout HVAL hRN hb23 kg k8 k10 k12 hbU
    go_wp2_with fail
    go_region
    go_wp2
    refine bodyPost_ret (v := .tuple #[.agg #[.int .i64 0, .slice none 0 0], .int .i64 0, .agg #[.int .i64 23, .int .i64 a]]) (by simp [results, Try.results25, go_sem, y80, y81, y100, y101]) rfl ?_
    rw [HOUT.out]
    exact rdl_err ((((HBU.out.setCell (Nat.le_refl _) _).setCell (Nat.le_refl _) _).setCell (Nat.le_succ _) _).setCell (Nat.le_succ _) _).drew 23 a
end Go.Proofs.Ytaohhijjalcbiaa
