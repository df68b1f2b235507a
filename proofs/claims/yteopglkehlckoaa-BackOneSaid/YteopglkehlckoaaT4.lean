/-
  The project's writer of package back: numbers put, up to the first one that cannot be written.
-/
import Derived.Test.YteopglkehlckoaaT3
import Derived.Deep.LoopGhost
import Derived.Deep.Cut
import Derived.WalkMore
namespace Go.Proofs.Yteopglkehlckoaa
open Go.ChangeShapes Go.WideShapes Go.ChangeAt Go.RowKit
set_option linter.unusedVariables false

/-- a writer with its error -/
structure Wst where
  S : ByteArray
  P : Int
  N : Int
  c : Int

def Wst.ok (s : Wst) : Prop := s.c = 0 → 0 ≤ s.N ∧ s.N ≤ 7 ∧ 0 ≤ s.P ∧ s.P < (2 : Int) ^ s.N.toNat ∧ s.S.size ≤ 1048576
/-- one number put -/
def stp (s : Wst) (n v : Int) : Wst :=
  if s.c = 0 then (if rgtU n v = true then (if 1048576 < (s.S.size : Int) + (s.N + n) / 8 then ⟨s.S, s.P, s.N, 4⟩ else ⟨s.S ++ ⟨(putL s.P.toNat s.N.toNat n.toNat v.toNat).toArray⟩, (putP s.P.toNat s.N.toNat n.toNat v.toNat : Nat), (s.N + n) % 8, 0⟩) else ⟨s.S, s.P, s.N, 2⟩) else s
def stps (s : Wst) : List (Int × Int) → Wst
  | [] => s
  | x :: r => stps (stp s x.1 x.2) r
theorem stps_err (s : Wst) (l : List (Int × Int)) (h : s.c ≠ 0) : stps s l = s := by
  induction l generalizing s with
  | nil => rfl
  | cons x r ih =>
    have e : stp s x.1 x.2 = s := by unfold stp; rw [if_neg h]
    show stps (stp s x.1 x.2) r = s
    rw [e]
    exact ih s h
def Wst.cells (s : Wst) : Array Value := at4 s.S s.P s.N s.c

theorem stp_right {S : ByteArray} {P N n v : Int} (hr : rgtU n v = false) : stp ⟨S, P, N, 0⟩ n v = ⟨S, P, N, 2⟩ := by
  unfold stp
  rw [if_pos rfl, if_neg (by rw [hr]; decide)]
theorem stp_long {S : ByteArray} {P N n v : Int} (hr : rgtU n v = true) (h : 1048576 < (S.size : Int) + (N + n) / 8) : stp ⟨S, P, N, 0⟩ n v = ⟨S, P, N, 4⟩ := by
  unfold stp
  rw [if_pos rfl, if_pos hr, if_pos h]
theorem stp_add {S : ByteArray} {P N n v : Int} (hr : rgtU n v = true) (h : (S.size : Int) + (N + n) / 8 ≤ 1048576) :
    stp ⟨S, P, N, 0⟩ n v = ⟨S ++ ⟨(putL P.toNat N.toNat n.toNat v.toNat).toArray⟩, (putP P.toNat N.toNat n.toNat v.toNat : Nat), (N + n) % 8, 0⟩ := by
  unfold stp
  rw [if_pos rfl, if_pos hr, if_neg (by simpa using h)]
theorem rgtU_true {n v : Int} (h : rgtU n v = true) : 0 ≤ n ∧ n ≤ 32 ∧ v < (2 : Int) ^ n.toNat := by
  unfold rgtU at h
  rwa [decide_eq_true_iff] at h
theorem stp_ok (s : Wst) (n v : Int) (hs : s.ok) (hv : 0 ≤ v) : (stp s n v).ok := by
  obtain ⟨S, P, N, c⟩ := s
  by_cases hc : c = 0
  · subst hc
    obtain ⟨a1, a2, a3, a4, a5⟩ := hs rfl
    simp only at a1 a2 a3 a4 a5
    by_cases hr : rgtU n v = true
    · obtain ⟨r1, r2, r3⟩ := rgtU_true hr
      by_cases hl : 1048576 < (S.size : Int) + (N + n) / 8
      · rw [stp_long hr hl]
        intro h
        exact absurd (show (4 : Int) = 0 from h) (by decide)
      · rw [stp_add hr (by omega)]
        intro _
        obtain ⟨N', rfl⟩ := Int.eq_ofNat_of_zero_le a1
        obtain ⟨n', rfl⟩ := Int.eq_ofNat_of_zero_le r1
        obtain ⟨P', rfl⟩ := Int.eq_ofNat_of_zero_le a3
        obtain ⟨v', rfl⟩ := Int.eq_ofNat_of_zero_le hv
        have eN : ((N' : Int)).toNat = N' := by omega
        have en : ((n' : Int)).toNat = n' := by omega
        have eP : ((P' : Int)).toNat = P' := by omega
        have ev : ((v' : Int)).toNat = v' := by omega
        rw [eN] at a4
        rw [eN, en, eP, ev]
        have c1 := pow_cast N'
        have h1 := putP_lt P' N' n' v' (by omega)
        have e8 : (((N' : Int) + n') % 8).toNat = (N' + n') % 8 := by omega
        have c2 := pow_cast ((N' + n') % 8)
        refine ⟨by simp only; omega, by simp only; omega, by simp only; omega, ?_, ?_⟩
        · simp only
          rw [e8]
          omega
        · simp only
          rw [ByteArray.size_append]
          have : (⟨(putL P' N' n' v').toArray⟩ : ByteArray).size = (N' + n') / 8 := by
            show (putL P' N' n' v').toArray.size = _
            simp [putL, leB_length]
          omega
    · rw [stp_right (by simpa using hr)]
      intro h
      exact absurd (show (2 : Int) = 0 from h) (by decide)
  · have e : stp ⟨S, P, N, c⟩ n v = ⟨S, P, N, c⟩ := by unfold stp; rw [if_neg hc]
    rw [e]
    exact hs

theorem put_walk (g h m : Nat) (l : List (Int × Int)) (s : Wst) (w : World) (hl : l.length = m) (hm : m ≤ 2) (hok : s.ok) (hv : ∀ x ∈ l, 0 ≤ x.2) (hne : h ≠ g) (hb : Blk w g 66 s.cells)
    (hc : h < w.heap.size ∧ ∀ k, k < m → w.cell? ⟨h, k * 2, none⟩ = some (.int .i64 (l.getD k (0, 0)).1) ∧ w.cell? ⟨h, k * 2 + 1, none⟩ = some (.int .u64 (l.getD k (0, 0)).2)) :
    Calls Try.prog 36 #[.pointer (some ⟨g, 0, none⟩), .slice (some ⟨h, 0, none⟩) m m] w fun e w' => e = .returned (.tuple #[]) ∧ Blk w' g 66 (stps s l).cells ∧ w.grownBy w' (some g) := by
  have HL := Lib.hid hl
  have HV := Lib.hid hv
  have HC := Lib.hid hc
  have HB := Lib.hid hb
  have HO := Lib.hid hok
  clear hl hv hc hb hok
  go_enter Try.func36, Try.ntmps36
  go_wp2
  go_step3
  go_wp2
  go_step3
  go_wp2
  go_loopw [8] (fun i wr => ∃ (k : Nat) (s' : Wst), k ≤ m ∧ i = .int .i64 (k : Int) ∧ Hid (stps s l = stps s' (l.drop k)) ∧ Hid (s'.ok) ∧ Blk wr g 66 s'.cells ∧ w.grownBy wr (some g)) (fun i _ => m - (intOf i).toNat)
  case atStart => exact ⟨0, s, by omega, rfl, rfl, HO.out, HB.out, grown_refl _ _⟩
  case round =>
    obtain ⟨k, ⟨S, P, N, c⟩, hk, rfl, hst, hok, hB, hgr⟩ := hrel
    have hgl := blk_lt hB
    have hhl : h < wr.heap.size := Nat.lt_of_lt_of_le HC.out.1 hgr.size
    by_cases hlt : k < m
    · obtain ⟨q0, q1⟩ := HC.out.2 k hlt
      have hbk : wr.heap[h]? = w.heap[h]? := hgr.block h HC.out.1 (fun e => hne (by simpa using e))
      have q0' := (World.cell?_of_block (w := w) (w' := wr) (a := ⟨h, k * 2, none⟩) hbk).trans q0
      have q1' := (World.cell?_of_block (w := w) (w' := wr) (a := ⟨h, k * 2 + 1, none⟩) hbk).trans q1
      obtain ⟨⟨n, v⟩, hx⟩ : ∃ x, x = l.getD k (0, 0) := ⟨_, rfl⟩
      rw [← hx] at q0' q1'
      simp only at q0' q1'
      have hv0 : 0 ≤ v := HV.out (n, v) (by rw [hx, List.getD_eq_getElem?_getD, List.getElem?_eq_getElem (by rw [HL.out]; exact hlt)]; simp)
      have hdr : l.drop k = (n, v) :: l.drop (k + 1) := by
        rw [List.drop_eq_getElem_cons (by rw [HL.out]; exact hlt), hx, List.getD_eq_getElem?_getD, List.getElem?_eq_getElem (by rw [HL.out]; exact hlt)]
        rfl
      have hst2 : stps s l = stps (stp ⟨S, P, N, c⟩ n v) (l.drop (k + 1)) := by rw [hst.out, hdr]; rfl
      have hlt' : (k : Int) < (m : Int) := by omega
      have KB := Lib.hid hB
      clear q0 q1 hx hdr hbk hB
      by_cases hcz : c = 0
      · subst hcz
        obtain ⟨a1, a2, a3, a4, a5⟩ := hok.out rfl
        simp only at a1 a2 a3 a4 a5
        have hMt := fun (u : World) (hu : Blk u g 66 (at4 S P N 0)) => met_any g 3 0 u (blk4 hu).1.2.2.2
        rw [show ((0 : Int) != 0) = false from rfl] at hMt
        have hRg := fun u => ownRight_any n v hv0 u
        have hMe := fun (u : World) (x : Int) (hu : Blk u g 66 (at4 S P N 0)) => meet_zero g 3 x u (blk4 hu).1.2.2.2 (blk4 hu).2.2.2.2
        have HMt := Lib.hid hMt
        have HMe := Lib.hid hMe
        clear hMt hMe
        by_cases hr : rgtU n v = true
        · obtain ⟨r1, r2, r3⟩ := rgtU_true hr
          rw [hr] at hRg
          have hWh := fun (u : World) (hu : Blk u g 66 (at4 S P N 0)) => whole_any g S P N 0 n v a5 a1 a2 r1 r2 u hu
          have HWh := Lib.hid hWh
          have K1 := Lib.hid (blk_alloc KB.out (.cells #[.int .i64 n, .int .u64 v] 62))
          clear hWh
          by_cases hl : 1048576 < (S.size : Int) + (N + n) / 8
          · rw [stp_long hr hl] at hst2
            have ST := Lib.hid hst2
            clear hr hst2
            go_wp2_with (first
              | (go_at_call 37; (with_reducible refine (HMt.out _ K1.out).mono ?_); rintro e w1 ⟨rfl, rfl⟩)
              | (go_at_call 44; (with_reducible refine (hRg _).mono ?_); rintro e w2 ⟨rfl, hb2⟩; have k2 := blk_next K1.out hb2; have x2 := blk_next (blk_new wr 62 #[.int .i64 n, .int .u64 v]) hb2; have x20 := blk_cell x2 0; have x21 := blk_cell x2 1; have K2 := Lib.hid k2; clear k2 x2)
              | (go_at_call 46; (with_reducible refine (HWh.out _ K2.out).mono ?_); rintro e w3 ⟨rfl, hb3⟩; have K3 := Lib.hid (blk_next K2.out hb3))
              | (go_at_call 45; (with_reducible refine (HMe.out _ _ K3.out).mono ?_); rintro e w4 ⟨rfl, rfl⟩))
            go_roundw
            case rel => exact ⟨k + 1, ⟨S, P, N, 4⟩, by omega, by go_num, ST.out, fun h0 => absurd (show (4 : Int) = 0 from h0) (by decide), blk4_err K3.out, grown_set (grown_trans (grown_trans (grown_alloc hgr _) (grown_below hb2 _)) (grown_below hb3 _)) _ _⟩
            case measure => simp [intOf]; omega
          · have hl' : (S.size : Int) + (N + n) / 8 ≤ 1048576 := by omega
            have hok2 := stp_ok ⟨S, P, N, 0⟩ n v hok.out hv0
            rw [stp_add hr hl'] at hst2 hok2
            obtain ⟨N', rfl⟩ := Int.eq_ofNat_of_zero_le a1
            obtain ⟨n', rfl⟩ := Int.eq_ofNat_of_zero_le r1
            obtain ⟨P', rfl⟩ := Int.eq_ofNat_of_zero_le a3
            obtain ⟨v', rfl⟩ := Int.eq_ofNat_of_zero_le hv0
            have eN : ((N' : Int)).toNat = N' := by omega
            have en : ((n' : Int)).toNat = n' := by omega
            have eP : ((P' : Int)).toNat = P' := by omega
            have ev : ((v' : Int)).toNat = v' := by omega
            rw [eN] at a4
            rw [en] at r3
            rw [eN, en, eP, ev, show ((N' : Int) + n') % 8 = ((N' + n') % 8 : Nat) by omega] at hst2 hok2
            have c1 := pow_cast N'
            have c2 := pow_cast n'
            have hAd := fun (u : World) (hu : Blk u g 66 (at4 S P' N' 0)) => add_any g S P' N' n' v' 0 (by omega) (by omega) (by omega) (by omega) a5 u hu
            have HAd := Lib.hid hAd
            have ST := Lib.hid hst2
            have OK := Lib.hid hok2
            clear hr hst2 hok2 hAd eN en eP ev c1 c2 a4 r3
            go_wp2_with (first
              | (go_at_call 37; (with_reducible refine (HMt.out _ K1.out).mono ?_); rintro e w1 ⟨rfl, rfl⟩)
              | (go_at_call 44; (with_reducible refine (hRg _).mono ?_); rintro e w2 ⟨rfl, hb2⟩; have k2 := blk_next K1.out hb2; have x2 := blk_next (blk_new wr 62 #[.int .i64 (n' : Int), .int .u64 (v' : Int)]) hb2; have x20 := blk_cell x2 0; have x21 := blk_cell x2 1; have K2 := Lib.hid k2; have X2 := Lib.hid x2; clear k2 x2)
              | (go_at_call 46; (with_reducible refine (HWh.out _ K2.out).mono ?_); rintro e w3 ⟨rfl, hb3⟩; have K3 := Lib.hid (blk_next K2.out hb3); have x3 := blk_next X2.out hb3; have x30 := blk_cell x3 0; have x31 := blk_cell x3 1; clear x3)
              | (go_at_call 47; (with_reducible refine (HAd.out _ K3.out).mono ?_); rintro e w4 ⟨rfl, hB4, hg4⟩; have K4 := Lib.hid hB4; have G4 := Lib.hid hg4; clear hB4 hg4))
            go_roundw
            case rel => exact ⟨k + 1, ⟨S ++ ⟨(putL P' N' n' v').toArray⟩, (putP P' N' n' v' : Nat), ((N' + n') % 8 : Nat), 0⟩, by omega, by go_num, ST.out, OK.out, K4.out, grown_trans (grown_trans (grown_trans (grown_alloc hgr _) (grown_below hb2 _)) (grown_below hb3 _)) G4.out⟩
            case measure => simp [intOf]; omega
        · have hr' : rgtU n v = false := by simpa using hr
          rw [hr'] at hRg
          rw [stp_right hr'] at hst2
          have ST := Lib.hid hst2
          have K1 := Lib.hid (blk_alloc KB.out (.cells #[.int .i64 n, .int .u64 v] 62))
          clear hr hr' hst2
          go_wp2_with (first
            | (go_at_call 37; (with_reducible refine (HMt.out _ K1.out).mono ?_); rintro e w1 ⟨rfl, rfl⟩)
            | (go_at_call 44; (with_reducible refine (hRg _).mono ?_); rintro e w2 ⟨rfl, hb2⟩; have K2 := Lib.hid (blk_next K1.out hb2))
            | (go_at_call 45; (with_reducible refine (HMe.out _ _ K2.out).mono ?_); rintro e w3 ⟨rfl, rfl⟩))
          go_roundw
          case rel => exact ⟨k + 1, ⟨S, P, N, 2⟩, by omega, by go_num, ST.out, fun h0 => absurd (show (2 : Int) = 0 from h0) (by decide), blk4_err K2.out, grown_set (grown_trans (grown_alloc hgr _) (grown_below hb2 _)) _ _⟩
          case measure => simp [intOf]; omega
      · have hce : stps s l = ⟨S, P, N, c⟩ := by rw [hst.out]; exact stps_err _ _ hcz
        have t : (c != 0) = true := by simp [hcz]
        have hMt := fun (u : World) (hu : Blk u g 66 (at4 S P N c)) => met_any g 3 c u (blk4 hu).1.2.2.2
        rw [t] at hMt
        have HMt := Lib.hid hMt
        have HCE := Lib.hid hce
        have K1 := Lib.hid (blk_alloc KB.out (.cells #[.int .i64 n, .int .u64 v] 62))
        clear hMt hce t hst2
        go_wp2_with ((go_at_call 37; (with_reducible refine (HMt.out _ K1.out).mono ?_); rintro e w1 ⟨rfl, rfl⟩))
        rw [Exit.noGoto_normal]
        go_end0
        exact ⟨rfl, by rw [HCE.out]; exact K1.out, grown_alloc hgr _⟩
    · have hkm : m ≤ k := by omega
      have hce : stps s l = ⟨S, P, N, c⟩ := by rw [hst.out, List.drop_of_length_le (by rw [HL.out]; omega)]; rfl
      have HCE := Lib.hid hce
      have KB := Lib.hid hB
      clear hce hB
      go_wp2
      rw [Exit.noGoto_normal]
      go_end0
      exact ⟨rfl, by rw [HCE.out]; exact KB.out, hgr⟩
end Go.Proofs.Yteopglkehlckoaa
