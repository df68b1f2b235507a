/-
  Package norm: settling.
-/
import Derived.WalkMore
import Derived.Test.YtjldbabggmmkdaaN7A
import Derived.Test.YtjldbabggmmkdaaO6T
namespace Go.Proofs.Ytjldbabggmmkdaa
open Go.ChangeShapes Go.WideShapes Go.ChangeAt Go.RowKit Go.Shelf
set_option linter.unusedVariables false
set_option linter.unusedSimpArgs false

theorem wth_nonneg {p : Int} (h : -1 ≤ p) : 0 ≤ wth p := by unfold wth; split <;> omega
theorem pts_nonneg : ∀ ps : List Int, (∀ p ∈ ps, -1 ≤ p) → 0 ≤ pts ps
  | [], _ => Int.le_refl _
  | p :: ps, h => by
    have := pts_nonneg ps (fun x hx => h x (List.mem_cons_of_mem _ hx))
    have := wth_nonneg (h p (List.mem_cons_self ..))
    simp only [pts]; omega
theorem wth_le_pts : ∀ ps : List Int, (∀ p ∈ ps, -1 ≤ p) → ∀ p ∈ ps, wth p ≤ pts ps
  | [], _, p, hp => by cases hp
  | q :: ps, h, p, hp => by
    have h1 := pts_nonneg ps (fun x hx => h x (List.mem_cons_of_mem _ hx))
    have h2 := wth_nonneg (h q (List.mem_cons_self ..))
    simp only [pts]
    rcases List.mem_cons.1 hp with rfl | hp
    · omega
    · have := wth_le_pts ps (fun x hx => h x (List.mem_cons_of_mem _ hx)) p hp; omega
theorem mem_getD {ps : List Int} {k : Nat} (h : k < ps.length) : ps.getD k 0 ∈ ps := by
  have e : ps.getD k 0 = ps[k] := by simp [List.getD, h]
  rw [e]; exact List.getElem_mem h
theorem getD_set_int {ps : List Int} {g k : Nat} (v : Int) (hg : g < ps.length) : (ps.set g v).getD k 0 = if g = k then v else ps.getD k 0 := by
  simp only [List.getD_eq_getElem?_getD, List.getElem?_set]
  by_cases h : g = k
  · rw [if_pos h, if_pos h, if_pos hg]; rfl
  · rw [if_neg h, if_neg h]
theorem pts_bnd : ∀ ps : List Int, (∀ p ∈ ps, -1 ≤ p ∧ p ≤ 1048576) → 0 ≤ pts ps ∧ pts ps ≤ (ps.length : Int) * 1048576
  | [], _ => ⟨Int.le_refl _, by simp [pts]⟩
  | p :: ps, h => by
    have h1 := pts_bnd ps (fun x hx => h x (List.mem_cons_of_mem _ hx))
    have h2 := wth_bnd (h p (List.mem_cons_self ..))
    simp only [pts, List.length_cons]
    push_cast
    omega
theorem bnd_mem {ps : List Int} (h : Bnd ps) : ∀ p ∈ ps, -1 ≤ p ∧ p ≤ 1048576 := fun p hp => by
  obtain ⟨k, hk, rfl⟩ := List.mem_iff_getElem.1 hp
  have e : ps.getD k 0 = ps[k] := by simp [List.getD, hk]
  rw [← e]; exact h.2 k hk
/-- the numbers of a block -/
def readT (w : World) (g : Nat) : List Int := match w.heap[g]? with | some (.cells cs _ _) => cs.toList.map intOf | _ => []
theorem readT_blk {w : World} {g : Nat} {t : TypeId} {xs : List Int} (h : Blk w g t (tab xs)) : readT w g = xs := by
  unfold readT
  rw [show w.heap[g]? = _ from h]
  simp [tab, List.map_map, Function.comp_def, intOf]
theorem cts_blk {w : World} {g : Nat} {xs : List Int} {N : Nat} (h : Blk w g 3 (tab xs)) (hl : xs.length = N) (hn : N ≤ 9223372036854775807) : Cts w (some ⟨g, 0, none⟩) N xs :=
  ⟨hl, hn, fun _ => ⟨g, 0, rfl, blk_lt h, fun k hk => by rw [Nat.zero_add]; exact tab_cell h hk⟩⟩

/-- what settling keeps -/
structure Stl (zs ps : List Int) (size : Int) (N : Nat) (cur : List Int) : Prop where
  len : cur.length = N
  same : stl zs ps size = stl zs cur size
  good : Good size cur
  bnd : ∀ k, k < N → cur.getD k 0 ≤ 1048576
theorem Stl.bndd {zs ps : List Int} {size : Int} {N : Nat} {cur : List Int} (h : Stl zs ps size N cur) (hN : N ≤ 300) : Bnd cur :=
  ⟨by rw [h.len]; exact hN, fun k hk => ⟨h.good.1 _ (mem_getD hk), h.bnd k (by rw [h.len] at hk; exact hk)⟩⟩
theorem stl_less {zs ps : List Int} {size : Int} {N : Nat} {cur : List Int} (h : Stl zs ps size N cur) (hp : size < pts cur) :
    gr cur < N ∧ 2 ≤ cur.getD (gr cur) 0 ∧ Stl zs ps size N (cur.set (gr cur) (cur.getD (gr cur) 0 - 1)) ∧ pts (cur.set (gr cur) (cur.getD (gr cur) 0 - 1)) = pts cur - 1 := by
  obtain ⟨a, b, c, d, e⟩ := good_dec h.good hp
  rw [h.len] at a e
  refine ⟨a, b, ⟨e, ?_, c, fun k hk => ?_⟩, d⟩
  · rw [h.same]
    show stl zs cur size = stl zs (dec cur) size
    unfold stl
    rw [if_neg (by omega), if_neg (by omega), d]
    have e2 : (pts cur - size).toNat = (pts cur - 1 - size).toNat + 1 := by omega
    rw [e2]; rfl
  · have hg := h.bnd _ a
    rw [getD_set_int _ (by rw [h.len]; exact a)]
    split
    · omega
    · exact h.bnd k hk
theorem stl_more {zs ps : List Int} {size : Int} {N : Nat} {cur : List Int} (h : Stl zs ps size N cur) (hp : pts cur < size) (hg : gr zs < N) (hs : size ≤ 4096) (hz : cur.getD (gr zs) 0 ≠ 0) :
    Stl zs ps size N (cur.set (gr zs) (wth (cur.getD (gr zs) 0) + (size - pts cur))) ∧ pts (cur.set (gr zs) (wth (cur.getD (gr zs) 0) + (size - pts cur))) = size ∧ 0 ≤ wth (cur.getD (gr zs) 0) ∧ wth (cur.getD (gr zs) 0) + (size - pts cur) ≤ 4096 := by
  have hgl : gr zs < cur.length := by rw [h.len]; exact hg
  have hm := mem_getD hgl
  have h1 := wth_nonneg (h.good.1 _ hm)
  have h2 := wth_le_pts cur h.good.1 _ hm
  have h3 : wth (wth (cur.getD (gr zs) 0) + (size - pts cur)) = wth (cur.getD (gr zs) 0) + (size - pts cur) := by
    have hv : 1 ≤ wth (cur.getD (gr zs) 0) + (size - pts cur) := by omega
    generalize wth (cur.getD (gr zs) 0) + (size - pts cur) = v at hv
    unfold wth; rw [if_neg (by omega)]
  have hp2 : pts (cur.set (gr zs) (wth (cur.getD (gr zs) 0) + (size - pts cur))) = size := by rw [pts_set hgl, h3]; omega
  refine ⟨⟨by rw [List.length_set]; exact h.len, ?_, ⟨fun p hx => ?_, ?_⟩, fun k hk => ?_⟩, hp2, h1, by omega⟩
  · rw [h.same]
    have e1 : stl zs cur size = cur.set (gr zs) (wth (cur.getD (gr zs) 0) + (size - pts cur)) := by unfold stl; rw [if_pos hp]
    rw [e1]
    generalize cur.set (gr zs) (wth (cur.getD (gr zs) 0) + (size - pts cur)) = nx at *
    unfold stl
    rw [if_neg (by omega), hp2, show (size - size).toNat = 0 by omega]; rfl
  · rcases List.mem_or_eq_of_mem_set hx with h4 | h4
    · exact h.good.1 p h4
    · omega
  · rw [nzc_set hgl _ hz (by omega)]; exact h.good.2
  · rw [getD_set_int _ hgl]
    split
    · omega
    · exact h.bnd k hk
theorem stl_done {zs ps : List Int} {size : Int} {N : Nat} {cur : List Int} (h : Stl zs ps size N cur) (hp : pts cur = size) : stl zs ps size = cur := by
  rw [h.same]
  unfold stl
  rw [if_neg (by omega), hp, show (size - size).toNat = 0 by omega]; rfl

set_option maxHeartbeats 1000000 in
theorem settle_c {A : Option Addr} {n N g : Nat} {zs ps : List Int} (cap : Nat) (size : Int) {w : World} (hs0 : 32 ≤ size) (hs : size ≤ 4096) (hl : zs.length = n) (hn : n ≤ 9223372036854775807) (hI : IntsAt w g A zs) (hT : Blk w g 3 (tab ps)) (hN : N ≤ 300)
    (h0 : Stl zs ps size N ps) (hg : gr zs < N) (hz : ∀ k, k < N → zs.getD k 0 ≠ 0 → ps.getD k 0 ≠ 0) (hzg : zs.getD (gr zs) 0 ≠ 0) :
    Calls Try.prog 27 #[.slice (some ⟨g, 0, none⟩) N N, .slice A n cap, .int .i64 size] w fun e w' => (∃ v, e = .returned v) ∧ Blk w' g 3 (tab (stl zs ps size)) ∧ Below g w w' := by
  have HI := Lib.hid hI
  have HT := Lib.hid hT
  have H0 := Lib.hid h0
  clear hI hT h0
  go_enter Try.func27, Try.ntmps27
  go_step3
  go_wp2
  go_step3
  go_wp2
  go_loopw [6, 7, 12, 27] (fun _ _ _ _ wr => ∃ cur : List Int, Hid (Stl zs ps size N cur) ∧ Hid (∀ k, k < N → zs.getD k 0 ≠ 0 → cur.getD k 0 ≠ 0) ∧ Hid (Blk wr g 3 (tab cur)) ∧ Hid (Below g w wr)) (fun _ _ _ _ wr => (size - pts (readT wr g)).natAbs)
  case atStart => exact ⟨ps, H0, hz, HT, Below.refl _ _⟩
  case round =>
    obtain ⟨cur, hst, hnz, hT, hB⟩ := hrel
    have hrd := readT_blk hT.out
    have hlen := hst.out.len
    have hp := points_c N (cts_blk hT.out hlen (by omega)) (hst.out.bndd hN)
    have hpb : 0 ≤ pts cur ∧ pts cur ≤ 314572800 := by
      have := pts_bnd cur (bnd_mem (hst.out.bndd hN))
      rw [hlen] at this
      omega
    by_cases hlt : pts cur < size
    · obtain ⟨m1, m2, m3, m4⟩ := stl_more hst.out hlt hg hs (hnz.out _ hg hzg)
      have hgr := greatest_c cap (w := wr) (A := A) (n := n) (zs := zs) ⟨hl, hn, (HI.out.below hB.out).more (Nat.le_of_lt (blk_lt hT.out))⟩
      have hwc := worth_c (cur.getD (gr zs) 0)
      have c1 := tab_cell hT.out (k := gr zs) (by rw [hlen]; exact hg)
      have f1 := blk_frozen hT.out (gr zs)
      have hT2 := tab_store hT.out (gr zs) (wth (cur.getD (gr zs) 0) + (size - pts cur))
      have hB2 := Lib.hid (hB.out.setCell (p := ⟨g, gr zs, none⟩) (Nat.le_refl _) (.int .i64 (wth (cur.getD (gr zs) 0) + (size - pts cur))))
      have hms : (size - pts (readT (wr.setCell ⟨g, gr zs, none⟩ (.int .i64 (wth (cur.getD (gr zs) 0) + (size - pts cur)))) g)).natAbs < (size - pts (readT wr g)).natAbs := by rw [readT_blk hT2, hrd, m2]; omega
      have hnz2 : ∀ k, k < N → zs.getD k 0 ≠ 0 → (cur.set (gr zs) (wth (cur.getD (gr zs) 0) + (size - pts cur))).getD k 0 ≠ 0 := fun k hk hzk => by
        rw [getD_set_int _ (by rw [hlen]; exact hg)]
        split
        · omega
        · exact hnz.out k hk hzk
      have M1 := Lib.hid m1
      have HMS := Lib.hid hms
      have HT2 := Lib.hid hT2
      have HN2 := Lib.hid hnz2
      clear hrd hms m1 m2 hst hnz hT hB hT2 hnz2 hlen
      generalize hnx : cur.set (gr zs) (wth (cur.getD (gr zs) 0) + (size - pts cur)) = nx at *
      clear hnx
      generalize cur.getD (gr zs) 0 = x at *
      generalize wth x = y at *
      generalize pts cur = pc at *
      generalize gr zs = k at *
      go_wp2_with (first
        | (go_at_call 28; (with_reducible refine hp.mono ?_); rintro e w2 ⟨rfl, rfl⟩)
        | (go_at_call 45; (with_reducible refine hgr.mono ?_); rintro e w2 ⟨rfl, rfl⟩)
        | (go_at_call 47; (with_reducible refine (hwc _).mono ?_); rintro e w2 ⟨rfl, rfl⟩))
      go_roundw
      case rel => exact ⟨nx, M1, HN2, HT2, hB2⟩
      case measure => exact HMS.out
    · by_cases hgt : size < pts cur
      · obtain ⟨m1, m2, m3, m4⟩ := stl_less hst.out hgt
        have hgr := greatest_c N (cts_blk hT.out hlen (by omega))
        have hbx := hst.out.bnd _ m1
        have c1 := tab_cell hT.out (k := gr cur) (by rw [hlen]; exact m1)
        have f1 := blk_frozen hT.out (gr cur)
        have hT2 := tab_store hT.out (gr cur) (cur.getD (gr cur) 0 - 1)
        have hB2 := Lib.hid (hB.out.setCell (p := ⟨g, gr cur, none⟩) (Nat.le_refl _) (.int .i64 (cur.getD (gr cur) 0 - 1)))
        have hms : (size - pts (readT (wr.setCell ⟨g, gr cur, none⟩ (.int .i64 (cur.getD (gr cur) 0 - 1))) g)).natAbs < (size - pts (readT wr g)).natAbs := by rw [readT_blk hT2, hrd, m4]; omega
        have hnz2 : ∀ k, k < N → zs.getD k 0 ≠ 0 → (cur.set (gr cur) (cur.getD (gr cur) 0 - 1)).getD k 0 ≠ 0 := fun k hk hzk => by
          rw [getD_set_int _ (by rw [hlen]; exact m1)]
          split
          · omega
          · exact hnz.out k hk hzk
        have M1 := Lib.hid m3
        have HMS := Lib.hid hms
        have HT2 := Lib.hid hT2
        have HN2 := Lib.hid hnz2
        clear hrd hms m3 m4 hst hnz hT hB hT2 hnz2 hlen
        generalize hnx : cur.set (gr cur) (cur.getD (gr cur) 0 - 1) = nx at *
        clear hnx
        generalize cur.getD (gr cur) 0 = x at *
        generalize pts cur = pc at *
        generalize gr cur = k at *
        go_wp2_with (first
          | (go_at_call 28; (with_reducible refine hp.mono ?_); rintro e w2 ⟨rfl, rfl⟩)
          | (go_at_call 45; (with_reducible refine hgr.mono ?_); rintro e w2 ⟨rfl, rfl⟩))
        go_roundw
        case rel => exact ⟨nx, M1, HN2, HT2, hB2⟩
        case measure => exact HMS.out
      · have hpe : pts cur = size := by omega
        have he := stl_done hst.out hpe
        have HE := Lib.hid he
        rw [hpe] at hp
        clear hrd hst hnz hpe he hpb hlt hgt
        go_wp2_with (go_at_call 28; (with_reducible refine hp.mono ?_); rintro e w2 ⟨rfl, rfl⟩)
        rw [Exit.noGoto_normal]
        go_end0
        exact ⟨⟨_, rfl⟩, by rw [HE.out]; exact hT.out, hB.out⟩
end Go.Proofs.Ytjldbabggmmkdaa
