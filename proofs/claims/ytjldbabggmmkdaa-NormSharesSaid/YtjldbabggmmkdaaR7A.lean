/-
  The reference of package norm: With, Of.
-/
import Derived.Deep.QuietTactic
import Derived.BigQuiet
import Derived.Test.YtjldbabggmmkdaaN7G
namespace Go.Proofs.Ytjldbabggmmkdaa
open Go.ChangeShapes Go.WideShapes Go.ChangeAt Go.RowKit Go.Shelf
set_option linter.unusedVariables false
set_option linter.unusedSimpArgs false

theorem list_eq {a b : List Int} {N : Nat} (ha : a.length = N) (hb : b.length = N) (h : ∀ k, k < N → a.getD k 0 = b.getD k 0) : a = b := by
  apply List.ext_getElem?
  intro j
  by_cases hj : j < N
  · have h1 := h j hj
    have a1 : j < a.length := by omega
    have b1 : j < b.length := by omega
    rw [List.getElem?_eq_getElem a1, List.getElem?_eq_getElem b1]
    simpa [List.getD, a1, b1] using h1
  · rw [List.getElem?_eq_none (by omega), List.getElem?_eq_none (by omega)]

set_option maxRecDepth 100000 in
set_option maxHeartbeats 4000000 in
theorem rwith_good {A : Option Addr} {n : Nat} {zs : List Int} (cap L : Nat) {w : World} (h : Cts w A n zs) (h0 : refE zs (L : Int) = 0) :
    Calls Try.prog 20 #[.slice A n cap, .int .i64 (L : Int)] w (DistP w (L : Int) (stl zs (shl zs (2 ^ L)) (2 ^ L)) 0) := by
  obtain ⟨k0, k1, k2, k3, k4⟩ := refE_zero h0
  rw [Int.toNat_natCast] at k4
  have hL1 : 5 ≤ L := by omega
  have hL2 : L ≤ 12 := by omega
  have hw := pow_wrap hL1 hL2
  have hpw := pow_in hL1 hL2
  obtain ⟨s1, s2, s3, s4⟩ := shl_stl h0
  obtain ⟨l1, l2, l3, l4⟩ := lst_top k0 k1
  obtain ⟨t1, t2, t3, t4⟩ := tot_cnt k0
  have g256 := (good_of k0).1
  have gn := getD_nonneg (good_of k0).2.1
  have hgE : lasE zs = 0 := by
    unfold lasE; rw [if_pos k0]
    exact errP_some (fun hx => by have := occ_cnt zs; rw [hx] at this; simp at this; omega)
  have hgr : graN zs = (gr zs : Nat) := (gra_end hgE).1
  have hshl := fun k (hk : k < lst zs + 1) => shl_getD zs (2 ^ L) k hk l2
  have hshg := fun k (hk : k < zs.length) => share_c (zs.getD k 0) (totN zs) L (gn k) (by have := t3 _ (mem_getD hk); omega) (by omega) t4 hL2
  have hgv : ∀ u, Below w.heap.size w u → Calls Try.prog 34 #[.slice A n cap] u fun e w' => e = .returned (.tuple #[.int .i64 (totN zs), .int .i64 (cnt zs), .int .i64 0]) ∧ Below u.heap.size u w' := fun u hu => by
    have k := given_c cap (h.below hu)
    rw [if_pos ⟨k0, by omega⟩, if_pos ⟨k0, by omega⟩, if_pos k0, if_neg (by omega)] at k
    exact k
  have hla : ∀ u, Below w.heap.size w u → Calls Try.prog 37 #[.slice A n cap] u fun e w' => e = .returned (.tuple #[.int .i64 (lst zs : Nat), .int .i64 0]) ∧ Below u.heap.size u w' := fun u hu => by
    have k := rlast_c cap (h.below hu)
    rw [l1, hgE] at k
    exact k
  have hgt : ∀ u, Below w.heap.size w u → Calls Try.prog 40 #[.slice A n cap] u fun e w' => e = .returned (.tuple #[.int .i64 (gr zs : Nat), .int .i64 (graC zs), .int .i64 0]) ∧ Below u.heap.size u w' := fun u hu => by
    have k := rgreatest_c cap (h.below hu)
    rw [if_pos hgE, hgr, hgE] at k
    exact k
  have slen := stl_length h0
  have hzl := h.1
  subst hzl
  have HI := Lib.hid h.2.2
  have hmk : ∀ W, (Instr.makeSlice 23 (.int .i64 ((lst zs : Nat) + 1 : Int)) (.int .i64 ((lst zs : Nat) + 1 : Int))).run Try.prog W = .ok (.slice (some ⟨W.heap.size, 0, none⟩) (lst zs + 1) (lst zs + 1)) (W.alloc (.cells (madeCells #[.int .i64 0] (lst zs + 1)) 3)) := fun W => by
    have k := run_make_row' (P := Try.prog) 23 3 (.int .i64 0) 8 Try.underlying23 info3 rfl .i64 .i64 (lst zs + 1) (by omega) (by omega) W
    push_cast at k
    exact k
  have hw0 : Below w.heap.size w (w.alloc (.cells #[.int .i64 0, .slice none 0 0] 25)) := below_box (Below.refl _ _) _
  have kb0 := blk_new w 25 #[.int .i64 0, .slice none 0 0]
  have HSHL := Lib.hid hshl
  have S1 := Lib.hid s1
  have S3 := Lib.hid s3
  have SLEN := Lib.hid slen
  have kc : ¬ ((2 : Int) ^ L < (cnt zs : Int)) := by omega
  have hct : (cnt zs : Int) ≤ 4096 := by omega
  have ht1 : 1 ≤ totN zs := by omega
  clear t2 l1 l3 l4 k0 k1 k2 k3 k4 hgE hgr h0 h hshl s1 s3 slen t1
  generalize hps : shl zs (2 ^ L) = ps at *
  generalize hss : (2 : Int) ^ L = S at hpw kc
  have hss' := Lib.hid hss
  generalize (cnt zs : Int) = cz at *
  generalize graC zs = gc at *
  rw [show (wrap64 ((2 : Int) ^ L) = 2 ^ L) = (wrap64 ((2 : Int) ^ L) = S) by rw [← hss]] at hw
  clear hss
  go_enter Try.func20, Try.ntmps20
  go_wp2_with (first
    | (go_at_call 34; (with_reducible refine (hgv _ hw0).mono ?_); rintro e w1 ⟨rfl, hb⟩; obtain ⟨kb, hb1⟩ := dist_box hb; clear hb)
    | (go_at_call 37; (with_reducible refine (hla _ hb1).mono ?_); rintro e w2 ⟨rfl, hb⟩; have hlt1 := blk_lt kb; have kb2 := blk_below kb hb (blk_lt kb); have hb2 := below_call hb1 hb; have hsz := hb.size; clear hb kb hb1))
  have kT0 : Blk (w2.alloc (.cells (madeCells #[.int .i64 0] (lst zs + 1)) 3)) w2.heap.size 3 (tab (zeroL (lst zs + 1))) := by rw [made_tab]; exact blk_new w2 3 _
  have kB0 := blk_alloc kb2 (.cells (madeCells #[.int .i64 0] (lst zs + 1)) 3)
  have hB0 := below_box hb2 (.cells (madeCells #[.int .i64 0] (lst zs + 1)) 3)
  have hg0 : w.heap.size < w2.heap.size := by omega
  generalize w2.alloc (.cells (madeCells #[.int .i64 0] (lst zs + 1)) 3) = w3 at *
  generalize w2.heap.size = g at *
  have KT0 := Lib.hid kT0
  have KB0 := Lib.hid kB0
  have HB0 := Lib.hid hB0
  rw [hss'.out] at S1 SLEN HSHL hshg
  have S1 := S1
  clear hmk kT0 kB0 hB0 kb2 hb2 hsz hlt1 hw0 kb0 hgv hla w2 w1
  generalize totN zs = t at *
  generalize lst zs = lz at *
  have hgg : gr zs < lz + 1 := s2
  have hpl := S1.out.len
  go_loopw [13] (fun i wr => ∃ (s : Nat) (cur : List Int), s ≤ lz + 1 ∧ i = .int .i64 (s : Int) ∧ Hid (cur.length = lz + 1 ∧ ∀ j, j < lz + 1 → cur.getD j 0 = if j < s then ps.getD j 0 else 0) ∧ Hid (Blk wr g 3 (tab cur)) ∧ Hid (Blk wr w.heap.size 25 #[.int .i64 0, .slice none 0 0]) ∧ Hid (Below w.heap.size w wr)) (fun i _ => lz + 1 - (intOf i).toNat)
  case atStart => exact ⟨0, zeroL (lz + 1), by omega, rfl, ⟨zeroL_length _, fun j hj => by rw [if_neg (by omega), zeroL_getD]⟩, KT0, KB0, HB0⟩
  case round =>
    obtain ⟨s, cur, hs, rfl, hcur, hT, hkb, hB⟩ := hrel
    by_cases hlt : s < lz + 1
    · obtain ⟨b, off, rfl, hb, hc⟩ := HI.out (by omega)
      have hczs := (hB.out.cell (p := ⟨b, off + s, none⟩) hb).trans (hc s (by omega))
      have hsc := hshg s (by omega)
      have hsr := HSHL.out s hlt
      have hz0 := gn s
      have hcz := fun u (hu : Below w.heap.size w u) => (hu.cell (p := ⟨b, off + s, none⟩) hb).trans (hc s (by omega))
      have hcl : s < cur.length := by rw [hcur.out.1]; exact hlt
      have hsle : (s : Int) ≤ (lz : Int) := by omega
      unfold shr at hsr
      clear hc
      generalize zs.getD s 0 = z at *
      have hq0 : 0 ≤ z * S / t := Int.ediv_nonneg (Int.mul_nonneg hz0 (by omega)) (by omega)
      have hqz : z = 0 → z * S / t = 0 := fun hz => by rw [hz, Int.zero_mul, Int.zero_ediv]
      generalize z * S / t = q at *
      by_cases hp : 0 < z
      · rw [if_pos hp] at hsr
        by_cases hq : q = 0
        · rw [if_pos hq] at hsr
          subst hq
          have HSR := Lib.hid hsr
          clear hsr hqz
          go_wp2_with (go_at_call 38; (with_reducible refine (hsc _).mono ?_); rintro e w4 ⟨rfl, hb4⟩; have kT4 := blk_below hT.out hb4 (blk_lt hT.out); have kB4 := blk_below hkb.out hb4 (blk_lt hkb.out); have e1 := tab_cell kT4 hcl; have f1 := blk_frozen kT4 s; have kT5 := tab_store kT4 s 0; have f2 := blk_frozen kT5 s; have hB4 := (below_call hB.out hb4).setCell (p := ⟨g, s, none⟩) (Nat.le_of_lt hg0) (.int .i64 0); have e3 := hcz _ hB4; have KT5 := Lib.hid kT5; have KB4 := Lib.hid kB4; have HB4 := Lib.hid hB4; clear kT4 kB4 kT5 hB4 hb4)
          go_roundw
          case rel =>
            refine ⟨s + 1, (cur.set s 0).set s (-1), by omega, by go_num, ?_, tab_store KT5.out s (-1), blk_far (blk_far KB4.out (show w.heap.size ≠ g by omega) _) (show w.heap.size ≠ g by omega) _, HB4.out.setCell (p := ⟨g, s, none⟩) (Nat.le_of_lt hg0) _⟩
            refine ⟨by rw [List.length_set, List.length_set]; exact hcur.out.1, fun j hj => ?_⟩
            rw [List.set_set, getD_set_int _ hcl]
            by_cases hjs : s = j
            · subst hjs; rw [if_pos rfl, if_pos (by omega), HSR.out]
            · rw [if_neg hjs, hcur.out.2 j hj]
              by_cases h3 : j < s
              · rw [if_pos h3, if_pos (by omega)]
              · rw [if_neg h3, if_neg (by omega)]
          case measure => simp [intOf]; omega
        · rw [if_neg hq] at hsr
          have HSR := Lib.hid hsr
          have hqb : (q == 0) = false := by simpa using hq
          clear hsr hqz hq
          go_wp2_with (go_at_call 38; (with_reducible refine (hsc _).mono ?_); rintro e w4 ⟨rfl, hb4⟩; have kT4 := blk_below hT.out hb4 (blk_lt hT.out); have kB4 := blk_below hkb.out hb4 (blk_lt hkb.out); have e1 := tab_cell kT4 hcl; have f1 := blk_frozen kT4 s; have kT5 := tab_store kT4 s q; have f2 := blk_frozen kT5 s; have hB4 := (below_call hB.out hb4).setCell (p := ⟨g, s, none⟩) (Nat.le_of_lt hg0) (.int .i64 q); have e3 := hcz _ hB4; have KT5 := Lib.hid kT5; have KB4 := Lib.hid kB4; have HB4 := Lib.hid hB4; clear kT4 kB4 kT5 hB4 hb4)
          go_roundw
          case rel =>
            refine ⟨s + 1, cur.set s q, by omega, by go_num, ?_, KT5, blk_far KB4.out (show w.heap.size ≠ g by omega) _, HB4⟩
            refine ⟨by rw [List.length_set]; exact hcur.out.1, fun j hj => ?_⟩
            rw [getD_set_int _ hcl]
            by_cases hjs : s = j
            · subst hjs; rw [if_pos rfl, if_pos (by omega), HSR.out]
            · rw [if_neg hjs, hcur.out.2 j hj]
              by_cases h3 : j < s
              · rw [if_pos h3, if_pos (by omega)]
              · rw [if_neg h3, if_neg (by omega)]
          case measure => simp [intOf]; omega
      · rw [if_neg hp] at hsr
        obtain rfl : q = 0 := hqz (by omega)
        have HSR := Lib.hid hsr
        clear hsr hqz
        go_wp2_with (go_at_call 38; (with_reducible refine (hsc _).mono ?_); rintro e w4 ⟨rfl, hb4⟩; have kT4 := blk_below hT.out hb4 (blk_lt hT.out); have kB4 := blk_below hkb.out hb4 (blk_lt hkb.out); have e1 := tab_cell kT4 hcl; have f1 := blk_frozen kT4 s; have kT5 := tab_store kT4 s 0; have f2 := blk_frozen kT5 s; have hB4 := (below_call hB.out hb4).setCell (p := ⟨g, s, none⟩) (Nat.le_of_lt hg0) (.int .i64 0); have e3 := hcz _ hB4; have KT5 := Lib.hid kT5; have KB4 := Lib.hid kB4; have HB4 := Lib.hid hB4; clear kT4 kB4 kT5 hB4 hb4)
        go_roundw
        case rel =>
          refine ⟨s + 1, cur.set s 0, by omega, by go_num, ?_, KT5, blk_far KB4.out (show w.heap.size ≠ g by omega) _, HB4⟩
          refine ⟨by rw [List.length_set]; exact hcur.out.1, fun j hj => ?_⟩
          rw [getD_set_int _ hcl]
          by_cases hjs : s = j
          · subst hjs; rw [if_pos rfl, if_pos (by omega), HSR.out]
          · rw [if_neg hjs, hcur.out.2 j hj]
            by_cases h3 : j < s
            · rw [if_pos h3, if_pos (by omega)]
            · rw [if_neg h3, if_neg (by omega)]
        case measure => simp [intOf]; omega
    · obtain rfl : s = lz + 1 := by omega
      obtain rfl : cur = ps := list_eq hcur.out.1 hpl (fun k hk => by rw [hcur.out.2 k hk, if_pos hk])
      have hrs := rsum_c (lz + 1) (cts_blk hT.out hpl (by omega)) (S1.out.bndd (by omega))
      have hpb : 0 ≤ pts cur ∧ pts cur ≤ 314572800 := by
        have := pts_bnd cur (bnd_mem (S1.out.bndd (by omega)))
        rw [hpl] at this
        omega
      have hlz : ¬ ((lz : Int) + 1 ≤ (lz : Int)) := by omega
      by_cases hms : pts cur < S
      · obtain ⟨m1, m2, m3, m4⟩ := stl_more S1.out hms s2 hpw.2 (S3.out _ s2 s4)
        have hgl : gr zs < cur.length := by rw [hpl]; exact s2
        have hvc := value_c (cur.getD (gr zs) 0) (S1.out.good.1 _ (mem_getD hgl))
        have M1 := Lib.hid m1
        have hpt : S ≤ pts (cur.set (gr zs) (wth (cur.getD (gr zs) 0) + (S - pts cur))) := by rw [m2]; exact Int.le_refl _
        have HPT := Lib.hid hpt
        clear m1 m2 hcur hpt
        generalize hnx : cur.set (gr zs) (wth (cur.getD (gr zs) 0) + (S - pts cur)) = nx at *
        have HNX := Lib.hid hnx
        clear hnx
        have c1' := fun u (kT : Blk u g 3 (tab cur)) => tab_cell kT hgl
        generalize cur.getD (gr zs) 0 = x at *
        generalize hwx : wth x = y at *
        have HWX := Lib.hid hwx
        clear hwx
        generalize pts cur = pc at *
        generalize gr zs = gk at *
        go_wp2_with (first
          | (go_at_call 39; (with_reducible refine hrs.mono ?_); rintro e w4 ⟨rfl, rfl⟩)
          | (go_at_call 40; (with_reducible refine (hgt _ hB.out).mono ?_); rintro e w5 ⟨rfl, hb5⟩; have kT5 := blk_below hT.out hb5 (blk_lt hT.out); have kB5 := blk_below hkb.out hb5 (blk_lt hkb.out); have hB5 := below_call hB.out hb5; have e1 := c1' _ kT5; have f1 := blk_frozen kT5 gk; have KT5 := Lib.hid kT5; have KB5 := Lib.hid kB5; have HB5 := Lib.hid hB5; clear kT5 kB5 hB5 hb5)
          | (go_at_call 41; (with_reducible refine (hvc _).mono ?_); rintro e w6 ⟨rfl, rfl⟩))
        have kt9 := tab_store KT5.out gk (y + (S - pc))
        rw [HNX.out] at kt9
        have KT9 := Lib.hid kt9
        have KB9 := Lib.hid (blk_far (p := ⟨g, gk, none⟩) KB5.out (show w.heap.size ≠ g by omega) (.int .i64 (y + (S - pc))))
        have HB9 := Lib.hid (HB5.out.setCell (p := ⟨g, gk, none⟩) (Nat.le_of_lt hg0) (.int .i64 (y + (S - pc))))
        have M9 := M1
        have HP9 := HPT
        clear kt9
        generalize w6.setCell ⟨g, gk, none⟩ (.int .i64 (y + (S - pc))) = w9 at *
        go_loopw [18, 19] (fun _ _ wr => ∃ c2 : List Int, Hid (Stl zs cur S (lz + 1) c2) ∧ Hid (S ≤ pts c2) ∧ Hid (Blk wr g 3 (tab c2)) ∧ Hid (Blk wr w.heap.size 25 #[.int .i64 0, .slice none 0 0]) ∧ Hid (Below w.heap.size w wr)) (fun _ _ wr => (pts (readT wr g) - S).toNat)
        case atStart => exact ⟨_, M9, HP9, KT9, KB9, HB9⟩
        case round =>
          obtain ⟨c2, hst, hge, hT2, hkb2, hB2⟩ := hrel
          have hl2 := hst.out.len
          have hrd := readT_blk hT2.out
          have hrs2 := rsum_c (lz + 1) (cts_blk hT2.out hl2 (by omega)) (hst.out.bndd (by omega))
          have hpb2 : 0 ≤ pts c2 ∧ pts c2 ≤ 314572800 := by
            have := pts_bnd c2 (bnd_mem (hst.out.bndd (by omega)))
            rw [hl2] at this
            omega
          by_cases hgt2 : S < pts c2
          · obtain ⟨m1, m2, m3, m4⟩ := stl_less hst.out hgt2
            have hbx := hst.out.bnd _ m1
            have M3 := Lib.hid m3
            have M4 := Lib.hid m4
            have hpt : S ≤ pts (c2.set (gr c2) (c2.getD (gr c2) 0 - 1)) := by rw [m4]; omega
            have HPT := Lib.hid hpt
            have HGE := Lib.hid hgt2
            clear m3 m4 hpt
            generalize hp2 : pts c2 = p2 at *
            have HP2 := Lib.hid hp2
            clear hp2
            go_wp2_with (go_at_call 39; (with_reducible refine hrs2.mono ?_); rintro e wz ⟨rfl, rfl⟩)
            go_loopw [18, 19] (fun sb sk wr2 => ∃ (k b m : Nat), k ≤ lz + 1 ∧ b < lz + 1 ∧ Hid (grst c2 k = b) ∧ sb = .int .i64 (b : Int) ∧ sk = .int .i64 (k : Int) ∧ wr2 = wz.drewN m) (fun _ sk _ => lz + 1 - (intOf sk).toNat)
            case atStart => exact ⟨0, 0, 0, by omega, by omega, rfl, rfl, rfl, rfl⟩
            case round =>
              obtain ⟨k, b, m, hk, hbl, hgb, rfl, rfl, rfl⟩ := hrel
              by_cases hkl : k < lz + 1
              · have d1 := tab_cell hT2.out (k := k) (by rw [hl2]; exact hkl)
                have d2 := tab_cell hT2.out (k := b) (by rw [hl2]; exact hbl)
                have hgn : grst c2 (k + 1) = if c2.getD b 0 < c2.getD k 0 then k else b := by
                  show (if c2.getD (grst c2 k) 0 < c2.getD k 0 then k else grst c2 k) = _
                  rw [hgb.out]
                have hkle : (k : Int) ≤ (lz : Int) := by omega
                generalize c2.getD k 0 = x1 at *
                generalize c2.getD b 0 = x2 at *
                by_cases hxx : x2 < x1
                · rw [if_pos hxx] at hgn
                  have HGN := Lib.hid hgn
                  clear hgn
                  go_wp2
                  go_quiet (fail)
                  go_wp2
                  go_roundw
                  case rel => exact ⟨k + 1, k, _, by omega, hkl, HGN, rfl, by go_num, rfl⟩
                  case measure => simp [intOf]; omega
                · rw [if_neg hxx] at hgn
                  have HGN := Lib.hid hgn
                  clear hgn
                  go_wp2
                  go_quiet (fail)
                  go_wp2
                  go_roundw
                  case rel => exact ⟨k + 1, b, _, by omega, hbl, HGN, rfl, by go_num, rfl⟩
                  case measure => simp [intOf]; omega
              · obtain rfl : k = lz + 1 := by omega
                have hbg : gr c2 = b := by unfold gr; rw [hl2]; exact hgb.out
                rw [hbg] at M3 M4 HPT m1 m2 hbx
                have d2 := tab_cell hT2.out (k := b) (by rw [hl2]; exact hbl)
                have f2 := blk_frozen hT2.out b
                have hTd : Blk (wz.drewN m) g 3 (tab c2) := show (wz.drewN m).heap[g]? = _ from hT2.out
                have hBd : Blk (wz.drewN m) w.heap.size 25 #[.int .i64 0, .slice none 0 0] := show (wz.drewN m).heap[w.heap.size]? = _ from hkb2.out
                have KT7 := Lib.hid (tab_store hTd b (c2.getD b 0 - 1))
                have KB7 := Lib.hid (blk_far (p := ⟨g, b, none⟩) hBd (show w.heap.size ≠ g by omega) (.int .i64 (c2.getD b 0 - 1)))
                have HB7 := Lib.hid ((Below.drewN' hB2.out m).setCell (p := ⟨g, b, none⟩) (Nat.le_of_lt hg0) (.int .i64 (c2.getD b 0 - 1)))
                have hmz : (pts (readT ((wz.drewN m).setCell ⟨g, b, none⟩ (.int .i64 (c2.getD b 0 - 1))) g) - S).toNat < (pts (readT wz g) - S).toNat := by
                  rw [readT_blk KT7.out, hrd, M4.out, HP2.out]
                  have := HGE.out
                  omega
                have HMZ := Lib.hid hmz
                generalize hnx2 : c2.set b (c2.getD b 0 - 1) = nx2 at *
                clear hbg hmz hTd hBd hnx2
                generalize c2.getD b 0 = x2 at *
                have hlz2 : ¬ ((lz : Int) + 1 ≤ (lz : Int)) := by omega
                go_wp2
                go_roundw
                case rel => exact ⟨nx2, M3, HPT, KT7, KB7, HB7⟩
                case measure => exact HMZ.out
          · have hpe : pts c2 = S := by have := hge.out; omega
            have he := stl_done hst.out hpe
            have HE := Lib.hid he
            rw [hpe] at hrs2
            obtain ⟨y0, y1, z0, z1⟩ := dist_facts hkb2.out
            have hgtw : ¬ S < S := by omega
            clear hrd hst hpe he hpb2 hgt2 hge
            go_wp2_with (go_at_call 39; (with_reducible refine hrs2.mono ?_); rintro e wz ⟨rfl, rfl⟩)
            have kz2 := dist_set (u := .int .i64 (L : Int)) (v := .slice (some ⟨g, 0, none⟩) (lz + 1) (lz + 1)) hkb2.out
            have c0 := blk_cell kz2 0
            have c1 := blk_cell kz2 1
            have hT4 := blk_far (p := ⟨w.heap.size, 1, none⟩) (blk_far (p := ⟨w.heap.size, 0, none⟩) hT2.out (show g ≠ w.heap.size by omega) (.int .i64 (L : Int))) (show g ≠ w.heap.size by omega) (.slice (some ⟨g, 0, none⟩) (lz + 1) (lz + 1))
            have hI4 := (cts_blk hT4 hl2 (by omega)).2.2
            refine bodyPost_ret (v := .tuple #[.agg #[.int .i64 (L : Int), .slice (some ⟨g, 0, none⟩) (lz + 1) (lz + 1)], .int .i64 0]) ?_ rfl ⟨some ⟨g, 0, none⟩, lz + 1, by rw [HE.out, hl2], by rw [HE.out]; exact hI4, (hB2.out.setCell (p := ⟨w.heap.size, 0, none⟩) (Nat.le_refl _) _).setCell (p := ⟨w.heap.size, 1, none⟩) (Nat.le_refl _) _, fun _ b off hb => by cases hb; exact Nat.le_of_lt hg0⟩
            simp [results, Try.f20, go_sem, c0, c1]
      · have M9 := S1
        have HP9 : Hid (S ≤ pts cur) := Lib.hid (by omega)
        have KT9 := hT
        have KB9 := hkb
        have HB9 := hB
        clear hcur
        generalize pts cur = pc at hrs hms hpb
        go_wp2_with (go_at_call 39; (with_reducible refine hrs.mono ?_); rintro e w4 ⟨rfl, rfl⟩)
        go_loopw [18, 19] (fun _ _ wr => ∃ c2 : List Int, Hid (Stl zs cur S (lz + 1) c2) ∧ Hid (S ≤ pts c2) ∧ Hid (Blk wr g 3 (tab c2)) ∧ Hid (Blk wr w.heap.size 25 #[.int .i64 0, .slice none 0 0]) ∧ Hid (Below w.heap.size w wr)) (fun _ _ wr => (pts (readT wr g) - S).toNat)
        case atStart => exact ⟨_, M9, HP9, KT9, KB9, HB9⟩
        case round =>
          obtain ⟨c2, hst, hge, hT2, hkb2, hB2⟩ := hrel
          have hl2 := hst.out.len
          have hrd := readT_blk hT2.out
          have hrs2 := rsum_c (lz + 1) (cts_blk hT2.out hl2 (by omega)) (hst.out.bndd (by omega))
          have hpb2 : 0 ≤ pts c2 ∧ pts c2 ≤ 314572800 := by
            have := pts_bnd c2 (bnd_mem (hst.out.bndd (by omega)))
            rw [hl2] at this
            omega
          by_cases hgt2 : S < pts c2
          · obtain ⟨m1, m2, m3, m4⟩ := stl_less hst.out hgt2
            have hbx := hst.out.bnd _ m1
            have M3 := Lib.hid m3
            have M4 := Lib.hid m4
            have hpt : S ≤ pts (c2.set (gr c2) (c2.getD (gr c2) 0 - 1)) := by rw [m4]; omega
            have HPT := Lib.hid hpt
            have HGE := Lib.hid hgt2
            clear m3 m4 hpt
            generalize hp2 : pts c2 = p2 at *
            have HP2 := Lib.hid hp2
            clear hp2
            go_wp2_with (go_at_call 39; (with_reducible refine hrs2.mono ?_); rintro e wz ⟨rfl, rfl⟩)
            go_loopw [18, 19] (fun sb sk wr2 => ∃ (k b m : Nat), k ≤ lz + 1 ∧ b < lz + 1 ∧ Hid (grst c2 k = b) ∧ sb = .int .i64 (b : Int) ∧ sk = .int .i64 (k : Int) ∧ wr2 = wz.drewN m) (fun _ sk _ => lz + 1 - (intOf sk).toNat)
            case atStart => exact ⟨0, 0, 0, by omega, by omega, rfl, rfl, rfl, rfl⟩
            case round =>
              obtain ⟨k, b, m, hk, hbl, hgb, rfl, rfl, rfl⟩ := hrel
              by_cases hkl : k < lz + 1
              · have d1 := tab_cell hT2.out (k := k) (by rw [hl2]; exact hkl)
                have d2 := tab_cell hT2.out (k := b) (by rw [hl2]; exact hbl)
                have hgn : grst c2 (k + 1) = if c2.getD b 0 < c2.getD k 0 then k else b := by
                  show (if c2.getD (grst c2 k) 0 < c2.getD k 0 then k else grst c2 k) = _
                  rw [hgb.out]
                have hkle : (k : Int) ≤ (lz : Int) := by omega
                generalize c2.getD k 0 = x1 at *
                generalize c2.getD b 0 = x2 at *
                by_cases hxx : x2 < x1
                · rw [if_pos hxx] at hgn
                  have HGN := Lib.hid hgn
                  clear hgn
                  go_wp2
                  go_quiet (fail)
                  go_wp2
                  go_roundw
                  case rel => exact ⟨k + 1, k, _, by omega, hkl, HGN, rfl, by go_num, rfl⟩
                  case measure => simp [intOf]; omega
                · rw [if_neg hxx] at hgn
                  have HGN := Lib.hid hgn
                  clear hgn
                  go_wp2
                  go_quiet (fail)
                  go_wp2
                  go_roundw
                  case rel => exact ⟨k + 1, b, _, by omega, hbl, HGN, rfl, by go_num, rfl⟩
                  case measure => simp [intOf]; omega
              · obtain rfl : k = lz + 1 := by omega
                have hbg : gr c2 = b := by unfold gr; rw [hl2]; exact hgb.out
                rw [hbg] at M3 M4 HPT m1 m2 hbx
                have d2 := tab_cell hT2.out (k := b) (by rw [hl2]; exact hbl)
                have f2 := blk_frozen hT2.out b
                have hTd : Blk (wz.drewN m) g 3 (tab c2) := show (wz.drewN m).heap[g]? = _ from hT2.out
                have hBd : Blk (wz.drewN m) w.heap.size 25 #[.int .i64 0, .slice none 0 0] := show (wz.drewN m).heap[w.heap.size]? = _ from hkb2.out
                have KT7 := Lib.hid (tab_store hTd b (c2.getD b 0 - 1))
                have KB7 := Lib.hid (blk_far (p := ⟨g, b, none⟩) hBd (show w.heap.size ≠ g by omega) (.int .i64 (c2.getD b 0 - 1)))
                have HB7 := Lib.hid ((Below.drewN' hB2.out m).setCell (p := ⟨g, b, none⟩) (Nat.le_of_lt hg0) (.int .i64 (c2.getD b 0 - 1)))
                have hmz : (pts (readT ((wz.drewN m).setCell ⟨g, b, none⟩ (.int .i64 (c2.getD b 0 - 1))) g) - S).toNat < (pts (readT wz g) - S).toNat := by
                  rw [readT_blk KT7.out, hrd, M4.out, HP2.out]
                  have := HGE.out
                  omega
                have HMZ := Lib.hid hmz
                generalize hnx2 : c2.set b (c2.getD b 0 - 1) = nx2 at *
                clear hbg hmz hTd hBd hnx2
                generalize c2.getD b 0 = x2 at *
                have hlz2 : ¬ ((lz : Int) + 1 ≤ (lz : Int)) := by omega
                go_wp2
                go_roundw
                case rel => exact ⟨nx2, M3, HPT, KT7, KB7, HB7⟩
                case measure => exact HMZ.out
          · have hpe : pts c2 = S := by have := hge.out; omega
            have he := stl_done hst.out hpe
            have HE := Lib.hid he
            rw [hpe] at hrs2
            obtain ⟨y0, y1, z0, z1⟩ := dist_facts hkb2.out
            have hgtw : ¬ S < S := by omega
            clear hrd hst hpe he hpb2 hgt2 hge
            go_wp2_with (go_at_call 39; (with_reducible refine hrs2.mono ?_); rintro e wz ⟨rfl, rfl⟩)
            have kz2 := dist_set (u := .int .i64 (L : Int)) (v := .slice (some ⟨g, 0, none⟩) (lz + 1) (lz + 1)) hkb2.out
            have c0 := blk_cell kz2 0
            have c1 := blk_cell kz2 1
            have hT4 := blk_far (p := ⟨w.heap.size, 1, none⟩) (blk_far (p := ⟨w.heap.size, 0, none⟩) hT2.out (show g ≠ w.heap.size by omega) (.int .i64 (L : Int))) (show g ≠ w.heap.size by omega) (.slice (some ⟨g, 0, none⟩) (lz + 1) (lz + 1))
            have hI4 := (cts_blk hT4 hl2 (by omega)).2.2
            refine bodyPost_ret (v := .tuple #[.agg #[.int .i64 (L : Int), .slice (some ⟨g, 0, none⟩) (lz + 1) (lz + 1)], .int .i64 0]) ?_ rfl ⟨some ⟨g, 0, none⟩, lz + 1, by rw [HE.out, hl2], by rw [HE.out]; exact hI4, (hB2.out.setCell (p := ⟨w.heap.size, 0, none⟩) (Nat.le_refl _) _).setCell (p := ⟨w.heap.size, 1, none⟩) (Nat.le_refl _) _, fun _ b off hb => by cases hb; exact Nat.le_of_lt hg0⟩
            simp [results, Try.f20, go_sem, c0, c1]

theorem rwith_bad {A : Option Addr} {n : Nat} {zs : List Int} (cap : Nat) (log : Int) {w : World} (h : Cts w A n zs) (h0 : refE zs log ≠ 0) :
    Calls Try.prog 20 #[.slice A n cap, .int .i64 log] w (DistP w 0 [] (refE zs log)) := by
  have hg := given_c cap (h.below (below_box (Below.refl w.heap.size w) (.cells #[.int .i64 0, .slice none 0 0] 25)))
  by_cases hk : chk zs = 0 ∧ cnt zs ≠ 0
  · obtain ⟨t1, t2, t3, t4⟩ := tot_cnt hk.1
    rw [if_pos hk, if_pos hk, if_pos hk.1, if_neg hk.2] at hg
    have e0 : refE zs log = if log < 5 ∨ 12 < log then 31 else if (2 : Int) ^ log.toNat < cnt zs then 2 else 0 := by unfold refE; rw [if_pos hk.1, if_neg hk.2]
    by_cases h2 : log < 5 ∨ 12 < log
    · rw [if_pos h2] at e0
      rw [e0]
      clear h h0 e0 t1 t2 t3 hk
      generalize totN zs = t at *
      generalize (cnt zs : Int) = c at *
      by_cases h3 : log < 5
      · clear h2
        go_enter Try.func20, Try.ntmps20
        go_wp2_with (go_at_call 34; (with_reducible refine hg.mono ?_); rintro e w1 ⟨rfl, hb⟩; obtain ⟨kb, hb1⟩ := dist_box hb; clear hb; obtain ⟨y0, y1, z0, z1⟩ := dist_facts kb)
        have kb2 := dist_set (u := .int .i64 0) (v := .slice none 0 0) kb
        have c0 := blk_cell kb2 0
        have c1 := blk_cell kb2 1
        refine bodyPost_ret (v := .tuple #[.agg #[.int .i64 0, .slice none 0 0], .int .i64 31]) ?_ rfl ⟨none, 0, rfl, fun h => absurd h (by decide), (hb1.setCell (p := ⟨w.heap.size, 0, none⟩) (Nat.le_refl _) _).setCell (p := ⟨w.heap.size, 1, none⟩) (Nat.le_refl _) _, fun h => absurd h (by decide)⟩
        simp [results, Try.f20, go_sem, c0, c1]
      · have h4 : 12 < log := by omega
        clear h2
        go_enter Try.func20, Try.ntmps20
        go_wp2_with (go_at_call 34; (with_reducible refine hg.mono ?_); rintro e w1 ⟨rfl, hb⟩; obtain ⟨kb, hb1⟩ := dist_box hb; clear hb; obtain ⟨y0, y1, z0, z1⟩ := dist_facts kb)
        have kb2 := dist_set (u := .int .i64 0) (v := .slice none 0 0) kb
        have c0 := blk_cell kb2 0
        have c1 := blk_cell kb2 1
        refine bodyPost_ret (v := .tuple #[.agg #[.int .i64 0, .slice none 0 0], .int .i64 31]) ?_ rfl ⟨none, 0, rfl, fun h => absurd h (by decide), (hb1.setCell (p := ⟨w.heap.size, 0, none⟩) (Nat.le_refl _) _).setCell (p := ⟨w.heap.size, 1, none⟩) (Nat.le_refl _) _, fun h => absurd h (by decide)⟩
        simp [results, Try.f20, go_sem, c0, c1]
    · rw [if_neg h2] at e0
      obtain ⟨L, rfl⟩ : ∃ L : Nat, log = L := ⟨log.toNat, by omega⟩
      rw [Int.toNat_natCast] at e0
      have hL1 : 5 ≤ L := by omega
      have hL2 : L ≤ 12 := by omega
      have hw := pow_wrap hL1 hL2
      obtain ⟨S, hS⟩ : ∃ S, (2 : Int) ^ L = S := ⟨_, rfl⟩
      rw [hS] at e0
      rw [show (wrap64 ((2 : Int) ^ L) = 2 ^ L) = (wrap64 ((2 : Int) ^ L) = S) by rw [← hS]] at hw
      by_cases h3 : S < cnt zs
      · rw [if_pos h3] at e0
        rw [e0]
        clear h h0 e0 t1 t2 t3 hk hS h2
        generalize totN zs = t at *
        generalize (cnt zs : Int) = c at *
        go_enter Try.func20, Try.ntmps20
        go_wp2_with (go_at_call 34; (with_reducible refine hg.mono ?_); rintro e w1 ⟨rfl, hb⟩; obtain ⟨kb, hb1⟩ := dist_box hb; clear hb; obtain ⟨y0, y1, z0, z1⟩ := dist_facts kb)
        have kb2 := dist_set (u := .int .i64 0) (v := .slice none 0 0) kb
        have c0 := blk_cell kb2 0
        have c1 := blk_cell kb2 1
        refine bodyPost_ret (v := .tuple #[.agg #[.int .i64 0, .slice none 0 0], .int .i64 2]) ?_ rfl ⟨none, 0, rfl, fun h => absurd h (by decide), (hb1.setCell (p := ⟨w.heap.size, 0, none⟩) (Nat.le_refl _) _).setCell (p := ⟨w.heap.size, 1, none⟩) (Nat.le_refl _) _, fun h => absurd h (by decide)⟩
        simp [results, Try.f20, go_sem, c0, c1]
      · rw [if_neg h3] at e0
        exact absurd e0 h0
  · rw [if_neg hk, if_neg hk] at hg
    obtain ⟨y, hy, hy0, e1⟩ : ∃ y, (if chk zs = 0 then (if cnt zs = 0 then (7 : Int) else 0) else chk zs) = y ∧ y ≠ 0 ∧ refE zs log = y := by
      by_cases h1 : chk zs = 0
      · have h2 : cnt zs = 0 := Classical.byContradiction fun hx => hk ⟨h1, hx⟩
        refine ⟨7, by rw [if_pos h1, if_pos h2], by decide, by unfold refE; rw [if_pos h1, if_pos h2]⟩
      · exact ⟨chk zs, by rw [if_neg h1], h1, by unfold refE; rw [if_neg h1]⟩
    rw [hy] at hg
    rw [e1]
    have h1 : (y != 0) = true := by simpa using hy0
    clear h h0 hy e1 hy0 hk
    go_enter Try.func20, Try.ntmps20
    go_wp2_with (go_at_call 34; (with_reducible refine hg.mono ?_); rintro e w1 ⟨rfl, hb⟩; obtain ⟨kb, hb1⟩ := dist_box hb; clear hb; obtain ⟨y0, y1, z0, z1⟩ := dist_facts kb)
    have kb2 := dist_set (u := .int .i64 0) (v := .slice none 0 0) kb
    have c0 := blk_cell kb2 0
    have c1 := blk_cell kb2 1
    refine bodyPost_ret (v := .tuple #[.agg #[.int .i64 0, .slice none 0 0], .int .i64 y]) ?_ rfl ⟨none, 0, rfl, fun h => absurd h (by decide), (hb1.setCell (p := ⟨w.heap.size, 0, none⟩) (Nat.le_refl _) _).setCell (p := ⟨w.heap.size, 1, none⟩) (Nat.le_refl _) _, fun h => absurd h (by decide)⟩
    simp [results, Try.f20, go_sem, c0, c1]
theorem rwith_c {A : Option Addr} {n : Nat} {zs : List Int} (cap : Nat) (log : Int) {w : World} (h : Cts w A n zs) :
    Calls Try.prog 20 #[.slice A n cap, .int .i64 log] w (DistP w (disG zs log) (disL zs log) (refE zs log)) := by
  unfold disG disL
  by_cases h0 : refE zs log = 0
  · rw [if_pos h0, if_pos h0, h0]
    obtain ⟨k0, k1, k2, k3, k4⟩ := refE_zero h0
    obtain ⟨L, rfl⟩ : ∃ L : Nat, log = L := ⟨log.toNat, by omega⟩
    rw [Int.toNat_natCast]
    exact rwith_good cap L h h0
  · rw [if_neg h0, if_neg h0]
    exact rwith_bad cap log h h0
set_option maxRecDepth 100000 in
set_option maxHeartbeats 1000000 in
theorem rof_c {A : Option Addr} {n : Nat} {zs : List Int} (cap : Nat) (most : Int) {w : World} (h : Cts w A n zs) :
    Calls Try.prog 18 #[.slice A n cap, .int .i64 most] w (DistP w (ofG zs most) (ofL zs most) (ofE zs most)) := by
  unfold ofG ofL ofE
  have hlg := rLog_c cap most (h.below ((Below.refl _ w).alloc (Nat.le_refl _) (.cells #[.int .i64 0, .slice none 0 0] 25)))
  by_cases h0 : refE zs most = 0
  · rw [if_pos h0, if_pos h0, if_pos h0]
    rw [h0] at hlg
    have hw := fun u (hu : Below w.heap.size w u) => rwith_c cap (logV zs most) (h.below hu)
    clear h0
    generalize logV zs most = lv at *
    generalize disG zs lv = dg at *
    generalize disL zs lv = dl at *
    generalize refE zs lv = de at *
    clear h
    go_enter Try.func18, Try.ntmps18
    go_wp2_with (first
      | (go_at_call 17; (with_reducible refine hlg.mono ?_); rintro e w1 ⟨rfl, hb⟩; obtain ⟨kb, hb1⟩ := dist_box hb; clear hb)
      | (go_at_call 20; (with_reducible refine (hw _ hb1).mono ?_); rintro e w2 ⟨A', c', rfl, hI2, hb, hnew⟩; have hlt := blk_lt kb; replace kb := blk_below kb hb hlt; replace hb1 := below_call hb1 hb; obtain ⟨y0, y1, z0, z1⟩ := dist_facts kb; have KB := Lib.hid kb; have HI2 := Lib.hid hI2; have HBB := Lib.hid hb; clear hb hI2 kb))
    have kb2 := dist_set (u := .int .i64 dg) (v := .slice A' dl.length c') KB.out
    have c0 := blk_cell kb2 0
    have c1 := blk_cell kb2 1
    have hI4 : IntsAt ((w2.setCell ⟨w.heap.size, 0, none⟩ (.int .i64 dg)).setCell ⟨w.heap.size, 1, none⟩ (.slice A' dl.length c')) ((w2.setCell ⟨w.heap.size, 0, none⟩ (.int .i64 dg)).setCell ⟨w.heap.size, 1, none⟩ (.slice A' dl.length c')).heap.size A' dl := fun hpos => by
      obtain ⟨b, off, hA, hbs, hc⟩ := HI2.out hpos
      have hbn := hnew hpos b off hA
      have e : ∀ k, ((w2.setCell ⟨w.heap.size, 0, none⟩ (.int .i64 dg)).setCell ⟨w.heap.size, 1, none⟩ (.slice A' dl.length c')).cell? ⟨b, off + k, none⟩ = w2.cell? ⟨b, off + k, none⟩ := fun k => by
        simp only [World.cell?]
        rw [Below.heap_setCell _ ⟨w.heap.size, 1, none⟩ _ b (show b ≠ w.heap.size by omega), Below.heap_setCell _ ⟨w.heap.size, 0, none⟩ _ b (show b ≠ w.heap.size by omega)]
      refine ⟨b, off, hA, ?_, fun k hk => by rw [e]; exact hc k hk⟩
      simpa using hbs
    refine bodyPost_ret (v := .tuple #[.agg #[.int .i64 dg, .slice A' dl.length c'], .int .i64 de]) ?_ rfl ⟨A', c', rfl, hI4, (hb1.setCell (p := ⟨w.heap.size, 0, none⟩) (Nat.le_refl _) _).setCell (p := ⟨w.heap.size, 1, none⟩) (Nat.le_refl _) _, fun hp b off hA => by have := hnew hp b off hA; omega⟩
    simp [results, Try.f18, go_sem, c0, c1]
  · rw [if_neg h0, if_neg h0, if_neg h0]
    have h1 : (refE zs most != 0) = true := by simpa using h0
    clear h h0
    generalize refE zs most = y at *
    generalize logV zs most = x at *
    go_enter Try.func18, Try.ntmps18
    go_wp2_with (go_at_call 17; (with_reducible refine hlg.mono ?_); rintro e w1 ⟨rfl, hb⟩; obtain ⟨kb, hb1⟩ := dist_box hb; clear hb; obtain ⟨y0, y1, z0, z1⟩ := dist_facts kb)
    have kb2 := dist_set (u := .int .i64 0) (v := .slice none 0 0) kb
    have c0 := blk_cell kb2 0
    have c1 := blk_cell kb2 1
    refine bodyPost_ret (v := .tuple #[.agg #[.int .i64 0, .slice none 0 0], .int .i64 y]) ?_ rfl ⟨none, 0, rfl, fun h => absurd h (by decide), (hb1.setCell (p := ⟨w.heap.size, 0, none⟩) (Nat.le_refl _) _).setCell (p := ⟨w.heap.size, 1, none⟩) (Nat.le_refl _) _, fun h => absurd h (by decide)⟩
    simp [results, Try.f18, go_sem, c0, c1]
end Go.Proofs.Ytjldbabggmmkdaa
