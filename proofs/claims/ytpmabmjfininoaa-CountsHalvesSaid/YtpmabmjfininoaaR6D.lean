/-
  The reference of package counts: Bytes and Symbols.
-/
import Derived.Test.YtpmabmjfininoaaO6U
namespace Go.Proofs.Ytpmabmjfininoaa
open Go.ChangeShapes Go.WideShapes Go.ChangeAt Go.RowKit Go.Shelf
set_option linter.unusedVariables false
set_option linter.unusedSimpArgs false

theorem info3' : (Try.prog.info? 3).map (fun i => (i.zero, i.size, i.bytes)) = some (some (.int .i64 0), 1, 8) := info3
theorem made_tab (N : Nat) : madeCells #[.int .i64 0] N = tab (ctab N []) := by
  rw [tab_zero]
  apply Array.ext'
  rw [toList_madeCells_one]
  simp

theorem rbytes_c (s : ByteArray) (hs : s.size ≤ 1048576) (w : World) :
    Calls Try.prog 28 #[.string s] w (ResP w (ctab 256 (bts s)) 0) := by
  have hd : decide ((1048576 : Int) < (s.size : Int)) = false := decide_eq_false (by omega)
  have hmk : ∀ W, (Instr.makeSlice 22 (.int .i64 256) (.int .i64 256)).run Try.prog W = .ok (.slice (some ⟨W.heap.size, 0, none⟩) 256 256) (W.alloc (.cells (madeCells #[.int .i64 0] 256) 3)) := fun W =>
    run_make_row' (P := Try.prog) 22 3 (.int .i64 0) 8 Try.underlying22 info3 rfl .i64 .i64 256 (by omega) (by omega) W
  have hB0 : Blk (w.alloc (.cells (madeCells #[.int .i64 0] 256) 3)) w.heap.size 3 (tab (ctab 256 [])) := by rw [made_tab]; exact blk_new w 3 _
  have HB0 := Lib.hid hB0
  have hx0 : Below w.heap.size w (w.alloc (.cells (madeCells #[.int .i64 0] 256) 3)) := (Below.refl _ w).alloc (Nat.le_refl _) _
  have HX0 := Lib.hid hx0
  clear hB0 hx0
  generalize madeCells #[.int .i64 0] 256 = cs at *
  go_enter Try.func28, Try.ntmps28
  go_wp2
  go_loopw [5] (fun i wr => ∃ (k : Nat), k ≤ s.size ∧ i = .int .i64 (k : Int) ∧ Hid (Blk wr w.heap.size 3 (tab (ctab 256 ((bts s).take k)))) ∧ Hid (Below w.heap.size w wr)) (fun i _ => s.size - (intOf i).toNat)
  case atStart => exact ⟨0, by omega, rfl, HB0, HX0⟩
  case round =>
    obtain ⟨k, hk, rfl, hB, hX⟩ := hrel
    by_cases hlt : k < s.size
    · have hb : k < (bts s).length := by rw [bts_length]; exact hlt
      have ht := take_snoc hb
      rw [bts_getD hlt] at ht
      have hx : s[k].toNat < 256 := UInt8.toNat_lt _
      have hc := tab_cell hB.out (k := s[k].toNat) (by rw [ctab_length]; exact hx)
      rw [ctab_getD _ hx] at hc
      have hf := blk_frozen hB.out s[k].toNat
      have hbd := occurs_bound (s[k].toNat : Int) ((bts s).take k) k (by rw [List.length_take]; omega)
      have hst := tab_store hB.out s[k].toNat (occurs (s[k].toNat : Int) ((bts s).take k) + 1)
      rw [← ctab_snoc hx, ← ht] at hst
      have HS := Lib.hid hst
      have HY := Lib.hid (hX.out.setCell (p := ⟨w.heap.size, s[k].toNat, none⟩) (Nat.le_refl _) (.int .i64 (occurs (s[k].toNat : Int) ((bts s).take k) + 1)))
      clear ht hst hB hX
      generalize occurs (s[k].toNat : Int) ((bts s).take k) = c at *
      go_wp2
      go_roundw
      case rel => exact ⟨k + 1, by omega, by go_num, HS, HY⟩
      case measure => simp [intOf]; omega
    · obtain rfl : k = s.size := by omega
      have hB' := hB.out
      rw [List.take_of_length_le (by rw [bts_length]; omega)] at hB'
      have hf := tab_ints hB' 256 (by rw [ctab_length]; omega)
      rw [List.take_of_length_le (by rw [ctab_length]; omega)] at hf
      have HF := Lib.hid hf
      have HS := Lib.hid (blk_lt hB')
      clear hB hB' hf
      go_wp2
      go_ret2
      have e : (ctab 256 (bts s)).length = 256 := ctab_length _ _
      exact ⟨some ⟨w.heap.size, 0, none⟩, 256, by rw [e]; rfl, HF.out.more HS.out, hX.out⟩

theorem rsymbols_c {A : Option Addr} {n : Nat} {zs : List Int} (cap : Nat) (most : Int) {w : World} (h : Cts w A n zs) (hn : n ≤ 1048576) :
    Calls Try.prog 30 #[.slice A n cap, .int .i64 most] w (ResP w (symL most zs) (symE most zs)) := by
  obtain ⟨hl, hn0, hI⟩ := h
  subst hl
  by_cases hm : most < 0 ∨ 255 < most
  · have e1 : symE most zs = 2 := by unfold symE; rw [if_pos hm]
    have e2 : symL most zs = [] := by unfold symL; rw [e1, if_neg (by decide)]
    rw [e1, e2]
    by_cases h1 : most < 0
    · go_enter Try.func30, Try.ntmps30
      go_wp2_with fail
      go_ret2
      exact ⟨none, 0, rfl, fun h => absurd h (by decide), Below.refl _ _⟩
    · have h2 : 255 < most := by omega
      clear hm
      go_enter Try.func30, Try.ntmps30
      go_wp2_with fail
      go_ret2
      exact ⟨none, 0, rfl, fun h => absurd h (by decide), Below.refl _ _⟩
  · obtain ⟨N, hN⟩ : ∃ N : Nat, most = (N : Int) - 1 := ⟨(most + 1).toNat, by omega⟩
    subst hN
    have hN0 : 1 ≤ N := by omega
    have hN1 : N ≤ 256 := by omega
    have HM := Lib.hid hm
    clear hm
    have hd : decide ((1048576 : Int) < (zs.length : Int)) = false := decide_eq_false (by omega)
    have hmk : ∀ W, (Instr.makeSlice 22 (.int .i64 (N : Int)) (.int .i64 (N : Int))).run Try.prog W = .ok (.slice (some ⟨W.heap.size, 0, none⟩) N N) (W.alloc (.cells (madeCells #[.int .i64 0] N) 3)) := fun W =>
      run_make_row' (P := Try.prog) 22 3 (.int .i64 0) 8 Try.underlying22 info3 rfl .i64 .i64 N (by omega) (by omega) W
    have hB0 : Blk (w.alloc (.cells (madeCells #[.int .i64 0] N) 3)) w.heap.size 3 (tab (ctab N [])) := by rw [made_tab]; exact blk_new w 3 _
    have HB0 := Lib.hid hB0
    have hx0 : Below w.heap.size w (w.alloc (.cells (madeCells #[.int .i64 0] N) 3)) := (Below.refl _ w).alloc (Nat.le_refl _) _
    have HX0 := Lib.hid hx0
    have HI := Lib.hid hI
    clear hB0 hx0 hI
    generalize madeCells #[.int .i64 0] N = cs at *
    go_enter Try.func30, Try.ntmps30
    go_wp2
    go_loopw [7] (fun i wr => ∃ (k : Nat), k ≤ zs.length ∧ i = .int .i64 (k : Int) ∧ Hid (oob ((N : Int) - 1) (zs.take k) = false) ∧ Hid (Blk wr w.heap.size 3 (tab (ctab N (zs.take k)))) ∧ Hid (Below w.heap.size w wr)) (fun i _ => zs.length - (intOf i).toNat)
    case atStart => exact ⟨0, by omega, rfl, (show _ = _ by rw [List.take_zero]; rfl), HB0, HX0⟩
    case round =>
      obtain ⟨k, hk, rfl, ho, hB, hX⟩ := hrel
      by_cases hlt : k < zs.length
      · obtain ⟨b, off, rfl, hb, hc⟩ := HI.out (by omega)
        have hcell := (hX.out.cell (p := ⟨b, off + k, none⟩) hb).trans (hc k hlt)
        have ht := take_snoc hlt
        clear hc
        by_cases hbad : zs.getD k 0 < 0 ∨ (N : Int) - 1 < zs.getD k 0
        · have e0 := oob_at hlt hbad
          have e1 : symE ((N : Int) - 1) zs = 2 := by unfold symE; rw [if_neg HM.out, if_pos e0]
          have e2 : symL ((N : Int) - 1) zs = [] := by unfold symL; rw [e1, if_neg (by decide)]
          have E1 := Lib.hid e1
          have E2 := Lib.hid e2
          clear e0 e1 e2 ht ho hB
          generalize zs.getD k 0 = x at *
          by_cases h1 : x < 0
          · clear hbad
            go_wp2
            go_ret2
            exact ⟨none, 0, by rw [E1.out, E2.out]; rfl, by rw [E2.out]; exact fun h => absurd h (by decide), hX.out⟩
          · have h2 : (N : Int) - 1 < x := by omega
            clear hbad
            go_wp2
            go_ret2
            exact ⟨none, 0, by rw [E1.out, E2.out]; rfl, by rw [E2.out]; exact fun h => absurd h (by decide), hX.out⟩
        · have HO : Hid (oob ((N : Int) - 1) (zs.take (k + 1)) = false) := Lib.hid (oob_next hlt ho.out hbad)
          obtain ⟨y, hy⟩ : ∃ y : Nat, zs.getD k 0 = y := ⟨(zs.getD k 0).toNat, by omega⟩
          rw [hy] at hcell ht hbad
          have hx : y < N := by omega
          have hcc := tab_cell hB.out (k := y) (by rw [ctab_length]; exact hx)
          rw [ctab_getD _ hx] at hcc
          have hf := blk_frozen hB.out y
          have hbd := occurs_bound (y : Int) (zs.take k) k (by rw [List.length_take]; omega)
          have hst := tab_store hB.out y (occurs (y : Int) (zs.take k) + 1)
          rw [← ctab_snoc hx, ← ht] at hst
          have HS := Lib.hid hst
          have HY := Lib.hid (hX.out.setCell (p := ⟨w.heap.size, y, none⟩) (Nat.le_refl _) (.int .i64 (occurs (y : Int) (zs.take k) + 1)))
          have hym : (y : Int) ≤ (N : Int) - 1 := by omega
          clear ht hst hB hX hbad ho hy
          generalize occurs (y : Int) (zs.take k) = c at *
          go_wp2
          go_roundw
          case rel => exact ⟨k + 1, by omega, by go_num, HO, HS, HY⟩
          case measure => simp [intOf]; omega
      · obtain rfl : k = zs.length := by omega
        have hB' := hB.out
        have ho' := ho.out
        rw [List.take_length] at hB' ho'
        have hf := tab_ints hB' N (by rw [ctab_length]; omega)
        rw [List.take_of_length_le (by rw [ctab_length]; omega)] at hf
        have HF := Lib.hid hf
        have HS := Lib.hid (blk_lt hB')
        have e1 : symE ((N : Int) - 1) zs = 0 := by unfold symE; rw [if_neg HM.out, ho', if_neg (by decide)]
        have e2 : symL ((N : Int) - 1) zs = ctab N zs := by unfold symL; rw [e1, if_pos rfl, show ((N : Int) - 1 + 1).toNat = N by omega]
        have E1 := Lib.hid e1
        have E2 := Lib.hid e2
        clear hB hB' hf e1 e2 ho ho' HM
        go_wp2
        go_ret2
        have e : (ctab N zs).length = N := ctab_length _ _
        exact ⟨some ⟨w.heap.size, 0, none⟩, N, by rw [E1.out, E2.out, e]; rfl, by rw [E2.out]; exact HF.out.more HS.out, hX.out⟩
end Go.Proofs.Ytpmabmjfininoaa
