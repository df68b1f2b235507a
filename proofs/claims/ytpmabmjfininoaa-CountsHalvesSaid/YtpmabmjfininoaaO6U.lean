/-
  Bytes and Symbols of the program.
-/
import Derived.Test.YtpmabmjfininoaaO6T
namespace Go.Proofs.Ytpmabmjfininoaa
open Go.ChangeShapes Go.WideShapes Go.ChangeAt Go.RowKit Go.Shelf
set_option linter.unusedVariables false
set_option linter.unusedSimpArgs false

theorem bts_length (s : ByteArray) : (bts s).length = s.size := by
  unfold bts; rw [List.length_map, ByteArray.toList_eq]; simp
theorem bts_getD {s : ByteArray} {k : Nat} (h : k < s.size) : (bts s).getD k 0 = (s[k].toNat : Nat) := by
  unfold bts
  rw [ByteArray.toList_eq]
  have h' : k < s.data.toList.length := by simpa using h
  have h2 : s.data[k]? = some s[k] := Array.getElem?_eq_getElem (by simpa using h)
  simp [List.getD, h2]
theorem occurs_bound (j : Int) (xs : List Int) (k : Nat) (h : xs.length ≤ k) : 0 ≤ occurs j xs ∧ occurs j xs ≤ k := by have := occurs_le j xs; omega

theorem bytes_c (s : ByteArray) (hs : s.size ≤ 1048576) (w : World) :
    Calls Try.prog 27 #[.string s] w (ResP w (ctab 256 (bts s)) 0) := by
  have hd : decide ((1048576 : Int) < (s.size : Int)) = false := decide_eq_false (by omega)
  have hzv : ∃ cs, (∀ W, (zeroValue 56).run Try.prog W = .ok (.agg cs) W) ∧ Hid (cs = tab (ctab 256 [])) := ⟨_, fun W => zeroValue56 W, rfl⟩
  obtain ⟨cs, hz, hcs⟩ := hzv
  have hB0 : Blk (w.alloc (.cells cs 56)) w.heap.size 56 (tab (ctab 256 [])) := by rw [← hcs.out]; exact blk_new w 56 cs
  have HB0 := Lib.hid hB0
  have hx0 : Below w.heap.size w (w.alloc (.cells cs 56)) := (Below.refl _ w).alloc (Nat.le_refl _) _
  have HX0 := Lib.hid hx0
  clear hB0 hx0 hcs
  go_enter Try.func27, Try.ntmps27
  go_wp2
  go_loopw [5, 11] (fun z i wr => ∃ (k : Nat), k ≤ s.size ∧ i = .int .i64 (k : Int) ∧ Hid (Blk wr w.heap.size 56 (tab (ctab 256 ((bts s).take k)))) ∧ Hid (Below w.heap.size w wr)) (fun _ i _ => s.size - (intOf i).toNat)
  case atStart => exact ⟨0, by omega, rfl, HB0, HX0⟩
  case round =>
    obtain ⟨k, hk, rfl, hB, hX⟩ := hrel
    by_cases hlt : k < s.size
    · have hb : k < (bts s).length := by rw [bts_length]; exact hlt
      have ht := take_snoc hb
      rw [bts_getD hlt] at ht
      have hx : s[k].toNat < 256 := UInt8.toNat_lt _
      have hc := tab_cell hB.out (k := s[k].toNat) (by rw [ctab_length]; exact hx)
      rw [ctab_getD _ hx] at hc
      have hf := blk_frozen hB.out s[k].toNat
      have hbd := occurs_bound (s[k].toNat : Int) ((bts s).take k) k (by rw [List.length_take]; omega)
      have hst := tab_store hB.out s[k].toNat (occurs (s[k].toNat : Int) ((bts s).take k) + 1)
      rw [← ctab_snoc hx, ← ht] at hst
      have HS := Lib.hid hst
      have HY := Lib.hid (hX.out.setCell (p := ⟨w.heap.size, s[k].toNat, none⟩) (Nat.le_refl _) (.int .i64 (occurs (s[k].toNat : Int) ((bts s).take k) + 1)))
      clear ht hst hB hX
      generalize occurs (s[k].toNat : Int) ((bts s).take k) = c at *
      go_wp2
      go_roundw
      case rel => exact ⟨k + 1, by omega, by go_num, HS, HY⟩
      case measure => simp [intOf]; omega
    · obtain rfl : k = s.size := by omega
      have hB' := hB.out
      rw [List.take_of_length_le (by rw [bts_length]; omega)] at hB'
      have hf := tab_ints hB' 256 (by rw [ctab_length]; omega)
      rw [List.take_of_length_le (by rw [ctab_length]; omega)] at hf
      have HF := Lib.hid hf
      have HS := Lib.hid (blk_lt hB')
      have hfc : ∀ W, Calls Try.prog 43 #[.pointer (some ⟨w.heap.size, 0, none⟩), .int .i64 256] W fun r w' => r = .returned (.slice (some ⟨w.heap.size, 0, none⟩) 256 256) ∧ w' = W := fun W => first_c w.heap.size 256 (Nat.le_refl _) W
      clear hB hB' hf
      go_wp2_with (go_at_call 43; (with_reducible refine (hfc _).mono ?_); rintro e w2 ⟨rfl, rfl⟩)
      go_ret2
      have e : (ctab 256 (bts s)).length = 256 := ctab_length _ _
      exact ⟨some ⟨w.heap.size, 0, none⟩, 256, by rw [e]; rfl, HF.out.more HS.out, hX.out⟩

/-- a number out of the symbols' range -/
def oob (most : Int) (zs : List Int) : Bool := zs.any (fun x => decide (x < 0 ∨ most < x))
def symE (most : Int) (zs : List Int) : Int := if most < 0 ∨ 255 < most then 2 else if oob most zs = true then 2 else 0
def symL (most : Int) (zs : List Int) : List Int := if symE most zs = 0 then ctab (most + 1).toNat zs else []
theorem oob_at {most : Int} {zs : List Int} {k : Nat} (hk : k < zs.length) (h : zs.getD k 0 < 0 ∨ most < zs.getD k 0) : oob most zs = true := by
  unfold oob
  rw [List.any_eq_true]
  refine ⟨zs.getD k 0, ?_, by simpa using h⟩
  have e : zs.getD k 0 = zs[k] := by simp [List.getD, hk]
  rw [e]; exact List.getElem_mem hk
theorem oob_next {most : Int} {zs : List Int} {k : Nat} (hk : k < zs.length) (h0 : oob most (zs.take k) = false) (h : ¬ (zs.getD k 0 < 0 ∨ most < zs.getD k 0)) : oob most (zs.take (k + 1)) = false := by
  rw [take_snoc hk]
  unfold oob at h0 ⊢
  rw [List.any_append, h0]
  have : ¬ (zs.getD k 0 < 0) := fun x => h (Or.inl x)
  simp only [List.any_cons, List.any_nil, Bool.or_false, Bool.false_or, decide_eq_false h]

theorem symbols_c {A : Option Addr} {n : Nat} {zs : List Int} (cap : Nat) (most : Int) {w : World} (h : Cts w A n zs) (hn : n ≤ 1048576) :
    Calls Try.prog 29 #[.slice A n cap, .int .i64 most] w (ResP w (symL most zs) (symE most zs)) := by
  obtain ⟨hl, hn0, hI⟩ := h
  subst hl
  by_cases hm : most < 0 ∨ 255 < most
  · have e1 : symE most zs = 2 := by unfold symE; rw [if_pos hm]
    have e2 : symL most zs = [] := by unfold symL; rw [e1, if_neg (by decide)]
    rw [e1, e2]
    by_cases h1 : most < 0
    · go_enter Try.func29, Try.ntmps29
      go_wp2_with fail
      go_ret2
      exact ⟨none, 0, rfl, fun h => absurd h (by decide), Below.refl _ _⟩
    · have h2 : 256 ≤ most := by omega
      clear hm
      go_enter Try.func29, Try.ntmps29
      go_wp2_with fail
      go_ret2
      exact ⟨none, 0, rfl, fun h => absurd h (by decide), Below.refl _ _⟩
  · have hm0 : 0 ≤ most := by omega
    have hm1 : most < 256 := by omega
    have HM := Lib.hid hm
    clear hm
    have hd : decide ((1048576 : Int) < (zs.length : Int)) = false := decide_eq_false (by omega)
    have hzv : ∃ cs, (∀ W, (zeroValue 56).run Try.prog W = .ok (.agg cs) W) ∧ Hid (cs = tab (ctab 256 [])) := ⟨_, fun W => zeroValue56 W, rfl⟩
    obtain ⟨cs, hz, hcs⟩ := hzv
    have hB0 : Blk (w.alloc (.cells cs 56)) w.heap.size 56 (tab (ctab 256 [])) := by rw [← hcs.out]; exact blk_new w 56 cs
    have HB0 := Lib.hid hB0
    have hx0 : Below w.heap.size w (w.alloc (.cells cs 56)) := (Below.refl _ w).alloc (Nat.le_refl _) _
    have HX0 := Lib.hid hx0
    have HI := Lib.hid hI
    clear hB0 hx0 hcs hI
    go_enter Try.func29, Try.ntmps29
    go_wp2
    go_loopw [8, 20] (fun z i wr => ∃ (k : Nat), k ≤ zs.length ∧ i = .int .i64 (k : Int) ∧ Hid (oob most (zs.take k) = false) ∧ Hid (Blk wr w.heap.size 56 (tab (ctab 256 (zs.take k)))) ∧ Hid (Below w.heap.size w wr)) (fun _ i _ => zs.length - (intOf i).toNat)
    case atStart => exact ⟨0, by omega, rfl, (show _ = _ by rw [List.take_zero]; rfl), HB0, HX0⟩
    case round =>
      obtain ⟨k, hk, rfl, ho, hB, hX⟩ := hrel
      by_cases hlt : k < zs.length
      · obtain ⟨b, off, rfl, hb, hc⟩ := HI.out (by omega)
        have hcell := (hX.out.cell (p := ⟨b, off + k, none⟩) hb).trans (hc k hlt)
        have ht := take_snoc hlt
        clear hc
        by_cases hbad : zs.getD k 0 < 0 ∨ most < zs.getD k 0
        · have e0 := oob_at hlt hbad
          have e1 : symE most zs = 2 := by unfold symE; rw [if_neg HM.out, if_pos e0]
          have e2 : symL most zs = [] := by unfold symL; rw [e1, if_neg (by decide)]
          have E1 := Lib.hid e1
          have E2 := Lib.hid e2
          clear e0 e1 e2 ht ho hB
          generalize zs.getD k 0 = x at *
          by_cases h1 : x < 0
          · clear hbad
            go_wp2
            go_ret2
            exact ⟨none, 0, by rw [E1.out, E2.out]; rfl, by rw [E2.out]; exact fun h => absurd h (by decide), hX.out⟩
          · have h2 : most < x := by omega
            clear hbad
            go_wp2
            go_ret2
            exact ⟨none, 0, by rw [E1.out, E2.out]; rfl, by rw [E2.out]; exact fun h => absurd h (by decide), hX.out⟩
        · have HO : Hid (oob most (zs.take (k + 1)) = false) := Lib.hid (oob_next hlt ho.out hbad)
          obtain ⟨y, hy⟩ : ∃ y : Nat, zs.getD k 0 = y := ⟨(zs.getD k 0).toNat, by omega⟩
          rw [hy] at hcell ht hbad
          have hx : y < 256 := by omega
          have hym : (y : Int) ≤ most := by omega
          have hcc := tab_cell hB.out (k := y) (by rw [ctab_length]; exact hx)
          rw [ctab_getD _ hx] at hcc
          have hf := blk_frozen hB.out y
          have hbd := occurs_bound (y : Int) (zs.take k) k (by rw [List.length_take]; omega)
          have hst := tab_store hB.out y (occurs (y : Int) (zs.take k) + 1)
          rw [← ctab_snoc hx, ← ht] at hst
          have HS := Lib.hid hst
          have HY := Lib.hid (hX.out.setCell (p := ⟨w.heap.size, y, none⟩) (Nat.le_refl _) (.int .i64 (occurs (y : Int) (zs.take k) + 1)))
          clear ht hst hB hX hbad ho hy
          generalize occurs (y : Int) (zs.take k) = c at *
          go_wp2
          go_roundw
          case rel => exact ⟨k + 1, by omega, by go_num, HO, HS, HY⟩
          case measure => simp [intOf]; omega
      · obtain rfl : k = zs.length := by omega
        have hB' := hB.out
        have ho' := ho.out
        rw [List.take_length] at hB' ho'
        obtain ⟨N, hN⟩ : ∃ N : Nat, most + 1 = N := ⟨(most + 1).toNat, by omega⟩
        have hf := tab_ints hB' N (by rw [ctab_length]; omega)
        rw [ctab_take _ _ (by omega)] at hf
        have HF := Lib.hid hf
        have HS := Lib.hid (blk_lt hB')
        have e1 : symE most zs = 0 := by unfold symE; rw [if_neg HM.out, ho', if_neg (by decide)]
        have e2 : symL most zs = ctab N zs := by unfold symL; rw [e1, if_pos rfl, hN, Int.toNat_natCast]
        have E1 := Lib.hid e1
        have E2 := Lib.hid e2
        have hfc := first_c w.heap.size N (by omega)
        have HN := Lib.hid hN
        clear hB hB' hf e1 e2 ho ho' HM
        obtain rfl : most = (N : Int) - 1 := by have := HN.out; omega
        have hN2 : (N : Int) - 1 + 1 = N := by omega
        clear HN hN
        go_wp2_with (go_at_call 43; (with_reducible refine (hfc _).mono ?_); rintro e w2 ⟨rfl, rfl⟩)
        go_ret2
        have e : (ctab N zs).length = N := ctab_length _ _
        exact ⟨some ⟨w.heap.size, 0, none⟩, N, by rw [E1.out, E2.out, e]; rfl, by rw [E2.out]; exact HF.out.more HS.out, hX.out⟩
end Go.Proofs.Ytpmabmjfininoaa
