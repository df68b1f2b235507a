/-
  The reference of package counts: Total, Distinct, Last, Greatest, Only.
-/
import Derived.Test.YtjldbabggmmkdaaR6A
namespace Go.Proofs.Ytjldbabggmmkdaa
open Go.ChangeShapes Go.WideShapes Go.ChangeAt Go.RowKit Go.Shelf
set_option linter.unusedVariables false
set_option linter.unusedSimpArgs false

theorem rtotal_c {A : Option Addr} {n : Nat} {zs : List Int} (cap : Nat) {w : World} (h : Cts w A n zs) :
    Calls Try.prog 52 #[.slice A n cap] w fun r w' => r = .returned (.tuple #[.int .i64 (totN zs), .int .i64 (chk zs)]) ∧ Below w.heap.size w w' := by
  have hck := rcheck_c cap h
  by_cases hc0 : chk zs = 0
  · obtain ⟨g1, g2, g3⟩ := good_of hc0
    rw [hc0] at hck ⊢
    have G3 := Lib.hid g3
    obtain ⟨hl, hn, hI⟩ := h
    subst hl
    by_cases h0 : zs = []
    · subst h0
      have e : totN [] = 0 := rfl
      rw [e]
      change Calls Try.prog 54 #[.slice A 0 cap] w _ at hck
      go_enter Try.func52, Try.ntmps52
      go_wp2_with (go_at_call 54; (with_reducible refine hck.mono ?_); rintro r w1 ⟨rfl, hb1⟩)
      have HB := Lib.hid hb1
      clear hb1
      go_loop [5, 6] (fun s i => s = .int .i64 0 ∧ i = .int .i64 0) (fun _ _ => 0)
      case atStart => exact ⟨rfl, rfl⟩
      case round =>
        obtain ⟨rfl, rfl⟩ := hrel
        go_wp2
        go_ret2
        exact ⟨rfl, HB.out⟩
    · obtain ⟨b, off, rfl, hb, hc⟩ := hI (by have := List.length_pos_iff.2 h0; omega)
      have HC := Lib.hid hc
      have HH := Lib.hid hb
      clear hc h0 hI hb hc0 g2 g3
      go_enter Try.func52, Try.ntmps52
      go_wp2_with (go_at_call 54; (with_reducible refine hck.mono ?_); rintro r w1 ⟨rfl, hb1⟩)
      have HB := Lib.hid hb1
      clear hb1
      go_loop [5, 6] (fun s i => ∃ (k : Nat) (t : Int), k ≤ zs.length ∧ 0 ≤ t ∧ t ≤ 1099511627776 ∧ Hid (sumUp t (zs.drop k) = some (totN zs)) ∧ s = .int .i64 t ∧ i = .int .i64 (k : Int)) (fun _ i => zs.length - (intOf i).toNat)
      case atStart => exact ⟨0, 0, by omega, by omega, by omega, G3, rfl, rfl⟩
      case round =>
        obtain ⟨k, t, hk, ht0, ht1, hs, rfl, rfl⟩ := hrel
        by_cases hlt : k < zs.length
        · have hcell := (HB.out.cell (p := ⟨b, off + k, none⟩) HH.out).trans (HC.out k hlt)
          generalize hx : zs.getD k 0 = x at hcell
          have hdr : sumUp t (zs.drop k) = if x < 0 ∨ 1099511627776 - t < x then none else sumUp (t + x) (zs.drop (k + 1)) := by
            rw [drop_getD zs k hlt, hx]; rfl
          rw [hs.out] at hdr
          clear hs hx
          by_cases h1 : x < 0 ∨ 1099511627776 - t < x
          · rw [if_pos h1] at hdr; cases hdr
          · rw [if_neg h1] at hdr
            have HD := Lib.hid hdr.symm
            clear hdr
            have h2 : 0 ≤ x ∧ x ≤ 1099511627776 - t := by omega
            clear h1
            go_wp2
            go_round
            case rel => exact ⟨k + 1, t + x, by omega, by omega, by omega, HD, by go_num, by go_num⟩
            case measure => simp [intOf]; omega
        · obtain rfl : k = zs.length := by omega
          have hz : t = totN zs := by have := hs.out; simpa [sumUp] using this
          have HZ := Lib.hid hz
          clear hs hz
          go_wp2
          go_ret2
          exact ⟨by rw [← HZ.out]; rfl, HB.out⟩
  · have e : totN zs = 0 := by
      unfold totN
      unfold chk at hc0
      by_cases h1 : 256 < zs.length
      · rw [if_pos h1]
      · rw [if_neg h1] at hc0 ⊢
        cases hs : sumUp 0 zs with
        | none => rfl
        | some r => rw [hs] at hc0; exact absurd rfl hc0
    rw [e]
    have h1 : (chk zs != 0) = true := by simpa using hc0
    clear h hc0
    generalize chk zs = y at *
    go_enter Try.func52, Try.ntmps52
    go_wp2_with (go_at_call 54; (with_reducible refine hck.mono ?_); rintro r w1 ⟨rfl, hb1⟩)
    go_ret2
    exact ⟨rfl, hb1⟩

theorem rdistinct_c {A : Option Addr} {n : Nat} {zs : List Int} (cap : Nat) {w : World} (h : Cts w A n zs) :
    Calls Try.prog 53 #[.slice A n cap] w fun r w' => r = .returned (.tuple #[.int .i64 (disN zs), .int .i64 (chk zs)]) ∧ Below w.heap.size w w' := by
  have hck := rcheck_c cap h
  unfold disN
  by_cases hc0 : chk zs = 0
  · obtain ⟨g1, g2, g3⟩ := good_of hc0
    rw [if_pos hc0]
    rw [hc0] at hck ⊢
    obtain ⟨hl, hn, hI⟩ := h
    subst hl
    by_cases h0 : zs = []
    · subst h0
      have e : ((cnt [] : Nat) : Int) = 0 := rfl
      rw [e]
      change Calls Try.prog 54 #[.slice A 0 cap] w _ at hck
      go_enter Try.func53, Try.ntmps53
      go_wp2_with (go_at_call 54; (with_reducible refine hck.mono ?_); rintro r w1 ⟨rfl, hb1⟩)
      have HB := Lib.hid hb1
      clear hb1
      go_loop [5, 6] (fun s i => s = .int .i64 0 ∧ i = .int .i64 0) (fun _ _ => 0)
      case atStart => exact ⟨rfl, rfl⟩
      case round =>
        obtain ⟨rfl, rfl⟩ := hrel
        go_wp2
        go_ret2
        exact ⟨rfl, HB.out⟩
    · obtain ⟨b, off, rfl, hb, hc⟩ := hI (by have := List.length_pos_iff.2 h0; omega)
      have HC := Lib.hid hc
      have HH := Lib.hid hb
      clear hc h0 hI hb hc0 g2 g3
      go_enter Try.func53, Try.ntmps53
      go_wp2_with (go_at_call 54; (with_reducible refine hck.mono ?_); rintro r w1 ⟨rfl, hb1⟩)
      have HB := Lib.hid hb1
      clear hb1
      go_loop [5, 6] (fun s i => ∃ (k t : Nat), k ≤ zs.length ∧ t ≤ k ∧ Hid (cnt zs = t + cnt (zs.drop k)) ∧ s = .int .i64 (t : Int) ∧ i = .int .i64 (k : Int)) (fun _ i => zs.length - (intOf i).toNat)
      case atStart => exact ⟨0, 0, by omega, by omega, (Nat.zero_add _).symm, rfl, rfl⟩
      case round =>
        obtain ⟨k, t, hk, ht0, hs, rfl, rfl⟩ := hrel
        by_cases hlt : k < zs.length
        · have hcell := (HB.out.cell (p := ⟨b, off + k, none⟩) HH.out).trans (HC.out k hlt)
          generalize hx : zs.getD k 0 = x at hcell
          have hdr : cnt zs = t + ((if 0 < x then 1 else 0) + cnt (zs.drop (k + 1))) := by
            rw [hs.out, drop_getD zs k hlt, hx, cnt_cons]
          clear hs hx
          by_cases h1 : 0 < x
          · rw [if_pos h1] at hdr
            have HD := Lib.hid hdr
            clear hdr
            go_wp2
            go_round
            case rel => exact ⟨k + 1, t + 1, by omega, by omega, by have := HD.out; show _ = _; omega, by go_num, by go_num⟩
            case measure => simp [intOf]; omega
          · rw [if_neg h1] at hdr
            have HD := Lib.hid hdr
            clear hdr
            go_wp2
            go_round
            case rel => exact ⟨k + 1, t, by omega, by omega, by have := HD.out; show _ = _; omega, rfl, by go_num⟩
            case measure => simp [intOf]; omega
        · obtain rfl : k = zs.length := by omega
          have hz : cnt zs = t := by have := hs.out; simpa [cnt] using this
          have HZ := Lib.hid hz
          clear hs hz
          go_wp2
          go_ret2
          exact ⟨by rw [HZ.out]; rfl, HB.out⟩
  · rw [if_neg hc0]
    have h1 : (chk zs != 0) = true := by simpa using hc0
    clear h hc0
    generalize chk zs = y at *
    go_enter Try.func53, Try.ntmps53
    go_wp2_with (go_at_call 54; (with_reducible refine hck.mono ?_); rintro r w1 ⟨rfl, hb1⟩)
    go_ret2
    exact ⟨rfl, hb1⟩

theorem rlast_c {A : Option Addr} {n : Nat} {zs : List Int} (cap : Nat) {w : World} (h : Cts w A n zs) :
    Calls Try.prog 37 #[.slice A n cap] w fun r w' => r = .returned (.tuple #[.int .i64 (lasN zs), .int .i64 (lasE zs)]) ∧ Below w.heap.size w w' := by
  have hck := rcheck_c cap h
  unfold lasN lasE
  by_cases hc0 : chk zs = 0
  · obtain ⟨g1, g2, g3⟩ := good_of hc0
    rw [if_pos hc0, if_pos hc0]
    rw [hc0] at hck
    obtain ⟨hl, hn, hI⟩ := h
    subst hl
    by_cases h0 : zs = []
    · subst h0
      have e1 : symP rk40 (occ [] ([] : List Int).length) = 0 := rfl
      have e2 : errP (occ [] ([] : List Int).length) = 7 := rfl
      rw [e1, e2]
      change Calls Try.prog 54 #[.slice A 0 cap] w _ at hck
      go_enter Try.func37, Try.ntmps37
      go_wp2_with (go_at_call 54; (with_reducible refine hck.mono ?_); rintro r w1 ⟨rfl, hb1⟩)
      have HB := Lib.hid hb1
      clear hb1
      go_loop [5] (fun i => i = .int .i64 (-1)) (fun _ => 0)
      case atStart => go_num
      case round =>
        obtain rfl := hrel
        go_wp2
        go_ret2
        exact ⟨rfl, HB.out⟩
    · obtain ⟨b, off, rfl, hb, hc⟩ := hI (by have := List.length_pos_iff.2 h0; omega)
      have HC := Lib.hid hc
      have HH := Lib.hid hb
      clear hc h0 hI hb hc0 g2 g3
      go_enter Try.func37, Try.ntmps37
      go_wp2_with (go_at_call 54; (with_reducible refine hck.mono ?_); rintro r w1 ⟨rfl, hb1⟩)
      have HB := Lib.hid hb1
      clear hb1
      go_loop [5] (fun i => ∃ (k : Nat), k ≤ zs.length ∧ Hid (occ zs zs.length = occ zs k) ∧ i = .int .i64 ((k : Int) - 1)) (fun i => (intOf i + 1).toNat)
      case atStart => exact ⟨zs.length, by omega, rfl, by go_num⟩
      case round =>
        obtain ⟨k, hk, hs, rfl⟩ := hrel
        rcases k with _ | k
        · have e1 : symP rk40 (occ zs zs.length) = 0 := by rw [hs.out]; rfl
          have e2 : errP (occ zs zs.length) = 7 := by rw [hs.out]; rfl
          have E1 := Lib.hid e1
          have E2 := Lib.hid e2
          clear hs e1 e2
          have e : (((0 : Nat) : Int) - 1) = -1 := by omega
          simp only [e]
          go_wp2
          go_ret2
          exact ⟨by rw [E1.out, E2.out]; rfl, HB.out⟩
        · have hcell := (HB.out.cell (p := ⟨b, off + k, none⟩) HH.out).trans (HC.out k (by omega))
          have e : (((k + 1 : Nat) : Int) - 1) = (k : Int) := by omega
          simp only [e]
          by_cases h1 : 0 < zs.getD k 0
          · have e1 : symP rk40 (occ zs zs.length) = k := by rw [hs.out]; exact (last_at h1).1
            have e2 : errP (occ zs zs.length) = 0 := by rw [hs.out]; exact (last_at h1).2
            have E1 := Lib.hid e1
            have E2 := Lib.hid e2
            clear hs e1 e2
            generalize zs.getD k 0 = x at *
            go_wp2
            go_ret2
            exact ⟨by rw [E1.out, E2.out]; rfl, HB.out⟩
          · have hs' : Hid (occ zs zs.length = occ zs k) := Lib.hid (by rw [hs.out]; exact occ_neg h1)
            clear hs
            generalize zs.getD k 0 = x at *
            go_wp2
            go_round
            case rel => exact ⟨k, by omega, hs', by go_num⟩
            case measure => simp [intOf]
  · rw [if_neg hc0, if_neg hc0]
    have h1 : (chk zs != 0) = true := by simpa using hc0
    clear h hc0
    generalize chk zs = y at *
    go_enter Try.func37, Try.ntmps37
    go_wp2_with (go_at_call 54; (with_reducible refine hck.mono ?_); rintro r w1 ⟨rfl, hb1⟩)
    go_ret2
    exact ⟨rfl, hb1⟩

end Go.Proofs.Ytjldbabggmmkdaa
