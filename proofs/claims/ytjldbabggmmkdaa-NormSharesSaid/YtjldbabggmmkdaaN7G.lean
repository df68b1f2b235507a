/-
  Package norm: distributions of counts.
-/
import Derived.Test.YtjldbabggmmkdaaN7E
import Derived.Test.YtjldbabggmmkdaaN7F
namespace Go.Proofs.Ytjldbabggmmkdaa
open Go.ChangeShapes Go.WideShapes Go.ChangeAt Go.RowKit Go.Shelf
set_option linter.unusedVariables false
set_option linter.unusedSimpArgs false

theorem shr_in {S n z : Int} (hS : 0 ≤ S) (hn : 1 ≤ n) (h0 : 0 ≤ z) (hz : z ≤ n) : -1 ≤ shr S n z ∧ shr S n z ≤ S ∧ (shr S n z ≠ 0 ↔ 0 < z) := by
  have h1 : 0 ≤ z * S := Int.mul_nonneg h0 hS
  have h2 : 0 ≤ z * S / n := Int.ediv_nonneg h1 (by omega)
  have h3 : z * S / n ≤ S := by
    apply Int.ediv_le_of_le_mul (by omega)
    rw [Int.mul_comm S n]
    exact Int.mul_le_mul_of_nonneg_right hz hS
  unfold shr
  by_cases hp : 0 < z
  · rw [if_pos hp]
    by_cases hq : z * S / n = 0
    · rw [if_pos hq]; exact ⟨by omega, by omega, fun _ => hp, fun _ => by omega⟩
    · rw [if_neg hq]; exact ⟨by omega, h3, fun _ => hp, fun _ => hq⟩
  · rw [if_neg hp]; exact ⟨by omega, by omega, fun h => absurd rfl h, fun h => absurd h hp⟩
theorem nzc_shr {S n : Int} (hS : 0 ≤ S) (hn : 1 ≤ n) : ∀ zs : List Int, (∀ z ∈ zs, 0 ≤ z ∧ z ≤ n) → nzc (zs.map (shr S n)) = cnt zs
  | [], _ => rfl
  | z :: zs, h => by
    have ih := nzc_shr hS hn zs (fun x hx => h x (List.mem_cons_of_mem _ hx))
    obtain ⟨a, b⟩ := h z (List.mem_cons_self ..)
    have k := (shr_in hS hn a b).2.2
    rw [List.map_cons, cnt_cons]
    simp only [nzc, ih]
    by_cases hp : 0 < z
    · rw [if_neg (k.2 hp), if_pos hp]; push_cast; rfl
    · rw [if_pos (Classical.byContradiction fun hx => hp (k.1 hx)), if_neg hp]; push_cast; rfl
theorem cnt_take (zs : List Int) (k : Nat) : cnt (zs.take k) ≤ cnt zs := by
  have e : cnt zs = cnt (zs.take k ++ zs.drop k) := by rw [List.take_append_drop]
  rw [e, cnt_append]; omega
/-- what the shares of counts that are not refused are -/
theorem shl_stl {zs : List Int} {L : Nat} (hr : refE zs (L : Int) = 0) :
    Stl zs (shl zs (2 ^ L)) (2 ^ L) (lst zs + 1) (shl zs (2 ^ L)) ∧ gr zs < lst zs + 1 ∧ (∀ k, k < lst zs + 1 → zs.getD k 0 ≠ 0 → (shl zs (2 ^ L)).getD k 0 ≠ 0) ∧ zs.getD (gr zs) 0 ≠ 0 := by
  obtain ⟨k0, k1, k2, k3, k4⟩ := refE_zero hr
  have hL1 : 5 ≤ L := by omega
  have hL2 : L ≤ 12 := by omega
  rw [Int.toNat_natCast] at k4
  have hpw := pow_in hL1 hL2
  obtain ⟨l1, l2, l3, l4⟩ := lst_top k0 k1
  obtain ⟨t1, t2, t3, t4⟩ := tot_cnt k0
  have g2 := (good_of k0).2.1
  have gn := getD_nonneg g2
  generalize (2 : Int) ^ L = S at *
  have hin : ∀ z ∈ zs.take (lst zs + 1), 0 ≤ z ∧ z ≤ totN zs := fun z hz => ⟨(g2 z (List.mem_of_mem_take hz)).1, t3 z (List.mem_of_mem_take hz)⟩
  have hpos : 0 < zs.length := by omega
  have hgz : 0 < zs.getD (gr zs) 0 := by
    have := grst_top (zs.getD (lst zs) 0) (mem_getD l2)
    unfold gr; omega
  have hgl : gr zs < zs.length := grst_in hpos
  refine ⟨⟨shl_length zs S l2, rfl, ⟨fun p hp => ?_, ?_⟩, fun k hk => ?_⟩, Nat.lt_succ_of_le (l4 _ hgl hgz), fun k hk hz => ?_, by omega⟩
  · unfold shl at hp
    obtain ⟨z, hz, rfl⟩ := List.mem_map.1 hp
    exact (shr_in (by omega) (by omega) (hin z hz).1 (hin z hz).2).1
  · unfold shl
    rw [nzc_shr (by omega) (by omega) _ hin]
    have := cnt_take zs (lst zs + 1)
    omega
  · rw [shl_getD zs S k hk l2]
    have hkl : k < zs.length := by omega
    have := (shr_in (S := S) (n := totN zs) (z := zs.getD k 0) (by omega) (by omega) (gn k) (t3 _ (mem_getD hkl))).2.1
    omega
  · rw [shl_getD zs S k hk l2]
    have hkl : k < zs.length := by omega
    exact (shr_in (S := S) (n := totN zs) (z := zs.getD k 0) (by omega) (by omega) (gn k) (t3 _ (mem_getD hkl))).2.2.2 (by have := gn k; omega)

/-- the distribution of counts with an accuracy -/
def disL (zs : List Int) (log : Int) : List Int := if refE zs log = 0 then stl zs (shl zs (2 ^ log.toNat)) (2 ^ log.toNat) else []
def disG (zs : List Int) (log : Int) : Int := if refE zs log = 0 then log else 0
def DistP (w : World) (lg : Int) (out : List Int) (err : Int) (e : Ending) (w' : World) : Prop :=
  ∃ A c, e = .returned (.tuple #[.agg #[.int .i64 lg, .slice A out.length c], .int .i64 err]) ∧ IntsAt w' w'.heap.size A out ∧ Below w.heap.size w w' ∧ (0 < out.length → ∀ b off, A = some ⟨b, off, none⟩ → w.heap.size ≤ b)
theorem dist_box {w w1 : World} (hb : Below (w.alloc (.cells #[.int .i64 0, .slice none 0 0] 25)).heap.size (w.alloc (.cells #[.int .i64 0, .slice none 0 0] 25)) w1) : Blk w1 w.heap.size 25 #[.int .i64 0, .slice none 0 0] ∧ Below w.heap.size w w1 :=
  ⟨blk_below (blk_new w 25 _) hb (by simp), below_call (below_box (Below.refl _ _) _) hb⟩
theorem dist_set {w : World} {b : Nat} {x y u v : Value} (h : Blk w b 25 #[x, y]) : Blk ((w.setCell ⟨b, 0, none⟩ u).setCell ⟨b, 1, none⟩ v) b 25 #[u, v] := blk_set (blk_set h 0 u) 1 v
theorem dist_facts {w : World} {b : Nat} {x y : Value} (h : Blk w b 25 #[x, y]) : w.cell? ⟨b, 0, none⟩ = some x ∧ w.cell? ⟨b, 1, none⟩ = some y ∧ w.frozen? ⟨b, 0, none⟩ = false ∧ w.frozen? ⟨b, 1, none⟩ = false :=
  ⟨blk_cell h 0, blk_cell h 1, blk_frozen h 0, blk_frozen h 1⟩
theorem stl_length {zs : List Int} {L : Nat} (hr : refE zs (L : Int) = 0) : (stl zs (shl zs (2 ^ L)) (2 ^ L)).length = lst zs + 1 := by
  obtain ⟨h1, h2, h3, h4⟩ := shl_stl hr
  unfold stl
  split
  · rw [List.length_set]; exact h1.len
  · rename_i hn
    have := (decN_end (pts (shl zs (2 ^ L)) - 2 ^ L).toNat _ h1.good (by omega)).2.2
    rw [this]; exact h1.len
set_option maxRecDepth 100000 in
set_option maxHeartbeats 1000000 in
theorem with_c {A : Option Addr} {n : Nat} {zs : List Int} (cap : Nat) (log : Int) {w : World} (h : Cts w A n zs) :
    Calls Try.prog 10 #[.slice A n cap, .int .i64 log] w (DistP w (disG zs log) (disL zs log) (refE zs log)) := by
  unfold disG disL
  by_cases h0 : refE zs log = 0
  · rw [if_pos h0, if_pos h0]
    have hr := refuse_c cap log (h.below ((Below.refl _ w).alloc (Nat.le_refl _) (.cells #[.int .i64 0, .slice none 0 0] 25)))
    obtain ⟨k0, k1, k2, k3, k4⟩ := refE_zero h0
    obtain ⟨L, rfl⟩ : ∃ L : Nat, log = L := ⟨log.toNat, by omega⟩
    rw [Int.toNat_natCast] at k4 ⊢
    rw [h0] at hr ⊢
    have hL1 : 5 ≤ L := by omega
    have hL2 : L ≤ 12 := by omega
    have hw := pow_wrap hL1 hL2
    have hpw := pow_in hL1 hL2
    obtain ⟨s1, s2, s3, s4⟩ := shl_stl h0
    have slen := stl_length h0
    have hsh := fun u (hu : Below w.heap.size w u) => shares_c cap L hL1 hL2 (h.below hu) k0 k1
    have hzl := h.1
    have hzn := h.2.1
    have HI := Lib.hid h.2.2
    have hl256 := (lst_top k0 k1).2.1
    have g256 := (good_of k0).1
    go_enter Try.func10, Try.ntmps10
    go_wp2_with (first
      | (go_at_call 25; (with_reducible refine hr.mono ?_); rintro e w1 ⟨rfl, hb⟩; obtain ⟨kb, hb1⟩ := dist_box hb; clear hb)
      | (go_at_call 26; (with_reducible refine (hsh _ hb1).mono ?_); rintro e w2 ⟨g, rfl, hg, hT, hb⟩; have hlt := Nat.lt_of_lt_of_le (blk_lt kb) hg; replace kb := blk_below kb hb (blk_lt kb); replace hb1 := below_call hb1 hb; clear hb hg)
      | (go_at_call 27; (with_reducible refine (settle_c cap (2 ^ L) hpw.1 hpw.2 hzl hzn ((HI.out.below hb1).more (Nat.le_of_lt hlt)) hT (by omega) s1 s2 s3 s4).mono ?_); rintro e w3 ⟨⟨v0, rfl⟩, hT3, hb⟩; replace kb := blk_below kb hb hlt; replace hb1 := hb1.trans (hb.mono (Nat.le_of_lt hlt)); obtain ⟨y0, y1, z0, z1⟩ := dist_facts kb; have KB := Lib.hid kb; have HT3 := Lib.hid hT3; clear hb hT hT3 kb))
    have kb2 := dist_set (u := .int .i64 (L : Int)) (v := .slice (some ⟨g, 0, none⟩) (lst zs + 1) (lst zs + 1)) KB.out
    have c0 := blk_cell kb2 0
    have c1 := blk_cell kb2 1
    have hT4 := blk_far (p := ⟨w.heap.size, 1, none⟩) (blk_far (p := ⟨w.heap.size, 0, none⟩) HT3.out (show g ≠ w.heap.size by omega) (.int .i64 (L : Int))) (show g ≠ w.heap.size by omega) (.slice (some ⟨g, 0, none⟩) (lst zs + 1) (lst zs + 1))
    have hI4 := (cts_blk hT4 slen (by omega)).2.2
    refine bodyPost_ret (v := .tuple #[.agg #[.int .i64 (L : Int), .slice (some ⟨g, 0, none⟩) (lst zs + 1) (lst zs + 1)], .int .i64 0]) ?_ rfl ⟨some ⟨g, 0, none⟩, lst zs + 1, by rw [slen], hI4, (hb1.setCell (p := ⟨w.heap.size, 0, none⟩) (Nat.le_refl _) _).setCell (p := ⟨w.heap.size, 1, none⟩) (Nat.le_refl _) _, fun _ b off hb => by cases hb; exact Nat.le_of_lt hlt⟩
    simp [results, Try.f10, go_sem, c0, c1]
  · rw [if_neg h0, if_neg h0]
    have hr := refuse_c cap log (h.below ((Below.refl _ w).alloc (Nat.le_refl _) (.cells #[.int .i64 0, .slice none 0 0] 25)))
    have h1 : (refE zs log != 0) = true := by simpa using h0
    clear h h0
    generalize refE zs log = y at *
    go_enter Try.func10, Try.ntmps10
    go_wp2_with (go_at_call 25; (with_reducible refine hr.mono ?_); rintro e w1 ⟨rfl, hb⟩; obtain ⟨kb, hb1⟩ := dist_box hb; clear hb; obtain ⟨y0, y1, z0, z1⟩ := dist_facts kb)
    have kb2 := dist_set (u := .int .i64 0) (v := .slice none 0 0) kb
    have c0 := blk_cell kb2 0
    have c1 := blk_cell kb2 1
    refine bodyPost_ret (v := .tuple #[.agg #[.int .i64 0, .slice none 0 0], .int .i64 y]) ?_ rfl ⟨none, 0, rfl, fun h => absurd h (by decide), (hb1.setCell (p := ⟨w.heap.size, 0, none⟩) (Nat.le_refl _) _).setCell (p := ⟨w.heap.size, 1, none⟩) (Nat.le_refl _) _, fun h => absurd h (by decide)⟩
    simp [results, Try.f10, go_sem, c0, c1]

def ofG (zs : List Int) (most : Int) : Int := if refE zs most = 0 then disG zs (logV zs most) else 0
def ofL (zs : List Int) (most : Int) : List Int := if refE zs most = 0 then disL zs (logV zs most) else []
def ofE (zs : List Int) (most : Int) : Int := if refE zs most = 0 then refE zs (logV zs most) else refE zs most
set_option maxRecDepth 100000 in
set_option maxHeartbeats 1000000 in
theorem of_c {A : Option Addr} {n : Nat} {zs : List Int} (cap : Nat) (most : Int) {w : World} (h : Cts w A n zs) :
    Calls Try.prog 12 #[.slice A n cap, .int .i64 most] w (DistP w (ofG zs most) (ofL zs most) (ofE zs most)) := by
  unfold ofG ofL ofE
  have hlg := log_c cap most (h.below ((Below.refl _ w).alloc (Nat.le_refl _) (.cells #[.int .i64 0, .slice none 0 0] 25)))
  by_cases h0 : refE zs most = 0
  · rw [if_pos h0, if_pos h0, if_pos h0]
    rw [h0] at hlg
    have hw := fun u (hu : Below w.heap.size w u) => with_c cap (logV zs most) (h.below hu)
    clear h0
    generalize logV zs most = lv at *
    generalize disG zs lv = dg at *
    generalize disL zs lv = dl at *
    generalize refE zs lv = de at *
    clear h
    go_enter Try.func12, Try.ntmps12
    go_wp2_with (first
      | (go_at_call 16; (with_reducible refine hlg.mono ?_); rintro e w1 ⟨rfl, hb⟩; obtain ⟨kb, hb1⟩ := dist_box hb; clear hb)
      | (go_at_call 10; (with_reducible refine (hw _ hb1).mono ?_); rintro e w2 ⟨A', c', rfl, hI2, hb, hnew⟩; have hlt := blk_lt kb; replace kb := blk_below kb hb hlt; replace hb1 := below_call hb1 hb; obtain ⟨y0, y1, z0, z1⟩ := dist_facts kb; have KB := Lib.hid kb; have HI2 := Lib.hid hI2; have HBB := Lib.hid hb; clear hb hI2 kb))
    have kb2 := dist_set (u := .int .i64 dg) (v := .slice A' dl.length c') KB.out
    have c0 := blk_cell kb2 0
    have c1 := blk_cell kb2 1
    have hI4 : IntsAt ((w2.setCell ⟨w.heap.size, 0, none⟩ (.int .i64 dg)).setCell ⟨w.heap.size, 1, none⟩ (.slice A' dl.length c')) ((w2.setCell ⟨w.heap.size, 0, none⟩ (.int .i64 dg)).setCell ⟨w.heap.size, 1, none⟩ (.slice A' dl.length c')).heap.size A' dl := fun hpos => by
      obtain ⟨b, off, hA, hbs, hc⟩ := HI2.out hpos
      have hbn := hnew hpos b off hA
      have e : ∀ k, ((w2.setCell ⟨w.heap.size, 0, none⟩ (.int .i64 dg)).setCell ⟨w.heap.size, 1, none⟩ (.slice A' dl.length c')).cell? ⟨b, off + k, none⟩ = w2.cell? ⟨b, off + k, none⟩ := fun k => by
        have q := ((Below.refl (w.heap.size) w2).setCell (p := ⟨w.heap.size, 0, none⟩) (Nat.le_refl _) (.int .i64 dg))
        simp only [World.cell?]
        rw [Below.heap_setCell _ ⟨w.heap.size, 1, none⟩ _ b (show b ≠ w.heap.size by omega), Below.heap_setCell _ ⟨w.heap.size, 0, none⟩ _ b (show b ≠ w.heap.size by omega)]
      refine ⟨b, off, hA, ?_, fun k hk => by rw [e]; exact hc k hk⟩
      simpa using hbs
    refine bodyPost_ret (v := .tuple #[.agg #[.int .i64 dg, .slice A' dl.length c'], .int .i64 de]) ?_ rfl ⟨A', c', rfl, hI4, (hb1.setCell (p := ⟨w.heap.size, 0, none⟩) (Nat.le_refl _) _).setCell (p := ⟨w.heap.size, 1, none⟩) (Nat.le_refl _) _, fun hp b off hA => by have := hnew hp b off hA; omega⟩
    simp [results, Try.f12, go_sem, c0, c1]
  · rw [if_neg h0, if_neg h0, if_neg h0]
    have h1 : (refE zs most != 0) = true := by simpa using h0
    clear h h0
    generalize refE zs most = y at *
    generalize logV zs most = x at *
    go_enter Try.func12, Try.ntmps12
    go_wp2_with (go_at_call 16; (with_reducible refine hlg.mono ?_); rintro e w1 ⟨rfl, hb⟩; obtain ⟨kb, hb1⟩ := dist_box hb; clear hb; obtain ⟨y0, y1, z0, z1⟩ := dist_facts kb)
    have kb2 := dist_set (u := .int .i64 0) (v := .slice none 0 0) kb
    have c0 := blk_cell kb2 0
    have c1 := blk_cell kb2 1
    refine bodyPost_ret (v := .tuple #[.agg #[.int .i64 0, .slice none 0 0], .int .i64 y]) ?_ rfl ⟨none, 0, rfl, fun h => absurd h (by decide), (hb1.setCell (p := ⟨w.heap.size, 0, none⟩) (Nat.le_refl _) _).setCell (p := ⟨w.heap.size, 1, none⟩) (Nat.le_refl _) _, fun h => absurd h (by decide)⟩
    simp [results, Try.f12, go_sem, c0, c1]
end Go.Proofs.Ytjldbabggmmkdaa
