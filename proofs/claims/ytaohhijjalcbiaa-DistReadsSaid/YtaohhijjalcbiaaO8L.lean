/-
  Package dist: the reader of descriptions: bits taken, the accuracy, probabilities, what is added.
-/
import Derived.Test.YtaohhijjalcbiaaO8K
import Derived.IntWalk
namespace Go.Proofs.Ytaohhijjalcbiaa
open Go.ChangeShapes Go.WideShapes Go.ChangeAt Go.RowKit
set_option linter.unusedVariables false
set_option linter.unusedSimpArgs false

theorem take_st {w w1 : World} {base g : Nat} {S : ByteArray} {B sym : Int} {v e : Value} {xs : List Int} (h : Rd w base g S B sym v e xs) (hb : Below w.heap.size w w1) (o : Obj) (S' : ByteArray) (B' : Int) :
    Rd (((w1.setCell ⟨g, 0, none⟩ (.string S')).setCell ⟨g, 1, none⟩ (.int .i64 B')).alloc o) base g S' B' sym v e xs ∧ w.grownBy (((w1.setCell ⟨g, 0, none⟩ (.string S')).setCell ⟨g, 1, none⟩ (.int .i64 B')).alloc o) (some g) := by
  have hg := grown_alloc (grown_set (grown_set (grown_below hb (some g)) 0 (.string S')) 1 (.int .i64 B')) o
  exact ⟨h.next (blk_alloc (blk_set (blk_set (blk_below h.a hb (blk_lt h.a)) 0 (.string S')) 1 (.int .i64 B')) o) hg, hg⟩
theorem Rd.below {w w' : World} {base g : Nat} {S : ByteArray} {B sym : Int} {v e : Value} {xs : List Int} (h : Rd w base g S B sym v e xs) (hb : Below w.heap.size w w') : Rd w' base g S B sym v e xs :=
  h.next (blk_below h.a hb (blk_lt h.a)) (grown_below hb _)
theorem bel_drew (w : World) : Below w.heap.size w w.drew := (Below.refl _ _).drew
theorem tak_vals {S : ByteArray} {B n : Nat} (hS : S.size ≤ 1048576) (hn : n ≤ 32) (hB : B ≤ 8 * S.size) :
    (B + n ≤ 8 * S.size → takE S B n = 0 ∧ takS S B n = S ∧ takB S B n = (B + n : Nat) ∧ takX S B n = (numB S B n : Nat)) ∧ (8 * S.size < B + n → takE S B n = 5 ∧ takS S B n = ⟨#[]⟩ ∧ takB S B n = 0 ∧ takX S B n = 0) := by
  have e1 : rgt S B = 0 := by unfold rgt; rw [if_neg (by omega), if_neg (by omega)]
  have e2 : pekE S B n = 0 := by unfold pekE; rw [if_pos e1, if_neg (by omega)]
  constructor
  · intro h
    have e3 : takE S B n = 0 := by unfold takE; rw [if_pos e2, if_neg (by omega)]
    refine ⟨e3, by unfold takS; rw [if_pos e3], by unfold takB; rw [if_pos e3]; push_cast; rfl, ?_⟩
    unfold takX pekX
    rw [if_pos e3, if_pos e2, Int.toNat_natCast, Int.toNat_natCast]
  · intro h
    have e3 : takE S B n = 5 := by unfold takE; rw [if_pos e2, if_pos (by omega)]
    refine ⟨e3, ?_, ?_, ?_⟩
    · unfold takS; rw [e3, if_neg (by decide)]
    · unfold takB; rw [e3, if_neg (by decide)]
    · unfold takX; rw [e3, if_neg (by decide)]
theorem max_len {S : ByteArray} (h : S.size ≤ 1048576) : S.size ≤ maxLen := by unfold maxLen; omega

theorem dtake_ok (base g : Nat) (S : ByteArray) (B n : Nat) (sym : Int) (v : Value) (xs : List Int) (hS : S.size ≤ 1048576) (hn : n ≤ 32) (hB : B + n ≤ 8 * S.size) (w : World) (h : Rd w base g S B sym v .nilIface xs) :
    Calls Try.prog 57 #[.pointer (some ⟨g, 0, none⟩), .int .i64 (n : Int)] w fun r w' => r = .returned (.int .i64 (numB S B n : Nat)) ∧ Rd w' base g S (B + n : Nat) sym v .nilIface xs ∧ w.grownBy w' (some g) := by
  obtain ⟨t1, t2, t3, t4⟩ := (tak_vals (B := B) (n := n) hS hn (by omega)).1 hB
  have hT := fun u => ownTake_any S B n (max_len hS) u
  rw [t1, t2, t3, t4] at hT
  obtain ⟨⟨c0, c1, c2, c3, c4⟩, f0, f1, f2, f3, f4⟩ := rd_cells h.a
  have HS := Lib.hid (fun (w1 : World) (hb : Below w.heap.size w w1) (o : Obj) => take_st h hb o S (B + n : Nat))
  have HA := Lib.hid h.a
  have hgl := blk_lt h.a
  generalize ((B + n : Nat) : Int) = B' at *
  generalize ((numB S B n : Nat) : Int) = x at *
  clear t1 t2 t3 t4 h
  go_enter Try.func57, Try.ntmps57
  go_wp2_with (first
    | (go_at_call 81; (with_reducible refine (hT _).mono ?_); rintro e w1 ⟨rfl, hb1⟩; have HK := Lib.hid (HS.out _ hb1 (.cells #[.string S, .int .i64 B'] 67)); obtain ⟨_, g0, g1, g2, g3, g4⟩ := rd_cells (blk_below HA.out hb1 hgl); have hsz := Nat.lt_of_lt_of_le hgl hb1.size)
    | (go_at_call 58; (with_reducible refine (meet_c0 _ _).mono ?_); rintro e w2 ⟨rfl, rfl⟩))
  go_ret
  exact ⟨rfl, HK.out⟩
theorem dtake_bad (base g : Nat) (S : ByteArray) (B n : Nat) (sym : Int) (v : Value) (xs : List Int) (hS : S.size ≤ 1048576) (hn : n ≤ 32) (hB0 : B ≤ 8 * S.size) (hB : 8 * S.size < B + n) (w : World) (h : Rd w base g S B sym v .nilIface xs) :
    Calls Try.prog 57 #[.pointer (some ⟨g, 0, none⟩), .int .i64 (n : Int)] w fun r w' => r = .returned (.int .i64 0) ∧ Rd w' base g ⟨#[]⟩ 0 sym v (spt 5 xs.length) xs ∧ w.grownBy w' (some g) := by
  obtain ⟨t1, t2, t3, t4⟩ := (tak_vals (B := B) (n := n) hS hn (by omega)).2 hB
  have hT := fun u => ownTake_any S B n (max_len hS) u
  rw [t1, t2, t3, t4] at hT
  obtain ⟨⟨c0, c1, c2, c3, c4⟩, f0, f1, f2, f3, f4⟩ := rd_cells h.a
  have HS := Lib.hid (fun (w1 : World) (hb : Below w.heap.size w w1) (o : Obj) => take_st h hb o ⟨#[]⟩ 0)
  have HA := Lib.hid h.a
  have hgl := blk_lt h.a
  clear t1 t2 t3 t4 h
  go_enter Try.func57, Try.ntmps57
  go_wp2_with (first
    | (go_at_call 81; (with_reducible refine (hT _).mono ?_); rintro e w1 ⟨rfl, hb1⟩; have HK := Lib.hid (HS.out _ hb1 (.cells #[.string ⟨#[]⟩, .int .i64 0] 67)); obtain ⟨_, g0, g1, g2, g3, g4⟩ := rd_cells (blk_below HA.out hb1 hgl); have hsz := Nat.lt_of_lt_of_le hgl hb1.size)
    | (go_at_call 58; (with_reducible refine (meet_new _ _ _ _ _ _ _ _ (by decide) _ HK.out.1).mono ?_); rintro e w2 ⟨rfl, hr2, hg2⟩))
  go_ret
  exact ⟨rfl, hr2, grown_trans HK.out.2 hg2⟩
theorem dtake_err (g : Nat) (n d k : Int) (w : World) (he : w.cell? ⟨g, 4, none⟩ = some (spt d k)) :
    Calls Try.prog 57 #[.pointer (some ⟨g, 0, none⟩), .int .i64 n] w fun r w' => r = .returned (.int .i64 0) ∧ w = w' := by
  unfold spt at he
  go_enter Try.func57, Try.ntmps57
  go_wp2
  go_ret
  exact ⟨rfl, rfl⟩

/-- a reader that has met an error -/
def Er (w : World) (base g : Nat) (sym c : Int) : Prop := ∃ (S : ByteArray) (B : Int) (v : Value) (n : Int) (xs : List Int), Rd w base g S B sym v (spt c n) xs ∧ xs.length ≤ sym
/-- what a call of the reader leaves that goes well, and one that does not -/
theorem Rd.er {w : World} {base g : Nat} {S : ByteArray} {B sym : Int} {v : Value} {c n : Int} {xs : List Int} (h : Rd w base g S B sym v (spt c n) xs) (hs : xs.length ≤ sym) : Er w base g sym c := ⟨S, B, v, n, xs, h, hs⟩
theorem Er.cell {w : World} {base g : Nat} {sym c : Int} (h : Er w base g sym c) : ∃ n, w.cell? ⟨g, 4, none⟩ = some (spt c n) := by
  obtain ⟨S, B, v, n, xs, hr, _⟩ := h
  exact ⟨n, (rd_cells hr.a).1.2.2.2.2⟩

theorem prob_keep {u : World} {g g2 : Nat} {t t2 : TypeId} {S : ByteArray} {B sym : Int} {v e x y : Value} (h : Blk u g t #[.string S, .int .i64 B, .int .i64 sym, v, e]) (k : Blk u g2 t2 #[x, y]) :
    (u.cell? ⟨g, 0, none⟩ = some (.string S) ∧ u.cell? ⟨g, 1, none⟩ = some (.int .i64 B)) ∧ u.cell? ⟨g2, 0, none⟩ = some x ∧ u.cell? ⟨g2, 1, none⟩ = some y :=
  ⟨⟨blk_cell h 0, blk_cell h 1⟩, blk_cell k 0, blk_cell k 1⟩
theorem four_below {u u' : World} {g g2 : Nat} {a b x y : Value} (h : (u.cell? ⟨g, 0, none⟩ = some a ∧ u.cell? ⟨g, 1, none⟩ = some b) ∧ u.cell? ⟨g2, 0, none⟩ = some x ∧ u.cell? ⟨g2, 1, none⟩ = some y) (hb : Below u.heap.size u u') :
    (u'.cell? ⟨g, 0, none⟩ = some a ∧ u'.cell? ⟨g, 1, none⟩ = some b) ∧ u'.cell? ⟨g2, 0, none⟩ = some x ∧ u'.cell? ⟨g2, 1, none⟩ = some y :=
  ⟨⟨(hb.cell (p := ⟨g, 0, none⟩) (cell_lt h.1.1)).trans h.1.1, (hb.cell (p := ⟨g, 1, none⟩) (cell_lt h.1.2)).trans h.1.2⟩, (hb.cell (p := ⟨g2, 0, none⟩) (cell_lt h.2.1)).trans h.2.1, (hb.cell (p := ⟨g2, 1, none⟩) (cell_lt h.2.2)).trans h.2.2⟩

set_option maxHeartbeats 1000000 in
theorem dprob_ok (base g : Nat) (S : ByteArray) (B : Nat) (sym : Int) (v : Value) (xs : List Int) (left p : Int) (B' : Nat) (hS : S.size ≤ 1048576) (h1 : 1 ≤ left) (h2 : left ≤ 4096) (hB : B ≤ 8 * S.size) (hp : rdP S B left = some (p, B')) (w : World) (h : Rd w base g S B sym v .nilIface xs) :
    Calls Try.prog 59 #[.pointer (some ⟨g, 0, none⟩), .int .i64 left] w fun r w' => r = .returned (.int .i64 p) ∧ Rd w' base g S B' sym v .nilIface xs ∧ w.grownBy w' (some g) := by
  have hW := fun u => width_c left h1 h2 u
  obtain ⟨b, H, e1, e2, e3, e4, e5, e6, e7, e8, e9, e10, e11, e12⟩ := wb_all h1 h2
  have hH := fun u => half_c (b + 1) (wt left) (by omega) (by omega) u
  rw [Nat.add_sub_cancel] at hH
  have hPk := fun u => ownPeek_any S B b (max_len hS) u
  have k1 : rgt S B = 0 := by unfold rgt; rw [if_neg (by omega), if_neg (by omega)]
  have k2 : pekE S B b = 0 := by unfold pekE; rw [if_pos k1, if_neg (by omega)]
  have k3 : pekX S B b = (numB S B b : Nat) := by unfold pekX; rw [if_pos k2, Int.toNat_natCast, Int.toNat_natCast]
  rw [k2, k3] at hPk
  unfold rdP at hp
  rw [e1, Nat.add_sub_cancel] at hp
  rw [e1] at hW
  have hc := pow_cast b
  have l1 := numB_lt S B b
  have l2 := numB_lt S B (b + 1)
  rw [e4] at l1
  rw [e5] at l2
  rw [show (2 : Int) ^ b = H by omega] at hH hp
  have hm1 : (1 : Int) ≤ ((b + 1 : Nat) : Int) := by omega
  have hm2 : ((b + 1 : Nat) : Int) ≤ 13 := by omega
  have hm3 : ((b + 1 : Nat) : Int) - 1 = (b : Int) := by omega
  have hTs := fun u (hu : Rd u base g S B sym v .nilIface xs) (hb : B + b ≤ 8 * S.size) => dtake_ok base g S B b sym v xs hS (by omega) hb u hu
  have hTf := fun u (hu : Rd u base g S B sym v .nilIface xs) (hb : B + (b + 1) ≤ 8 * S.size) => dtake_ok base g S B (b + 1) sym v xs hS (by omega) hb u hu
  rw [← hm3] at hPk hTs
  have HR := Lib.hid (fun u hu => h.below (w' := u) hu)
  have hgl := blk_lt h.a
  generalize hx1 : ((numB S B b : Nat) : Int) = x1 at *
  generalize hx2 : ((numB S B (b + 1) : Nat) : Int) = x2 at *
  have b1 : 0 ≤ x1 := by omega
  have b2 : x1 < H := by omega
  have b3 : 0 ≤ x2 := by omega
  have b4 : x2 < 2 * H := by omega
  generalize hT : wt left = T at *
  have HW := Lib.hid hW
  have HH := Lib.hid hH
  have HPk := Lib.hid hPk
  have HTs := Lib.hid hTs
  have HTf := Lib.hid hTf
  have HM := Lib.hid hm3
  clear hW hH hPk hTs hTf hm3 k1 k2 k3 hx1 hx2 hc l1 l2 e1 e4 e5 e8 hT h
  generalize ((b + 1 : Nat) : Int) = bb at *
  by_cases q1 : 8 * S.size < B + b
  · rw [if_pos q1] at hp; cases hp
  · rw [if_neg q1] at hp
    by_cases q2 : x1 < T
    · rw [if_pos q2] at hp
      simp only [Option.some.injEq, Prod.mk.injEq] at hp
      obtain ⟨rfl, rfl⟩ := hp
      have HT := Lib.hid (fun u hu => HTs.out u hu (by omega))
      clear HTs HTf q1
      go_enter Try.func59, Try.ntmps59
      go_wp2_with (go_at_call 69; (with_reducible refine (HW.out _).mono ?_); rintro e w1 ⟨rfl, hb1⟩)
      have hbw := Lib.hid (bel_box hb1 (.cells #[.int .i64 bb, .int .i64 T] 96))
      have y := blk_new w1 96 #[.int .i64 bb, .int .i64 T]
      have HY := Lib.hid y
      have hgw := Lib.hid (show g ≠ w1.heap.size by have := hb1.size; omega)
      have k0 := Lib.hid (prob_keep (blk_drew (HR.out _ hbw.out).a) (blk_drew y))
      have k1 := k0
      have m1 := Lib.hid (bel_drew (w1.alloc (.cells #[.int .i64 bb, .int .i64 T] 96)))
      have hwr : IntKind.i64.wrap (bb - 1) = bb - 1 := IntWalk.i64_in _ (by omega)
      clear y
      go_region_held3 (fun w' => (w'.cell? ⟨g, 0, none⟩ = some (.string S) ∧ w'.cell? ⟨g, 1, none⟩ = some (.int .i64 B)) ∧ w'.cell? ⟨w1.heap.size, 0, none⟩ = some (.int .i64 bb) ∧ w'.cell? ⟨w1.heap.size, 1, none⟩ = some (.int .i64 T))
        (first | (with_reducible exact k0.out) | (with_reducible exact k1.out))
        (first
          | (go_at_call 82; (with_reducible refine (HPk.out _).mono ?_); rintro r w2 ⟨rfl, hb2⟩; have k1 := Lib.hid (four_below k1.out hb2); have m1 := Lib.hid (bel_call m1.out hb2); clear hb2))
      have r2 := Lib.hid (HR.out _ (bel_call hbw.out m1.out))
      have HG2 := Lib.hid (grown_below (bel_call hbw.out m1.out) (some g))
      have HY2 := Lib.hid (blk_below HY.out m1.out (blk_lt HY.out))
      obtain ⟨⟨c0, c1⟩, y0, y1⟩ := k1.out
      clear k0 k1 m1 HY hbw hb1 hwr
      generalize w1.heap.size = gw at *
      go_wp2_with (go_at_call 57; (with_reducible refine (HT.out _ r2.out).mono ?_); rintro e w3 ⟨rfl, r3, g3⟩)
      go_ret
      exact ⟨rfl, r3, grown_trans HG2.out g3⟩
    · rw [if_neg q2] at hp
      by_cases q3 : 8 * S.size < B + (b + 1)
      · rw [if_pos q3] at hp; cases hp
      · rw [if_neg q3] at hp
        simp only [Option.some.injEq, Prod.mk.injEq] at hp
        have HT := Lib.hid (fun u hu => HTf.out u hu (by omega))
        clear HTs HTf q1 q3
        by_cases q4 : (H : Int) ≤ x2
        · rw [if_pos q4] at hp
          obtain ⟨rfl, rfl⟩ := hp
          go_enter Try.func59, Try.ntmps59
          go_wp2_with (go_at_call 69; (with_reducible refine (HW.out _).mono ?_); rintro e w1 ⟨rfl, hb1⟩)
          have hbw := Lib.hid (bel_box hb1 (.cells #[.int .i64 bb, .int .i64 T] 96))
          have y := blk_new w1 96 #[.int .i64 bb, .int .i64 T]
          have HY := Lib.hid y
          have hgw := Lib.hid (show g ≠ w1.heap.size by have := hb1.size; omega)
          have k0 := Lib.hid (prob_keep (blk_drew (HR.out _ hbw.out).a) (blk_drew y))
          have k1 := k0
          have m1 := Lib.hid (bel_drew (w1.alloc (.cells #[.int .i64 bb, .int .i64 T] 96)))
          have hwr : IntKind.i64.wrap (bb - 1) = bb - 1 := IntWalk.i64_in _ (by omega)
          clear y
          go_region_held3 (fun w' => (w'.cell? ⟨g, 0, none⟩ = some (.string S) ∧ w'.cell? ⟨g, 1, none⟩ = some (.int .i64 B)) ∧ w'.cell? ⟨w1.heap.size, 0, none⟩ = some (.int .i64 bb) ∧ w'.cell? ⟨w1.heap.size, 1, none⟩ = some (.int .i64 T))
            (first | (with_reducible exact k0.out) | (with_reducible exact k1.out))
            (first
              | (go_at_call 82; (with_reducible refine (HPk.out _).mono ?_); rintro r w2 ⟨rfl, hb2⟩; have k1 := Lib.hid (four_below k1.out hb2); have m1 := Lib.hid (bel_call m1.out hb2); clear hb2))
          have r2 := Lib.hid (HR.out _ (bel_call hbw.out m1.out))
          have HG2 := Lib.hid (grown_below (bel_call hbw.out m1.out) (some g))
          have HY2 := Lib.hid (blk_below HY.out m1.out (blk_lt HY.out))
          obtain ⟨⟨c0, c1⟩, y0, y1⟩ := k1.out
          clear k0 k1 m1 HY hbw hb1 hwr
          generalize w1.heap.size = gw at *
          go_wp2_with (first
            | (go_at_call 57; (with_reducible refine (HT.out _ r2.out).mono ?_); rintro e w3 ⟨rfl, r3, g3⟩; have HY3 := Lib.hid (blk_grown HY2.out g3 (fun e => hgw.out e.symm)); have z0 := blk_cell HY3.out 0; have z1 := blk_cell HY3.out 1; have R3 := Lib.hid r3; have G3 := Lib.hid g3; clear r3 g3)
            | (go_at_call 70; (with_reducible refine (HH.out _).mono ?_); rintro e w4 ⟨rfl, hb4⟩; have HY4 := Lib.hid (blk_below HY3.out hb4 (blk_lt HY3.out)); have z0 := blk_cell HY4.out 0; have z1 := blk_cell HY4.out 1))
          go_ret
          exact ⟨rfl, R3.out.below hb4, grown_trans HG2.out (grown_trans G3.out (grown_below hb4 _))⟩
        · rw [if_neg q4] at hp
          obtain ⟨rfl, rfl⟩ := hp
          go_enter Try.func59, Try.ntmps59
          go_wp2_with (go_at_call 69; (with_reducible refine (HW.out _).mono ?_); rintro e w1 ⟨rfl, hb1⟩)
          have hbw := Lib.hid (bel_box hb1 (.cells #[.int .i64 bb, .int .i64 T] 96))
          have y := blk_new w1 96 #[.int .i64 bb, .int .i64 T]
          have HY := Lib.hid y
          have hgw := Lib.hid (show g ≠ w1.heap.size by have := hb1.size; omega)
          have k0 := Lib.hid (prob_keep (blk_drew (HR.out _ hbw.out).a) (blk_drew y))
          have k1 := k0
          have m1 := Lib.hid (bel_drew (w1.alloc (.cells #[.int .i64 bb, .int .i64 T] 96)))
          have hwr : IntKind.i64.wrap (bb - 1) = bb - 1 := IntWalk.i64_in _ (by omega)
          clear y
          go_region_held3 (fun w' => (w'.cell? ⟨g, 0, none⟩ = some (.string S) ∧ w'.cell? ⟨g, 1, none⟩ = some (.int .i64 B)) ∧ w'.cell? ⟨w1.heap.size, 0, none⟩ = some (.int .i64 bb) ∧ w'.cell? ⟨w1.heap.size, 1, none⟩ = some (.int .i64 T))
            (first | (with_reducible exact k0.out) | (with_reducible exact k1.out))
            (first
              | (go_at_call 82; (with_reducible refine (HPk.out _).mono ?_); rintro r w2 ⟨rfl, hb2⟩; have k1 := Lib.hid (four_below k1.out hb2); have m1 := Lib.hid (bel_call m1.out hb2); clear hb2))
          have r2 := Lib.hid (HR.out _ (bel_call hbw.out m1.out))
          have HG2 := Lib.hid (grown_below (bel_call hbw.out m1.out) (some g))
          have HY2 := Lib.hid (blk_below HY.out m1.out (blk_lt HY.out))
          obtain ⟨⟨c0, c1⟩, y0, y1⟩ := k1.out
          clear k0 k1 m1 HY hbw hb1 hwr
          generalize w1.heap.size = gw at *
          go_wp2_with (first
            | (go_at_call 57; (with_reducible refine (HT.out _ r2.out).mono ?_); rintro e w3 ⟨rfl, r3, g3⟩; have HY3 := Lib.hid (blk_grown HY2.out g3 (fun e => hgw.out e.symm)); have z0 := blk_cell HY3.out 0; have z1 := blk_cell HY3.out 1; have R3 := Lib.hid r3; have G3 := Lib.hid g3; clear r3 g3)
            | (go_at_call 70; (with_reducible refine (HH.out _).mono ?_); rintro e w4 ⟨rfl, hb4⟩; have HY4 := Lib.hid (blk_below HY3.out hb4 (blk_lt HY3.out)); have z0 := blk_cell HY4.out 0; have z1 := blk_cell HY4.out 1))
          go_ret
          exact ⟨rfl, R3.out.below hb4, grown_trans HG2.out (grown_trans G3.out (grown_below hb4 _))⟩

/-- a probability that is not there -/
theorem dprob_bad (base g : Nat) (S : ByteArray) (B : Nat) (sym : Int) (v : Value) (xs : List Int) (left : Int) (hS : S.size ≤ 1048576) (h1 : 1 ≤ left) (h2 : left ≤ 4096) (hB : B ≤ 8 * S.size) (hp : rdP S B left = none) (w : World) (h : Rd w base g S B sym v .nilIface xs) :
    Calls Try.prog 59 #[.pointer (some ⟨g, 0, none⟩), .int .i64 left] w fun r w' => r = .returned (.int .i64 (-1)) ∧ Rd w' base g ⟨#[]⟩ 0 sym v (spt 5 xs.length) xs ∧ w.grownBy w' (some g) := by
  have hW := fun u => width_c left h1 h2 u
  obtain ⟨b, H, e1, e2, e3, e4, e5, e6, e7, e8, e9, e10, e11, e12⟩ := wb_all h1 h2
  have hH := fun u => half_c (b + 1) (wt left) (by omega) (by omega) u
  rw [Nat.add_sub_cancel] at hH
  have hPk := fun u => ownPeek_any S B b (max_len hS) u
  have k1 : rgt S B = 0 := by unfold rgt; rw [if_neg (by omega), if_neg (by omega)]
  have k2 : pekE S B b = 0 := by unfold pekE; rw [if_pos k1, if_neg (by omega)]
  have k3 : pekX S B b = (numB S B b : Nat) := by unfold pekX; rw [if_pos k2, Int.toNat_natCast, Int.toNat_natCast]
  rw [k2, k3] at hPk
  unfold rdP at hp
  rw [e1, Nat.add_sub_cancel] at hp
  rw [e1] at hW
  have hc := pow_cast b
  have l1 := numB_lt S B b
  rw [e4] at l1
  rw [show (2 : Int) ^ b = H by omega] at hH hp
  have hm1 : (1 : Int) ≤ ((b + 1 : Nat) : Int) := by omega
  have hm2 : ((b + 1 : Nat) : Int) ≤ 13 := by omega
  have hm3 : ((b + 1 : Nat) : Int) - 1 = (b : Int) := by omega
  have hTs := fun u (hu : Rd u base g S B sym v .nilIface xs) (hb : 8 * S.size < B + b) => dtake_bad base g S B b sym v xs hS (by omega) hB hb u hu
  have hTf := fun u (hu : Rd u base g S B sym v .nilIface xs) (hb : 8 * S.size < B + (b + 1)) => dtake_bad base g S B (b + 1) sym v xs hS (by omega) hB hb u hu
  rw [← hm3] at hPk hTs
  have HR := Lib.hid (fun u hu => h.below (w' := u) hu)
  have hgl := blk_lt h.a
  generalize hx1 : ((numB S B b : Nat) : Int) = x1 at *
  have b1 : 0 ≤ x1 := by omega
  have b2 : x1 < H := by omega
  generalize hT : wt left = T at *
  have HW := Lib.hid hW
  have HH := Lib.hid hH
  have HPk := Lib.hid hPk
  have HTs := Lib.hid hTs
  have HTf := Lib.hid hTf
  have HM := Lib.hid hm3
  have HHp : (0 : Int) < H := by omega
  clear hW hH hPk hTs hTf hm3 k1 k2 k3 hx1 hc l1 e1 e4 e5 e8 hT h
  generalize ((b + 1 : Nat) : Int) = bb at *
  by_cases q2 : x1 < T
  · have q1 : 8 * S.size < B + b := by
      by_cases q1 : 8 * S.size < B + b
      · exact q1
      · rw [if_neg q1, if_pos q2] at hp; cases hp
    have HT := Lib.hid (fun u hu => HTs.out u hu q1)
    clear HTs HTf q1 hp
    go_enter Try.func59, Try.ntmps59
    go_wp2_with (go_at_call 69; (with_reducible refine (HW.out _).mono ?_); rintro e w1 ⟨rfl, hb1⟩)
    have hbw := Lib.hid (bel_box hb1 (.cells #[.int .i64 bb, .int .i64 T] 96))
    have y := blk_new w1 96 #[.int .i64 bb, .int .i64 T]
    have HY := Lib.hid y
    have hgw := Lib.hid (show g ≠ w1.heap.size by have := hb1.size; omega)
    have k0 := Lib.hid (prob_keep (blk_drew (HR.out _ hbw.out).a) (blk_drew y))
    have k1 := k0
    have m1 := Lib.hid (bel_drew (w1.alloc (.cells #[.int .i64 bb, .int .i64 T] 96)))
    have hwr : IntKind.i64.wrap (bb - 1) = bb - 1 := IntWalk.i64_in _ (by omega)
    clear y
    go_region_held3 (fun w' => (w'.cell? ⟨g, 0, none⟩ = some (.string S) ∧ w'.cell? ⟨g, 1, none⟩ = some (.int .i64 B)) ∧ w'.cell? ⟨w1.heap.size, 0, none⟩ = some (.int .i64 bb) ∧ w'.cell? ⟨w1.heap.size, 1, none⟩ = some (.int .i64 T))
      (first | (with_reducible exact k0.out) | (with_reducible exact k1.out))
      (first
        | (go_at_call 82; (with_reducible refine (HPk.out _).mono ?_); rintro r w2 ⟨rfl, hb2⟩; have k1 := Lib.hid (four_below k1.out hb2); have m1 := Lib.hid (bel_call m1.out hb2); clear hb2))
    have r2 := Lib.hid (HR.out _ (bel_call hbw.out m1.out))
    have HG2 := Lib.hid (grown_below (bel_call hbw.out m1.out) (some g))
    have HY2 := Lib.hid (blk_below HY.out m1.out (blk_lt HY.out))
    obtain ⟨⟨c0, c1⟩, y0, y1⟩ := k1.out
    clear k0 k1 m1 HY hbw hb1 hwr
    generalize w1.heap.size = gw at *
    go_wp2_with (go_at_call 57; (with_reducible refine (HT.out _ r2.out).mono ?_); rintro e w3 ⟨rfl, r3, g3⟩)
    go_ret
    exact ⟨rfl, r3, grown_trans HG2.out g3⟩
  · have q3 : 8 * S.size < B + (b + 1) := by
      by_cases q3 : 8 * S.size < B + (b + 1)
      · exact q3
      · rw [if_neg (by omega), if_neg q2, if_neg q3] at hp; cases hp
    have HT := Lib.hid (fun u hu => HTf.out u hu q3)
    clear HTs HTf q3 hp
    go_enter Try.func59, Try.ntmps59
    go_wp2_with (go_at_call 69; (with_reducible refine (HW.out _).mono ?_); rintro e w1 ⟨rfl, hb1⟩)
    have hbw := Lib.hid (bel_box hb1 (.cells #[.int .i64 bb, .int .i64 T] 96))
    have y := blk_new w1 96 #[.int .i64 bb, .int .i64 T]
    have HY := Lib.hid y
    have hgw := Lib.hid (show g ≠ w1.heap.size by have := hb1.size; omega)
    have k0 := Lib.hid (prob_keep (blk_drew (HR.out _ hbw.out).a) (blk_drew y))
    have k1 := k0
    have m1 := Lib.hid (bel_drew (w1.alloc (.cells #[.int .i64 bb, .int .i64 T] 96)))
    have hwr : IntKind.i64.wrap (bb - 1) = bb - 1 := IntWalk.i64_in _ (by omega)
    clear y
    go_region_held3 (fun w' => (w'.cell? ⟨g, 0, none⟩ = some (.string S) ∧ w'.cell? ⟨g, 1, none⟩ = some (.int .i64 B)) ∧ w'.cell? ⟨w1.heap.size, 0, none⟩ = some (.int .i64 bb) ∧ w'.cell? ⟨w1.heap.size, 1, none⟩ = some (.int .i64 T))
      (first | (with_reducible exact k0.out) | (with_reducible exact k1.out))
      (first
        | (go_at_call 82; (with_reducible refine (HPk.out _).mono ?_); rintro r w2 ⟨rfl, hb2⟩; have k1 := Lib.hid (four_below k1.out hb2); have m1 := Lib.hid (bel_call m1.out hb2); clear hb2))
    have r2 := Lib.hid (HR.out _ (bel_call hbw.out m1.out))
    have HG2 := Lib.hid (grown_below (bel_call hbw.out m1.out) (some g))
    have HY2 := Lib.hid (blk_below HY.out m1.out (blk_lt HY.out))
    obtain ⟨⟨c0, c1⟩, y0, y1⟩ := k1.out
    clear k0 k1 m1 HY hbw hb1 hwr
    generalize w1.heap.size = gw at *
    go_wp2_with (first
      | (go_at_call 57; (with_reducible refine (HT.out _ r2.out).mono ?_); rintro e w3 ⟨rfl, r3, g3⟩; have HY3 := Lib.hid (blk_grown HY2.out g3 (fun e => hgw.out e.symm)); have z0 := blk_cell HY3.out 0; have z1 := blk_cell HY3.out 1; have R3 := Lib.hid r3; have G3 := Lib.hid g3; clear r3 g3)
      | (go_at_call 70; (with_reducible refine (HH.out _).mono ?_); rintro e w4 ⟨rfl, hb4⟩; have HY4 := Lib.hid (blk_below HY3.out hb4 (blk_lt HY3.out)); have z0 := blk_cell HY4.out 0; have z1 := blk_cell HY4.out 1))
    go_ret
    exact ⟨rfl, R3.out.below hb4, grown_trans HG2.out (grown_trans G3.out (grown_below hb4 _))⟩
end Go.Proofs.Ytaohhijjalcbiaa
