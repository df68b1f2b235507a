/-
  Package dist: a description written.
-/
import Derived.Test.YtaohhijjalcbiaaO8E
namespace Go.Proofs.Ytaohhijjalcbiaa
open Go.ChangeShapes Go.WideShapes Go.ChangeAt Go.RowKit
set_option linter.unusedVariables false
set_option linter.unusedSimpArgs false

theorem grown_new {w u : World} {row : Option Nat} (h : w.grownBy u row) {p : Addr} (hp : w.heap.size ≤ p.block) (v : Value) : w.grownBy (u.setCell p v) row :=
  ⟨h.os, h.tape, h.output, by simpa [World.setCell] using h.size, fun k hk hne => (Below.heap_setCell u p v k (by omega)).trans (h.block k hk hne)⟩
theorem ints_grown {w u : World} {B g : Nat} {A : Option Addr} {ps : List Int} (h : IntsAt w B A ps) (hg : w.grownBy u (some g)) (hB : B ≤ g) (hs : B ≤ w.heap.size) : IntsAt u B A ps := fun h0 => by
  obtain ⟨b, off, rfl, hb, hc⟩ := h h0
  refine ⟨b, off, rfl, hb, fun k hk => ?_⟩
  have e := hg.block b (by omega) (fun e => by have : b = g := by simpa using e
                                               omega)
  rw [← hc k hk]
  simp only [World.cell?, e]
theorem ints_drop {w : World} {B b off : Nat} {ps : List Int} (h : IntsAt w B (some ⟨b, off, none⟩) ps) (hne : 0 < ps.length) (k : Nat) : IntsAt w B (some ⟨b, off + k, none⟩) (ps.drop k) := fun h0 => by
  obtain ⟨b', off', e, hb, hc⟩ := h hne
  cases e
  refine ⟨b, off + k, rfl, hb, fun j hj => ?_⟩
  rw [List.length_drop] at hj
  rw [Nat.add_assoc, hc (k + j) (by omega)]
  simp only [List.getD_eq_getElem?_getD, List.getElem?_drop]
theorem zr_all : ∀ {l : List Int}, l ≠ [] → zr l = l.length → l.getLast? = some 0
  | [], h, _ => absurd rfl h
  | [p], _, h => by
    by_cases hp : p = 0
    · rw [hp]; rfl
    · simp [zr, hp] at h
  | p :: q :: r, _, h => by
    by_cases hp : p = 0
    · simp only [zr, if_pos hp, List.length_cons] at h
      rw [List.getLast?_cons_cons]
      exact zr_all (l := q :: r) (by simp) (by simp only [zr, List.length_cons]; omega)
    · simp only [zr, if_neg hp, List.length_cons] at h; omega
theorem okP_zr {left : Int} {l : List Int} (h : okP left l) (hne : l ≠ []) : zr l < l.length := by
  have a := zr_le l
  rcases Nat.lt_or_ge (zr l) l.length with hl | hl
  · exact hl
  · exact absurd (zr_all hne (by omega)) (by rcases h.2.2 with e | e; exact absurd e hne; exact e)
theorem okP_drop : ∀ {l : List Int} {left : Int} (j : Nat), okP left l → j ≤ zr l → okP left (l.drop j)
  | [], left, j, h, _ => by simpa using h
  | p :: r, left, 0, h, _ => h
  | p :: r, left, j + 1, h, hj => by
    by_cases hp : p = 0
    · simp only [zr, if_pos hp] at hj
      have a := (okP_cons h).2.2.2.1
      rw [hp, show pt 0 = 0 from rfl, Int.sub_zero] at a
      rw [List.drop_succ_cons]
      exact okP_drop j a (by omega)
    · simp [zr, hp] at hj

theorem pointsOf_at (left : Int) (u : World) :
    Calls Try.prog 48 #[.int .i64 left] u fun e w' => ∃ gl : Nat, e = .returned (.func (.func 67) #[] #[.pointer (some ⟨gl, 0, none⟩)]) ∧ Blk w' gl 3 #[.int .i64 left] ∧ u.heap.size ≤ gl ∧ Below u.heap.size u w' :=
  (pointsOf_c left u).mono fun e w' h => ⟨u.heap.size, h.1, h.2 ▸ blk_new _ _ _, Nat.le_refl _, h.2 ▸ bel_box (Below.refl _ _) _⟩
theorem two_below {u u' : World} {d : Nat} {x y : Value} (h : u.cell? ⟨d, 0, none⟩ = some x ∧ u.cell? ⟨d, 1, none⟩ = some y) (hb : Below u.heap.size u u') : u'.cell? ⟨d, 0, none⟩ = some x ∧ u'.cell? ⟨d, 1, none⟩ = some y :=
  ⟨(hb.cell (p := ⟨d, 0, none⟩) (cell_lt h.1)).trans h.1, (hb.cell (p := ⟨d, 1, none⟩) (cell_lt h.2)).trans h.2⟩

/-- what the loop of a description holds -/
structure Ds (w : World) (g gl : Nat) (v : Value) (L : Int) (wr : World) (X T : Nat) (left : Int) : Prop where
  a : Blk wr g 55 (wrA X T)
  c : Blk wr gl 3 #[.int .i64 left]
  d : Blk wr w.heap.size 24 #[.int .i64 L, v]
  r : w.grownBy wr (some g)
theorem Ds.next {w : World} {g gl : Nat} {v : Value} {L : Int} {wr w' : World} {X T X' T' : Nat} {left : Int} (h : Ds w g gl v L wr X T left) (hl : g ≠ gl) (hg : g < w.heap.size) (hb : Blk w' g 55 (wrA X' T')) (hr : wr.grownBy w' (some g)) : Ds w g gl v L w' X' T' left :=
  ⟨hb, blk_grown h.c hr (fun e => hl e.symm), blk_grown h.d hr (by omega), grown_trans h.r hr⟩
theorem Ds.take {w : World} {g gl : Nat} {v : Value} {L : Int} {wr : World} {X T : Nat} {left : Int} (h : Ds w g gl v L wr X T left) (hl : g ≠ gl) (hg : w.heap.size < gl) (q : Int) : Ds w g gl v L (wr.setCell ⟨gl, 0, none⟩ (.int .i64 q)) X T q :=
  ⟨blk_far h.a hl _, blk_set h.c 0 _, blk_far h.d (by show w.heap.size ≠ gl; omega) _, grown_new h.r (Nat.le_of_lt hg) _⟩
theorem Ds.cells {w : World} {g gl : Nat} {v : Value} {L : Int} {wr : World} {X T B b off : Nat} {left : Int} {ps : List Int} (h : Ds w g gl v L wr X T left) (hi : IntsAt w B (some ⟨b, off, none⟩) ps) (hB : B ≤ g) (hs : B ≤ w.heap.size) {k : Nat} (hk : k < ps.length) :
    wr.cell? ⟨w.heap.size, 0, none⟩ = some (.int .i64 L) ∧ wr.cell? ⟨w.heap.size, 1, none⟩ = some v ∧ wr.cell? ⟨b, off + k, none⟩ = some (.int .i64 (ps.getD k 0)) := by
  refine ⟨blk_cell h.d 0, blk_cell h.d 1, ?_⟩
  obtain ⟨b', off', e, _, hc⟩ := ints_grown hi h.r hB hs (by omega)
  cases e
  exact hc k hk

set_option maxHeartbeats 4000000 in
set_option maxRecDepth 100000 in
theorem describe_c (g L : Nat) (b off n cap B : Nat) (ps : List Int) (h1 : 5 ≤ L) (h2 : L ≤ 12) (hl : ps.length = n) (hn : n ≤ 256) (hcap : n ≤ cap) (ok : okP (2 ^ L) ps) (hne : 0 < n) (w : World) (hb : Blk w g 55 (wrA 0 0)) (hB : B ≤ g) (hBs : B ≤ w.heap.size) (h : IntsAt w B (some ⟨b, off, none⟩) ps) :
    Calls Try.prog 32 #[.pointer (some ⟨g, 0, none⟩), .agg #[.int .i64 (L : Int), .slice (some ⟨b, off, none⟩) n cap]] w (WrLeft g (V2 0 0 (dsc L ps)) (totP (dsc L ps)) (.tuple #[]) w) := by
  subst hl
  have htt := dsc_tot h2 ok
  have ha := two12 (L := L) h2
  have hp := pow_pos' L
  have hz : ∀ u, Calls Try.prog 13 #[.agg #[.int .i64 (L : Int), .slice (some ⟨b, off, none⟩) ps.length cap]] u fun e w' => e = .returned (.int .i64 (2 ^ L)) ∧ Below u.heap.size u w' := fun u => by
    have k := size_c (L : Int) (some ⟨b, off, none⟩) ps.length cap u
    unfold sizeD at k
    rwa [if_neg (by omega), Int.toNat_natCast] at k
  have hfst : ∀ u (hu : Blk u g 55 (wrA 0 0)), Calls Try.prog 49 #[.pointer (some ⟨g, 0, none⟩), .int .i64 4, .int .i64 ((L : Int) - 5)] u (WrLeft g (0 + (L - 5) * 2 ^ 0) (0 + 4) (.tuple #[]) u) := fun u hu => by
    have e : ((L : Int) - 5) = ((L - 5 : Nat) : Int) := by omega
    rw [e]
    exact wput_c g 0 0 4 (L - 5) (by decide) (by omega) (show L - 5 < 16 by omega) (by omega) u hu
  have hX0 : 0 + (L - 5) * 2 ^ 0 < 2 ^ (0 + 4) := wr_next (V := 0) (t := 0) (n := 4) (by decide) (show L - 5 < 16 by omega)
  have hV0 : V2 (0 + (L - 5) * 2 ^ 0) (0 + 4) (desc none (2 ^ L) ps) = V2 0 0 (dsc L ps) := by unfold dsc; rw [V2_cons]
  have ht0 : (0 + 4) + totP (desc none (2 ^ L) ps) = totP (dsc L ps) := by simp [dsc, totP]
  unfold WrLeft at *
  generalize V2 0 0 (dsc L ps) = V' at *
  generalize totP (dsc L ps) = t' at *
  generalize 0 + (L - 5) * 2 ^ 0 = X0 at *
  generalize 0 + 4 = T0 at *
  generalize (2 : Int) ^ L = S at *
  have HB := Lib.hid hb
  have HI := Lib.hid h
  have HZ := Lib.hid hz
  have HF := Lib.hid hfst
  have HX0 := Lib.hid hX0
  have HV0 := Lib.hid hV0
  have HT0 := Lib.hid ht0
  have HOK := Lib.hid ok
  have hgl := blk_lt hb
  clear hb h hz hfst hX0 hV0 ht0 ok
  go_enter Try.func32, Try.ntmps32
  go_wp2_with (go_at_call 49; (with_reducible refine (HF.out _ (blk_alloc HB.out _)).mono ?_); rintro e w1 ⟨rfl, hb1, hg1⟩)
  have kd := blk_grown (blk_new w 24 #[.int .i64 (L : Int), .slice (some ⟨b, off, none⟩) ps.length cap]) hg1 (by omega)
  have hgw := grown_trans (grown_alloc (grown_refl w (some g)) (.cells #[.int .i64 (L : Int), .slice (some ⟨b, off, none⟩) ps.length cap] 24)) hg1
  have y0 := blk_cell kd 0
  have y1 := blk_cell kd 1
  have KD := Lib.hid kd
  have HGW := Lib.hid hgw
  have HB1 := Lib.hid hb1
  clear kd hgw hg1 hb1
  have k0 := Lib.hid (show w1.drew.cell? ⟨w.heap.size, 0, none⟩ = some (.int .i64 (L : Int)) ∧ w1.drew.cell? ⟨w.heap.size, 1, none⟩ = some (.slice (some ⟨b, off, none⟩) ps.length cap) from ⟨y0, y1⟩)
  have k1 := k0
  have m1 := Lib.hid ((Below.refl w1.heap.size w1).drew)
  go_region_held3 (fun w' => w'.cell? ⟨w.heap.size, 0, none⟩ = some (.int .i64 (L : Int)) ∧ w'.cell? ⟨w.heap.size, 1, none⟩ = some (.slice (some ⟨b, off, none⟩) ps.length cap))
      (first | (with_reducible exact k0.out) | (with_reducible exact k1.out))
      (first
        | (go_at_call 13; (with_reducible refine (HZ.out _).mono ?_); rintro r w2 ⟨rfl, hb2⟩; have k1 := Lib.hid (two_below k1.out hb2); have m1 := Lib.hid (bel_call m1.out hb2); clear hb2)
        | (go_at_call 48; (with_reducible refine (pointsOf_at _ _).mono ?_); rintro r w3 ⟨gl, rfl, kl, hgl2, hb2⟩; have k1 := Lib.hid (two_below k1.out hb2); have HL := Lib.hid kl; have HLS := Lib.hid (Nat.le_trans m1.out.size hgl2); have m1 := Lib.hid (bel_call m1.out hb2); clear hb2 hgl2 kl))
  have hb3 := blk_below HB1.out m1.out (blk_lt HB1.out)
  have hd3 := blk_below KD.out m1.out (blk_lt KD.out)
  have hr3 := grown_trans HGW.out (grown_below m1.out (some g))
  have hgs := HGW.out.size
  have hws := Nat.lt_of_lt_of_le (blk_lt KD.out) HLS.out
  have hggl : g ≠ gl := by have := HLS.out; omega
  have st0 := Lib.hid (show Ds w g gl (.slice (some ⟨b, off, none⟩) ps.length cap) L w3 X0 T0 S from ⟨hb3, HL.out, hd3, hr3⟩)
  clear hb3 hd3 hr3 k1 k0 m1 HL KD HGW HB1 y0 y1 HZ HF hgs HLS HB
  go_wp2
  go_loopw [4, 6] (fun l i wr => ∃ (k T X : Nat) (left : Int), k ≤ ps.length ∧ left ≤ 4096 ∧ l = .int .i64 left ∧ i = .int .i64 (k : Int) ∧ Hid (X < 2 ^ T) ∧ Hid (V2 X T (desc none left (ps.drop k)) = V') ∧ Hid (T + totP (desc none left (ps.drop k)) = t') ∧ Hid (okP left (ps.drop k)) ∧ Hid (Ds w g gl (.slice (some ⟨b, off, none⟩) ps.length cap) L wr X T left)) (fun _ i _ => ps.length - (intOf i).toNat)
  case atStart => exact ⟨0, T0, X0, S, by omega, by omega, rfl, rfl, HX0, HV0, HT0, HOK, st0⟩
  case round =>
    obtain ⟨k, T, X, left, hk, hle, rfl, rfl, hX, hV, hT, hok, st⟩ := hrel
    by_cases hlt : k < ps.length
    · have e := drop_getD ps k hlt
      have o1 := hok.out
      have q1 := hV.out
      have q2 := hT.out
      rw [e] at o1 q1 q2
      obtain ⟨p1, p2, p3, p4, p5⟩ := okP_cons o1
      have pp := pt_pos p1
      have pb : pt (ps.getD k 0) ≤ 4096 := by unfold pt; split <;> omega
      have pf := enc_fits p3 hle p1 p2
      simp only [desc, totP] at q1 q2
      rw [V2_cons] at q1
      obtain ⟨y0, y1, y2⟩ := st.out.cells HI.out hB hBs hlt
      have hP := wprob_c g X T left (ps.getD k 0) p3 hle p1 p2 hX.out (by omega) wr st.out.a
      have hX1 := Lib.hid (wr_next (n := (enc left (ps.getD k 0)).1) hX.out pf.2.2)
      unfold WrLeft at hP
      have hTk : ∀ u X2 T2, Ds w g gl (.slice (some ⟨b, off, none⟩) ps.length cap) L u X2 T2 left → Calls Try.prog 67 #[.int .i64 (ps.getD k 0), .pointer (some ⟨gl, 0, none⟩)] u fun e w' => e = .returned (.int .i64 (left - pt (ps.getD k 0))) ∧ w' = u.setCell ⟨gl, 0, none⟩ (.int .i64 (left - pt (ps.getD k 0))) := fun u X2 T2 hu => taken_c gl left (ps.getD k 0) (by omega) (by omega) u hu.c
      have hnext := Lib.hid (fun (u u' : World) (X2 T2 X3 T3 : Nat) (hu : Ds w g gl (.slice (some ⟨b, off, none⟩) ps.length cap) L u X2 T2 left) => hu.next (w' := u') (X' := X3) (T' := T3) hggl)
      have hcl := Lib.hid (fun (u : World) (X2 T2 : Nat) (l2 : Int) (hu : Ds w g gl (.slice (some ⟨b, off, none⟩) ps.length cap) L u X2 T2 l2) => hu.cells HI.out hB hBs hlt)
      have HK := Lib.hid hTk
      generalize hX1e : X + (enc left (ps.getD k 0)).2 * 2 ^ T = X1 at *
      generalize hT1e : T + (enc left (ps.getD k 0)).1 = T1 at *
      have hle2 : left - pt (ps.getD k 0) ≤ 4096 := by omega
      have hT1 : T1 ≤ 6000 := by omega
      have p5 := fun h => (p5 h).1
      clear hX hV hT hok o1 pf hTk e hX1e
      by_cases hx0 : ps.getD k 0 = 0
      · rw [if_pos hx0, desc_zeros, Nat.zero_add] at q1 q2
        rw [V2_append] at q1
        rw [totP_append] at q2
        rw [hx0, show pt 0 = 0 from rfl, Int.sub_zero] at p4
        have hne : ps.drop (k + 1) ≠ [] := p5 hx0
        have hzr := okP_zr p4 hne
        have hok2 := okP_drop (zr (ps.drop (k + 1))) p4 (Nat.le_refl _)
        rw [List.drop_drop] at q1 q2 hok2
        have hlen : (ps.drop (k + 1)).length = ps.length - (k + 1) := List.length_drop
        rw [hlen] at hzr
        have hZ : ∀ u, Ds w g gl (.slice (some ⟨b, off, none⟩) ps.length cap) L u X1 T1 left → Calls Try.prog 51 #[.pointer (some ⟨g, 0, none⟩), .slice (some ⟨b, off + (k + 1), none⟩) (ps.length - (k + 1)) (cap - (k + 1))] u (WrLeft g (V2 X1 T1 (zerosP (zr (ps.drop (k + 1))))) (T1 + totP (zerosP (zr (ps.drop (k + 1))))) (.int .i64 (zr (ps.drop (k + 1)) : Nat)) u) := fun u hu =>
          wzeros_c g X1 T1 (some ⟨b, off + (k + 1), none⟩) (ps.length - (k + 1)) (cap - (k + 1)) B (ps.drop (k + 1)) hlen (by omega) hzr hX1.out (by omega) u hu.a hB (ints_drop (ints_grown HI.out hu.r hB hBs) (by omega) (k + 1))
        have hX2 := Lib.hid (V2_lt hX1.out (zerosP_fits (zr (ps.drop (k + 1)))))
        unfold WrLeft at hZ
        generalize zr (ps.drop (k + 1)) = z at *
        generalize V2 X1 T1 (zerosP z) = X2 at *
        generalize hT2 : T1 + totP (zerosP z) = T2 at *
        have Q1 := Lib.hid q1
        have Q2 := Lib.hid (show T2 + totP (desc none left (ps.drop (k + 1 + z))) = t' by omega)
        have Q3 := Lib.hid hok2
        have HZ := Lib.hid hZ
        have HHT := Lib.hid hT2
        have HH1 := Lib.hid hT1e
        clear q1 q2 p4 hok2 hlen hne p5 hZ hT2 hT1e
        generalize ps.getD k 0 = x at *
        subst hx0
        rw [show pt 0 = 0 from rfl, Int.sub_zero] at *
        go_wp2_with (first
          | (go_at_call 50; (with_reducible refine hP.mono ?_); rintro e w4 ⟨rfl, hb4, hg4⟩; have s4 := Lib.hid (hnext.out _ _ _ _ _ _ st.out hgl hb4 hg4); obtain ⟨y0, y1, y2⟩ := hcl.out _ _ _ _ s4.out; clear hb4 hg4)
          | (go_at_call 67; (with_reducible refine (HK.out _ _ _ s4.out).mono ?_); rintro e w5 ⟨rfl, rfl⟩; have s5 := Lib.hid (s4.out.take hggl hws left); obtain ⟨y0, y1, y2⟩ := hcl.out _ _ _ _ s5.out)
          | (go_at_call 51; (with_reducible refine (HZ.out _ s5.out).mono ?_); rintro e w6 ⟨rfl, hb6, hg6⟩; have s6 := Lib.hid (hnext.out _ _ _ _ _ _ s5.out hgl hb6 hg6); clear hb6 hg6))
        go_roundw
        case rel => exact ⟨k + 1 + z, T2, X2, left, by omega, by omega, rfl, by go_num, hX2, Q1, Q2, Q3, s6⟩
        case measure => simp [intOf]; omega
      · rw [if_neg hx0] at q1 q2
        have hxb : (ps.getD k 0 == 0) = false := by simpa using hx0
        have Q1 := Lib.hid q1
        have Q2 := Lib.hid (show T1 + totP (desc none (left - pt (ps.getD k 0)) (ps.drop (k + 1))) = t' by omega)
        have Q3 := Lib.hid p4
        clear q1 q2 hx0 p4 p5 hT1e
        generalize hgx : ps.getD k 0 = x at *
        generalize pt x = q at *
        clear hgx
        go_wp2_with (first
          | (go_at_call 50; (with_reducible refine hP.mono ?_); rintro e w4 ⟨rfl, hb4, hg4⟩; have s4 := Lib.hid (hnext.out _ _ _ _ _ _ st.out hgl hb4 hg4); obtain ⟨y0, y1, y2⟩ := hcl.out _ _ _ _ s4.out; clear hb4 hg4)
          | (go_at_call 67; (with_reducible refine (HK.out _ _ _ s4.out).mono ?_); rintro e w5 ⟨rfl, rfl⟩; have s5 := Lib.hid (s4.out.take hggl hws (left - q)); obtain ⟨y0, y1, y2⟩ := hcl.out _ _ _ _ s5.out))
        go_roundw
        case rel => exact ⟨k + 1, T1, X1, left - q, by omega, by omega, rfl, by go_num, hX1, Q1, Q2, Q3, s5⟩
        case measure => simp [intOf]; omega
    · obtain rfl : k = ps.length := by omega
      have q1 := hV.out
      have q2 := hT.out
      rw [List.drop_length] at q1 q2
      simp only [desc, V2_nil, totP, Nat.add_zero] at q1 q2
      subst q1
      subst q2
      obtain ⟨y0, y1⟩ : wr.cell? ⟨w.heap.size, 0, none⟩ = some (.int .i64 L) ∧ wr.cell? ⟨w.heap.size, 1, none⟩ = some (.slice (some ⟨b, off, none⟩) ps.length cap) := ⟨blk_cell st.out.d 0, blk_cell st.out.d 1⟩
      clear hV hT hok hX
      go_wp2
      go_end0
      exact ⟨rfl, st.out.a, st.out.r⟩
end Go.Proofs.Ytaohhijjalcbiaa
