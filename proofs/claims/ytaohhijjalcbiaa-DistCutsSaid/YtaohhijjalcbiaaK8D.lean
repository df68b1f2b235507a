/-
  The kit: distributions made of numbers.
-/
import Derived.Test.YtaohhijjalcbiaaO8F
import Derived.Test.YtaohhijjalcbiaaModK
import Derived.Test.YtaohhijjalcbiaaApn
namespace Go.Proofs.Ytaohhijjalcbiaa
open Go.ChangeShapes Go.WideShapes Go.ChangeAt Go.RowKit
set_option linter.unusedVariables false
set_option linter.unusedSimpArgs false

theorem at0_c (A : Option Addr) (n cap B : Nat) (xs : List Int) (w : World) (hl : xs.length = n) (h : IntsAt w B A xs) :
    Calls Try.prog 47 #[.slice A n cap, .int .i64 0] w fun e w' => e = .returned (.int .i64 (xs.getD 0 0)) ∧ w = w' := by
  subst hl
  by_cases h0 : xs.length = 0
  · have e : xs.getD 0 0 = 0 := by rw [List.eq_nil_of_length_eq_zero h0]; rfl
    rw [e]
    have hb : decide ((xs.length : Int) ≤ 0) = true := decide_eq_true (by omega)
    clear h e
    go_enter Try.func47, Try.ntmps47
    go_wp2
    go_ret
    exact ⟨rfl, rfl⟩
  · obtain ⟨b, off, rfl, _, hc⟩ := h (by omega)
    have hc0 : w.cell? ⟨b, off, none⟩ = some (.int .i64 (xs.getD 0 0)) := hc 0 (by omega)
    clear hc h
    generalize xs.getD 0 0 = x at *
    go_enter Try.func47, Try.ntmps47
    go_wp2
    go_ret
    exact ⟨rfl, rfl⟩

/-- a distribution while it is made -/
structure Kd (w0 wr : World) (L : Int) (v : Value) (xs : List Int) : Prop where
  a : Blk wr (w0.heap.size + 1) 24 #[.int .i64 L, v]
  z : Blk wr w0.heap.size 24 #[.int .i64 0, .slice none 0 0]
  o : wr.ownsRow (w0.heap.size + 2) 3 1 v xs.length (xs.map (Value.int .i64))
  r : Below w0.heap.size w0 wr
  s : w0.heap.size + 2 ≤ wr.heap.size
theorem kd_add {w0 wr w' : World} {L : Int} {v v' : Value} {xs : List Int} {x : Int} (h : Kd w0 wr L v xs)
    (h1 : w'.ownsRow (w0.heap.size + 2) 3 1 v' (xs.length + 1) ((xs ++ [x]).map (Value.int .i64))) (h2 : (wr.alloc (.cells #[.int .i64 x] 3)).grownBy w' v.ownBlock) :
    Blk w' (w0.heap.size + 1) 24 #[.int .i64 L, v] ∧ Kd w0 (w'.setCell ⟨w0.heap.size + 1, 1, none⟩ v') L v' (xs ++ [x]) := by
  have hs : (wr.alloc (.cells #[.int .i64 x] 3)).heap.size = wr.heap.size + 1 := by simp
  have hsz := h2.size
  have h3 := h.s
  rw [hs] at hsz
  have hne : ∀ k, k < w0.heap.size + 2 → v.ownBlock ≠ some k := fun k hk e => by have := (h.o.lt k e).1; omega
  have hbl : ∀ k t cs, Blk wr k t cs → k < w0.heap.size + 2 → Blk w' k t cs := fun k t cs hb hk => (h2.block k (by rw [hs]; have := blk_lt hb; omega) (fun e => hne k hk e.symm)).trans (blk_alloc hb _)
  have hb := hbl _ _ _ h.a (by omega)
  refine ⟨hb, ⟨blk_set hb 1 v', blk_far (hbl _ _ _ h.z (by omega)) (by show w0.heap.size ≠ w0.heap.size + 1; omega) _, ?_, ?_, by simp [World.setCell]; omega⟩⟩
  · have e : (xs ++ [x]).length = xs.length + 1 := by simp
    rw [e]
    refine h1.kept (grown_set (grown_refl w' (some (w0.heap.size + 1))) 1 v') ?_
    rcases hv : v'.ownBlock with _ | k
    · exact .inl rfl
    · refine .inr (fun e => ?_)
      have a := (h1.lt k hv).1
      have b : k = w0.heap.size + 1 := by simpa using e
      omega
  · refine Below.setCell ⟨h2.os.trans h.r.os, h2.tape.trans h.r.tape, h2.output.trans h.r.output, by have := h.r.size; omega, fun k hk => ?_⟩ (by show w0.heap.size ≤ w0.heap.size + 1; omega) _
    have hr := h.r.size
    exact (h2.block k (by rw [hs]; omega) (fun e => hne k (by omega) e.symm)).trans ((Below.heap_alloc wr _ k (by omega)).trans (h.r.block k hk))
theorem pts_app : ∀ (a b : List Int), pts (a ++ b) = pts a + pts b
  | [], b => by simp [pts]
  | p :: r, b => by simp only [List.cons_append, pts, pts_app r b]; omega
theorem own_ints8 {w : World} {base n : Nat} {v : Value} {xs : List Int} (h : w.ownsRow base 3 1 v n (xs.map (Value.int .i64))) : ∃ A c, v = .slice A xs.length c ∧ xs.length ≤ c ∧ ∀ w' : World, (∀ k, base ≤ k → k < w.heap.size → w'.heap[k]? = w.heap[k]?) → w.heap.size ≤ w'.heap.size → IntsAt w' w'.heap.size A xs := by
  have hn : xs.length = n := by simpa using h.1
  subst hn
  rcases h.2 with ⟨rfl, h0⟩ | ⟨g, cap, cur, rfl, hb, hg, hc, _, _, _⟩
  · exact ⟨none, 0, by rw [h0], by omega, fun _ _ _ h1 => absurd h1 (by omega)⟩
  · have hgs : g < w.heap.size := by
      rcases Nat.lt_or_ge g w.heap.size with hlt | hge
      · exact hlt
      · rw [Array.getElem?_eq_none hge] at hg; cases hg
    refine ⟨_, _, rfl, hc, fun w' hw hs _ => ⟨g, 0, rfl, by omega, fun k hk => ?_⟩⟩
    have e : w'.cell? ⟨g, 0 + k, none⟩ = w.cell? ⟨g, 0 + k, none⟩ := by simp only [World.cell?, hw g hb hgs]
    rw [e, Nat.zero_add, h.cellAt k (by omega)]
    simp [List.getD, hk]
theorem Kd.slice {w0 wr : World} {L : Int} {v : Value} {xs : List Int} (h : Kd w0 wr L v xs) : ∃ A c, v = .slice A xs.length c ∧ xs.length ≤ c := by
  rcases h.o.2 with ⟨rfl, h0⟩ | ⟨g, cap, cur, rfl, _, _, hc, _⟩
  · exact ⟨none, 0, by rw [h0], by omega⟩
  · exact ⟨_, _, rfl, hc⟩

theorem kd_res {w0 wq : World} {L : Int} {v : Value} {xs : List Int} (h : Kd w0 (wq.setCell ⟨w0.heap.size + 1, 1, none⟩ v) L v xs) : wq.cell? ⟨w0.heap.size, 0, none⟩ = some (.int .i64 0) ∧ wq.cell? ⟨w0.heap.size, 1, none⟩ = some (.slice none 0 0) := by
  have e := Below.heap_setCell wq ⟨w0.heap.size + 1, 1, none⟩ v w0.heap.size (show w0.heap.size ≠ w0.heap.size + 1 by omega)
  have hz : Blk wq w0.heap.size 24 #[.int .i64 0, .slice none 0 0] := e.symm.trans h.z
  exact ⟨blk_cell hz 0, blk_cell hz 1⟩
theorem kd_res_f {w0 wq : World} {L : Int} {v : Value} {xs : List Int} (h : Kd w0 (wq.setCell ⟨w0.heap.size + 1, 1, none⟩ v) L v xs) : wq.frozen? ⟨w0.heap.size, 0, none⟩ = false ∧ wq.frozen? ⟨w0.heap.size, 1, none⟩ = false := by
  have e := Below.heap_setCell wq ⟨w0.heap.size + 1, 1, none⟩ v w0.heap.size (show w0.heap.size ≠ w0.heap.size + 1 by omega)
  have hz : Blk wq w0.heap.size 24 #[.int .i64 0, .slice none 0 0] := e.symm.trans h.z
  exact ⟨blk_frozen hz 0, blk_frozen hz 1⟩
theorem kd_own {w0 wr : World} {L : Int} {v : Value} {xs : List Int} (h : Kd w0 wr L v xs) : ∃ A c, v = .slice A xs.length c ∧ xs.length ≤ c ∧ ∀ w' : World, (∀ k, w0.heap.size + 2 ≤ k → k < wr.heap.size → w'.heap[k]? = wr.heap[k]?) → wr.heap.size ≤ w'.heap.size → IntsAt w' w'.heap.size A xs := own_ints8 h.o
theorem kd_ok {S t p : Int} {ps : List Int} (h : pts ps + t = S ∧ ∀ q ∈ ps, -1 ≤ q) (hp : -1 ≤ p) : pts (ps ++ [p]) + (t - pt p) = S ∧ ∀ q ∈ ps ++ [p], -1 ≤ q := by
  refine ⟨?_, fun q hq => ?_⟩
  · rw [pts_app]
    simp only [pts]
    omega
  · rcases List.mem_append.1 hq with h1 | h1
    · exact h.2 q h1
    · rw [List.mem_singleton.1 h1]; exact hp
theorem mem_getDk {ps : List Int} {k : Nat} (h : k < ps.length) : ps.getD k 0 ∈ ps := by
  have e : ps.getD k 0 = ps[k] := by simp [List.getD, h]
  rw [e]; exact List.getElem_mem h
/-- what comes of numbers -/
def DistLeft (w : World) (e : Ending) (w' : World) : Prop := ∃ (L : Nat) (ps : List Int) (A : Option Addr) (c : Nat), e = .returned (.agg #[.int .i64 (L : Int), .slice A ps.length c]) ∧ 5 ≤ L ∧ L ≤ 8 ∧ okP (2 ^ L) ps ∧ 1 ≤ ps.length ∧ ps.length ≤ 31 ∧ ps.length ≤ c ∧ IntsAt w' w'.heap.size A ps ∧ Below w.heap.size w w'

theorem dist_done {w w1 : World} {L : Nat} {S t : Int} {ps : List Int} {A' A2 : Option Addr} {c' c2 : Nat} {x y : Value} (h5 : 5 ≤ L) (h8 : L ≤ 8) (hS : (2 : Int) ^ L = S) (h1 : pts ps + t = S) (h2 : ∀ q ∈ ps, -1 ≤ q) (ht : 1 ≤ t) (hl : ps.length ≤ 30) (hc : ps.length + 1 ≤ c')
    (hB : Below w.heap.size w w1) (hv : Value.slice A' (ps.length + 1) c' = .slice A2 (ps ++ [t]).length c2)
    (hI : ∀ w' : World, (∀ k, w.heap.size + 2 ≤ k → k < w1.heap.size → w'.heap[k]? = w1.heap[k]?) → w1.heap.size ≤ w'.heap.size → IntsAt w' w'.heap.size A2 (ps ++ [t])) :
    DistLeft w (.returned (.agg #[.int .i64 (L : Int), .slice A' (ps.length + 1) c'])) ((w1.setCell ⟨w.heap.size, 0, none⟩ x).setCell ⟨w.heap.size, 1, none⟩ y) := by
  simp only [List.length_append, List.length_singleton, Value.slice.injEq] at hv
  obtain ⟨rfl, _, rfl⟩ := hv
  have hk := kd_ok (p := t) ⟨h1, h2⟩ (by omega)
  have hpt : pt t = t := by unfold pt; rw [if_neg (by omega)]
  refine ⟨L, ps ++ [t], A', c', by rw [List.length_append]; rfl, h5, h8, ⟨hk.2, ?_, .inr ?_⟩, by simp, by simp; omega, by simpa using hc, hI _ (fun k hk hks => ?_) (by simp [World.setCell]), (hB.setCell (Nat.le_refl _) _).setCell (Nat.le_refl _) _⟩
  · have := hk.1
    rw [hpt] at this
    rw [hS]; omega
  · rw [List.getLast?_concat]
    intro e
    have : t = 0 := by simpa using e
    omega
  · rw [Below.heap_setCell _ _ _ k (by show k ≠ w.heap.size; omega), Below.heap_setCell _ _ _ k (by show k ≠ w.heap.size; omega)]
set_option maxHeartbeats 2000000 in
theorem kitDist_c (A : Option Addr) (n cap : Nat) (xs : List Int) (w : World) (hl : xs.length = n) (hn : n ≤ 9223372036854775807) (h : IntsAt w w.heap.size A xs) (hr : ∀ x ∈ xs, -9223372036854775808 ≤ x ∧ x ≤ 9223372036854775807) :
    Calls Try.prog 26 #[.slice A n cap] w (DistLeft w) := by
  subst hl
  have hx0 : -9223372036854775808 ≤ xs.getD 0 0 ∧ xs.getD 0 0 ≤ 9223372036854775807 := by
    by_cases h0 : 0 < xs.length
    · have e : xs.getD 0 0 = xs[0] := by simp [List.getD, h0]
      rw [e]; exact hr _ (List.getElem_mem h0)
    · have e : xs = [] := List.eq_nil_of_length_eq_zero (by omega)
      rw [e]; decide
  have hAt := fun u (hu : Below w.heap.size w u) => at0_c A xs.length cap w.heap.size xs u rfl (h.below hu)
  generalize xs.getD 0 0 = x0 at *
  have hM := mod_any x0 4 hx0.1 hx0.2 (by omega) (by omega)
  have hL1 : 0 ≤ x0 % 4 := by omega
  have hL2 : x0 % 4 ≤ 3 := by omega
  obtain ⟨L, hL⟩ : ∃ L : Nat, (L : Int) = 5 + x0 % 4 := ⟨(5 + x0 % 4).toNat, by omega⟩
  have hL5 : 5 ≤ L := by omega
  have hL8 : L ≤ 8 := by omega
  generalize x0 % 4 = r0 at *
  have hLe : r0 = (L : Int) - 5 := by omega
  clear hL
  subst hLe
  have hS1 : (2 : Int) ^ L ≤ 256 := by
    have a : (2 : Nat) ^ L ≤ 2 ^ 8 := Nat.pow_le_pow_right (by omega) hL8
    have := pow_cast L
    omega
  have hS2 : 32 ≤ (2 : Int) ^ L := by
    have a : (2 : Nat) ^ 5 ≤ 2 ^ L := Nat.pow_le_pow_right (by omega) hL5
    have := pow_cast L
    omega
  have hw := pow_wrap8 (L := L) (by omega)
  have HAT := Lib.hid hAt
  have HI := Lib.hid h
  have HR := Lib.hid hr
  clear hAt h hr
  generalize hSS : (2 : Int) ^ L = S at *
  have HSS := Lib.hid hSS
  have HW := Lib.hid (show Value.int .i64 (wrap64 ((2 : Int) ^ L)) = .int .i64 S by rw [hSS, hw])
  clear hSS hw
  have st0 := Lib.hid (show Kd w ((w.alloc (.cells #[.int .i64 0, .slice none 0 0] 24)).alloc (.cells #[.int .i64 (L : Int), .slice none 0 0] 24)) L (.slice none 0 0) [] from
    ⟨blk_new2 w _ 24 _, blk_alloc (blk_new w 24 _) _, World.ownsRow_nil _ _ _ _, bel_box (bel_box (Below.refl _ _) _) _, by simp⟩)
  have hLL : 5 + ((L : Int) - 5) = L := by omega
  go_enter Try.func26, Try.ntmps26
  go_wp2_with (first
    | (go_at_call 47; (with_reducible refine (HAT.out _ (bel_box (Below.refl _ _) _)).mono ?_); rintro e w1 ⟨rfl, rfl⟩)
    | (go_at_call 27; (with_reducible refine (hM _).mono ?_); rintro e w2 ⟨rfl, rfl⟩))
  generalize (w.alloc (.cells #[.int .i64 0, .slice none 0 0] 24)).alloc (.cells #[.int .i64 (L : Int), .slice none 0 0] 24) = W0 at *
  clear hM HAT hLL
  go_loopw [4, 5] (fun l i wr => ∃ (k : Nat) (t : Int) (ps : List Int) (v : Value), 1 ≤ k ∧ k ≤ 30 ∧ ps.length + 1 ≤ k ∧ 1 ≤ t ∧ t ≤ 256 ∧ True ∧ l = .int .i64 t ∧ i = .int .i64 (k : Int) ∧ Hid (pts ps + t = S ∧ ∀ p ∈ ps, -1 ≤ p) ∧ Hid (Kd w wr L v ps)) (fun _ i _ => 30 - (intOf i).toNat)
  case atStart => exact ⟨1, S, [], _, by omega, by omega, by simp, by omega, hS1, trivial, HW.out, rfl, Lib.hid ⟨by simp [pts], by simp⟩, st0⟩
  case round =>
    obtain ⟨k, t, ps, v, hk1, hk2, hpl, ht1, ht2, _, rfl, rfl, hok, st⟩ := hrel
    obtain ⟨A0, c0, rfl, hle0⟩ := st.out.slice
    have y0 := blk_cell st.out.a 0
    have y1 := blk_cell st.out.a 1
    have f0 := blk_frozen st.out.a 0
    have f1 := blk_frozen st.out.a 1
    have hbl := blk_lt st.out.a
    by_cases hgo : k < xs.length ∧ k < 30 ∧ 1 < t
    · obtain ⟨g1, g2, g3⟩ := hgo
      obtain ⟨b, off, hA, hb, hc⟩ := HI.out (by omega)
      subst hA
      have hcell := (st.out.r.cell (p := ⟨b, off + k, none⟩) hb).trans (hc k g1)
      have hz := HR.out (xs.getD k 0) (mem_getDk g1)
      clear hc
      generalize xs.getD k 0 = x at *
      have hM2 := mod_any x 1048576 hz.1 hz.2 (by omega) (by omega)
      have hr1 : 0 ≤ x % 1048576 := by omega
      have hr2 : x % 1048576 < 1048576 := by omega
      generalize x % 1048576 = r at *
      by_cases c0 : r % 4 = 0
      · have hc0 : (r % 4 == 0) = true := by simpa using c0
        clear c0
        have hpp := pt_pos (p := (-1)) (by omega)
        have hok2 := Lib.hid (show pts (ps ++ [(-1)]) + (t - pt (-1)) = S ∧ ∀ p ∈ ps ++ [(-1)], -1 ≤ p from kd_ok hok.out (by omega))
        have HQ := hok2
        go_wp2_with (first
          | (go_at_call 27; (with_reducible refine (hM2 _).mono ?_); rintro e w2 ⟨rfl, rfl⟩)
          | (at_builtin; refine append_one rfl (.tmp 52) (.tmp 54) rfl (w.heap.size + 2) (.slice A0 ps.length c0) ps.length ps ((-1)) rfl st.out.o rfl (by omega) st.out.s ?_; intro v' wq h1 h2; obtain ⟨q1, q2⟩ := kd_add st.out h1 h2; obtain ⟨A', c', rfl, hle⟩ := q2.slice; simp only [List.length_append, List.length_singleton] at q2 hle; have Q2 := Lib.hid q2; have j0 := blk_cell q1 0; have j1 := blk_cell q1 1; have m0 := blk_frozen q1 0; have m1 := blk_frozen q1 1; clear q1 q2 h1 h2))
        go_roundw
        case rel => exact ⟨k + 1, t - 1, ps ++ [(-1)], _, by omega, by omega, by simp; omega, by omega, by omega, by omega, rfl, by go_num, HQ, Q2⟩
        case measure => simp [intOf]; omega
      · by_cases c1 : r % 4 = 1
        · have hc0 : (r % 4 == 0) = false := by simpa using c0
          have hc1 : (r % 4 == 1) = true := by simpa using c1
          clear c0 c1
          have hpp := pt_pos (p := 0) (by omega)
          have hok2 := Lib.hid (show pts (ps ++ [0]) + (t - pt 0) = S ∧ ∀ p ∈ ps ++ [0], -1 ≤ p from kd_ok hok.out (by omega))
          have HQ : Hid (pts (ps ++ [0]) + t = S ∧ ∀ p ∈ ps ++ [(0 : Int)], -1 ≤ p) := Lib.hid (by have := hok2.out; rwa [show pt 0 = 0 from rfl, Int.sub_zero] at this)
          go_wp2_with (first
            | (go_at_call 27; (with_reducible refine (hM2 _).mono ?_); rintro e w2 ⟨rfl, rfl⟩)
            | (at_builtin; refine append_one rfl (.tmp 52) (.tmp 54) rfl (w.heap.size + 2) (.slice A0 ps.length c0) ps.length ps (0) rfl st.out.o rfl (by omega) st.out.s ?_; intro v' wq h1 h2; obtain ⟨q1, q2⟩ := kd_add st.out h1 h2; obtain ⟨A', c', rfl, hle⟩ := q2.slice; simp only [List.length_append, List.length_singleton] at q2 hle; have Q2 := Lib.hid q2; have j0 := blk_cell q1 0; have j1 := blk_cell q1 1; have m0 := blk_frozen q1 0; have m1 := blk_frozen q1 1; clear q1 q2 h1 h2))
          go_roundw
          case rel => exact ⟨k + 1, t, ps ++ [0], _, by omega, by omega, by simp; omega, by omega, by omega, by omega, rfl, by go_num, HQ, Q2⟩
          case measure => simp [intOf]; omega
        · have hc0 : (r % 4 == 0) = false := by simpa using c0
          have hc1 : (r % 4 == 1) = false := by simpa using c1
          have hm : (t < 40 ∧ min t 40 = t) ∨ t = 40 ∨ (40 < t ∧ min t 40 = 40) := by omega
          rcases hm with ⟨hm1, hm2⟩ | hm1 | ⟨hm1, hm2⟩
          · have hq0 := Int.emod_nonneg (r / 4) (show t ≠ 0 by omega)
            have hq1 := Int.emod_lt_of_pos (r / 4) (show 0 < t by omega)
            clear c0 c1 hm2
            by_cases hbr : t ≤ 1 + r / 4 % t
            · skip
              go_wp2_with (first | (go_at_call 27; (with_reducible refine (hM2 _).mono ?_); rintro e w2 ⟨rfl, rfl⟩) | (at_builtin; refine append_one rfl (.tmp 63) (.tmp 65) rfl (w.heap.size + 2) (.slice A0 ps.length c0) ps.length ps t rfl st.out.o rfl (by omega) st.out.s ?_; intro v' wq h1 h2; obtain ⟨q1, q2⟩ := kd_add st.out h1 h2; obtain ⟨A', c', rfl, hle⟩ := q2.slice; simp only [List.length_append, List.length_singleton] at q2 hle; have Q2 := Lib.hid q2; have j0 := blk_cell q1 0; have j1 := blk_cell q1 1; have m0 := blk_frozen q1 0; have m1 := blk_frozen q1 1; obtain ⟨n0, n1⟩ : wq.cell? ⟨w.heap.size, 0, none⟩ = some (.int .i64 0) ∧ wq.cell? ⟨w.heap.size, 1, none⟩ = some (.slice none 0 0) := kd_res Q2.out; obtain ⟨m2, m3⟩ : wq.frozen? ⟨w.heap.size, 0, none⟩ = false ∧ wq.frozen? ⟨w.heap.size, 1, none⟩ = false := kd_res_f Q2.out; clear q1 q2 h1 h2))
              have k3 := blk_set (blk_set Q2.out.z 0 (.int .i64 (L : Int))) 1 (.slice A' (ps.length + 1) c')
              have r0 := blk_cell k3 0
              have r1 := blk_cell k3 1
              refine bodyPost_ret (v := .agg #[.int .i64 (L : Int), .slice A' (ps.length + 1) c']) (by simp [results, Try.results26, go_sem, r0, r1]) rfl ?_
              obtain ⟨A2, c2, hv, hlc, hII⟩ := kd_own Q2.out
              exact dist_done hL5 hL8 HSS.out hok.out.1 hok.out.2 ht1 (by omega) hle Q2.out.r hv hII
            · skip
              have hpp := pt_pos (p := (1 + r / 4 % t)) (by omega)
              have hok2 := Lib.hid (show pts (ps ++ [(1 + r / 4 % t)]) + (t - pt (1 + r / 4 % t)) = S ∧ ∀ p ∈ ps ++ [(1 + r / 4 % t)], -1 ≤ p from kd_ok hok.out (by omega))
              have hpt : pt (1 + r / 4 % t) = (1 + r / 4 % t) := by unfold pt; rw [if_neg (by omega)]
              have HQ : Hid (pts (ps ++ [(1 + r / 4 % t)]) + (t - (1 + r / 4 % t)) = S ∧ ∀ p ∈ ps ++ [(1 + r / 4 % t)], -1 ≤ p) := Lib.hid (by have := hok2.out; rwa [hpt] at this)
              clear hpt hpp
              go_wp2_with (first
                | (go_at_call 27; (with_reducible refine (hM2 _).mono ?_); rintro e w2 ⟨rfl, rfl⟩)
                | (at_builtin; refine append_one rfl (.tmp 52) (.tmp 54) rfl (w.heap.size + 2) (.slice A0 ps.length c0) ps.length ps ((1 + r / 4 % t)) rfl st.out.o rfl (by omega) st.out.s ?_; intro v' wq h1 h2; obtain ⟨q1, q2⟩ := kd_add st.out h1 h2; obtain ⟨A', c', rfl, hle⟩ := q2.slice; simp only [List.length_append, List.length_singleton] at q2 hle; have Q2 := Lib.hid q2; have j0 := blk_cell q1 0; have j1 := blk_cell q1 1; have m0 := blk_frozen q1 0; have m1 := blk_frozen q1 1; clear q1 q2 h1 h2))
              go_roundw
              case rel => exact ⟨k + 1, t - (1 + r / 4 % t), ps ++ [(1 + r / 4 % t)], _, by omega, by omega, by simp; omega, by omega, by omega, by omega, rfl, by go_num, HQ, Q2⟩
              case measure => simp [intOf]; omega
          · subst hm1
            have hq0 : 0 ≤ r / 4 % 40 := by omega
            have hq1 : r / 4 % 40 < 40 := by omega
            clear c0 c1
            by_cases hbr : 40 ≤ 1 + r / 4 % 40
            · skip
              go_wp2_with (first | (go_at_call 27; (with_reducible refine (hM2 _).mono ?_); rintro e w2 ⟨rfl, rfl⟩) | (at_builtin; refine append_one rfl (.tmp 63) (.tmp 65) rfl (w.heap.size + 2) (.slice A0 ps.length c0) ps.length ps 40 rfl st.out.o rfl (by omega) st.out.s ?_; intro v' wq h1 h2; obtain ⟨q1, q2⟩ := kd_add st.out h1 h2; obtain ⟨A', c', rfl, hle⟩ := q2.slice; simp only [List.length_append, List.length_singleton] at q2 hle; have Q2 := Lib.hid q2; have j0 := blk_cell q1 0; have j1 := blk_cell q1 1; have m0 := blk_frozen q1 0; have m1 := blk_frozen q1 1; obtain ⟨n0, n1⟩ : wq.cell? ⟨w.heap.size, 0, none⟩ = some (.int .i64 0) ∧ wq.cell? ⟨w.heap.size, 1, none⟩ = some (.slice none 0 0) := kd_res Q2.out; obtain ⟨m2, m3⟩ : wq.frozen? ⟨w.heap.size, 0, none⟩ = false ∧ wq.frozen? ⟨w.heap.size, 1, none⟩ = false := kd_res_f Q2.out; clear q1 q2 h1 h2))
              have k3 := blk_set (blk_set Q2.out.z 0 (.int .i64 (L : Int))) 1 (.slice A' (ps.length + 1) c')
              have r0 := blk_cell k3 0
              have r1 := blk_cell k3 1
              refine bodyPost_ret (v := .agg #[.int .i64 (L : Int), .slice A' (ps.length + 1) c']) (by simp [results, Try.results26, go_sem, r0, r1]) rfl ?_
              obtain ⟨A2, c2, hv, hlc, hII⟩ := kd_own Q2.out
              exact dist_done hL5 hL8 HSS.out hok.out.1 hok.out.2 ht1 (by omega) hle Q2.out.r hv hII
            · skip
              have hpp := pt_pos (p := (1 + r / 4 % 40)) (by omega)
              have hok2 := Lib.hid (show pts (ps ++ [(1 + r / 4 % 40)]) + (40 - pt (1 + r / 4 % 40)) = S ∧ ∀ p ∈ ps ++ [(1 + r / 4 % 40)], -1 ≤ p from kd_ok hok.out (by omega))
              have hpt : pt (1 + r / 4 % 40) = (1 + r / 4 % 40) := by unfold pt; rw [if_neg (by omega)]
              have HQ : Hid (pts (ps ++ [(1 + r / 4 % 40)]) + (40 - (1 + r / 4 % 40)) = S ∧ ∀ p ∈ ps ++ [(1 + r / 4 % 40)], -1 ≤ p) := Lib.hid (by have := hok2.out; rwa [hpt] at this)
              clear hpt hpp
              go_wp2_with (first
                | (go_at_call 27; (with_reducible refine (hM2 _).mono ?_); rintro e w2 ⟨rfl, rfl⟩)
                | (at_builtin; refine append_one rfl (.tmp 52) (.tmp 54) rfl (w.heap.size + 2) (.slice A0 ps.length c0) ps.length ps ((1 + r / 4 % 40)) rfl st.out.o rfl (by omega) st.out.s ?_; intro v' wq h1 h2; obtain ⟨q1, q2⟩ := kd_add st.out h1 h2; obtain ⟨A', c', rfl, hle⟩ := q2.slice; simp only [List.length_append, List.length_singleton] at q2 hle; have Q2 := Lib.hid q2; have j0 := blk_cell q1 0; have j1 := blk_cell q1 1; have m0 := blk_frozen q1 0; have m1 := blk_frozen q1 1; clear q1 q2 h1 h2))
              go_roundw
              case rel => exact ⟨k + 1, 40 - (1 + r / 4 % 40), ps ++ [(1 + r / 4 % 40)], _, by omega, by omega, by simp; omega, by omega, by omega, by omega, rfl, by go_num, HQ, Q2⟩
              case measure => simp [intOf]; omega
          · have hq0 : 0 ≤ r / 4 % 40 := by omega
            have hq1 : r / 4 % 40 < 40 := by omega
            clear c0 c1 hm2
            have hpp := pt_pos (p := (1 + r / 4 % 40)) (by omega)
            have hok2 := Lib.hid (show pts (ps ++ [(1 + r / 4 % 40)]) + (t - pt (1 + r / 4 % 40)) = S ∧ ∀ p ∈ ps ++ [(1 + r / 4 % 40)], -1 ≤ p from kd_ok hok.out (by omega))
            have hpt : pt (1 + r / 4 % 40) = (1 + r / 4 % 40) := by unfold pt; rw [if_neg (by omega)]
            have HQ : Hid (pts (ps ++ [(1 + r / 4 % 40)]) + (t - (1 + r / 4 % 40)) = S ∧ ∀ p ∈ ps ++ [(1 + r / 4 % 40)], -1 ≤ p) := Lib.hid (by have := hok2.out; rwa [hpt] at this)
            clear hpt hpp
            go_wp2_with (first
              | (go_at_call 27; (with_reducible refine (hM2 _).mono ?_); rintro e w2 ⟨rfl, rfl⟩)
              | (at_builtin; refine append_one rfl (.tmp 52) (.tmp 54) rfl (w.heap.size + 2) (.slice A0 ps.length c0) ps.length ps ((1 + r / 4 % 40)) rfl st.out.o rfl (by omega) st.out.s ?_; intro v' wq h1 h2; obtain ⟨q1, q2⟩ := kd_add st.out h1 h2; obtain ⟨A', c', rfl, hle⟩ := q2.slice; simp only [List.length_append, List.length_singleton] at q2 hle; have Q2 := Lib.hid q2; have j0 := blk_cell q1 0; have j1 := blk_cell q1 1; have m0 := blk_frozen q1 0; have m1 := blk_frozen q1 1; clear q1 q2 h1 h2))
            go_roundw
            case rel => exact ⟨k + 1, t - (1 + r / 4 % 40), ps ++ [(1 + r / 4 % 40)], _, by omega, by omega, by simp; omega, by omega, by omega, by omega, rfl, by go_num, HQ, Q2⟩
            case measure => simp [intOf]; omega
    · have hd : ¬ (k < xs.length) ∨ (k < xs.length ∧ ¬ (k < 30)) ∨ (k < xs.length ∧ k < 30 ∧ ¬ (1 < t)) := by omega
      rcases hd with hd | ⟨hd1, hd⟩ | ⟨hd1, hd2, hd⟩
      all_goals
        go_wp2_with (at_builtin; refine append_one rfl (.tmp 63) (.tmp 65) rfl (w.heap.size + 2) (.slice A0 ps.length c0) ps.length ps t rfl st.out.o rfl (by omega) st.out.s ?_; intro v' wq h1 h2; obtain ⟨q1, q2⟩ := kd_add st.out h1 h2; obtain ⟨A', c', rfl, hle⟩ := q2.slice; simp only [List.length_append, List.length_singleton] at q2 hle; have Q2 := Lib.hid q2; have j0 := blk_cell q1 0; have j1 := blk_cell q1 1; have m0 := blk_frozen q1 0; have m1 := blk_frozen q1 1; obtain ⟨n0, n1⟩ : wq.cell? ⟨w.heap.size, 0, none⟩ = some (.int .i64 0) ∧ wq.cell? ⟨w.heap.size, 1, none⟩ = some (.slice none 0 0) := kd_res Q2.out; obtain ⟨m2, m3⟩ : wq.frozen? ⟨w.heap.size, 0, none⟩ = false ∧ wq.frozen? ⟨w.heap.size, 1, none⟩ = false := kd_res_f Q2.out; clear q1 q2 h1 h2)
        have k3 := blk_set (blk_set Q2.out.z 0 (.int .i64 (L : Int))) 1 (.slice A' (ps.length + 1) c')
        have r0 := blk_cell k3 0
        have r1 := blk_cell k3 1
        refine bodyPost_ret (v := .agg #[.int .i64 (L : Int), .slice A' (ps.length + 1) c']) (by simp [results, Try.results26, go_sem, r0, r1]) rfl ?_
        obtain ⟨A2, c2, hv, hlc, hII⟩ := kd_own Q2.out
        exact dist_done hL5 hL8 HSS.out hok.out.1 hok.out.2 ht1 (by omega) hle Q2.out.r hv hII
end Go.Proofs.Ytaohhijjalcbiaa
