/-
  NormMakes.
-/
import Derived.Test.YtjldbabggmmkdaaAwake
import Derived.Test.YtjldbabggmmkdaaOwnL
namespace Go.Proofs.Ytjldbabggmmkdaa
open Go.ChangeShapes Go.WideShapes Go.ChangeAt Go.RowKit Go.Shelf
set_option linter.unusedVariables false
set_option linter.unusedSimpArgs false

theorem add_at' (b off k : Nat) : (⟨b, off, none⟩ : Addr).add k = ⟨b, off + k, none⟩ := by
  cases k <;> simp [Addr.add]
theorem own_c {A : Option Addr} {n : Nat} {xs : List Int} (cap : Nat) {w : World} (h : Cts w A n xs) (h30 : n ≤ 1000000) (hN : A = none → n = 0 ∧ cap = 0) : Calls Try.prog 15 #[.slice A n cap] w (OwnP w xs) := by
  obtain ⟨hl, hn, hI⟩ := h
  cases A with
  | none =>
    obtain ⟨rfl, rfl⟩ := hN rfl
    obtain rfl : xs = [] := List.eq_nil_of_length_eq_zero hl
    exact own_nil w
  | some a =>
    refine own_some a n cap xs w h30 hl fun i hi => ?_
    obtain ⟨b, off, hA, _, hc⟩ := hI (by omega)
    obtain rfl : a = ⟨b, off, none⟩ := by simpa using hA
    rw [add_at']; exact hc i hi
theorem setI {w : World} {A : Option Addr} {xs : List Int} {N : Nat} (h : IntsAt w w.heap.size A xs) (hn : 0 < xs.length → ∀ b off, A = some ⟨b, off, none⟩ → N ≤ b) {p : Addr} (hp : p.block < N) (v : Value) :
    IntsAt (w.setCell p v) (w.setCell p v).heap.size A xs := fun hpos => by
  obtain ⟨b, off, hA, hbs, hc⟩ := h hpos
  have hbn := hn hpos b off hA
  refine ⟨b, off, hA, by simpa using hbs, fun k hk => ?_⟩
  have e : (w.setCell p v).cell? ⟨b, off + k, none⟩ = w.cell? ⟨b, off + k, none⟩ := by
    simp only [World.cell?]
    rw [Below.heap_setCell _ p _ b (by omega)]
  rw [e]; exact hc k hk
theorem same_d (A A' : Option Addr) (c c' n : Nat) (lg : Int) (xs : List Int) (hl : xs.length = n) (w : World) (hn : n ≤ 9223372036854775807) (h : IntsAt w w.heap.size A xs) (h' : IntsAt w w.heap.size A' xs) :
    Calls Try.prog 19 #[.agg #[.int .i64 lg, .slice A n c], .agg #[.int .i64 lg, .slice A' n c']] w fun e w' => e = .returned (.bool true) ∧ Below w.heap.size w w' := by
  have hb0 : Below w.heap.size w ((w.alloc (.cells #[.int .i64 lg, .slice A n c] 25)).alloc (.cells #[.int .i64 lg, .slice A' n c'] 25)) := below_box (below_box (Below.refl _ _) _) _
  have hs := same_n A A' c c' n xs hl _ hn (nextI h hb0) (nextI h' hb0)
  go_enter Try.func19, Try.ntmps19
  go_wp2_with (go_at_call 11; (with_reducible refine Calls.mono hs ?_); rintro e w2 ⟨rfl, hb2⟩)
  go_ret
  exact ⟨rfl, below_call hb0 hb2⟩
theorem disL_length {zs : List Int} {log : Int} : (disL zs log).length ≤ 9223372036854775807 := by
  unfold disL
  by_cases h : refE zs log = 0
  · rw [if_pos h]
    obtain ⟨k0, k1, k2, k3, k4⟩ := refE_zero h
    obtain ⟨L, rfl⟩ : ∃ L : Nat, log = L := ⟨log.toNat, by omega⟩
    rw [Int.toNat_natCast, stl_length h]
    have := (lst_top k0 k1).2.1
    have := (good_of k0).1
    omega
  · rw [if_neg h]; exact Nat.zero_le _
theorem ofL_length {zs : List Int} {most : Int} : (ofL zs most).length ≤ 9223372036854775807 := by
  unfold ofL
  split
  · exact disL_length
  · exact Nat.zero_le _

set_option maxRecDepth 100000 in
set_option maxHeartbeats 4000000 in
theorem normMakes_any (A : Option Addr) (n cap : Nat) (most log : Int) (xs : List Int) (w : World) (h : Cts w A n xs) (hN : A = none → n = 0 ∧ cap = 0) :
    Calls Try.prog 4 #[.slice A n cap, .int .i64 most, .int .i64 log] w fun e w' => e = .returned (.bool true) ∧ Below w.heap.size w w' := by
  by_cases h1 : 300 < n
  · have d1 : decide ((300 : Int) < (n : Int)) = true := decide_eq_true (by omega)
    clear h hN
    go_enter Try.func4, Try.ntmps4
    go_wp2_with (go_at_call 14; (with_reducible refine Calls.mono (awake_any _) ?_); rintro e w1 ⟨rfl, hb⟩)
    go_ret
    exact ⟨rfl, hb⟩
  · have d1 : decide ((300 : Int) < (n : Int)) = false := decide_eq_false (by omega)
    have ho := own_c cap h (by omega) hN
    obtain ⟨hl, hn0, hI⟩ := h
    subst hl
    have cO : ∀ (Ah : Option Addr) u, IntsAt u u.heap.size Ah xs → Cts u Ah xs.length xs := fun Ah u hu => ⟨rfl, hn0, hu⟩
    have cR : ∀ u, Below w.heap.size w u → Cts u A xs.length xs := fun u hu => Cts.below ⟨rfl, hn0, hI⟩ hu
    have a16 := fun (Ah : Option Addr) (ch : Nat) u (hu : IntsAt u u.heap.size Ah xs) => log_c ch most (cO Ah u hu)
    have a12 := fun (Ah : Option Addr) (ch : Nat) u (hu : IntsAt u u.heap.size Ah xs) => of_c ch most (cO Ah u hu)
    have a10 := fun (Ah : Option Addr) (ch : Nat) u (hu : IntsAt u u.heap.size Ah xs) => with_c ch log (cO Ah u hu)
    have r17 := fun u (hu : Below w.heap.size w u) => rLog_c cap most (cR u hu)
    have r18 := fun u (hu : Below w.heap.size w u) => rof_c cap most (cR u hu)
    have r20 := fun u (hu : Below w.heap.size w u) => rwith_c cap log (cR u hu)
    have lO := ofL_length (zs := xs) (most := most)
    have lD := disL_length (zs := xs) (log := log)
    generalize logV xs most = q1 at *
    generalize refE xs most = q2 at *
    generalize ofG xs most = og at *
    generalize ofL xs most = OL at *
    generalize ofE xs most = oe at *
    generalize disG xs log = dg at *
    generalize disL xs log = DL at *
    generalize refE xs log = de at *
    have H0 := Lib.hid hI
    clear hI hN h1 cO cR
    go_enter Try.func4, Try.ntmps4
    go_wp2_with (first
      | (go_at_call 15; (with_reducible refine Calls.mono ho ?_); rintro e w1 ⟨Ah, ch, rfl, hh, hb0⟩; have K := Below.refl w1.heap.size w1)
      | (go_at_call 16; (with_reducible refine Calls.mono (a16 Ah ch _ (nextI hh K)) ?_); rintro e w2 ⟨rfl, hb⟩; replace K := below_call K hb; clear hb)
      | (go_at_call 17; (with_reducible refine Calls.mono (r17 _ (below_call hb0 K)) ?_); rintro e w3 ⟨rfl, hb⟩; replace K := below_call K hb; clear hb)
      | (go_at_call 12; (with_reducible refine Calls.mono (a12 Ah ch _ (nextI hh K)) ?_); rintro e w4 ⟨Aa, ca, rfl, ha, hb, _⟩; replace K := below_call K hb; clear hb; have s4 := K.size; have k12 := blk_new w4 25 #[.int .i64 og, .slice Aa OL.length ca]; replace ha := nextI ha (below_box (Below.refl w4.heap.size w4) (.cells #[.int .i64 og, .slice Aa OL.length ca] 25)); replace K := below_box K (.cells #[.int .i64 og, .slice Aa OL.length ca] 25))
      | (go_at_call 18; (with_reducible refine Calls.mono (r18 _ (below_call hb0 K)) ?_); rintro e w5 ⟨Ab, cb, rfl, hbq, hb, _⟩; replace K := below_call K hb; replace ha := nextI ha hb; replace k12 := blk_below k12 hb (blk_lt k12); clear hb; have k14 := blk_new w5 25 #[.int .i64 og, .slice Ab OL.length cb]; have h124 := blk_lt k12; replace k12 := blk_alloc k12 (.cells #[.int .i64 og, .slice Ab OL.length cb] 25); replace ha := nextI ha (below_box (Below.refl w5.heap.size w5) (.cells #[.int .i64 og, .slice Ab OL.length cb] 25)); replace hbq := nextI hbq (below_box (Below.refl w5.heap.size w5) (.cells #[.int .i64 og, .slice Ab OL.length cb] 25)); replace K := below_box K (.cells #[.int .i64 og, .slice Ab OL.length cb] 25); obtain ⟨p0, p1, p2, p3⟩ := dist_facts k12; obtain ⟨r0, r1, r2, r3⟩ := dist_facts k14)
      | (go_at_call 19; (with_reducible refine Calls.mono (same_d Aa Ab ca cb OL.length og OL rfl _ lO ha hbq) ?_); rintro e w6 ⟨rfl, hb⟩; clear p0 p1 p2 p3 r0 r1 r2 r3 ha hbq; replace K := below_call K hb; replace k12 := blk_below k12 hb (blk_lt k12); replace k14 := blk_below k14 hb (blk_lt k14); clear hb)
      | (go_at_call 10; (with_reducible refine Calls.mono (a10 Ah ch _ (nextI hh K)) ?_); rintro e w7 ⟨Ac, cc, rfl, hcI, hb, hcn⟩; have b12 := blk_lt k12; have b14 := blk_lt k14; replace K := below_call K hb; replace k12 := blk_below k12 hb b12; replace k14 := blk_below k14 hb b14; clear hb; obtain ⟨p0, p1, p2, p3⟩ := dist_facts k12; replace k12 := dist_set (u := .int .i64 dg) (v := .slice Ac DL.length cc) k12; replace k14 := blk_far (p := ⟨w4.heap.size, 1, none⟩) (blk_far (p := ⟨w4.heap.size, 0, none⟩) k14 (show w5.heap.size ≠ w4.heap.size by omega) (.int .i64 dg)) (show w5.heap.size ≠ w4.heap.size by omega) (.slice Ac DL.length cc); replace hcI := setI (p := ⟨w4.heap.size, 1, none⟩) (setI (p := ⟨w4.heap.size, 0, none⟩) hcI hcn b12 (.int .i64 dg)) hcn b12 (.slice Ac DL.length cc); replace K := (K.setCell (p := ⟨w4.heap.size, 0, none⟩) (show w1.heap.size ≤ w4.heap.size by omega) (.int .i64 dg)).setCell (p := ⟨w4.heap.size, 1, none⟩) (show w1.heap.size ≤ w4.heap.size by omega) (.slice Ac DL.length cc))
      | (go_at_call 20; (with_reducible refine Calls.mono (r20 _ (below_call hb0 K)) ?_); rintro e w8 ⟨Ad, cd, rfl, hdI, hb, hdn⟩; clear p0 p1 p2 p3; have c12 := blk_lt k12; have c14 := blk_lt k14; replace K := below_call K hb; replace k12 := blk_below k12 hb c12; replace k14 := blk_below k14 hb c14; replace hcI := nextI hcI hb; clear hb; obtain ⟨r0, r1, r2, r3⟩ := dist_facts k14; replace k14 := dist_set (u := .int .i64 dg) (v := .slice Ad DL.length cd) k14; replace k12 := blk_far (p := ⟨w5.heap.size, 1, none⟩) (blk_far (p := ⟨w5.heap.size, 0, none⟩) k12 (show w4.heap.size ≠ w5.heap.size by omega) (.int .i64 dg)) (show w4.heap.size ≠ w5.heap.size by omega) (.slice Ad DL.length cd); replace hcI := setI (p := ⟨w5.heap.size, 1, none⟩) (setI (p := ⟨w5.heap.size, 0, none⟩) hcI hcn b14 (.int .i64 dg)) hcn b14 (.slice Ad DL.length cd); replace hdI := setI (p := ⟨w5.heap.size, 1, none⟩) (setI (p := ⟨w5.heap.size, 0, none⟩) hdI hdn c14 (.int .i64 dg)) hdn c14 (.slice Ad DL.length cd); replace K := (K.setCell (p := ⟨w5.heap.size, 0, none⟩) (show w1.heap.size ≤ w5.heap.size by omega) (.int .i64 dg)).setCell (p := ⟨w5.heap.size, 1, none⟩) (show w1.heap.size ≤ w5.heap.size by omega) (.slice Ad DL.length cd); obtain ⟨p0, p1, p2, p3⟩ := dist_facts k12; obtain ⟨s0, s1, s2, s3⟩ := dist_facts k14)
      | (go_at_call 19; (with_reducible refine Calls.mono (same_d Ac Ad cc cd DL.length dg DL rfl _ lD hcI hdI) ?_); rintro e w9 ⟨rfl, hb⟩; clear p0 p1 p2 p3 s0 s1 s2 s3 r0 r1 r2 r3 hcI hdI k12 k14; replace K := below_call K hb; clear hb)
      | (go_at_call 11; (with_reducible refine Calls.mono (same_any Ah A ch cap _ _ xs _ hn0 (nextI hh K) (H0.out.below (below_call hb0 K))) ?_); rintro e w10 ⟨rfl, hb⟩; replace K := below_call K hb; clear hb)
      | (go_at_call 14; (with_reducible refine Calls.mono (awake_any _) ?_); rintro e w11 ⟨rfl, hb⟩; replace K := below_call K hb; clear hb))
    go_ret
    exact ⟨rfl, below_call hb0 K⟩
end Go.Proofs.Ytjldbabggmmkdaa
