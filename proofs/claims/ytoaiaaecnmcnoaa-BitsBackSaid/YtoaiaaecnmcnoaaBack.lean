/-
  BitsBack: what was written is read, in the same order; for at most 40 numbers, and for more.
-/
import Derived.Test.YtoaiaaecnmcnoaaParts
import Derived.Test.YtoaiaaecnmcnoaaLeL
namespace Go.Proofs.Ytoaiaaecnmcnoaa
open Go.ChangeShapes Go.WideShapes Go.ChangeAt Go.RowKit
set_option linter.unusedVariables false

theorem size_any (x : Int) (h0 : -9223372036854775808 ≤ x) (h1 : x ≤ 9223372036854775807) (w : World) : Calls Try.prog 29 #[.int .i64 x] w fun e w' => e = .returned (.int .i64 (szN x : Nat)) ∧ w = w' := by
  have hM := fun u => mod_any x 33 h0 h1 (by omega) (by omega) u
  have e : x % 33 = (szN x : Nat) := by unfold szN; omega
  rw [e] at hM
  clear e
  generalize szN x = n at *
  go_enter Try.func29, Try.ntmps29
  go_wp2_with (go_at_call 31; (with_reducible refine (hM _).mono ?_); rintro e w1 ⟨rfl, rfl⟩)
  go_ret
  exact ⟨rfl, rfl⟩

theorem value_walk (x q p r : Int) (n : Nat) (hn : n ≤ 32) (hp : (2 : Int) ^ n = p) (hp0 : 1 ≤ p) (hp1 : p ≤ 4294967296) (w : World) (hq0 : 0 ≤ q) (hq1 : q ≤ 1099511627776)
    (hM : ∀ u, Calls Try.prog 31 #[.int .i64 x, .int .i64 1099511627776] u fun e w' => e = .returned (.int .i64 q) ∧ u = w')
    (hS : ∀ u, Calls Try.prog 29 #[.int .i64 x] u fun e w' => e = .returned (.int .i64 (n : Int)) ∧ u = w')
    (hV : ∀ u, Calls Try.prog 31 #[.int .i64 (q / 33), .int .i64 p] u fun e w' => e = .returned (.int .i64 r) ∧ u = w') :
    Calls Try.prog 30 #[.int .i64 x] w fun e w' => e = .returned (.int .i64 r) ∧ w = w' := by
  go_enter Try.func30, Try.ntmps30
  go_wp2_with (first
    | (go_at_call 31; (with_reducible refine (hM _).mono ?_); rintro e w1 ⟨rfl, rfl⟩)
    | (go_at_call 29; (with_reducible refine (hS _).mono ?_); rintro e w1 ⟨rfl, rfl⟩)
    | (go_at_call 31; (with_reducible refine (hV _).mono ?_); rintro e w1 ⟨rfl, rfl⟩))
  go_ret
  exact ⟨rfl, rfl⟩

theorem value_any (x : Int) (h0 : -9223372036854775808 ≤ x) (h1 : x ≤ 9223372036854775807) (w : World) : Calls Try.prog 30 #[.int .i64 x] w fun e w' => e = .returned (.int .i64 (vlN x : Nat)) ∧ w = w' := by
  have hs := szN_le x
  obtain ⟨b0, b1⟩ := pow_bounds (szN x) hs
  have hc := vlN_cast x
  rw [hc]
  exact value_walk x _ _ _ (szN x) hs rfl b0 b1 w (by omega) (by omega) (fun u => mod_any x _ h0 h1 (by omega) (by omega) u) (fun u => size_any x h0 h1 u) (fun u => mod_any _ _ (by omega) (by omega) (by omega) (by omega) u)

/-- a writer's three cells behind t bits that are all together V -/
def WrS (V t : Nat) : ByteArray := ⟨(leB V (t / 8)).toArray⟩
def WrP (V t : Nat) : Nat := V / 2 ^ (8 * (t / 8))
theorem WrS_size (V t : Nat) : (WrS V t).size = t / 8 := by show (leB V (t / 8)).toArray.size = _; simp [leB_length]

theorem put_vals (V t n v : Nat) (hV : V < 2 ^ t) (ht : t ≤ 8000) (hn : n ≤ 32) (hv : v < 2 ^ n) :
    putE (WrS V t) (WrP V t : Nat) (t % 8 : Nat) n v = 0 ∧ putS (WrS V t) (WrP V t : Nat) (t % 8 : Nat) n v = WrS (V + v * 2 ^ t) (t + n) ∧ putQ (WrS V t) (WrP V t : Nat) (t % 8 : Nat) n v = (WrP (V + v * 2 ^ t) (t + n) : Nat) ∧
    putN (WrS V t) (WrP V t : Nat) (t % 8 : Nat) n v = ((t + n) % 8 : Nat) := by
  have hs := WrS_size V t
  obtain ⟨a1, a2, a3⟩ := put_all V t n v hv
  have hP : WrP V t < 2 ^ (t % 8) := by
    unfold WrP
    rw [Nat.div_lt_iff_lt_mul (Nat.two_pow_pos _), ← Nat.pow_add, show t % 8 + 8 * (t / 8) = t by omega]
    exact hV
  rw [show V / 2 ^ (8 * (t / 8)) = WrP V t from rfl] at a1 a2
  rw [show (V + v * 2 ^ t) / 2 ^ (8 * ((t + n) / 8)) = WrP (V + v * 2 ^ t) (t + n) from rfl] at a2
  have a0 : WrS V t ++ ⟨(putL (WrP V t) (t % 8) n v).toArray⟩ = WrS (V + v * 2 ^ t) (t + n) := by
    unfold WrS
    rw [← a1]
    exact ByteArray.ext (by simp)
  clear a1
  generalize WrS V t = S at *
  generalize WrP V t = P at *
  generalize hN : t % 8 = N at *
  have eN : ((N : Int)).toNat = N := by omega
  have eP : ((P : Int)).toNat = P := by omega
  have en : ((n : Int)).toNat = n := by omega
  have ev : ((v : Int)).toNat = v := by omega
  have c1 := pow_cast N
  have c2 := pow_cast n
  have hc : chk S P N = 0 := by
    unfold chk
    rw [eN, if_neg (by omega), if_neg (by omega)]
  have he : putE S P N n v = 0 := by
    unfold putE
    rw [if_pos hc, en, if_neg (by omega), if_neg (by omega)]
  refine ⟨he, ?_, ?_, ?_⟩
  · unfold putS
    rw [he, if_pos rfl, eN, eP, en, ev, a0]
  · unfold putQ
    rw [he, if_pos rfl, eN, eP, en, ev, a2]
  · unfold putN
    rw [he, if_pos rfl]
    omega

/-- a number more, behind t bits that are all together V -/
theorem put_step (V t n v : Nat) (hV : V < 2 ^ t) (ht : t ≤ 8000) (hn : n ≤ 32) (hv : v < 2 ^ n) (u : World) :
    Calls Try.prog 11 #[.agg #[.string (WrS V t), .int .i64 (WrP V t : Nat), .int .i64 (t % 8 : Nat)], .int .i64 (n : Int), .int .i64 (v : Int)] u fun x w' =>
      x = .returned (.tuple #[.agg #[.string (WrS (V + v * 2 ^ t) (t + n)), .int .i64 (WrP (V + v * 2 ^ t) (t + n) : Nat), .int .i64 ((t + n) % 8 : Nat)], .int .i64 0]) ∧ Below u.heap.size u w' := by
  have h := ownPut_any (WrS V t) (WrP V t : Nat) (t % 8 : Nat) n v (by rw [WrS_size]; omega) u
  obtain ⟨e1, e2, e3, e4⟩ := put_vals V t n v hV ht hn hv
  rw [e1, e2, e3, e4] at h
  exact h
/-- done behind t bits -/
theorem done_step (V t : Nat) (hV : V < 2 ^ t) (ht : t ≤ 8000) (u : World) :
    Calls Try.prog 15 #[.agg #[.string (WrS V t), .int .i64 (WrP V t : Nat), .int .i64 (t % 8 : Nat)]] u fun x w' => x = .returned (.tuple #[.string ⟨(leB V ((t + 7) / 8)).toArray⟩, .int .i64 0]) ∧ Below u.heap.size u w' := by
  have h := ownDone_any (WrS V t) (WrP V t : Nat) (t % 8 : Nat) (by rw [WrS_size]; omega) u
  obtain ⟨a1, a2, _, _⟩ := ali_put (WrS V t) (WrP V t : Nat) (t % 8 : Nat)
  have hx : padX ((t % 8 : Nat) : Int) = (((8 - t % 8) % 8 : Nat) : Int) := by
    unfold padX
    rw [IntWalk.wrap64_in _ ⟨by omega, by omega⟩, Int.tmod_eq_emod_of_nonneg (by omega)]
    omega
  obtain ⟨e1, e2, _, _⟩ := put_vals V t ((8 - t % 8) % 8) 0 hV ht (by omega) (Nat.two_pow_pos _)
  rw [hx] at a1 a2
  rw [a1, a2] at h
  rw [show ((0 : Nat) : Int) = 0 from rfl] at e1 e2
  rw [e1, e2] at h
  rw [show WrS (V + 0 * 2 ^ t) (t + (8 - t % 8) % 8) = ⟨(leB V ((t + 7) / 8)).toArray⟩ by unfold WrS; rw [Nat.zero_mul, Nat.add_zero, show (t + (8 - t % 8) % 8) / 8 = (t + 7) / 8 by omega]] at h
  exact h
theorem read_good (z : ByteArray) (hz : z.size ≤ 1048576) (u : World) : Calls Try.prog 19 #[.string z, .int .i64 0] u fun x w' => x = .returned (.tuple #[.agg #[.string z, .int .i64 0], .int .i64 0]) ∧ Below u.heap.size u w' := by
  have h := ownRead_any z 0 (by unfold maxLen; omega) u
  have e : reaE z 0 = 0 := by unfold reaE; rw [if_neg (by omega), if_neg (by omega)]
  unfold reaS reaB at h
  rw [e, if_pos rfl, if_pos rfl] at h
  exact h
theorem left_good (z : ByteArray) (t : Nat) (hz : z.size ≤ 1048576) (ht : t ≤ 8 * z.size) (u : World) : Calls Try.prog 25 #[.agg #[.string z, .int .i64 (t : Int)]] u fun x w' => x = .returned (.tuple #[.int .i64 (8 * (z.size : Int) - t), .int .i64 0]) ∧ Below u.heap.size u w' := by
  have h := ownLeft_any z t (by unfold maxLen; omega) u
  unfold lefX at h
  rw [rgt_ok z t hz ht, if_pos rfl] at h
  exact h

/-- a list of numbers that came in -/
def RowAt (w : World) (B : Nat) (A : Option Addr) (xs : List Int) : Prop :=
  0 < xs.length → ∃ b off, A = some ⟨b, off, none⟩ ∧ b < B ∧ ∀ k, k < xs.length → w.cell? ⟨b, off + k, none⟩ = some (.int .i64 (xs.getD k 0))

theorem back_long (A : Option Addr) (len cap : Nat) (w : World) (hl : len ≤ 9223372036854775807) (h1 : decide ((40 : Int) < (len : Int)) = true) :
    Calls Try.prog 6 #[.slice A len cap] w fun e w' => e = .returned (.bool true) ∧ Below w.heap.size w w' := by
  go_enter Try.func6, Try.ntmps6
  go_wp2_with (go_at_call 5; (with_reducible refine (known_any _).mono ?_); rintro e w1 ⟨rfl, hb1⟩)
  go_ret
  exact ⟨rfl, hb1⟩

theorem ws0 : (⟨#[]⟩ : ByteArray) = WrS 0 0 := rfl
theorem wp0 : (0 : Int) = (WrP 0 0 : Nat) := by simp [WrP]
theorem kc {w : World} {g b o : Nat} {t : TypeId} {s : ByteArray} {p q : Int} {x : Value} (h : Blk w g t (at3 s p q)) (hc : w.cell? ⟨b, o, none⟩ = some x) :
    w.cell? ⟨g, 0, none⟩ = some (.string s) ∧ w.cell? ⟨g, 1, none⟩ = some (.int .i64 p) ∧ w.cell? ⟨g, 2, none⟩ = some (.int .i64 q) ∧ w.cell? ⟨b, o, none⟩ = some x :=
  ⟨blk_cell h 0, blk_cell h 1, blk_cell h 2, hc⟩
theorem cell_alloc {w : World} {b o : Nat} {x : Value} (h : w.cell? ⟨b, o, none⟩ = some x) (ob : Obj) : (w.alloc ob).cell? ⟨b, o, none⟩ = some x := by
  rw [World.cell?_of_block (w := w) (Below.heap_alloc w ob b (World.block_lt_of_cell? w _ h))]
  exact h
theorem cell_drew {w : World} {b o : Nat} {x : Value} (h : w.cell? ⟨b, o, none⟩ = some x) : w.drew.cell? ⟨b, o, none⟩ = some x := h
theorem cell3_far {w : World} {b o h : Nat} {y : Value} (hc : w.cell? ⟨b, o, none⟩ = some y) (hne : b ≠ h) (x1 x2 x3 : Value) : (((w.setCell ⟨h, 0, none⟩ x1).setCell ⟨h, 1, none⟩ x2).setCell ⟨h, 2, none⟩ x3).cell? ⟨b, o, none⟩ = some y := by
  rw [World.cell?_of_block (w := w) (by rw [Below.heap_setCell _ _ _ _ hne, Below.heap_setCell _ _ _ _ hne, Below.heap_setCell _ _ _ _ hne])]
  exact hc
theorem cell_next {u w' : World} {b o : Nat} {x : Value} (h : u.cell? ⟨b, o, none⟩ = some x) (hb : Below u.heap.size u w') : w'.cell? ⟨b, o, none⟩ = some x :=
  (hb.cell (p := ⟨b, o, none⟩) (World.block_lt_of_cell? u _ h)).trans h

theorem kc2 {w : World} {g b o : Nat} {t : TypeId} {s : ByteArray} {p : Int} {x : Value} (h : Blk w g t #[.string s, .int .i64 p]) (hc : w.cell? ⟨b, o, none⟩ = some x) :
    w.cell? ⟨g, 0, none⟩ = some (.string s) ∧ w.cell? ⟨g, 1, none⟩ = some (.int .i64 p) ∧ w.cell? ⟨b, o, none⟩ = some x :=
  ⟨blk_cell h 0, blk_cell h 1, hc⟩
theorem cell2_far {w : World} {b o h : Nat} {y : Value} (hc : w.cell? ⟨b, o, none⟩ = some y) (hne : b ≠ h) (x1 x2 : Value) : ((w.setCell ⟨h, 0, none⟩ x1).setCell ⟨h, 1, none⟩ x2).cell? ⟨b, o, none⟩ = some y := by
  rw [World.cell?_of_block (w := w) (by rw [Below.heap_setCell _ _ _ _ hne, Below.heap_setCell _ _ _ _ hne])]
  exact hc

set_option maxRecDepth 100000 in
set_option maxHeartbeats 4000000 in
theorem back_inner (A : Option Addr) (len cap : Nat) (xs : List Int) (w : World) (hl : xs.length = len) (h40 : len ≤ 40) (hat : RowAt w w.heap.size A xs) (hr : ∀ x ∈ xs, -9223372036854775808 ≤ x ∧ x ≤ 9223372036854775807) :
    Calls Try.prog 6 #[.slice A len cap] w fun e w' => e = .returned (.bool true) ∧ Below w.heap.size w w' := by
  have h1 : decide ((40 : Int) < (len : Int)) = false := decide_eq_false (by omega)
  have HL := Lib.hid hl
  have HAT := Lib.hid hat
  have HR := Lib.hid hr
  clear hl hat hr
  go_enter Try.func6, Try.ntmps6
  go_wp2_with (go_at_call 5; (with_reducible refine (known_any _).mono ?_); rintro e w1 ⟨rfl, hb1⟩)
  have hg1 := hb1.size
  go_loopw [5, 6] (fun m i wr => ∃ (k t V : Nat) (s : ByteArray) (p q : Int), k ≤ len ∧ t ≤ 32 * k ∧ Hid (t = totL (xs.take k)) ∧ Hid (V = valL (xs.take k)) ∧ Hid (s = WrS V t) ∧ Hid (p = (WrP V t : Nat)) ∧ Hid (q = (t % 8 : Nat)) ∧ m = .int .i64 (t : Int) ∧ i = .int .i64 (k : Int) ∧ Blk wr w1.heap.size 23 (at3 s p q) ∧ Below w.heap.size w wr) (fun _ i _ => len - (intOf i).toNat)
  case atStart => exact ⟨0, 0, 0, ⟨#[]⟩, 0, 0, by omega, by omega, rfl, rfl, ws0, wp0, rfl, rfl, rfl, blk_new w1 23 (at3 ⟨#[]⟩ 0 0), below_box hb1 _⟩
  case round =>
    obtain ⟨k, t, V, s, p, q, hk, ht, hT, hV, hs, hp, hq, rfl, rfl, hB, hbw⟩ := hrel
    have hgl := blk_lt hB
    by_cases hlt : k < len
    · obtain ⟨b, off, rfl, hbb, hc⟩ := HAT.out (by rw [HL.out]; omega)
      obtain ⟨x, hx⟩ : ∃ x, x = xs.getD k 0 := ⟨_, rfl⟩
      have hcx : wr.cell? ⟨b, off + k, none⟩ = some (.int .i64 x) := by rw [hx]; exact (hbw.cell (p := ⟨b, off + k, none⟩) hbb).trans (hc k (by rw [HL.out]; omega))
      obtain ⟨x0, x1⟩ := HR.out x (by rw [hx, List.getD_eq_getElem?_getD, List.getElem?_eq_getElem (by rw [HL.out]; omega)]; simp)
      have hlt' : (k : Int) < (len : Int) := by omega
      obtain ⟨n, hn⟩ : ∃ n, n = szN x := ⟨_, rfl⟩
      obtain ⟨v, hv⟩ : ∃ v, v = vlN x := ⟨_, rfl⟩
      have hSz := fun u => size_any x x0 x1 u
      have hVl := fun u => value_any x x0 x1 u
      rw [← hn] at hSz
      rw [← hv] at hVl
      have hn1 : n ≤ 32 := by rw [hn]; exact szN_le x
      have hPt := fun u => put_step V t n v (by rw [hV.out, hT.out]; exact valL_lt _) (by omega) hn1 (by rw [hv, hn]; exact vlN_lt x) u
      rw [show WrS V t = s from hs.out.symm, show (WrP V t : Int) = p from hp.out.symm, show ((t % 8 : Nat) : Int) = q from hq.out.symm] at hPt
      obtain ⟨s', hs'⟩ : ∃ s', s' = WrS (V + v * 2 ^ t) (t + n) := ⟨_, rfl⟩
      obtain ⟨p', hp'⟩ : ∃ p' : Int, p' = (WrP (V + v * 2 ^ t) (t + n) : Nat) := ⟨_, rfl⟩
      obtain ⟨q', hq'⟩ : ∃ q' : Int, q' = ((t + n) % 8 : Nat) := ⟨_, rfl⟩
      rw [← hs', ← hp', ← hq'] at hPt
      have hs'z : s'.size = (t + n) / 8 := by rw [hs']; exact WrS_size _ _
      have hz1 : (s'.size : Int) ≤ 1000 := by omega
      have hq1 : 0 ≤ q' := by omega
      have hq2 : q' ≤ 7 := by omega
      have hchk : (8 * (s'.size : Int) + q' != (t : Int) + n) = false := by rw [bne_eq_false_iff_eq]; omega
      have HN := Lib.hid (And.intro hx (And.intro hn hv))
      have HS := Lib.hid (And.intro hs' (And.intro hp' hq'))
      have KB := Lib.hid hB
      have KC := Lib.hid hcx
      have hbl : b < wr.heap.size := World.block_lt_of_cell? wr _ hcx
      clear hx hn hv hs' hp' hq' hB hcx hs'z
      go_wp2_with fail
      go_region_held3 (fun w' => w'.cell? ⟨w1.heap.size, 0, none⟩ = some (.string s) ∧ w'.cell? ⟨w1.heap.size, 1, none⟩ = some (.int .i64 p) ∧ w'.cell? ⟨w1.heap.size, 2, none⟩ = some (.int .i64 q) ∧ w'.cell? ⟨b, off + k, none⟩ = some (.int .i64 x)) (first | (with_reducible exact kc KB.out KC.out) | (with_reducible exact kc (blk_drew KB.out) (cell_drew KC.out)) | (with_reducible exact kc (blk_drew (blk_alloc KB.out _)) (cell_drew (cell_alloc KC.out _))) | (with_reducible exact kc n2 c2) | (with_reducible exact kc (blk_alloc n2 _) (cell_alloc c2 _)) | (with_reducible exact kc (blk3_far n2 (by omega) _ _ _) (cell3_far c2 (by omega) _ _ _)))
        (first
          | (go_at_call 29; (with_reducible refine (hSz _).mono ?_); rintro e w' ⟨rfl, rfl⟩)
          | (go_at_call 30; (with_reducible refine (hVl _).mono ?_); rintro e w' ⟨rfl, rfl⟩)
          | (go_at_call 11; (with_reducible refine (hPt _).mono ?_); rintro e w2 ⟨rfl, hb2⟩; have z2 : Blk w2 wr.heap.size 23 #[.string ⟨#[]⟩, .int .i64 0, .int .i64 0] := (by with_reducible exact blk_next (blk_drew (blk_new wr 23 #[.string ⟨#[]⟩, .int .i64 0, .int .i64 0])) hb2); have n2 : Blk w2 w1.heap.size 23 (at3 s p q) := blk_next (blk_drew (blk_alloc KB.out _)) hb2; have c2 : w2.cell? ⟨b, off + k, none⟩ = some (.int .i64 x) := cell_next (cell_drew (cell_alloc KC.out _)) hb2; obtain ⟨⟨z20, z21, z22⟩, z23, z24, z25⟩ := blk3 (s := ⟨#[]⟩) (p := 0) (n := 0) z2)
          | (go_at_call 11; (with_reducible refine (hPt _).mono ?_); rintro e w2 ⟨rfl, hb2⟩; have n2 : Blk w2 w1.heap.size 23 (at3 s p q) := blk_next (blk_drew KB.out) hb2; have c2 : w2.cell? ⟨b, off + k, none⟩ = some (.int .i64 x) := cell_next (cell_drew KC.out) hb2))
      all_goals
        first
          | (have tA := blk3_set (s' := s') (p' := p') (n' := q') z2
             have nA := blk3_far (h := wr.heap.size) n2 (by omega) (.string s') (.int .i64 p') (.int .i64 q')
             have cA := cell3_far (h := wr.heap.size) c2 (by omega) (.string s') (.int .i64 p') (.int .i64 q')
             have bA := below3 (h := wr.heap.size) (below_call ((below_box hbw _).drew) hb2) hbw.size (.string s') (.int .i64 p') (.int .i64 q')
             have BB := Lib.hid bA
             have N2 := Lib.hid nA
             clear z20 z21 z22 z23 z24 z25 z2 c2)
          | (have tA := blk_new w2 23 (at3 s' p' q')
             have nA := blk_alloc n2 (.cells (at3 s' p' q') 23)
             have cA := cell_alloc c2 (.cells (at3 s' p' q') 23)
             have bA := below_box (below_call hbw.drew hb2) (.cells (at3 s' p' q') 23)
             obtain ⟨_, g0, g1, g2⟩ := blk3 n2
             have l2 := blk_lt n2
             have BB := Lib.hid (below_call hbw.drew hb2)
             have N2 := Lib.hid n2
             clear c2)
        obtain ⟨⟨a0, a1, a2⟩, _⟩ := blk3 tA
        obtain ⟨_, f0, f1, f2⟩ := blk3 nA
        have e0 := blk_cell nA 0
        have e1 := blk_cell nA 1
        have e2 := blk_cell nA 2
        have NA := Lib.hid nA
        have BA := Lib.hid bA
        clear tA nA bA n2 hb2
        go_wp2_with ((go_at_call 29; (with_reducible refine (hSz _).mono ?_); rintro e w' ⟨rfl, rfl⟩))
        go_roundw
        case rel =>
          obtain ⟨hx, hn, hv⟩ := HN.out
          obtain ⟨hs', hp', hq'⟩ := HS.out
          have hkx : k < xs.length := by rw [HL.out]; exact hlt
          have hxx : x = xs[k] := by rw [hx, List.getD_eq_getElem?_getD, List.getElem?_eq_getElem hkx]; rfl
          exact ⟨k + 1, t + n, V + v * 2 ^ t, s', p', q', by omega, by omega, by show _ = _; rw [tot_take xs k hkx, hT.out, hn, hxx], by show _ = _; rw [val_take xs k hkx, hV.out, hv, hT.out, hxx], hs', hp', hq', by go_num, by go_num, by first | (with_reducible exact blk3_set NA.out) | (with_reducible exact blk_alloc (blk3_set N2.out) _), by first | (with_reducible exact below3 BA.out hg1 _ _ _) | (with_reducible exact below_box (below3 BB.out hg1 _ _ _) _)⟩
        case measure => simp [intOf]; omega
    · have hkl : len ≤ k := by omega
      obtain ⟨⟨c0, c1, c2⟩, _⟩ := blk3 hB
      have hVt : V < 2 ^ t := by rw [hV.out, hT.out]; exact valL_lt _
      have hkk : xs.take k = xs := List.take_of_length_le (by rw [HL.out]; omega)
      have hD := fun u => done_step V t hVt (by omega) u
      rw [← hs.out, ← hp.out, ← hq.out] at hD
      obtain ⟨z, hz⟩ : ∃ z : ByteArray, z = ⟨(leB V ((t + 7) / 8)).toArray⟩ := ⟨_, rfl⟩
      rw [← hz] at hD
      have hzs : z.size = (t + 7) / 8 := by rw [hz]; show (leB V ((t + 7) / 8)).toArray.size = _; simp [leB_length]
      have hRd := fun u => read_good z (by omega) u
      have hz1 : (z.size : Int) ≤ 1000 := by omega
      have hz2 : (t : Int) ≤ 8 * (z.size : Int) := by omega
      have hchk : ((z.size : Int) != ((t : Int) + 7) / 8) = false := by rw [bne_eq_false_iff_eq]; omega
      have hlf : ((8 * (z.size : Int) - t) == (8 * (z.size : Int) - t)) = true := by simp
      have hLf := fun u => left_good z t (by omega) (by omega) u
      have HZ := Lib.hid hz
      have HV2 := Lib.hid (show V = valL xs by rw [hV.out, hkk])
      have HT2 := Lib.hid (show t = totL xs by rw [hT.out, hkk])
      have HLF := Lib.hid hLf
      clear hs hp hq hB hT hV hz hzs hVt hkk hLf
      go_wp2_with (first
        | (go_at_call 15; (with_reducible refine (hD _).mono ?_); rintro e w2 ⟨rfl, hb2⟩)
        | (go_at_call 19; (with_reducible refine (hRd _).mono ?_); rintro e w3 ⟨rfl, hb3⟩))
      have hg3 : w.heap.size ≤ w3.heap.size := by have := hbw.size; have := hb2.size; have := hb3.size; omega
      have hb3' := below_call (below_call hbw hb2) hb3
      clear hb2 hb3 hbw c0 c1 c2
      go_loopw [13] (fun i wr => ∃ (k t' : Nat), k ≤ len ∧ t' ≤ 32 * k ∧ Hid (t' = totL (xs.take k)) ∧ i = .int .i64 (k : Int) ∧ Blk wr w3.heap.size 34 #[.string z, .int .i64 (t' : Int)] ∧ Below w.heap.size w wr) (fun i _ => len - (intOf i).toNat)
      case atStart => exact ⟨0, 0, by omega, by omega, rfl, rfl, blk_new w3 34 #[.string z, .int .i64 0], below_box hb3' _⟩
      case round =>
        obtain ⟨k, t', hk, ht', hT, rfl, hB, hbw⟩ := hrel
        have hgl := blk_lt hB
        by_cases hlt : k < len
        · obtain ⟨b, off, rfl, hbb, hc⟩ := HAT.out (by rw [HL.out]; omega)
          obtain ⟨x, hx⟩ : ∃ x, x = xs.getD k 0 := ⟨_, rfl⟩
          have hcx : wr.cell? ⟨b, off + k, none⟩ = some (.int .i64 x) := by rw [hx]; exact (hbw.cell (p := ⟨b, off + k, none⟩) hbb).trans (hc k (by rw [HL.out]; omega))
          obtain ⟨x0, x1⟩ := HR.out x (by rw [hx, List.getD_eq_getElem?_getD, List.getElem?_eq_getElem (by rw [HL.out]; omega)]; simp)
          have hlt' : (k : Int) < (len : Int) := by omega
          have hkx : k < xs.length := by rw [HL.out]; exact hlt
          have hxx : x = xs[k] := by rw [hx, List.getD_eq_getElem?_getD, List.getElem?_eq_getElem hkx]; rfl
          obtain ⟨n, hn⟩ : ∃ n, n = szN x := ⟨_, rfl⟩
          obtain ⟨v, hv⟩ : ∃ v, v = vlN x := ⟨_, rfl⟩
          have hSz := fun u => size_any x x0 x1 u
          have hVl := fun u => value_any x x0 x1 u
          rw [← hn] at hSz
          rw [← hv] at hVl
          have hn1 : n ≤ 32 := by rw [hn]; exact szN_le x
          have htn : t' + n = totL (xs.take (k + 1)) := by rw [tot_take xs k hkx, hT.out, hn, hxx]
          have htt : t' + n ≤ t := by
            rw [htn, HT2.out]
            have h := totL_append (xs.take (k + 1)) (xs.drop (k + 1))
            rw [List.take_append_drop] at h
            omega
          have hTk := fun u => take_good z (t' : Int) (n : Int) t' n rfl rfl (by omega) (by omega) hn1 _ rfl u
          have hnum : numB z t' n = v := by
            rw [HZ.out, leB_num V _ t' n (by omega), HV2.out, hT.out, hn, hv, hxx]
            exact val_read xs k hkx
          rw [hnum] at hTk
          have HN := Lib.hid htn
          have KB := Lib.hid hB
          have KC := Lib.hid hcx
          have hbl : b < wr.heap.size := World.block_lt_of_cell? wr _ hcx
          clear hx hn hv hB hcx hxx htn hnum hkx
          go_wp2_with fail
          go_region_held3 (fun w' => w'.cell? ⟨w3.heap.size, 0, none⟩ = some (.string z) ∧ w'.cell? ⟨w3.heap.size, 1, none⟩ = some (.int .i64 (t' : Int)) ∧ w'.cell? ⟨b, off + k, none⟩ = some (.int .i64 x)) (first | (with_reducible exact kc2 KB.out KC.out) | (with_reducible exact kc2 (blk_drew KB.out) (cell_drew KC.out)) | (with_reducible exact kc2 (blk_drew (blk_alloc KB.out _)) (cell_drew (cell_alloc KC.out _))) | (with_reducible exact kc2 n2 c2) | (with_reducible exact kc2 (blk_alloc n2 _) (cell_alloc c2 _)) | (with_reducible exact kc2 (blk2_far n2 (by omega) _ _) (cell2_far c2 (by omega) _ _)))
            (first
              | (go_at_call 29; (with_reducible refine (hSz _).mono ?_); rintro e w' ⟨rfl, rfl⟩)
              | (go_at_call 21; (with_reducible refine (hTk _).mono ?_); rintro e w4 ⟨rfl, hb4⟩; have z2 : Blk w4 wr.heap.size 34 #[.string ⟨#[]⟩, .int .i64 0] := (by with_reducible exact blk_next (blk_drew (blk_new wr 34 #[.string ⟨#[]⟩, .int .i64 0])) hb4); have n2 : Blk w4 w3.heap.size 34 #[.string z, .int .i64 (t' : Int)] := blk_next (blk_drew (blk_alloc KB.out _)) hb4; have c2 : w4.cell? ⟨b, off + k, none⟩ = some (.int .i64 x) := cell_next (cell_drew (cell_alloc KC.out _)) hb4; obtain ⟨z20, z21, z23, z24⟩ := blk2 z2)
              | (go_at_call 21; (with_reducible refine (hTk _).mono ?_); rintro e w4 ⟨rfl, hb4⟩; have n2 : Blk w4 w3.heap.size 34 #[.string z, .int .i64 (t' : Int)] := blk_next (blk_drew KB.out) hb4; have c2 : w4.cell? ⟨b, off + k, none⟩ = some (.int .i64 x) := cell_next (cell_drew KC.out) hb4))
          all_goals
            first
              | (have tA := blk2_set z ((t' : Int) + n) z2
                 have nA := blk2_far (h := wr.heap.size) n2 (by omega) (.string z) (.int .i64 ((t' : Int) + n))
                 have cA := cell2_far (h := wr.heap.size) c2 (by omega) (.string z) (.int .i64 ((t' : Int) + n))
                 have bA := below2 (h := wr.heap.size) (below_call ((below_box hbw _).drew) hb4) hbw.size (.string z) (.int .i64 ((t' : Int) + n))
                 have BB := Lib.hid bA
                 have N2 := Lib.hid nA
                 clear z20 z21 z23 z24 z2 c2)
              | (have tA := blk_new w4 34 #[.string z, .int .i64 ((t' : Int) + n)]
                 have nA := blk_alloc n2 (.cells #[.string z, .int .i64 ((t' : Int) + n)] 34)
                 have cA := cell_alloc c2 (.cells #[.string z, .int .i64 ((t' : Int) + n)] 34)
                 have bA := below_box (below_call hbw.drew hb4) (.cells #[.string z, .int .i64 ((t' : Int) + n)] 34)
                 obtain ⟨_, _, g0, g1⟩ := blk2 n2
                 have l2 := blk_lt n2
                 have BB := Lib.hid (below_call hbw.drew hb4)
                 have N2 := Lib.hid n2
                 clear c2)
            obtain ⟨a0, a1, _⟩ := blk2 tA
            obtain ⟨e0, e1, f0, f1⟩ := blk2 nA
            have NA := Lib.hid nA
            have BA := Lib.hid bA
            clear tA nA bA n2 hb4
            go_wp2_with ((go_at_call 30; (with_reducible refine (hVl _).mono ?_); rintro e w' ⟨rfl, rfl⟩))
            go_roundw
            case rel => exact ⟨k + 1, t' + n, by omega, by omega, HN.out, by go_num, by rw [show ((t' + n : Nat) : Int) = (t' : Int) + n by omega]; first | (with_reducible exact blk2_set _ _ NA.out) | (with_reducible exact blk_alloc (blk2_set _ _ N2.out) _), by first | (with_reducible exact below2 BA.out hg3 _ _) | (with_reducible exact below_box (below2 BB.out hg3 _ _) _)⟩
            case measure => simp [intOf]; omega
        · have hkl : len ≤ k := by omega
          have htt : t' = t := by rw [hT.out, HT2.out, List.take_of_length_le (by rw [HL.out]; omega)]
          subst htt
          obtain ⟨p0, p1, _⟩ := blk2 hB
          clear hB hT
          go_wp2_with ((go_at_call 25; (with_reducible refine (HLF.out _).mono ?_); rintro e w5 ⟨rfl, hb5⟩))
          go_ret
          exact ⟨rfl, below_call hbw hb5⟩
end Go.Proofs.Ytoaiaaecnmcnoaa
