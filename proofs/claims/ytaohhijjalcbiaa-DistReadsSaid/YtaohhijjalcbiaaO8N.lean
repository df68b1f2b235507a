/-
  Package dist: the reader of descriptions: probabilities until all points are taken.
-/
import Derived.Test.YtaohhijjalcbiaaO8M
import Derived.Test.YtaohhijjalcbiaaO8F
import Derived.WalkMore
import Derived.Deep.LoopGhost
import Derived.Deep.CutRange
namespace Go.Proofs.Ytaohhijjalcbiaa
open Go.ChangeShapes Go.WideShapes Go.ChangeAt Go.RowKit
set_option linter.unusedVariables false
set_option linter.unusedSimpArgs false

/-- a reader that has read a list, or that has met an error -/
def Fl (R : Option (List Int × Nat)) (w : World) (base g : Nat) (S : ByteArray) (sym : Nat) : Prop :=
  (∃ l B v, R = some (l, B) ∧ Rd w base g S ((B : Nat) : Int) sym v .nilIface l) ∨ (∃ c, R = none ∧ c ≠ 31 ∧ Er w base g sym c)
/-- at the head of a round -/
def FlN (R : Option (List Int × Nat)) (S : ByteArray) (sym base g : Nat) (left : Int) (w : World) : Prop :=
  ((∃ f acc B v, 0 ≤ left ∧ left ≤ 4096 ∧ acc.length ≤ sym ∧ sym + 2 ≤ f + acc.length ∧ B ≤ 8 * S.size ∧ Rd w base g S ((B : Nat) : Int) sym v .nilIface acc ∧ rdL S sym f left acc B = R) ∨ (∃ c, R = none ∧ c ≠ 31 ∧ Er w base g sym c))
/-- how many probabilities may come still, and one more; 0 behind an error -/
def mes (g sym : Nat) (w : World) : Nat := match w.cell? ⟨g, 4, none⟩ with
  | some .nilIface => (match w.cell? ⟨g, 3, none⟩ with | some (.slice _ n _) => sym + 1 - n | _ => 0)
  | _ => 0
theorem mes_rd {w : World} {base g sym : Nat} {S : ByteArray} {B : Int} {v : Value} {xs : List Int} (h : Rd w base g S B sym v .nilIface xs) : mes g sym w = sym + 1 - xs.length := by
  obtain ⟨A, c, rfl⟩ := h.slice
  obtain ⟨⟨_, _, _, c3, c4⟩, _⟩ := rd_cells h.a
  unfold mes
  rw [c4, c3]
theorem mes_er {w : World} {base g sym : Nat} {c : Int} (h : Er w base g sym c) : mes g sym w = 0 := by
  obtain ⟨n, hn⟩ := h.cell
  unfold mes
  rw [hn]
  rfl

theorem dtake_st (base g : Nat) (S : ByteArray) (B n : Nat) (sym : Nat) (v : Value) (xs : List Int) (hS : S.size ≤ 1048576) (hn : n ≤ 32) (hB0 : B ≤ 8 * S.size) (hx : xs.length ≤ sym) (w : World) (h : Rd w base g S B sym v .nilIface xs) :
    Calls Try.prog 57 #[.pointer (some ⟨g, 0, none⟩), .int .i64 (n : Int)] w fun r w' => ∃ x : Nat, r = .returned (.int .i64 (x : Int)) ∧ Ex base g w w' ∧
      ((8 * S.size < B + n ∧ x = 0 ∧ Er w' base g sym 5) ∨ (B + n ≤ 8 * S.size ∧ x = numB S B n ∧ Rd w' base g S ((B + n : Nat) : Int) sym v .nilIface xs)) := by
  by_cases c : 8 * S.size < B + n
  · exact (dtake_bad base g S B n sym v xs hS hn hB0 c w h).mono fun r w' k => ⟨0, k.1, Ex.of k.2.2 h.s, .inl ⟨c, rfl, k.2.1.er (by omega)⟩⟩
  · exact (dtake_ok base g S B n sym v xs hS hn (by omega) w h).mono fun r w' k => ⟨_, k.1, Ex.of k.2.2 h.s, .inr ⟨by omega, rfl, k.2.1⟩⟩
theorem dprob_st (base g : Nat) (S : ByteArray) (B : Nat) (sym : Nat) (v : Value) (xs : List Int) (left : Int) (hS : S.size ≤ 1048576) (h1 : 1 ≤ left) (h2 : left ≤ 4096) (hB : B ≤ 8 * S.size) (hx : xs.length ≤ sym) (w : World) (h : Rd w base g S B sym v .nilIface xs) :
    Calls Try.prog 59 #[.pointer (some ⟨g, 0, none⟩), .int .i64 left] w fun r w' => ∃ p : Int, r = .returned (.int .i64 p) ∧ Ex base g w w' ∧
      ((rdP S B left = none ∧ p = -1 ∧ Er w' base g sym 5) ∨ (∃ B', rdP S B left = some (p, B') ∧ Rd w' base g S ((B' : Nat) : Int) sym v .nilIface xs)) := by
  cases hp : rdP S B left with
  | none => exact (dprob_bad base g S B sym v xs left hS h1 h2 hB hp w h).mono fun r w' k => ⟨-1, k.1, Ex.of k.2.2 h.s, .inl ⟨rfl, rfl, k.2.1.er (by omega)⟩⟩
  | some x =>
    obtain ⟨p, B'⟩ := x
    exact (dprob_ok base g S B sym v xs left p B' hS h1 h2 hB hp w h).mono fun r w' k => ⟨p, k.1, Ex.of k.2.2 h.s, .inr ⟨B', rfl, k.2.1⟩⟩
theorem dadd_st (base g : Nat) (S : ByteArray) (B : Int) (sym : Nat) (v : Value) (xs : List Int) (x : Int) (hs : sym ≤ 256) (hx : xs.length ≤ sym) (w : World) (h : Rd w base g S B sym v .nilIface xs) :
    Calls Try.prog 60 #[.pointer (some ⟨g, 0, none⟩), .int .i64 x] w fun r w' => r = .returned (.tuple #[]) ∧ Ex base g w w' ∧
      ((xs.length = sym ∧ Er w' base g sym 6) ∨ (xs.length < sym ∧ ∃ v', Rd w' base g S B sym v' .nilIface (xs ++ [x]))) := by
  by_cases c : xs.length = sym
  · exact (dadd_full base g S B sym v xs x (by omega) (by omega) w h).mono fun r w' k => ⟨k.1, k.2.2, .inl ⟨c, k.2.1.er (by omega)⟩⟩
  · refine (dadd_ok base g S B sym v _ xs x (by omega) (by omega) w h).mono fun r w' k => ?_
    obtain ⟨k1, v', k2, k3⟩ := k
    exact ⟨k1, k3, .inr ⟨by omega, v', k2⟩⟩

/-- behind a zero, so far Z is to be read -/
def ZN (Z : Option (List Int × Nat)) (S : ByteArray) (sym base g lo : Nat) (w : World) : Prop :=
  (∃ acc B v, lo < acc.length ∧ acc.length ≤ sym ∧ B ≤ 8 * S.size ∧ Rd w base g S ((B : Nat) : Int) sym v .nilIface acc ∧ rdZ S sym acc B = Z) ∨ (∃ c, Z = none ∧ c ≠ 31 ∧ Er w base g sym c)
/-- what is read behind the zeros -/
def RZ (S : ByteArray) (sym k : Nat) (left : Int) (Z : Option (List Int × Nat)) : Option (List Int × Nat) :=
  match Z with
  | none => none
  | some (l, B2) => rdL S sym k left l B2
/-- within zeros -/
def LN (S : ByteArray) (sym base g : Nat) (acc : List Int) (B x i : Nat) (w : World) : Prop :=
  (∃ v, acc.length + i ≤ sym ∧ Rd w base g S ((B : Nat) : Int) sym v .nilIface (acc ++ List.replicate i 0)) ∨ (sym < acc.length + x ∧ ∃ c, c ≠ 31 ∧ Er w base g sym c)
theorem Rd.far {w : World} {base g gl : Nat} {S : ByteArray} {B sym : Int} {v e : Value} {xs : List Int} (h : Rd w base g S B sym v e xs) (hl : gl < base) (hne : g ≠ gl) (x : Value) : Rd (w.setCell ⟨gl, 0, none⟩ x) base g S B sym v e xs := by
  have hg := grown_set (grown_refl w (some gl)) 0 x
  refine ⟨blk_far h.a hne x, h.o.kept hg ?_, h.l, Nat.le_trans h.s hg.size⟩
  rcases hv : v.ownBlock with _ | k
  · exact .inl rfl
  · refine .inr (fun e => ?_)
    have := (h.o.lt k hv).1
    have : k = gl := by simpa using e
    omega
theorem Er.far {w : World} {base g gl : Nat} {sym c : Int} (h : Er w base g sym c) (hl : gl < base) (hne : g ≠ gl) (x : Value) : Er (w.setCell ⟨gl, 0, none⟩ x) base g sym c := by
  obtain ⟨S, B, v, n, xs, h1, h2⟩ := h
  exact ⟨S, B, v, n, xs, h1.far hl hne x, h2⟩
theorem FlN.far {R : Option (List Int × Nat)} {S : ByteArray} {sym base g gl : Nat} {left : Int} {w : World} (h : FlN R S sym base g left w) (hl : gl < base) (hne : g ≠ gl) (x : Value) : FlN R S sym base g left (w.setCell ⟨gl, 0, none⟩ x) := by
  rcases h with ⟨f, acc, B, v, h1, h2, h3, h4, h5, h6, h7⟩ | ⟨c, h1, h2, h3⟩
  · exact .inl ⟨f, acc, B, v, h1, h2, h3, h4, h5, h6.far hl hne x, h7⟩
  · exact .inr ⟨c, h1, h2, h3.far hl hne x⟩
theorem ZN.far {Z : Option (List Int × Nat)} {S : ByteArray} {sym base g gl lo : Nat} {w : World} (h : ZN Z S sym base g lo w) (hl : gl < base) (hne : g ≠ gl) (x : Value) : ZN Z S sym base g lo (w.setCell ⟨gl, 0, none⟩ x) := by
  rcases h with ⟨acc, B, v, h1, h2, h3, h4, h5⟩ | ⟨c, h1, h2, h3⟩
  · exact .inl ⟨acc, B, v, h1, h2, h3, h4.far hl hne x, h5⟩
  · exact .inr ⟨c, h1, h2, h3.far hl hne x⟩
theorem mes_far {g sym gl : Nat} {w : World} {x : Value} (hne : g ≠ gl) : mes g sym (w.setCell ⟨gl, 0, none⟩ x) = mes g sym w := by
  have e := Below.heap_setCell w ⟨gl, 0, none⟩ x g hne
  unfold mes World.cell?
  simp only [e]
theorem FlN.mes {R : Option (List Int × Nat)} {S : ByteArray} {sym base g : Nat} {left : Int} {w : World} (h : FlN R S sym base g left w) : True := trivial

theorem add_next (base g : Nat) (S : ByteArray) (sym k : Nat) (left p : Int) (acc : List Int) (B1 : Nat) (R : Option (List Int × Nat)) (hs : sym ≤ 256) (l1 : 1 ≤ left) (l2 : left ≤ 4096) (l3 : acc.length ≤ sym) (l4 : sym + 2 ≤ k + 1 + acc.length)
    (hR : (match rdP S B1 left with | none => none | some (p, B1) => if acc.length = sym then none else if p = 0 then (match rdZ S sym (acc ++ [0]) B1 with | none => none | some (l, B2) => rdL S sym k left l B2) else rdL S sym k (left - pt p) (acc ++ [p]) B1) = R) (w1 : World)
    (hc : (rdP S B1 left = none ∧ p = -1 ∧ Er w1 base g sym 5) ∨ (∃ B', rdP S B1 left = some (p, B') ∧ ∃ v, Rd w1 base g S ((B' : Nat) : Int) sym v .nilIface acc)) :
    -1 ≤ p ∧ p ≤ left ∧
    (p ≠ 0 → Calls Try.prog 60 #[.pointer (some ⟨g, 0, none⟩), .int .i64 p] w1 fun r w' => r = .returned (.tuple #[]) ∧ Ex base g w1 w' ∧ FlN R S sym base g (left - pt p) w' ∧ mes g sym w' < sym + 1 - acc.length) ∧
    (p = 0 → Calls Try.prog 60 #[.pointer (some ⟨g, 0, none⟩), .int .i64 p] w1 fun r w' => r = .returned (.tuple #[]) ∧ Ex base g w1 w' ∧ ∃ Z, RZ S sym k left Z = R ∧ ZN Z S sym base g acc.length w') := by
  rcases hc with ⟨h1, rfl, her⟩ | ⟨B', h1, v, hrd⟩
  · rw [h1] at hR
    simp only at hR
    refine ⟨by omega, by omega, fun _ => ?_, fun h => absurd h (by decide)⟩
    refine (dadd_err base g sym 5 (-1) (by omega) w1 her).mono fun r w' q => ⟨q.1, q.2.2, .inr ⟨5, hR.symm, by decide, q.2.1⟩, ?_⟩
    rw [mes_er q.2.1]; omega
  · rw [h1] at hR
    simp only at hR
    obtain ⟨i1, i2, i3, i4, i5⟩ := rdP_in l1 l2 h1
    have hpp := pt_pos i1
    have hpq : pt p ≤ left := by unfold pt; split <;> omega
    refine ⟨i1, i2, fun hp => ?_, fun hp => ?_⟩
    · refine (dadd_st base g S B' sym v acc p hs l3 w1 hrd).mono fun r w' q => ⟨q.1, q.2.1, ?_⟩
      rcases q.2.2 with ⟨q1, q2⟩ | ⟨q1, v', q2⟩
      · rw [if_pos q1] at hR
        exact ⟨.inr ⟨6, hR.symm, by decide, q2⟩, by rw [mes_er q2]; omega⟩
      · rw [if_neg (by omega), if_neg hp] at hR
        exact ⟨.inl ⟨k, acc ++ [p], B', v', by omega, by omega, by simp; omega, by simp; omega, i5, q2, hR⟩, by rw [mes_rd q2]; simp; omega⟩
    · refine (dadd_st base g S B' sym v acc p hs l3 w1 hrd).mono fun r w' q => ⟨q.1, q.2.1, ?_⟩
      rcases q.2.2 with ⟨q1, q2⟩ | ⟨q1, v', q2⟩
      · rw [if_pos q1] at hR
        exact ⟨none, hR, .inr ⟨6, rfl, by decide, q2⟩⟩
      · rw [if_neg (by omega), if_pos hp] at hR
        rw [hp] at q2
        exact ⟨_, hR, .inl ⟨acc ++ [0], B', v', by simp, by simp; omega, i5, q2, rfl⟩⟩

/-- bits taken behind a zero -/
theorem zn_take (base g : Nat) (S : ByteArray) (sym lo : Nat) (Z : Option (List Int × Nat)) (hS : S.size ≤ 1048576) (hs : sym ≤ 256) (w : World) (h : ZN Z S sym base g lo w) :
    Calls Try.prog 57 #[.pointer (some ⟨g, 0, none⟩), .int .i64 2] w fun r w' => ∃ x : Nat, r = .returned (.int .i64 (x : Int)) ∧ x < 4 ∧ Ex base g w w' ∧
      ((x = 0 ∧ Z = none ∧ ∃ c, c ≠ 31 ∧ Er w' base g sym c) ∨ (∃ acc B v, lo < acc.length ∧ acc.length ≤ sym ∧ B + 2 ≤ 8 * S.size ∧ x = numB S B 2 ∧ mes g sym w = sym + 1 - acc.length ∧ Rd w' base g S ((B + 2 : Nat) : Int) sym v .nilIface acc ∧ rdZ S sym acc B = Z)) := by
  rcases h with ⟨acc, B, v, h1, h2, h3, h4, h5⟩ | ⟨c, hZ, hc, her⟩
  · refine (dtake_st base g S B 2 sym v acc hS (by omega) h3 h2 w h4).mono fun r w' q => ?_
    obtain ⟨x, q1, q2, q3⟩ := q
    rcases q3 with ⟨q3, rfl, q4⟩ | ⟨q3, q4, q5⟩
    · refine ⟨0, q1, by omega, q2, .inl ⟨rfl, ?_, 5, by decide, q4⟩⟩
      rw [← h5, rdZ, dif_pos q3]
    · exact ⟨x, q1, by rw [q4]; exact numB_lt S B 2, q2, .inr ⟨acc, B, v, h1, h2, q3, q4, mes_rd h4, q5, h5⟩⟩
  · obtain ⟨n, hn⟩ := her.cell
    refine (dtake_err g 2 c n w hn).mono fun r w' q => ?_
    obtain ⟨q1, rfl⟩ := q
    exact ⟨0, q1, by omega, Ex.refl _ _ _, .inl ⟨rfl, hZ, c, hc, her⟩⟩
/-- a zero added -/
theorem ln_add (base g : Nat) (S : ByteArray) (sym : Nat) (acc : List Int) (B x i : Nat) (hs : sym ≤ 256) (hi : i < x) (w : World) (h : LN S sym base g acc B x i w) :
    Calls Try.prog 60 #[.pointer (some ⟨g, 0, none⟩), .int .i64 0] w fun r w' => r = .returned (.tuple #[]) ∧ Ex base g w w' ∧ LN S sym base g acc B x (i + 1) w' := by
  rcases h with ⟨v, h1, h2⟩ | ⟨h1, c, hc, her⟩
  · refine (dadd_st base g S B sym v _ 0 hs (by simp; omega) w h2).mono fun r w' q => ⟨q.1, q.2.1, ?_⟩
    rcases q.2.2 with ⟨q1, q2⟩ | ⟨q1, v', q2⟩
    · refine .inr ⟨?_, 6, by decide, q2⟩
      simp at q1; omega
    · refine .inl ⟨v', ?_, ?_⟩
      · simp at q1; omega
      · rw [List.append_assoc] at q2
        rwa [show List.replicate (i + 1) (0 : Int) = List.replicate i 0 ++ [0] from List.replicate_succ']
  · exact (dadd_err base g sym c 0 (by omega) w her).mono fun r w' q => ⟨q.1, q.2.2, .inr ⟨h1, c, hc, q.2.1⟩⟩
/-- behind all zeros that were told at once -/
theorem ln_end (base g : Nat) (S : ByteArray) (sym lo k : Nat) (left : Int) (acc : List Int) (B x : Nat) (Z R : Option (List Int × Nat)) (hx : x < 4) (hnum : x = numB S B 2) (hB : B + 2 ≤ 8 * S.size) (h1 : lo < acc.length) (l1 : 0 ≤ left) (l2 : left ≤ 4096) (l3 : acc.length ≤ sym) (l4 : sym + 2 ≤ k + 1 + lo) (hZ : rdZ S sym acc B = Z) (hR : RZ S sym k left Z = R) (w : World) (h : LN S sym base g acc (B + 2) x x w) :
    (x < 3 → FlN R S sym base g left w ∧ mes g sym w < sym + 1 - lo) ∧ (¬ x < 3 → ZN Z S sym base g lo w ∧ mes g sym w < sym + 1 - acc.length) := by
  rw [rdZ, dif_neg (by omega), ← hnum] at hZ
  rcases h with ⟨v, a1, a2⟩ | ⟨a1, c, hc, her⟩
  · rw [if_neg (by omega)] at hZ
    have hlen : (acc ++ List.replicate x (0 : Int)).length = acc.length + x := by simp
    constructor
    · intro h3
      rw [if_neg (by omega)] at hZ
      subst hZ
      exact ⟨.inl ⟨k, _, B + 2, v, l1, l2, by omega, by omega, hB, a2, hR⟩, by rw [mes_rd a2, hlen]; omega⟩
    · intro h3
      rw [if_pos (by omega)] at hZ
      exact ⟨.inl ⟨_, B + 2, v, by omega, by omega, hB, a2, hZ⟩, by rw [mes_rd a2, hlen]; omega⟩
  · rw [if_pos a1] at hZ
    subst hZ
    exact ⟨fun _ => ⟨.inr ⟨c, hR.symm, hc, her⟩, by rw [mes_er her]; omega⟩, fun _ => ⟨.inr ⟨c, rfl, hc, her⟩, by rw [mes_er her]; omega⟩⟩

set_option maxHeartbeats 4000000 in
theorem dfill_c (g : Nat) (S : ByteArray) (sym : Nat) (size : Int) (hS : S.size ≤ 1048576) (hs : sym ≤ 256) (h0 : 0 ≤ size) (h1 : size ≤ 4096) (B : Nat) (hB : B ≤ 8 * S.size) (w : World) (hg : g < w.heap.size)
    (h : Blk w g 71 #[.string S, .int .i64 (B : Int), .int .i64 (sym : Int), .slice none 0 0, .nilIface]) :
    Calls Try.prog 41 #[.pointer (some ⟨g, 0, none⟩), .int .i64 size] w fun r w' => r = .returned (.tuple #[]) ∧ Fl (rdL S sym 300 size [] B) w' (w.heap.size + 1) g S sym ∧ Below g w w' := by
  have hO := fun u => pointsOf_c size u
  obtain ⟨R, hR⟩ : ∃ R, rdL S sym 300 size [] B = R := ⟨_, rfl⟩
  rw [hR]
  have hst : FlN R S sym (w.heap.size + 1) g size (w.alloc (.cells #[.int .i64 size] 3)) :=
    (.inl ⟨300, [], B, _, h0, h1, by simp, by simp; omega, hB, ⟨blk_alloc h _, World.ownsRow_nil _ _ _ _, by omega, by simp⟩, hR⟩)
  have HST := Lib.hid hst
  have HB0 := Lib.hid (((Below.refl g w).alloc (Nat.le_of_lt hg) (.cells #[.int .i64 size] 3)))
  clear hst hR h
  go_enter Try.func41, Try.ntmps41
  go_step3
  go_wp2_with (go_at_call 48; (with_reducible refine (hO _).mono ?_); rintro e w' ⟨rfl, rfl⟩)
  go_step3
  go_wp2
  go_loopw [4, 6, 7] (fun l _ _ wr => ∃ left : Int, l = .int .i64 left ∧ Hid (Blk wr w.heap.size 3 #[.int .i64 left]) ∧ Hid (FlN R S sym (w.heap.size + 1) g left wr) ∧ Hid (Below g w wr)) (fun _ _ _ wr => mes g sym wr)
  case atStart => exact ⟨size, rfl, Lib.hid (blk_new _ _ _), HST, HB0⟩
  case round =>
    obtain ⟨left, rfl, hgl, hst, hbr⟩ := hrel
    rcases hst.out with ⟨f, acc, B1, v, l1, l2, l3, l4, l5, hrd, hR⟩ | ⟨c, hR, hc, her⟩
    · by_cases hl0 : left ≤ 0
      · have hR2 : some (acc, B1) = R := by
          obtain ⟨k, rfl⟩ : ∃ k, f = k + 1 := ⟨f - 1, by omega⟩
          rw [rdL, if_pos hl0] at hR
          exact hR
        have HBR := Lib.hid (show Fl R wr (w.heap.size + 1) g S sym from .inl ⟨acc, B1, v, hR2.symm, hrd⟩)
        clear hR hR2 hgl hst HST hrd
        go_wp2
        go_end0
        exact ⟨rfl, HBR.out, hbr.out⟩
      · obtain ⟨k, rfl⟩ : ∃ k, f = k + 1 := ⟨f - 1, by omega⟩
        rw [rdL, if_neg hl0] at hR
        obtain ⟨⟨c0, c1, c2, c3, c4⟩, _⟩ := rd_cells hrd.a
        have hpr := dprob_st (w.heap.size + 1) g S B1 sym v acc left hS (by omega) l2 l5 l3 wr hrd
        have HM := Lib.hid (mes_rd (sym := sym) hrd)
        have HBX := Lib.hid hgl.out
        have HR := Lib.hid hR
        clear hR hgl hst HST hrd
        go_upto_region 3 with (first
          | (go_at_call 59; (with_reducible refine hpr.mono ?_); rintro e w1 ⟨p, rfl, x1, hc1⟩))
        obtain ⟨a1, a2, ha, hb⟩ := add_next (w.heap.size + 1) g S sym k left p acc B1 R hs (by omega) l2 l3 (by omega) HR.out w1 (by
          rcases hc1 with q | ⟨B', q1, q2⟩
          · exact .inl q
          · exact .inr ⟨B', q1, _, q2⟩)
        have hpb : pt p ≤ 4096 := by unfold pt; split <;> omega
        have hpa := (pt_pos a1).1
        have hb1 := Lib.hid (Ex.blk HBX.out x1 (by omega) (by omega))
        have hl1 := Lib.hid (Ex.below hbr.out x1 (by omega) (Nat.le_refl g))
        clear hc1 x1 HBX HR hpr c0 c1 c2 c3 c4
        by_cases hp : p = 0
        · have hb := Lib.hid (hb hp)
          have hHT := Lib.hid (fun u (hu : Blk u w.heap.size 3 #[.int .i64 left]) => taken_c w.heap.size left p (by omega) (by omega) u hu)
          clear ha hpb hpa
          subst hp
          simp only [show pt 0 = 0 from rfl, Int.sub_zero] at hHT
          go_wp2_with (first
            | (go_at_call 60; (with_reducible refine hb.out.mono ?_); rintro e w2 ⟨rfl, x2, Z, hZ, zn⟩; have hb2 := Lib.hid (Ex.blk hb1.out x2 (by omega) (by omega)); have hl2 := Lib.hid (Ex.below hl1.out x2 (by omega) (Nat.le_refl g)); have ZN2 := Lib.hid zn; have HZ := Lib.hid hZ; clear x2 zn hZ)
            | (go_at_call 67; (with_reducible refine (hHT.out _ hb2.out).mono ?_); rintro e w3 ⟨rfl, rfl⟩))
          have hb3 := Lib.hid (show Blk _ w.heap.size 3 #[.int .i64 left] from blk_set hb2.out 0 (.int .i64 left))
          have hl3 := Lib.hid (hl2.out.setCell (p := ⟨w.heap.size, 0, none⟩) (Nat.le_of_lt hg) (.int .i64 left))
          have zn3 := Lib.hid (ZN.far ZN2.out (gl := w.heap.size) (by omega) (by omega) (.int .i64 left))
          clear hb2 hl2 ZN2 hb1 hl1 hb hHT
          generalize w2.setCell ⟨w.heap.size, 0, none⟩ (.int .i64 left) = w3 at *
          go_loopw [7] (fun _ wx => Hid (Blk wx w.heap.size 3 #[.int .i64 left]) ∧ (∃ Z, Hid (RZ S sym k left Z = R) ∧ Hid (ZN Z S sym (w.heap.size + 1) g acc.length wx)) ∧ Hid (Below g w wx)) (fun _ wx => mes g sym wx)
          case atStart => exact ⟨hb3, ⟨Z, HZ, zn3⟩, hl3⟩
          case round =>
            obtain ⟨hb4, ⟨Z4, HZ4, zn4⟩, hl4⟩ := hrel
            have htk := zn_take (w.heap.size + 1) g S sym acc.length Z4 hS hs _ zn4.out
            go_upto_region 7 with (go_at_call 57; (with_reducible refine htk.mono ?_); rintro e w5 ⟨x, rfl, hx4, x5, hc5⟩)
            have hb5 := Lib.hid (Ex.blk hb4.out x5 (by omega) (by omega))
            have hl5 := Lib.hid (Ex.below hl4.out x5 (by omega) (Nat.le_refl g))
            have hRZ := HZ4.out
            have hMM := HM.out
            clear htk x5 hb3 zn3 hl3 HZ
            rcases hc5 with ⟨rfl, rfl, c, hc, her⟩ | ⟨acc2, B2, v2, i1, i2, i3, i4, i5, i6, i7⟩
            · have hF := Lib.hid (show FlN R S sym (w.heap.size + 1) g left w5 from .inr ⟨c, hRZ.symm, hc, her⟩)
              have hM0 := Lib.hid (mes_er (sym := sym) her)
              clear hRZ her hMM
              go_wp2
              go_loopw [34] (fun i wy => i = .int .i64 0 ∧ wy = w5) (fun _ _ => 0)
              case atStart => exact ⟨rfl, rfl⟩
              case round =>
                obtain ⟨rfl, rfl⟩ := hrel
                go_wp2
                go_roundw
                case rel => exact ⟨left, rfl, hb5, hF, hl5⟩
                case measure => rw [hM0.out, HM.out]; omega
            · have hL := Lib.hid (show LN S sym (w.heap.size + 1) g acc2 (B2 + 2) x 0 w5 from by
                by_cases c : sym < acc2.length
                · omega
                · exact .inl ⟨v2, by omega, by simpa using i6⟩)
              have hEnd := Lib.hid (fun (u : World) (hu : LN S sym (w.heap.size + 1) g acc2 (B2 + 2) x x u) => ln_end (w.heap.size + 1) g S sym acc.length k left acc2 B2 x Z4 R hx4 i4 i3 i1 (by omega) l2 i2 (by omega) i7 hRZ u hu)
              have hI5 := Lib.hid i5
              clear i4 i5 i6 i7 hRZ hMM
              go_wp2
              go_loopw [34] (fun i wy => ∃ j : Nat, j ≤ x ∧ i = .int .i64 (j : Int) ∧ Hid (LN S sym (w.heap.size + 1) g acc2 (B2 + 2) x j wy) ∧ Hid (Blk wy w.heap.size 3 #[.int .i64 left]) ∧ Hid (Below g w wy)) (fun i _ => x - (intOf i).toNat)
              case atStart => exact ⟨0, by omega, rfl, hL, hb5, hl5⟩
              case round =>
                obtain ⟨j, hj, rfl, hL, hb6, hl6⟩ := hrel
                by_cases hjx : j < x
                · have had := ln_add (w.heap.size + 1) g S sym acc2 (B2 + 2) x j hs hjx _ hL.out
                  go_wp2_with (go_at_call 60; (with_reducible refine had.mono ?_); rintro e w7 ⟨rfl, x7, hL7⟩; have hb7 := Lib.hid (Ex.blk hb6.out x7 (by omega) (by omega)); have hl7 := Lib.hid (Ex.below hl6.out x7 (by omega) (Nat.le_refl g)); have HL7 := Lib.hid hL7; clear x7 hL7)
                  go_roundw
                  case rel => exact ⟨j + 1, by omega, by go_num, HL7, hb7, hl7⟩
                  case measure => simp [intOf]; omega
                · obtain rfl : j = x := by omega
                  obtain ⟨hE1, hE2⟩ := hEnd.out _ hL.out
                  by_cases h3 : j < 3
                  · have hE := Lib.hid (hE1 h3)
                    clear hE1 hE2 hL
                    go_wp2
                    go_roundw
                    case rel => exact ⟨left, rfl, hb6, Lib.hid hE.out.1, hl6⟩
                    case measure => rw [HM.out]; exact hE.out.2
                  · have hE := Lib.hid (hE2 h3)
                    clear hE1 hE2 hL
                    go_wp2
                    go_roundw
                    case rel => exact ⟨hb6, ⟨Z4, HZ4, Lib.hid hE.out.1⟩, hl6⟩
                    case measure => rw [hI5.out]; exact hE.out.2
        · have ha := Lib.hid (ha hp)
          have hpn : (p != 0) = true := by simpa using hp
          have hHT := Lib.hid (fun u (hu : Blk u w.heap.size 3 #[.int .i64 left]) => taken_c w.heap.size left p (by omega) (by omega) u hu)
          clear hb hp
          generalize pt p = q at *
          go_wp2_with (first
            | (go_at_call 60; (with_reducible refine ha.out.mono ?_); rintro e w2 ⟨rfl, x2, fl2, m2⟩; have hb2 := Lib.hid (Ex.blk hb1.out x2 (by omega) (by omega)); have hl2 := Lib.hid (Ex.below hl1.out x2 (by omega) (Nat.le_refl g)); have FL2 := Lib.hid fl2; have M2 := Lib.hid m2; clear x2 fl2 m2)
            | (go_at_call 67; (with_reducible refine (hHT.out _ hb2.out).mono ?_); rintro e w3 ⟨rfl, rfl⟩))
          go_roundw
          case rel => exact ⟨left - q, rfl, Lib.hid (blk_set hb2.out 0 _), Lib.hid (FlN.far FL2.out (by omega) (by omega) _), Lib.hid (hl2.out.setCell (p := ⟨w.heap.size, 0, none⟩) (Nat.le_of_lt hg) _)⟩
          case measure => rw [mes_far (show g ≠ w.heap.size by omega), HM.out]; exact M2.out
    · obtain ⟨n, hn⟩ := her.cell
      unfold spt at hn
      have HER := Lib.hid her
      clear hgl her hst HST
      have HBR := Lib.hid (show Fl R wr (w.heap.size + 1) g S sym from .inr ⟨c, hR, hc, HER.out⟩)
      clear hR
      by_cases hl0 : left ≤ 0
      · go_wp2
        go_end0
        exact ⟨rfl, HBR.out, hbr.out⟩
      · go_wp2
        go_end0
        exact ⟨rfl, HBR.out, hbr.out⟩
end Go.Proofs.Ytaohhijjalcbiaa
