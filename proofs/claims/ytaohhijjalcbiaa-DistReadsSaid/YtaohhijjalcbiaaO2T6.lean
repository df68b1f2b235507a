/-
  The project's writers of bits: Check, Put, Align and Done, for every writer and all numbers.
-/
import Derived.Test.YtaohhijjalcbiaaO2T5
import Derived.Test.YtaohhijjalcbiaaB2Align
namespace Go.Proofs.Ytaohhijjalcbiaa
open Go.ChangeShapes Go.WideShapes Go.ChangeAt Go.RowKit
set_option linter.unusedVariables false

/-- what Put's and Align's own block holds behind the three calls -/
theorem put_chain {w w1 w2 w3 : World} {g : Nat} {A O : Obj} {t : TypeId} {cs : Array Value} (hb1 : Below ((w.alloc A).alloc (.cells cs t)).heap.size ((w.alloc A).alloc (.cells cs t)) w1) (hg : ((w.alloc A).alloc (.cells cs t)).heap.size ≤ g) (hgl : g < w1.heap.size)
    (hg2 : (w1.alloc O).grownBy w2 (some g)) (hb3 : Below w2.heap.size w2 w3) : Blk w3 (w.heap.size + 1) t cs ∧ Below w.heap.size w w3 := by
  have h0 := blk_new2 w A t cs
  have e : ((w.alloc A).alloc (.cells cs t)).heap.size = w.heap.size + 1 + 1 := by simp
  rw [e] at hb1 hg
  have h1 := blk_alloc (blk_below h0 hb1 (by omega)) O
  have h2 := blk_grown h1 hg2 (by omega)
  refine ⟨blk_below h2 hb3 (blk_lt h2), ?_⟩
  have b0 : Below w.heap.size w ((w.alloc A).alloc (.cells cs t)) := ((Below.refl _ _).alloc (Nat.le_refl _) _).alloc (by simp) _
  have b1 := (b0.trans (hb1.mono (by omega))).alloc (by have := hb1.size; rw [e] at this; omega) O
  have b2 := below_grown b1 hg2 (by simp; have := hb1.size; rw [e] at this; omega) (by omega)
  exact b2.trans (hb3.mono b2.size)

/-- what put leaves -/
def PutLeft (S : ByteArray) (P N n v : Int) (g : Nat) (w : World) (e : Ending) (w' : World) : Prop :=
  e = .returned (.tuple #[]) ∧ (∃ (S' : ByteArray) (P' N' : Int), Blk w' g 109 (at4 S' P' N' (putE S P N n v)) ∧ (putE S P N n v = 0 → S' = putS S P N n v ∧ P' = putQ S P N n v ∧ N' = putN S P N n v)) ∧ w.grownBy w' (some g)

theorem putE_ref {S : ByteArray} {P N : Int} (n v : Int) (h : chk S P N = 0) : putE S P N n v = refE S N n v := by
  unfold putE refE
  rw [if_pos h]
  by_cases hr : rgtN n v = true
  · have hr' := rgtN_true hr
    rw [if_neg (by omega), if_pos hr]
  · have hr' : rgtN n v = false := by simpa using hr
    unfold rgtN at hr'
    rw [decide_eq_false_iff_not] at hr'
    rw [if_pos (by omega), if_neg hr]

theorem refE_zero {S : ByteArray} {N n v : Int} (h : refE S N n v = 0) : rgtN n v = true := by
  unfold refE at h
  by_cases hr : rgtN n v = true
  · exact hr
  · rw [if_neg hr] at h; omega

theorem put_any (g h : Nat) (S : ByteArray) (P N n v : Int) (w : World) (hne : h ≠ g) (hb : Blk w g 109 (at4 S P N (chk S P N))) (hh : Blk w h 104 #[.int .i64 n, .int .i64 v]) :
    Calls Try.prog 74 #[.pointer (some ⟨g, 0, none⟩), .slice (some ⟨h, 0, none⟩) 1 1] w (PutLeft S P N n v g w) := by
  unfold PutLeft
  by_cases hc : chk S P N = 0
  · obtain ⟨c1, c2, c3, c4, c5⟩ := chk_zero hc
    have he := putE_ref n v hc
    rw [hc] at hb
    by_cases hr : refE S N n v = 0
    · have hz : putE S P N n v = 0 := by rw [he, hr]
      obtain ⟨r0, r1, r2, r3⟩ := rgtN_true (refE_zero hr)
      obtain ⟨n', rfl⟩ := Int.eq_ofNat_of_zero_le r0
      obtain ⟨v', rfl⟩ := Int.eq_ofNat_of_zero_le r2
      obtain ⟨N', rfl⟩ := Int.eq_ofNat_of_zero_le c1
      obtain ⟨P', rfl⟩ := Int.eq_ofNat_of_zero_le c3
      have en : ((n' : Int)).toNat = n' := by omega
      have ev : ((v' : Int)).toNat = v' := by omega
      have eN : ((N' : Int)).toNat = N' := by omega
      have eP : ((P' : Int)).toNat = P' := by omega
      rw [en] at r3
      rw [eN] at c4
      have q1 := pow_cast n'
      have q2 := pow_cast N'
      refine (put_add g h S P' N' n' v' w c5 (by omega) (by omega) (by omega) (by omega) hr hne hb hh).mono fun e w' ⟨h1, h2, h3⟩ => ⟨h1, ⟨_, _, _, by rw [hz]; exact h2, fun _ => ⟨?_, ?_, ?_⟩⟩, h3⟩
      · unfold putS; rw [hz, if_pos rfl, en, ev, eN, eP]
      · unfold putQ; rw [hz, if_pos rfl, en, ev, eN, eP]
      · unfold putN; rw [hz, if_pos rfl]; omega
    · refine (put_refuse g h S P N n v _ w c5 c1 c2 rfl hr hne hb hh).mono fun e w' ⟨h1, h2, h3⟩ => ⟨h1, ⟨_, _, _, by rw [he]; exact h2, fun h0 => ?_⟩, h3⟩
      rw [he] at h0
      exact absurd h0 hr
  · have he : putE S P N n v = chk S P N := by unfold putE; rw [if_neg hc]
    refine (put_keep g h S P N _ n v w hc hne hb hh).mono fun e w' ⟨h1, h2, h3⟩ => ⟨h1, ⟨_, _, _, by rw [he]; exact h2, fun h0 => ?_⟩, h3⟩
    rw [he] at h0
    exact absurd h0 hc

def resS (c : Int) (S : ByteArray) : ByteArray := if c = 0 then S else ⟨#[]⟩
def resI (c : Int) (x : Int) : Int := if c = 0 then x else 0

theorem result_any (g : Nat) (S : ByteArray) (P N c : Int) (w : World) (hb : Blk w g 109 (at4 S P N c)) :
    Calls Try.prog 76 #[.pointer (some ⟨g, 0, none⟩)] w fun e w' => e = .returned (.tuple #[.agg #[.string (resS c S), .int .i64 (resI c P), .int .i64 (resI c N)], .int .i64 c]) ∧ Below w.heap.size w w' := by
  by_cases hc : c = 0
  · subst hc
    exact result_good g S P N w hb
  · unfold resS resI
    rw [if_neg hc, if_neg hc, if_neg hc]
    exact result_bad g S P N c w hc hb

theorem ownPut_any (S : ByteArray) (P N n v : Int) (hS : S.size ≤ 9223372036854775807) (w : World) :
    Calls Try.prog 68 #[.agg #[.string S, .int .i64 P, .int .i64 N], .int .i64 n, .int .i64 v] w fun e w' =>
      e = .returned (.tuple #[.agg #[.string (putS S P N n v), .int .i64 (putQ S P N n v), .int .i64 (putN S P N n v)], .int .i64 (putE S P N n v)]) ∧ Below w.heap.size w w' := by
  have hO := fun u => open_any S P N hS u
  unfold Opened at hO
  have hP := fun u g h hne hb hh => put_any g h S P N n v u hne hb hh
  unfold PutLeft at hP
  have fin : ∀ S' P' N', (putE S P N n v = 0 → S' = putS S P N n v ∧ P' = putQ S P N n v ∧ N' = putN S P N n v) → resS (putE S P N n v) S' = putS S P N n v ∧ resI (putE S P N n v) P' = putQ S P N n v ∧ resI (putE S P N n v) N' = putN S P N n v := by
    intro S' P' N' h
    by_cases he : putE S P N n v = 0
    · obtain ⟨a, b, c⟩ := h he
      unfold resS resI
      rw [if_pos he, if_pos he, if_pos he]
      exact ⟨a, b, c⟩
    · unfold resS resI putS putQ putN
      rw [if_neg he, if_neg he, if_neg he, if_neg he, if_neg he, if_neg he]
      exact ⟨rfl, rfl, rfl⟩
  generalize putE S P N n v = E at *
  generalize putS S P N n v = A at *
  generalize putQ S P N n v = B at *
  generalize putN S P N n v = C at *
  have HO := Lib.hid hO
  have HP := Lib.hid hP
  have FIN := Lib.hid fin
  clear hO hP fin
  go_enter Try.func68, Try.ntmps68
  go_wp2_with (first
    | (go_at_call 73; (with_reducible refine (HO.out _).mono ?_); rintro e w1 ⟨g, rfl, hg, hB, hb1⟩; have hgl := blk_lt hB)
    | (go_at_call 74; (with_reducible refine (HP.out _ _ _ (by omega) (blk_alloc hB _) (blk_new _ _ _)).mono ?_); rintro e w2 ⟨rfl, ⟨S', P', N', hB2, hE⟩, hg2⟩; have HE := Lib.hid hE; clear hE)
    | (go_at_call 76; (with_reducible refine (result_any _ _ _ _ _ _ hB2).mono ?_); rintro e w3 ⟨rfl, hb3⟩; obtain ⟨hk, hbw⟩ := put_chain hb1 hg hgl hg2 hb3; obtain ⟨⟨d0, d1, d2⟩, z0, z1, z2⟩ := blk3 hk))
  obtain ⟨e1, e2, e3⟩ := FIN.out _ _ _ HE.out
  obtain ⟨⟨y0, y1, y2⟩, _⟩ := blk3 (blk3_set (s' := resS E S') (p' := resI E P') (n' := resI E N') hk)
  rw [← e1, ← e2, ← e3]
  exact bodyPost_ret (v := .tuple #[.agg #[.string (resS E S'), .int .i64 (resI E P'), .int .i64 (resI E N')], .int .i64 E]) (by simp [results, Try.results68, go_sem, y0, y1, y2]) rfl ⟨rfl, ((hbw.setCell (by simp) _).setCell (by simp) _).setCell (by simp) _⟩

/-- the number that padding gives -/
def padX (N : Int) : Int := (wrap64 (8 - N)).tmod 8

theorem ali_put (S : ByteArray) (P N : Int) : aliE S P N = putE S P N (padX N) 0 ∧ aliS S P N = putS S P N (padX N) 0 ∧ aliQ S P N = putQ S P N (padX N) 0 ∧ aliN S P N = putN S P N (padX N) 0 := by
  by_cases hc : chk S P N = 0
  · obtain ⟨c1, c2, c3, c4, c5⟩ := chk_zero hc
    have hx : padX N = (8 - N) % 8 := by
      unfold padX
      rw [IntWalk.wrap64_in _ ⟨by omega, by omega⟩, Int.tmod_eq_emod_of_nonneg (by omega)]
    unfold aliE aliS aliQ aliN
    rw [if_pos hc, if_pos hc, if_pos hc, if_pos hc, hx]
    by_cases hn : N = 0
    · subst hn
      rw [if_pos rfl, if_pos rfl, if_pos rfl, if_pos rfl]
      have e8 : ((8 : Int) - 0) % 8 = 0 := by decide
      rw [e8]
      have hz : putE S P 0 0 0 = 0 := by
        unfold putE
        rw [if_pos hc, if_neg (by simp), if_neg (by omega)]
      obtain ⟨P', rfl⟩ := Int.eq_ofNat_of_zero_le c3
      have eP : ((P' : Int)).toNat = P' := by omega
      refine ⟨hz.symm, ?_, ?_, ?_⟩
      · unfold putS
        rw [hz, if_pos rfl]
        have e : putL ((P' : Int)).toNat (0 : Int).toNat (0 : Int).toNat (0 : Int).toNat = [] := rfl
        rw [e]
        exact ByteArray.ext (by simp)
      · unfold putQ
        rw [hz, if_pos rfl, eP]
        simp [putP, putT]
      · unfold putN
        rw [hz, if_pos rfl]
        rfl
    · rw [if_neg hn, if_neg hn, if_neg hn, if_neg hn]
      have e : (8 - N) % 8 = 8 - N := by omega
      rw [e]
      exact ⟨rfl, rfl, rfl, rfl⟩
  · unfold aliE aliS aliQ aliN putS putQ putN putE
    rw [if_neg hc, if_neg hc, if_neg hc, if_neg hc, if_neg hc, if_neg hc, if_neg hc, if_neg hc]
    exact ⟨rfl, rfl, rfl, rfl⟩

theorem align_chain {w w1 wp w2 w3 : World} {g : Nat} {A O : Obj} {t : TypeId} {cs : Array Value} (hb1 : Below ((w.alloc A).alloc (.cells cs t)).heap.size ((w.alloc A).alloc (.cells cs t)) w1) (hg : ((w.alloc A).alloc (.cells cs t)).heap.size ≤ g) (hgl : g < w1.heap.size)
    (hbp : Below w1.heap.size w1 wp) (hg2 : (wp.alloc O).grownBy w2 (some g)) (hb3 : Below w2.heap.size w2 w3) : Blk w3 (w.heap.size + 1) t cs ∧ Below w.heap.size w w3 :=
  put_chain (hb1.trans (hbp.mono hb1.size)) hg (Nat.lt_of_lt_of_le hgl hbp.size) hg2 hb3

theorem ownAlign_any (S : ByteArray) (P N : Int) (hS : S.size ≤ 9223372036854775807) (w : World) :
    Calls Try.prog 52 #[.agg #[.string S, .int .i64 P, .int .i64 N]] w fun e w' =>
      e = .returned (.tuple #[.agg #[.string (aliS S P N), .int .i64 (aliQ S P N), .int .i64 (aliN S P N)], .int .i64 (aliE S P N)]) ∧ Below w.heap.size w w' := by
  obtain ⟨a1, a2, a3, a4⟩ := ali_put S P N
  rw [a1, a2, a3, a4]
  clear a1 a2 a3 a4
  have hO := fun u => open_any S P N hS u
  unfold Opened at hO
  have hX := fun u => padding_any S P N u
  rw [show (wrap64 (8 - N)).tmod 8 = padX N from rfl] at hX
  have hP := fun u g h hne hb hh => put_any g h S P N (padX N) 0 u hne hb hh
  unfold PutLeft at hP
  generalize padX N = n at *
  have fin : ∀ S' P' N', (putE S P N n 0 = 0 → S' = putS S P N n 0 ∧ P' = putQ S P N n 0 ∧ N' = putN S P N n 0) → resS (putE S P N n 0) S' = putS S P N n 0 ∧ resI (putE S P N n 0) P' = putQ S P N n 0 ∧ resI (putE S P N n 0) N' = putN S P N n 0 := by
    intro S' P' N' h
    by_cases he : putE S P N n 0 = 0
    · obtain ⟨a, b, c⟩ := h he
      unfold resS resI
      rw [if_pos he, if_pos he, if_pos he]
      exact ⟨a, b, c⟩
    · unfold resS resI putS putQ putN
      rw [if_neg he, if_neg he, if_neg he, if_neg he, if_neg he, if_neg he]
      exact ⟨rfl, rfl, rfl⟩
  generalize putE S P N n 0 = E at *
  generalize putS S P N n 0 = A at *
  generalize putQ S P N n 0 = B at *
  generalize putN S P N n 0 = C at *
  have HO := Lib.hid hO
  have HP := Lib.hid hP
  have FIN := Lib.hid fin
  clear hO hP fin
  go_enter Try.func52, Try.ntmps52
  go_wp2_with (first
    | (go_at_call 73; (with_reducible refine (HO.out _).mono ?_); rintro e w1 ⟨g, rfl, hg, hB, hb1⟩; have hgl := blk_lt hB; obtain ⟨⟨c0, c1, c2, c3⟩, _⟩ := blk4 hB)
    | (go_at_call 75; (with_reducible refine (hX _).mono ?_); rintro e wp ⟨rfl, hbp⟩; have hpl := hbp.size)
    | (go_at_call 74; (with_reducible refine (HP.out _ _ _ (by omega) (blk_alloc (blk_below hB hbp hgl) _) (blk_new _ _ _)).mono ?_); rintro e w2 ⟨rfl, ⟨S', P', N', hB2, hE⟩, hg2⟩; have HE := Lib.hid hE; clear hE)
    | (go_at_call 76; (with_reducible refine (result_any _ _ _ _ _ _ hB2).mono ?_); rintro e w3 ⟨rfl, hb3⟩; obtain ⟨hk, hbw⟩ := align_chain hb1 hg hgl hbp hg2 hb3; obtain ⟨⟨d0, d1, d2⟩, z0, z1, z2⟩ := blk3 hk))
  obtain ⟨e1, e2, e3⟩ := FIN.out _ _ _ HE.out
  obtain ⟨⟨y0, y1, y2⟩, _⟩ := blk3 (blk3_set (s' := resS E S') (p' := resI E P') (n' := resI E N') hk)
  rw [← e1, ← e2, ← e3]
  exact bodyPost_ret (v := .tuple #[.agg #[.string (resS E S'), .int .i64 (resI E P'), .int .i64 (resI E N')], .int .i64 E]) (by simp [results, Try.results52, go_sem, y0, y1, y2]) rfl ⟨rfl, ((hbw.setCell (by simp) _).setCell (by simp) _).setCell (by simp) _⟩

theorem ownDone_any (S : ByteArray) (P N : Int) (hS : S.size ≤ 9223372036854775807) (w : World) :
    Calls Try.prog 33 #[.agg #[.string S, .int .i64 P, .int .i64 N]] w fun e w' =>
      e = .returned (.tuple #[.string (aliS S P N), .int .i64 (aliE S P N)]) ∧ Below w.heap.size w w' := by
  have hA := fun u => ownAlign_any S P N hS u
  generalize aliS S P N = s at *
  generalize aliQ S P N = q at *
  generalize aliN S P N = r at *
  generalize aliE S P N = c at *
  go_enter Try.func33, Try.ntmps33
  go_wp2_with ((go_at_call 52; (with_reducible refine (hA _).mono ?_); rintro e w1 ⟨rfl, hb1⟩))
  go_ret2
  exact ⟨rfl, (((Below.refl _ _).alloc (Nat.le_refl _) _).trans (hb1.mono (by simp))).alloc (by have := hb1.size; simp at this; omega) _⟩

end Go.Proofs.Ytaohhijjalcbiaa
