/-
  The project's writer of package back: Check, Put and Done, for every writer and all numbers.
-/
import Derived.Test.YteopglkehlckoaaT5
namespace Go.Proofs.Yteopglkehlckoaa
open Go.ChangeShapes Go.WideShapes Go.ChangeAt Go.RowKit
set_option linter.unusedVariables false

theorem ownCheck_any (S : ByteArray) (P N : Int) (hS : S.size ≤ 9223372036854775807) (h0 : -9223372036854775808 ≤ P) (h1 : P ≤ 9223372036854775807) (w : World) :
    Calls Try.prog 18 #[.agg #[.string S, .int .i64 P, .int .i64 N]] w fun e w' => e = .returned (.int .i64 (bch S P N)) ∧ Below w.heap.size w w' := by
  have hO := fun u => edit_any S P N hS h0 h1 u
  unfold Edited at hO
  generalize bch S P N = c at *
  clear h0 h1
  go_enter Try.func18, Try.ntmps18
  go_wp2_with ((go_at_call 35; (with_reducible refine (hO _).mono ?_); rintro e w1 ⟨g, rfl, hg, hB, hb1⟩; have y3 := (blk4 hB).1.2.2.2))
  go_ret
  exact ⟨rfl, ((Below.refl _ _).alloc (Nat.le_refl _) _).trans (hb1.mono (by simp))⟩

theorem edited_ok (S : ByteArray) (P N : Int) : Wst.ok ⟨S, P, N, bch S P N⟩ := fun h => by
  obtain ⟨a, b, c, d, e⟩ := bch_zero (show bch S P N = 0 from h)
  exact ⟨a, b, c, d, e⟩

/-- what Put's own block holds behind the calls -/
theorem put_chain {w w1 w2 : World} {g : Nat} {A O : Obj} {t : TypeId} {cs : Array Value} (hb1 : Below ((w.alloc A).alloc (.cells cs t)).heap.size ((w.alloc A).alloc (.cells cs t)) w1) (hg : ((w.alloc A).alloc (.cells cs t)).heap.size ≤ g) (hgl : g < w1.heap.size)
    (hg2 : (w1.alloc O).grownBy w2 (some g)) : Blk w2 (w.heap.size + 1) t cs ∧ Below w.heap.size w w2 := by
  have h0 := blk_new2 w A t cs
  have e : ((w.alloc A).alloc (.cells cs t)).heap.size = w.heap.size + 1 + 1 := by simp
  rw [e] at hb1 hg
  have h1 := blk_alloc (blk_below h0 hb1 (by omega)) O
  have h2 := blk_grown h1 hg2 (by omega)
  refine ⟨h2, ?_⟩
  have b0 : Below w.heap.size w ((w.alloc A).alloc (.cells cs t)) := ((Below.refl _ _).alloc (Nat.le_refl _) _).alloc (by simp) _
  have b1 := (b0.trans (hb1.mono (by omega))).alloc (by have := hb1.size; rw [e] at this; omega) O
  exact below_grown b1 hg2 (by simp; have := hb1.size; rw [e] at this; omega) (by omega)

theorem put_list {u : World} {n v : Int} : u.heap.size < (u.alloc (.cells #[.int .i64 n, .int .u64 v] 62)).heap.size ∧ ∀ k, k < 1 → (u.alloc (.cells #[.int .i64 n, .int .u64 v] 62)).cell? ⟨u.heap.size, k * 2, none⟩ = some (.int .i64 (([(n, v)] : List (Int × Int)).getD k (0, 0)).1) ∧ (u.alloc (.cells #[.int .i64 n, .int .u64 v] 62)).cell? ⟨u.heap.size, k * 2 + 1, none⟩ = some (.int .u64 (([(n, v)] : List (Int × Int)).getD k (0, 0)).2) := by
  have hn := blk_new u 62 #[.int .i64 n, .int .u64 v]
  refine ⟨by simp, fun k hk => ?_⟩
  obtain rfl : k = 0 := by omega
  exact ⟨blk_cell hn 0, blk_cell hn 1⟩

theorem ownPut_any (S : ByteArray) (P N n v : Int) (hS : S.size ≤ 9223372036854775807) (h0 : -9223372036854775808 ≤ P) (h1 : P ≤ 9223372036854775807) (hv : 0 ≤ v) (w : World) :
    Calls Try.prog 9 #[.agg #[.string S, .int .i64 P, .int .i64 N], .int .i64 n, .int .u64 v] w fun e w' =>
      e = .returned (.tuple #[.agg #[.string (bpS S P N n v), .int .i64 (bpQ S P N n v), .int .i64 (bpN S P N n v)], .int .i64 (bpE S P N n v)]) ∧ Below w.heap.size w w' := by
  have hO := fun u => edit_any S P N hS h0 h1 u
  unfold Edited at hO
  have hP := fun u g h hne hu hh => put_walk g h 1 [(n, v)] ⟨S, P, N, bch S P N⟩ u rfl (by omega) (edited_ok S P N) (fun x hx => by simp at hx; rw [hx]; exact hv) hne hu hh
  obtain ⟨e1, e2⟩ := stp_vals S P N n v hv
  obtain ⟨⟨S', P', N', c'⟩, hst⟩ : ∃ s', s' = stp ⟨S, P, N, bch S P N⟩ n v := ⟨_, rfl⟩
  have hst2 : stps ⟨S, P, N, bch S P N⟩ [(n, v)] = ⟨S', P', N', c'⟩ := hst.symm
  rw [hst2] at hP
  rw [← hst] at e1 e2
  simp only at e1 e2
  have hP' : ∀ (u : World) (g h : Nat), h ≠ g → Blk u g 66 (at4 S P N (bch S P N)) → (h < u.heap.size ∧ ∀ k, k < 1 → u.cell? ⟨h, k * 2, none⟩ = some (.int .i64 (([(n, v)] : List (Int × Int)).getD k (0, 0)).1) ∧ u.cell? ⟨h, k * 2 + 1, none⟩ = some (.int .u64 (([(n, v)] : List (Int × Int)).getD k (0, 0)).2)) →
    Calls Try.prog 36 #[.pointer (some ⟨g, 0, none⟩), .slice (some ⟨h, 0, none⟩) 1 1] u fun e w' => e = .returned (.tuple #[]) ∧ Blk w' g 66 (at4 S' P' N' c') ∧ u.grownBy w' (some g) := hP
  have HO := Lib.hid hO
  have HP := Lib.hid hP'
  clear hO hP hP' hst hst2 h0 h1 hv
  by_cases hc : c' = 0
  · subst hc
    obtain ⟨a1, a2, a3⟩ := e2 e1.symm
    rw [← e1, ← a1, ← a2, ← a3]
    clear e1 e2 a1 a2 a3
    go_enter Try.func9, Try.ntmps9
    go_wp2_with (first
      | (go_at_call 35; (with_reducible refine (HO.out _).mono ?_); rintro e w1 ⟨g, rfl, hg, hB, hb1⟩; have hgl := blk_lt hB; have KB := Lib.hid hB; clear hB)
      | (go_at_call 36; (with_reducible refine (HP.out _ _ _ (by omega) (blk_alloc KB.out _) put_list).mono ?_); rintro e w2 ⟨rfl, hB2, hg2⟩; obtain ⟨hk, hbw⟩ := put_chain hb1 hg hgl hg2; obtain ⟨⟨d0, d1, d2⟩, z0, z1, z2⟩ := blk3 hk; obtain ⟨⟨c0, c1, c2, c3⟩, _⟩ := blk4 hB2)
      | (go_at_call 37; (with_reducible refine (met_any _ _ _ _ c3).mono ?_); rintro e w3 ⟨rfl, rfl⟩))
    obtain ⟨⟨y0, y1, y2⟩, _⟩ := blk3 (blk3_set (s' := S') (p' := P') (n' := N') hk)
    exact bodyPost_ret (v := .tuple #[.agg #[.string S', .int .i64 P', .int .i64 N'], .int .i64 0]) (by simp [results, Try.results9, go_sem, y0, y1, y2]) rfl ⟨rfl, below3 hbw (by simp) _ _ _⟩
  · have t : (c' != 0) = true := by simp [hc]
    have b1 : bpS S P N n v = ⟨#[]⟩ := by unfold bpS; rw [if_neg (by rw [← e1]; exact hc)]
    have b2 : bpQ S P N n v = 0 := by unfold bpQ; rw [if_neg (by rw [← e1]; exact hc)]
    have b3 : bpN S P N n v = 0 := by unfold bpN; rw [if_neg (by rw [← e1]; exact hc)]
    rw [← e1, b1, b2, b3]
    clear e1 e2 b1 b2 b3 hc
    go_enter Try.func9, Try.ntmps9
    go_wp2_with (first
      | (go_at_call 35; (with_reducible refine (HO.out _).mono ?_); rintro e w1 ⟨g, rfl, hg, hB, hb1⟩; have hgl := blk_lt hB; have KB := Lib.hid hB; clear hB)
      | (go_at_call 36; (with_reducible refine (HP.out _ _ _ (by omega) (blk_alloc KB.out _) put_list).mono ?_); rintro e w2 ⟨rfl, hB2, hg2⟩; obtain ⟨hk, hbw⟩ := put_chain hb1 hg hgl hg2; obtain ⟨⟨d0, d1, d2⟩, z0, z1, z2⟩ := blk3 hk; obtain ⟨⟨c0, c1, c2, c3⟩, _⟩ := blk4 hB2)
      | (go_at_call 37; (with_reducible refine (met_any _ _ _ _ c3).mono ?_); rintro e w3 ⟨rfl, rfl⟩))
    go_region
    go_wp2
    obtain ⟨⟨y0, y1, y2⟩, _⟩ := blk3 (blk3_set (s' := ⟨#[]⟩) (p' := 0) (n' := 0) hk)
    exact bodyPost_ret (v := .tuple #[.agg #[.string ⟨#[]⟩, .int .i64 0, .int .i64 0], .int .i64 c']) (by simp [results, Try.results9, go_sem, y0, y1, y2]) rfl ⟨rfl, (below3 hbw (by simp) _ _ _).drew⟩
theorem done_chain {w w1 w2 : World} {g : Nat} {A : Obj} (hb1 : Below (w.alloc A).heap.size (w.alloc A) w1) (hg : (w.alloc A).heap.size ≤ g) (hg2 : w1.grownBy w2 (some g)) : Below w.heap.size w w2 := by
  have e : (w.alloc A).heap.size = w.heap.size + 1 := by simp
  rw [e] at hb1 hg
  have b0 : Below w.heap.size w (w.alloc A) := (Below.refl _ _).alloc (Nat.le_refl _) _
  exact below_grown (b0.trans (hb1.mono (by omega))) hg2 (by have := hb1.size; rw [e] at this; omega) (by omega)

theorem ownDone_any (S : ByteArray) (P N : Int) (hS : S.size ≤ 9223372036854775807) (h0 : -9223372036854775808 ≤ P) (h1 : P ≤ 9223372036854775807) (w : World) :
    Calls Try.prog 22 #[.agg #[.string S, .int .i64 P, .int .i64 N]] w fun e w' => e = .returned (.tuple #[.string (bdS S P N), .int .i64 (bdE S P N)]) ∧ Below w.heap.size w w' := by
  have hO := fun u => edit_any S P N hS h0 h1 u
  unfold Edited at hO
  have hP := fun u g hu => end_any g ⟨S, P, N, bch S P N⟩ u (edited_ok S P N) hu
  obtain ⟨e1, e2⟩ := end_vals S P N
  simp only at hP
  obtain ⟨⟨S', P', N', c'⟩, hst⟩ : ∃ s', s' = stps ⟨S, P, N, bch S P N⟩ (endL N) := ⟨_, rfl⟩
  rw [← hst] at hP e1 e2
  simp only at e1 e2
  have hP' : ∀ (u : World) (g : Nat), Blk u g 66 (at4 S P N (bch S P N)) → Calls Try.prog 40 #[.pointer (some ⟨g, 0, none⟩)] u fun e w' => e = .returned (.tuple #[]) ∧ Blk w' g 66 (at4 S' P' N' c') ∧ u.grownBy w' (some g) := hP
  have HO := Lib.hid hO
  have HP := Lib.hid hP'
  clear hO hP hP' hst h0 h1
  by_cases hc : c' = 0
  · subst hc
    have a1 := e2 e1.symm
    rw [← e1, ← a1]
    clear e1 e2 a1
    go_enter Try.func22, Try.ntmps22
    go_wp2_with (first
      | (go_at_call 35; (with_reducible refine (HO.out _).mono ?_); rintro e w1 ⟨g, rfl, hg, hB, hb1⟩; have KB := Lib.hid hB; clear hB)
      | (go_at_call 40; (with_reducible refine (HP.out _ _ KB.out).mono ?_); rintro e w2 ⟨rfl, hB2, hg2⟩; obtain ⟨⟨c0, c1, c2, c3⟩, _⟩ := blk4 hB2)
      | (go_at_call 37; (with_reducible refine (met_any _ _ _ _ c3).mono ?_); rintro e w3 ⟨rfl, rfl⟩))
    go_ret2
    exact ⟨rfl, done_chain hb1 hg hg2⟩
  · have t : (c' != 0) = true := by simp [hc]
    have b1 : bdS S P N = ⟨#[]⟩ := by unfold bdS; rw [if_neg (by rw [← e1]; exact hc)]
    rw [← e1, b1]
    clear e1 e2 b1 hc
    go_enter Try.func22, Try.ntmps22
    go_wp2_with (first
      | (go_at_call 35; (with_reducible refine (HO.out _).mono ?_); rintro e w1 ⟨g, rfl, hg, hB, hb1⟩; have KB := Lib.hid hB; clear hB)
      | (go_at_call 40; (with_reducible refine (HP.out _ _ KB.out).mono ?_); rintro e w2 ⟨rfl, hB2, hg2⟩; obtain ⟨⟨c0, c1, c2, c3⟩, _⟩ := blk4 hB2)
      | (go_at_call 37; (with_reducible refine (met_any _ _ _ _ c3).mono ?_); rintro e w3 ⟨rfl, rfl⟩))
    go_quiet (fail)
    go_wp2
    go_ret2
    exact ⟨rfl, below_drewN (done_chain hb1 hg hg2) _⟩

end Go.Proofs.Yteopglkehlckoaa
