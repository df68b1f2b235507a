/-
  The reference's checksum: Seeded, Of, Low; and the law XxhSums.
-/
import Derived.Test.YtgiihdgkejhbeaaR5B
import Derived.Test.YtgiihdgkejhbeaaParts
namespace Go.Proofs.Ytgiihdgkejhbeaa
open Go.ChangeShapes Go.WideShapes Go.ChangeAt Go.RowKit
set_option linter.unusedVariables false

theorem mixL_take (L : L4) (l : List UInt8) : mixL L (l.take 32) = mixL L l := by
  unfold mixL
  simp [List.take_take, List.drop_take]
theorem set4' {w : World} {g : Nat} {t : TypeId} {v0 v1 v2 v3 : Value} (h : Blk w g t #[v0, v1, v2, v3]) (u0 u1 u2 u3 : Value) :
    Blk ((((w.setCell ⟨g, 0, none⟩ u0).setCell ⟨g, 1, none⟩ u1).setCell ⟨g, 2, none⟩ u2).setCell ⟨g, 3, none⟩ u3) g t #[u0, u1, u2, u3] := by
  have h0 : Blk _ g t #[u0, v1, v2, v3] := blk_set h 0 u0
  have h1 : Blk _ g t #[u0, u1, v2, v3] := blk_set h0 1 u1
  have h2 : Blk _ g t #[u0, u1, u2, v3] := blk_set h1 2 u2
  exact blk_set h2 3 u3

set_option maxHeartbeats 1000000 in
theorem rseeded_any (s : ByteArray) (e : Int) (hs : s.size ≤ 1099511627776) (w : World) :
    Calls Try.prog 13 #[.string s, .int .u64 e] w fun r w' => r = .returned (.int .u64 (seedW e s)) ∧ Below w.heap.size w w' := by
  have hF := fun u => rlanes_any e u
  have hR : tb s.size (fst e) s.data.toList = sL e s := (sL_eq e s).symm
  have hT : tl s.size s.data.toList = (sT s).data.toList := (sT_list s).symm
  have hW : seedW e s = sumW (sL e s).a (sL e s).b (sL e s).c (sL e s).d s.size (sT s) e := rfl
  rw [hW]
  generalize sL e s = R at *
  generalize sT s = z at *
  generalize fst e = F at *
  have HRT := Lib.hid (And.intro hR hT)
  clear hR hT hW
  go_enter Try.func13, Try.ntmps13
  go_upto_region 1 with fail
  go_cut [5] from 7 to 23 (fun p wx => ∃ g, p = .pointer (some ⟨g, 0, none⟩) ∧ w.heap.size ≤ g ∧ Blk wx g 30 #[.int .u64 F.a, .int .u64 F.b, .int .u64 F.c, .int .u64 F.d] ∧ Below w.heap.size w wx)
  case first =>
    go_wp2_with (go_at_call 28; (with_reducible refine (hF _).mono ?_); rintro r w1 ⟨rfl, hb1⟩)
    go_meet
    exact ⟨_, rfl, hb1.size, blk_new _ _ _, below_box hb1 _⟩
  case rest =>
    obtain ⟨g, rfl, hg, k, hbw⟩ := hcut
    have K := Lib.hid k
    have HB := Lib.hid hbw
    clear k hbw
    go_wp2_with fail
    go_loopw [0] (fun b wr => ∃ (f : Nat) (L : L4) (t : ByteArray), t.size ≤ f ∧ Hid (tb f L t.data.toList = R ∧ tl f t.data.toList = z.data.toList) ∧ b = .string t ∧ t.size ≤ s.size ∧ Blk wr g 30 #[.int .u64 L.a, .int .u64 L.b, .int .u64 L.c, .int .u64 L.d] ∧ Below w.heap.size w wr) (fun b _ => szOf b)
    case atStart => exact ⟨s.size, F, s, Nat.le_refl _, HRT.out, rfl, Nat.le_refl _, K.out, HB.out⟩
    case round =>
      obtain ⟨f, L, t, hf, hh, rfl, hts, kb, hbr⟩ := hrel
      have KB := Lib.hid kb
      have HBR := Lib.hid hbr
      have c0 := blk_cell kb 0
      have c1 := blk_cell kb 1
      have c2 := blk_cell kb 2
      have c3 := blk_cell kb 3
      clear kb hbr HRT K HB
      have hlen : t.data.toList.length = t.size := rfl
      by_cases h32 : 32 ≤ t.size
      · have h32i : (32 : Int) ≤ (t.size : Int) := by omega
        obtain ⟨f', rfl⟩ : ∃ f', f = f' + 1 := ⟨f - 1, by omega⟩
        obtain ⟨h1, h2⟩ := hh.out
        rw [tb_32 f' L _ (by rw [hlen]; exact h32), mixL_take, ← tail_list] at h1
        rw [tl_32 f' _ (by rw [hlen]; exact h32), ← tail_list] at h2
        have he : (t.extract 32 t.size).size = t.size - 32 := by rw [ByteArray.size_extract, Nat.min_self]
        have hM := fun u => rtake_any L t (by omega) h32 u
        generalize mixL L t.data.toList = M at *
        have G := Lib.hid (And.intro h1 h2)
        clear h1 h2 hh
        go_wp2_with (go_at_call 29; (with_reducible refine (hM _).mono ?_); rintro r w1 ⟨rfl, hb1⟩; have J := Lib.hid (blk_next KB.out hb1); have e0 := blk_cell J.out 0; have e1 := blk_cell J.out 1; have e2 := blk_cell J.out 2; have e3 := blk_cell J.out 3; have b0 := blk_frozen J.out 0; have b1 := blk_frozen J.out 1; have b2 := blk_frozen J.out 2; have b3 := blk_frozen J.out 3)
        go_roundw
        case rel => exact ⟨f', M, t.extract 32 t.size, by omega, G.out, rfl, by omega, set4' J.out _ _ _ _, (((below_call HBR.out hb1).setCell hg _ |>.setCell hg _).setCell hg _).setCell hg _⟩
        case measure => show (t.extract 32 t.size).size < t.size; omega
      · have h32i : ¬ (32 : Int) ≤ (t.size : Int) := by omega
        obtain ⟨h1, h2⟩ := hh.out
        rw [tb_end _ _ _ (show ¬ 32 ≤ t.data.toList.length from h32)] at h1
        rw [tl_end _ _ (show ¬ 32 ≤ t.data.toList.length from h32)] at h2
        have h3 : t = z := by rw [← ba_list t, h2, ba_list]
        subst h1 h3
        have hE := fun u => rend_any L.a L.b L.c L.d s.size t e (by omega) u
        clear h2 hh
        go_wp2_with (go_at_call 30; (with_reducible refine (hE _).mono ?_); rintro r w1 ⟨rfl, hb1⟩)
        go_ret
        exact ⟨rfl, below_call HBR.out hb1⟩
theorem rof_any (s : ByteArray) (hs : s.size ≤ 1099511627776) (w : World) :
    Calls Try.prog 11 #[.string s] w fun r w' => r = .returned (.int .u64 (seedW 0 s)) ∧ Below w.heap.size w w' := by
  have hS := fun u => rseeded_any s 0 hs u
  go_enter Try.func11, Try.ntmps11
  go_wp2_with (go_at_call 13; (with_reducible refine (hS _).mono ?_); rintro r w2 ⟨rfl, hb2⟩)
  go_ret
  exact ⟨rfl, hb2⟩
theorem rlow_any (s : ByteArray) (hs : s.size ≤ 1099511627776) (w : World) :
    Calls Try.prog 15 #[.string s] w fun r w' => r = .returned (.int .u32 (IntKind.u32.wrap (seedW 0 s))) ∧ Below w.heap.size w w' := by
  have hS := fun u => rof_any s hs u
  have h0 : 0 ≤ seedW 0 s := by
    show 0 ≤ IntKind.u64.wrap _
    rw [IntKind.wrap_u64]
    exact Int.emod_nonneg _ (by decide)
  generalize seedW 0 s = x at *
  have ht : x.tmod 4294967296 = x % 4294967296 := Int.tmod_eq_emod_of_nonneg h0
  have hw : IntKind.u32.wrap x = x % 4294967296 := IntKind.wrap_u32 x
  rw [hw]
  go_enter Try.func15, Try.ntmps15
  go_wp2_with (go_at_call 11; (with_reducible refine (hS _).mono ?_); rintro r w2 ⟨rfl, hb2⟩)
  go_ret
  exact ⟨by simp, hb2⟩

theorem long3 (s : ByteArray) (b : Bool) (e : Int) (w : World) (h1 : decide ((200 : Int) < (s.size : Int)) = true) :
    Calls Try.prog 3 #[.string s, .bool b, .int .u64 e] w fun r w' => r = .returned (.bool true) ∧ Below w.heap.size w w' := by
  go_enter Try.func3, Try.ntmps3
  go_wp2_with (go_at_call 8; (with_reducible refine (awake_any _).mono ?_); rintro e w1 ⟨rfl, hb1⟩)
  go_ret
  exact ⟨rfl, hb1⟩
set_option maxHeartbeats 1000000 in
theorem sums_law (s t : ByteArray) (b : Bool) (e v0 v1 v2 : Int) (w : World) (h1 : decide ((200 : Int) < (s.size : Int)) = false)
    (h9 : ∀ u, Calls Try.prog 9 #[.string s, .bool b] u fun e w' => e = .returned (.string t) ∧ u = w')
    (h10 : ∀ u, Calls Try.prog 10 #[.string t] u fun e w' => e = .returned (.int .u64 v0) ∧ Below u.heap.size u w')
    (h11 : ∀ u, Calls Try.prog 11 #[.string t] u fun e w' => e = .returned (.int .u64 v0) ∧ Below u.heap.size u w')
    (h12 : ∀ u, Calls Try.prog 12 #[.string t, .int .u64 e] u fun e w' => e = .returned (.int .u64 v1) ∧ Below u.heap.size u w')
    (h13 : ∀ u, Calls Try.prog 13 #[.string t, .int .u64 e] u fun e w' => e = .returned (.int .u64 v1) ∧ Below u.heap.size u w')
    (h14 : ∀ u, Calls Try.prog 14 #[.string t] u fun e w' => e = .returned (.int .u32 v2) ∧ Below u.heap.size u w')
    (h15 : ∀ u, Calls Try.prog 15 #[.string t] u fun e w' => e = .returned (.int .u32 v2) ∧ Below u.heap.size u w') :
    Calls Try.prog 3 #[.string s, .bool b, .int .u64 e] w fun r w' => r = .returned (.bool true) ∧ Below w.heap.size w w' := by
  go_enter Try.func3, Try.ntmps3
  go_wp2_with (first
    | (go_at_call 9; (with_reducible refine (h9 _).mono ?_); rintro e w1 ⟨rfl, rfl⟩)
    | (go_at_call 10; (with_reducible refine (h10 _).mono ?_); rintro e w1 ⟨rfl, hb1⟩)
    | (go_at_call 11; (with_reducible refine (h11 _).mono ?_); rintro e w2 ⟨rfl, hb2⟩)
    | (go_at_call 12; (with_reducible refine (h12 _).mono ?_); rintro e w3 ⟨rfl, hb3⟩)
    | (go_at_call 13; (with_reducible refine (h13 _).mono ?_); rintro e w4 ⟨rfl, hb4⟩)
    | (go_at_call 14; (with_reducible refine (h14 _).mono ?_); rintro e w5 ⟨rfl, hb5⟩)
    | (go_at_call 15; (with_reducible refine (h15 _).mono ?_); rintro e w6 ⟨rfl, hb6⟩)
    | (go_at_call 8; (with_reducible refine (awake_any _).mono ?_); rintro e w7 ⟨rfl, hb7⟩))
  go_ret
  exact ⟨rfl, below_call (below_call (below_call (below_call (below_call (below_call hb1 hb2) hb3) hb4) hb5) hb6) hb7⟩
theorem sums_any (s : ByteArray) (b : Bool) (e : Int) (w : World) :
    Calls Try.prog 3 #[.string s, .bool b, .int .u64 e] w fun r w' => r = .returned (.bool true) ∧ Below w.heap.size w w' := by
  by_cases h : 200 < s.size
  · exact long3 s b e w (decide_eq_true (by omega))
  · have hl := fun u => long_any s b (by omega) u
    obtain ⟨t, ht⟩ : ∃ t, (if b then s ++ s else s) = t := ⟨_, rfl⟩
    have hts : t.size ≤ 400 := by
      rw [← ht]
      cases b
      · simp; omega
      · simp [ByteArray.size_append]; omega
    rw [ht] at hl
    exact sums_law s t b e _ _ _ w (decide_eq_false (by omega)) hl (fun u => of_any t (by omega) u) (fun u => rof_any t (by omega) u) (fun u => seeded_any t e (by omega) u) (fun u => rseeded_any t e (by omega) u) (fun u => low_any t (by omega) u) (fun u => rlow_any t (by omega) u)
end Go.Proofs.Ytgiihdgkejhbeaa
