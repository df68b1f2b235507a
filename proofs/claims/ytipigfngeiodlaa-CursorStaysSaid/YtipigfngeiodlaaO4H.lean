/-
  The project's cursors: Fail, End, Inner, for every cursor.
-/
import Derived.Test.YtipigfngeiodlaaO4G
import Derived.StillTailTactics
import Derived.BigRegion
import Derived.Laws.DeepStrings4
namespace Go.Proofs.Ytipigfngeiodlaa
open Go.ChangeShapes Go.WideShapes Go.ChangeAt Go.RowKit
set_option linter.unusedVariables false

theorem ofail_walk (S s : ByteArray) (A E F a e f x p x' m q P Q : Int) (b : Bool) (hb : (b = true ∧ x' = x) ∨ (b = false ∧ x' = 3))
    (hmax : ∀ ts t w, (Builtin.max_ ts t #[.int .i64 p, .int .i64 0]).run Try.prog w = .ok (.int .i64 m) w)
    (hmin : ∀ ts t w, (Builtin.min_ ts t #[.int .i64 m, .int .i64 (s.size : Int)]).run Try.prog w = .ok (.int .i64 q) w)
    (hO : ∀ u, Calls Try.prog 32 #[.agg #[.string S, .int .i64 A, .int .i64 E, .int .i64 F]] u fun e0 w' => e0 = .returned (.pointer (some ⟨u.heap.size + 1, 0, none⟩)) ∧ Blk w' (u.heap.size + 1) 53 (at4 s a e f) ∧ Below u.heap.size u w')
    (hX : ∀ u, Calls Try.prog 39 #[.int .i64 x] u fun e w' => e = .returned (.bool b) ∧ u = w')
    (hK : ∀ g v, Blk v g 53 (at4 s a e f) → Calls Try.prog 40 #[.pointer (some ⟨g, 0, none⟩), .agg #[.int .i64 x', .int .i64 q]] v fun x w' => x = .returned (.tuple #[]) ∧ Blk w' g 53 (at4 s a P Q) ∧ v.grownBy w' (some g)) (w : World) :
    Calls Try.prog 26 #[.agg #[.string S, .int .i64 A, .int .i64 E, .int .i64 F], .int .i64 x, .int .i64 p] w fun e0 w' => e0 = .returned (.agg #[.string s, .int .i64 a, .int .i64 P, .int .i64 Q]) ∧ Below w.heap.size w w' := by
  have hnot : ∀ (x : Bool) (w : World), (Op.unary .not (.bool x)).run Try.prog w = .ok (.bool (!x)) w := fun _ _ => rfl
  rcases hb with ⟨rfl, rfl⟩ | ⟨rfl, rfl⟩
  all_goals
    go_enter Try.func26, Try.ntmps26
    go_upto_region 1 with fail
    go_cut [7] from 8 to 33 (fun p wx => ∃ g, p = .pointer (some ⟨g, 0, none⟩) ∧ OpSt w wx (at4 S A E F) (at4 ⟨#[]⟩ 0 0 0) 26 s a e f g)
    case first =>
      go_wp2_with ((go_at_call 32; (with_reducible refine (hO _).mono ?_); rintro e0 w1 ⟨rfl, hk, hb1⟩))
      go_meet
      exact ⟨_, rfl, op_first hk hb1⟩
    case rest =>
      obtain ⟨g, rfl, ho⟩ := hcut
      have HO := Lib.hid ho
      have HK := Lib.hid ho.2.2.2.1
      obtain ⟨⟨c0, c1, c2, c3⟩, _⟩ := blk4 ho.2.2.2.1
      clear ho
      go_upto_region 4 with (go_at_call 39; (with_reducible refine (hX _).mono ?_); rintro e0 w1 ⟨rfl, rfl⟩)
      go_cut [7] from 8 to 33 (fun p wx => p = .pointer (some ⟨g, 0, none⟩) ∧ OpSt w wx (at4 S A E F) (at4 ⟨#[]⟩ 0 0 0) 26 s a P Q g)
      case first =>
        go_still_tail 15, (by kernel_rfl)
        go_wp2_with ((go_at_call 40; (with_reducible refine (hK _ _ (blk_drew HK.out)).mono ?_); rintro r w1 ⟨rfl, hb1, hg1⟩))
        go_meet
        exact ⟨rfl, op_next HO.out hb1 (grown_trans (grown_drew (grown_refl _ _)) hg1)⟩
      case rest =>
        obtain ⟨rfl, h0, h1, h2, h3, h4⟩ := hcut
        obtain ⟨⟨p0, p1, p2, p3⟩, _⟩ := blk4 h3
        obtain ⟨⟨d0, d1, d2, d3⟩, r0, r1, r2, r3⟩ := blk4 h2
        obtain ⟨⟨v0, v1, v2, v3⟩, _⟩ := blk4 (blk4_set (s' := s) (a' := a) (e' := P) (f' := Q) h2)
        have H := Lib.hid h4
        clear h1 h2 h3 h4 HO HK c0 c1 c2 c3
        go_wp2_with fail
        exact bodyPost_ret (v := .agg #[.string s, .int .i64 a, .int .i64 P, .int .i64 Q]) (by simp [results, Try.results26, go_sem, v0, v1, v2, v3]) rfl ⟨rfl, below4 H.out (by omega) _ _ _ _⟩

theorem oend_walk (S s : ByteArray) (A E F a e f L P Q : Int) (hb : (0 < L ∧ True) ∨ (L ≤ 0 ∧ e = P ∧ f = Q))
    (hO : ∀ u, Calls Try.prog 32 #[.agg #[.string S, .int .i64 A, .int .i64 E, .int .i64 F]] u fun e0 w' => e0 = .returned (.pointer (some ⟨u.heap.size + 1, 0, none⟩)) ∧ Blk w' (u.heap.size + 1) 53 (at4 s a e f) ∧ Below u.heap.size u w')
    (hL : ∀ u, Calls Try.prog 33 #[.agg #[.string s, .int .i64 a, .int .i64 e, .int .i64 f]] u fun e w' => e = .returned (.int .i64 L) ∧ Below u.heap.size u w')
    (hK : 0 < L → ∀ g v, Blk v g 53 (at4 s a e f) → Calls Try.prog 40 #[.pointer (some ⟨g, 0, none⟩), .agg #[.int .i64 4, .int .i64 a]] v fun x w' => x = .returned (.tuple #[]) ∧ Blk w' g 53 (at4 s a P Q) ∧ v.grownBy w' (some g)) (w : World) :
    Calls Try.prog 28 #[.agg #[.string S, .int .i64 A, .int .i64 E, .int .i64 F]] w fun e0 w' => e0 = .returned (.agg #[.int .i64 P, .int .i64 Q]) ∧ Below w.heap.size w w' := by
  rcases hb with ⟨hb, -⟩ | ⟨hb, rfl, rfl⟩
  · replace hK := hK hb
    go_enter Try.func28, Try.ntmps28
    go_upto_region 1 with fail
    go_cut [3] from 4 to 28 (fun p wx => ∃ g, p = .pointer (some ⟨g, 0, none⟩) ∧ OpSt w wx (at4 S A E F) #[.int .i64 0, .int .i64 0] 24 s a e f g)
    case first =>
      go_wp2_with ((go_at_call 32; (with_reducible refine (hO _).mono ?_); rintro e0 w1 ⟨rfl, hk, hb1⟩))
      go_meet
      exact ⟨_, rfl, op_first hk hb1⟩
    case rest =>
      obtain ⟨g, rfl, ho⟩ := hcut
      have HO := Lib.hid ho
      obtain ⟨⟨c0, c1, c2, c3⟩, _⟩ := blk4 ho.2.2.2.1
      clear ho
      go_upto_region 3 with (go_at_call 33; (with_reducible refine (hL _).mono ?_); rintro e0 w1 ⟨rfl, hb1⟩; have HP := Lib.hid (op_below HO.out hb1); have HK := Lib.hid HP.out.2.2.2.1; obtain ⟨⟨x0, x1, x2, x3⟩, _⟩ := blk4 HK.out)
      go_cut [3] from 4 to 28 (fun p wx => p = .pointer (some ⟨g, 0, none⟩) ∧ OpSt w wx (at4 S A E F) #[.int .i64 0, .int .i64 0] 24 s a P Q g)
      case first =>
        go_still_tail 10, (by kernel_rfl)
        go_wp2_with ((go_at_call 40; (with_reducible refine (hK _ _ (blk_drew HK.out)).mono ?_); rintro r w2 ⟨rfl, hb2, hg2⟩))
        go_meet
        exact ⟨rfl, op_next HP.out hb2 (grown_trans (grown_drew (grown_refl _ _)) hg2)⟩
      case rest =>
        obtain ⟨rfl, h0, h1, h2, h3, h4⟩ := hcut
        obtain ⟨⟨p0, p1, p2, p3⟩, _⟩ := blk4 h3
        have d0 := blk_cell h2 0
        have d1 := blk_cell h2 1
        have r0 := blk_frozen h2 0
        have r1 := blk_frozen h2 1
        have v0 := blk_cell (blk_set (blk_set h2 0 (.int .i64 P)) 1 (.int .i64 Q)) 0
        have v1 := blk_cell (blk_set (blk_set h2 0 (.int .i64 P)) 1 (.int .i64 Q)) 1
        have H := Lib.hid h4
        clear h1 h2 h3 h4 HO HK c0 c1 c2 c3 HP x0 x1 x2 x3
        go_wp2_with fail
        exact bodyPost_ret (v := .agg #[.int .i64 P, .int .i64 Q]) (by simp [results, Try.results28, go_sem, v0, v1]) rfl ⟨rfl, (H.out.setCell (by simp) _).setCell (by simp) _⟩
  · clear hK
    go_enter Try.func28, Try.ntmps28
    go_upto_region 1 with fail
    go_cut [3] from 4 to 28 (fun p wx => ∃ g, p = .pointer (some ⟨g, 0, none⟩) ∧ OpSt w wx (at4 S A E F) #[.int .i64 0, .int .i64 0] 24 s a e f g)
    case first =>
      go_wp2_with ((go_at_call 32; (with_reducible refine (hO _).mono ?_); rintro e0 w1 ⟨rfl, hk, hb1⟩))
      go_meet
      exact ⟨_, rfl, op_first hk hb1⟩
    case rest =>
      obtain ⟨g, rfl, ho⟩ := hcut
      have HO := Lib.hid ho
      obtain ⟨⟨c0, c1, c2, c3⟩, _⟩ := blk4 ho.2.2.2.1
      clear ho
      go_wp2_with ((go_at_call 33; (with_reducible refine (hL _).mono ?_); rintro e0 w1 ⟨rfl, hb1⟩; have HP := Lib.hid (op_below HO.out hb1); have h2 := HP.out.2.2.1; obtain ⟨⟨x0, x1, x2, x3⟩, _⟩ := blk4 HP.out.2.2.2.1; have d0 := blk_cell h2 0; have d1 := blk_cell h2 1; have r0 := blk_frozen h2 0; have r1 := blk_frozen h2 1; have v0 := blk_cell (blk_set (blk_set h2 0 (.int .i64 e)) 1 (.int .i64 f)) 0; have v1 := blk_cell (blk_set (blk_set h2 0 (.int .i64 e)) 1 (.int .i64 f)) 1; clear h2))
      exact bodyPost_ret (v := .agg #[.int .i64 e, .int .i64 f]) (by simp [results, Try.results28, go_sem, v0, v1]) rfl ⟨rfl, (HP.out.2.2.2.2.setCell (by simp) _).setCell (by simp) _⟩

/-- Inner's blocks behind open -/
def OiSt (w wx : World) (B : Array Value) (S : ByteArray) (A E F : Int) (g : Nat) : Prop :=
  w.heap.size + 2 < g ∧ Blk wx w.heap.size 26 B ∧ Blk wx (w.heap.size + 1) 26 (at4 ⟨#[]⟩ 0 0 0) ∧ Blk wx (w.heap.size + 2) 26 (at4 ⟨#[]⟩ 0 0 0) ∧ Blk wx g 53 (at4 S A E F) ∧ Below w.heap.size w wx
theorem oi_first {w w1 : World} {B : Array Value} {S : ByteArray} {A E F : Int}
    (hk : Blk w1 ((((w.alloc (.cells B 26)).alloc (.cells (at4 ⟨#[]⟩ 0 0 0) 26)).alloc (.cells (at4 ⟨#[]⟩ 0 0 0) 26)).heap.size + 1) 53 (at4 S A E F))
    (hb1 : Below (((w.alloc (.cells B 26)).alloc (.cells (at4 ⟨#[]⟩ 0 0 0) 26)).alloc (.cells (at4 ⟨#[]⟩ 0 0 0) 26)).heap.size (((w.alloc (.cells B 26)).alloc (.cells (at4 ⟨#[]⟩ 0 0 0) 26)).alloc (.cells (at4 ⟨#[]⟩ 0 0 0) 26)) w1) :
    OiSt w w1 B S A E F (w.heap.size + 4) := by
  have e : (((w.alloc (.cells B 26)).alloc (.cells (at4 ⟨#[]⟩ 0 0 0) 26)).alloc (.cells (at4 ⟨#[]⟩ 0 0 0) 26)).heap.size + 1 = w.heap.size + 4 := by simp
  rw [e] at hk
  have k2 := blk_new2 (w.alloc (.cells B 26)) (.cells (at4 ⟨#[]⟩ 0 0 0) 26) 26 (at4 ⟨#[]⟩ 0 0 0)
  have e2 : (w.alloc (.cells B 26)).heap.size + 1 = w.heap.size + 2 := by simp
  rw [e2] at k2
  exact ⟨by omega, blk_next (blk_alloc (blk_alloc (blk_new w 26 B) _) _) hb1, blk_next (blk_alloc (blk_new2 w _ 26 _) _) hb1, blk_next k2 hb1, hk, below_call (below_box (below_box (below_box (Below.refl _ _) _) _) _) hb1⟩
theorem oi_next {w w1 w2 : World} {B : Array Value} {S s : ByteArray} {A E F a e f : Int} {g : Nat} (h : OiSt w w1 B S A E F g)
    (hk : Blk w2 g 53 (at4 s a e f)) (hg : w1.grownBy w2 (some g)) : OiSt w w2 B s a e f g := by
  obtain ⟨h0, h1, h2, h3, h4, h5⟩ := h
  exact ⟨h0, blk_grown h1 hg (by omega), blk_grown h2 hg (by omega), blk_grown h3 hg (by omega), hk, below_grown h5 hg h5.size (by omega)⟩
theorem oi_below {w w1 w2 : World} {B : Array Value} {S : ByteArray} {A E F : Int} {g : Nat} (h : OiSt w w1 B S A E F g)
    (hb : Below w1.heap.size w1 w2) : OiSt w w2 B S A E F g := by
  obtain ⟨h0, h1, h2, h3, h4, h5⟩ := h
  exact ⟨h0, blk_next h1 hb, blk_next h2 hb, blk_next h3 hb, blk_next h4 hb, below_call h5 hb⟩

theorem oinner_walk (S s s2 : ByteArray) (A E F a e f n a2 e2 f2 a1 e1 f1 : Int) (t s1 : ByteArray) (hS : s2.size ≤ 9223372036854775807)
    (hO : ∀ u, Calls Try.prog 32 #[.agg #[.string S, .int .i64 A, .int .i64 E, .int .i64 F]] u fun e0 w' => e0 = .returned (.pointer (some ⟨u.heap.size + 1, 0, none⟩)) ∧ Blk w' (u.heap.size + 1) 53 (at4 s a e f) ∧ Below u.heap.size u w')
    (hP : ∀ g v, Blk v g 53 (at4 s a e f) → Calls Try.prog 37 #[.pointer (some ⟨g, 0, none⟩), .int .i64 1, .int .i64 n] v fun r w' => r = .returned (.string t) ∧ Blk w' g 53 (at4 s2 a2 e2 f2) ∧ v.grownBy w' (some g))
    (hF : ∀ u, Calls Try.prog 38 #[.agg #[.string s2, .int .i64 a2, .int .i64 e2, .int .i64 f2]] u fun e0 w' => e0 = .returned (.bool (e2 != 0)) ∧ Below u.heap.size u w')
    (h : ((e2 != 0) = true ∧ s2 = s1 ∧ a2 = a1 ∧ e2 = e1 ∧ f2 = f1) ∨ ((e2 != 0) = false ∧ 0 ≤ a2 ∧ a2 ≤ s2.size ∧ s2.extract 0 a2.toNat = s1 ∧ a = a1 ∧ 0 = e1 ∧ 0 = f1)) (w : World) :
    Calls Try.prog 22 #[.agg #[.string S, .int .i64 A, .int .i64 E, .int .i64 F], .int .i64 n] w fun e0 w' => e0 = .returned (.tuple #[.agg #[.string s1, .int .i64 a1, .int .i64 e1, .int .i64 f1], .agg #[.string s2, .int .i64 a2, .int .i64 e2, .int .i64 f2]]) ∧ Below w.heap.size w w' := by
  rcases h with ⟨h1, h2, h3, h4, h5⟩ | ⟨h1, h6, h7, h2, h3, h4, h5⟩
  all_goals
    rw [h1] at hF
    subst h2 h3 h4 h5
    go_enter Try.func22, Try.ntmps22
    go_upto_region 1 with fail
    go_cut [6] from 8 to 53 (fun p wx => ∃ g, p = .pointer (some ⟨g, 0, none⟩) ∧ OiSt w wx (at4 S A E F) s a e f g)
    case first =>
      go_wp2_with ((go_at_call 32; (with_reducible refine (hO _).mono ?_); rintro e0 w1 ⟨rfl, hk, hb1⟩))
      go_meet
      exact ⟨_, rfl, oi_first hk hb1⟩
    case rest =>
      obtain ⟨g, rfl, ho⟩ := hcut
      have HO := Lib.hid ho
      have HK := Lib.hid ho.2.2.2.2.1
      obtain ⟨⟨c0, c1, c2, c3⟩, _⟩ := blk4 HK.out
      clear ho
      go_upto_region 4 with (go_at_call 37; (with_reducible refine (hP _ _ HK.out).mono ?_); rintro e0 w1 ⟨rfl, hb1, hg1⟩; have HP := Lib.hid (oi_next HO.out hb1 hg1); obtain ⟨⟨x0, x1, x2, x3⟩, _⟩ := blk4 hb1)
      go_cut [6, 7, 23] from 8 to 53 (fun p y z wx => p = .pointer (some ⟨g, 0, none⟩) ∧ y = .int .i64 a ∧ z = .bool (e2 != 0) ∧ OiSt w wx (at4 S A E F) s2 a2 e2 f2 g)
      case first =>
        go_wp2_with ((go_at_call 38; (with_reducible refine (hF _).mono ?_); rintro e0 w2 ⟨rfl, hb2⟩))
        go_meet
        exact ⟨rfl, rfl, by rw [h1], oi_below HP.out hb2⟩
      case rest =>
        obtain ⟨rfl, rfl, rfl, hg, k0, k1, k2, kg, hbw⟩ := hcut
        rw [h1]
        obtain ⟨⟨x0, x1, x2, x3⟩, _⟩ := blk4 kg
        obtain ⟨⟨d0, d1, d2, d3⟩, q0, q1, q2, q3⟩ := blk4 k1
        obtain ⟨⟨u0, u1, u2, u3⟩, r0, r1, r2, r3⟩ := blk4 k2
        have K1 := Lib.hid k1
        have K2 := Lib.hid k2
        clear k0 k1 k2 kg h1 HK HO c0 c1 c2 c3
        go_wp2_with fail
        go_region
        go_wp2_with fail
        first
          | (have z1 := blk4_far (h := w.heap.size + 2) (blk4_set (s' := s2) (a' := a2) (e' := e2) (f' := f2) K1.out) (by omega) (.string s2) (.int .i64 a2) (.int .i64 e2) (.int .i64 f2)
             have z2 := blk4_set (s' := s2) (a' := a2) (e' := e2) (f' := f2) (blk4_far (h := w.heap.size + 1) K2.out (by omega) (.string s2) (.int .i64 a2) (.int .i64 e2) (.int .i64 f2))
             obtain ⟨⟨v0, v1, v2, v3⟩, _⟩ := blk4 z1
             obtain ⟨⟨y0, y1, y2, y3⟩, _⟩ := blk4 z2
             exact bodyPost_ret (v := .tuple #[.agg #[.string s2, .int .i64 a2, .int .i64 e2, .int .i64 f2], .agg #[.string s2, .int .i64 a2, .int .i64 e2, .int .i64 f2]]) (by simp [results, Try.results22, go_sem, v0, v1, v2, v3, y0, y1, y2, y3]) rfl ⟨rfl, (below4 (below4 hbw (by omega) _ _ _ _) (by omega) _ _ _ _).drew⟩)
          | (have z1 := blk4_far (h := w.heap.size + 2) (blk4_set (s' := s2.extract 0 a2.toNat) (a' := a) (e' := 0) (f' := 0) K1.out) (by omega) (.string s2) (.int .i64 a2) (.int .i64 e2) (.int .i64 f2)
             have z2 := blk4_set (s' := s2) (a' := a2) (e' := e2) (f' := f2) (blk4_far (h := w.heap.size + 1) K2.out (by omega) (.string (s2.extract 0 a2.toNat)) (.int .i64 a) (.int .i64 0) (.int .i64 0))
             obtain ⟨⟨v0, v1, v2, v3⟩, _⟩ := blk4 z1
             obtain ⟨⟨y0, y1, y2, y3⟩, _⟩ := blk4 z2
             exact bodyPost_ret (v := .tuple #[.agg #[.string (s2.extract 0 a2.toNat), .int .i64 a, .int .i64 0, .int .i64 0], .agg #[.string s2, .int .i64 a2, .int .i64 e2, .int .i64 f2]]) (by simp [results, Try.results22, go_sem, v0, v1, v2, v3, y0, y1, y2, y3]) rfl ⟨rfl, (below4 (below4 hbw (by omega) _ _ _ _) (by omega) _ _ _ _).drew⟩)
end Go.Proofs.Ytipigfngeiodlaa
