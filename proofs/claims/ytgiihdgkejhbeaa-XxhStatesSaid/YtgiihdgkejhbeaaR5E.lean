/-
  The reference's states: Add.
-/
import Derived.Test.YtgiihdgkejhbeaaR5D
namespace Go.Proofs.Ytgiihdgkejhbeaa
open Go.ChangeShapes Go.WideShapes Go.ChangeAt Go.RowKit
set_option linter.unusedVariables false

/-- Add's words -/
def adV (a b c d T : Int) (s : ByteArray) (e : Int) (t : ByteArray) : Value :=
  if vldOk a b c d T s e then
    (if (t.size : Int) ≤ 1099511627776 - T then .agg #[.int .u64 (adL ⟨a, b, c, d⟩ s t).a, .int .u64 (adL ⟨a, b, c, d⟩ s t).b, .int .u64 (adL ⟨a, b, c, d⟩ s t).c, .int .u64 (adL ⟨a, b, c, d⟩ s t).d, .int .i64 (T + t.size), .string (adT s t), .int .u64 e]
      else .agg #[.int .u64 0, .int .u64 0, .int .u64 0, .int .u64 0, .int .i64 0, .string ⟨#[]⟩, .int .u64 0])
  else .agg #[.int .u64 0, .int .u64 0, .int .u64 0, .int .u64 0, .int .i64 0, .string ⟨#[]⟩, .int .u64 0]
def adR (a b c d T : Int) (s : ByteArray) (e : Int) (t : ByteArray) : Int :=
  if vldOk a b c d T s e then (if (t.size : Int) ≤ 1099511627776 - T then 0 else 2) else 10

theorem set74 {w : World} {g : Nat} {t : TypeId} {v0 v1 v2 v3 v4 v5 v6 : Value} (h : Blk w g t #[v0, v1, v2, v3, v4, v5, v6]) (u : Value) :
    Blk (w.setCell ⟨g, 4, none⟩ u) g t #[v0, v1, v2, v3, u, v5, v6] := blk_set h 4 u
theorem set75 {w : World} {g : Nat} {t : TypeId} {v0 v1 v2 v3 v4 v5 v6 : Value} (h : Blk w g t #[v0, v1, v2, v3, v4, v5, v6]) (u : Value) :
    Blk (w.setCell ⟨g, 5, none⟩ u) g t #[v0, v1, v2, v3, v4, u, v6] := blk_set h 5 u
theorem set70 {w : World} {g : Nat} {t : TypeId} {v0 v1 v2 v3 v4 v5 v6 : Value} (h : Blk w g t #[v0, v1, v2, v3, v4, v5, v6]) (u0 u1 u2 u3 : Value) :
    Blk ((((w.setCell ⟨g, 0, none⟩ u0).setCell ⟨g, 1, none⟩ u1).setCell ⟨g, 2, none⟩ u2).setCell ⟨g, 3, none⟩ u3) g t #[u0, u1, u2, u3, v4, v5, v6] := by
  have h0 : Blk _ g t #[u0, v1, v2, v3, v4, v5, v6] := blk_set h 0 u0
  have h1 : Blk _ g t #[u0, u1, v2, v3, v4, v5, v6] := blk_set h0 1 u1
  have h2 : Blk _ g t #[u0, u1, u2, v3, v4, v5, v6] := blk_set h1 2 u2
  exact blk_set h2 3 u3
theorem far4 {w : World} {g h : Nat} {t : TypeId} {cs : Array Value} (hb : Blk w g t cs) (hne : g ≠ h) (u0 u1 u2 u3 : Value) :
    Blk ((((w.setCell ⟨h, 0, none⟩ u0).setCell ⟨h, 1, none⟩ u1).setCell ⟨h, 2, none⟩ u2).setCell ⟨h, 3, none⟩ u3) g t cs := blk_far (blk_far (blk_far (blk_far hb hne _) hne _) hne _) hne _

theorem radd_pre {w w1 : World} {a b c d T e : Int} {s : ByteArray}
    (hb1 : Below ((w.alloc (.cells #[.int .u64 a, .int .u64 b, .int .u64 c, .int .u64 d, .int .i64 T, .string s, .int .u64 e] 32)).alloc (.cells #[.int .u64 0, .int .u64 0, .int .u64 0, .int .u64 0, .int .i64 0, .string ⟨#[]⟩, .int .u64 0] 32)).heap.size ((w.alloc (.cells #[.int .u64 a, .int .u64 b, .int .u64 c, .int .u64 d, .int .i64 T, .string s, .int .u64 e] 32)).alloc (.cells #[.int .u64 0, .int .u64 0, .int .u64 0, .int .u64 0, .int .i64 0, .string ⟨#[]⟩, .int .u64 0] 32)) w1) :
    Blk w1 w.heap.size 32 #[.int .u64 a, .int .u64 b, .int .u64 c, .int .u64 d, .int .i64 T, .string s, .int .u64 e] ∧ Blk w1 (w.heap.size + 1) 32 #[.int .u64 0, .int .u64 0, .int .u64 0, .int .u64 0, .int .i64 0, .string ⟨#[]⟩, .int .u64 0] ∧ Below w.heap.size w w1 :=
  ⟨blk_next (blk_alloc (blk_new w 32 _) _) hb1, blk_next (blk_new2 w _ 32 _) hb1, below_call (below_box (below_box (Below.refl _ _) _) _) hb1⟩

set_option maxHeartbeats 1000000 in
theorem radd_err (a b c d T : Int) (s : ByteArray) (e : Int) (t : ByteArray) (k r : Int) (h : (k = 10 ∧ r = 10) ∨ (k = 0 ∧ r = 2 ∧ T ≤ 1099511627776 ∧ 0 ≤ T ∧ 1099511627776 - T < (t.size : Int))) (w : World)
    (hC : ∀ u, Calls Try.prog 21 #[.agg #[.int .u64 a, .int .u64 b, .int .u64 c, .int .u64 d, .int .i64 T, .string s, .int .u64 e]] u fun r w' => r = .returned (.int .i64 k) ∧ Below u.heap.size u w') :
    Calls Try.prog 17 #[.agg #[.int .u64 a, .int .u64 b, .int .u64 c, .int .u64 d, .int .i64 T, .string s, .int .u64 e], .string t] w fun x w' => x = .returned (.tuple #[.agg #[.int .u64 0, .int .u64 0, .int .u64 0, .int .u64 0, .int .i64 0, .string ⟨#[]⟩, .int .u64 0], .int .i64 r]) ∧ Below w.heap.size w w' := by
  rcases h with ⟨rfl, rfl⟩ | ⟨rfl, rfl, h1, h0, h2⟩
  all_goals
    go_enter Try.func17, Try.ntmps17
    go_wp2_with (go_at_call 21; (with_reducible refine (hC _).mono ?_); rintro x w1 ⟨rfl, hb1⟩; have P := Lib.hid (radd_pre hb1); obtain ⟨p0, p1, p2, p3, p4, p5, p6⟩ := c7 P.out.2.1; obtain ⟨q0, q1, q2, q3, q4, q5, q6, _⟩ := z7 P.out.2.1; obtain ⟨m0, m1, m2, m3, m4, m5, m6⟩ := c7 P.out.1; clear hb1)
    obtain ⟨y0, y1, y2, y3, y4, y5, y6⟩ := c7 (set7 P.out.2.1 (.int .u64 0) (.int .u64 0) (.int .u64 0) (.int .u64 0) (.int .i64 0) (.string ⟨#[]⟩) (.int .u64 0))
    exact bodyPost_ret (v := .tuple #[.agg #[.int .u64 0, .int .u64 0, .int .u64 0, .int .u64 0, .int .i64 0, .string ⟨#[]⟩, .int .u64 0], .int .i64 _]) (by simp [results, Try.results17, go_sem, y0, y1, y2, y3, y4, y5, y6]) rfl ⟨rfl, below7 P.out.2.2 (by omega) _ _ _ _ _ _ _⟩

set_option maxHeartbeats 2000000 in
theorem radd_ok (L : L4) (T : Int) (s : ByteArray) (e : Int) (t : ByteArray) (hst : s.size + t.size ≤ 1099511627776) (h0 : 0 ≤ T) (hT : T + t.size ≤ 1099511627776) (w : World)
    (hC : ∀ u, Calls Try.prog 21 #[.agg #[.int .u64 L.a, .int .u64 L.b, .int .u64 L.c, .int .u64 L.d, .int .i64 T, .string s, .int .u64 e]] u fun r w' => r = .returned (.int .i64 0) ∧ Below u.heap.size u w') :
    Calls Try.prog 17 #[.agg #[.int .u64 L.a, .int .u64 L.b, .int .u64 L.c, .int .u64 L.d, .int .i64 T, .string s, .int .u64 e], .string t] w fun r w' => r = .returned (.tuple #[.agg #[.int .u64 (adL L s t).a, .int .u64 (adL L s t).b, .int .u64 (adL L s t).c, .int .u64 (adL L s t).d, .int .i64 (T + t.size), .string (adT s t), .int .u64 e], .int .i64 0]) ∧ Below w.heap.size w w' := by
  have hcs : ¬ 9223372036854775807 < s.size + t.size := by omega
  have hsz : (s ++ t).size = s.size + t.size := ByteArray.size_append
  have hR : tb (s ++ t).size L (s ++ t).data.toList = adL L s t := by rw [hsz, cat_list]; rfl
  have hRT : tl (s ++ t).size (s ++ t).data.toList = (adT s t).data.toList := by rw [hsz, cat_list]; rfl
  generalize (adL L s t) = R at *
  generalize (adT s t) = z at *
  have hsum0 : wrap64 (T + t.size) = T + t.size := IntWalk.wrap64_in _ ⟨by omega, by omega⟩
  obtain ⟨T2, hT2⟩ : ∃ T2, T + (t.size : Int) = T2 := ⟨_, rfl⟩
  rw [hT2]
  have hsum : wrap64 (T + t.size) = T2 := by rw [hsum0, hT2]
  have HT := Lib.hid hT2
  clear hsum0 hT2
  have hle : ¬ 1099511627776 - T < (t.size : Int) := by omega
  have hd : decide (1099511627776 - T < (t.size : Int)) = false := decide_eq_false hle
  have HH := Lib.hid (And.intro hR (And.intro hRT (show (s ++ t).size ≤ 9223372036854775807 by omega)))
  clear hR hRT hsz
  obtain ⟨a, b, c, d⟩ := L
  go_enter Try.func17, Try.ntmps17
  go_upto_region 6 with (go_at_call 21; (with_reducible refine (hC _).mono ?_); rintro x w1 ⟨rfl, hb1⟩; have P := Lib.hid (radd_pre hb1); obtain ⟨m0, m1, m2, m3, m4, m5, m6⟩ := c7 P.out.1; obtain ⟨n0, n1, n2, n3, n4, n5, n6, _⟩ := z7 P.out.1; clear hb1)
  go_wp2_with fail
  have hne : w.heap.size + 1 ≠ w.heap.size := by omega
  have A1 := Lib.hid (set75 (set74 P.out.1 (.int .i64 (wrap64 (T + t.size)))) (.string (s ++ t)))
  have A2 := Lib.hid (blk_far (p := ⟨w.heap.size, 5, none⟩) (blk_far (p := ⟨w.heap.size, 4, none⟩) P.out.2.1 hne (.int .i64 (wrap64 (T + t.size)))) hne (.string (s ++ t)))
  have A3 := Lib.hid ((P.out.2.2.setCell (p := ⟨w.heap.size, 4, none⟩) (Nat.le_refl _) (.int .i64 (wrap64 (T + t.size)))).setCell (p := ⟨w.heap.size, 5, none⟩) (Nat.le_refl _) (.string (s ++ t)))
  rw [hsum] at A1 A2 A3
  rw [HT.out]
  go_loopw [] (fun wr => ∃ (f : Nat) (M : L4) (y : ByteArray), y.size ≤ f ∧ Hid (tb f M y.data.toList = R ∧ tl f y.data.toList = z.data.toList) ∧ y.size ≤ 9223372036854775807 ∧ Blk wr w.heap.size 32 #[.int .u64 M.a, .int .u64 M.b, .int .u64 M.c, .int .u64 M.d, .int .i64 T2, .string y, .int .u64 e] ∧ Blk wr (w.heap.size + 1) 32 #[.int .u64 0, .int .u64 0, .int .u64 0, .int .u64 0, .int .i64 0, .string ⟨#[]⟩, .int .u64 0] ∧ Below w.heap.size w wr) (fun wr => szOf ((wr.cell? ⟨w.heap.size, 5, none⟩).getD undef))
  case atStart => exact ⟨(s ++ t).size, ⟨a, b, c, d⟩, s ++ t, Nat.le_refl _, ⟨HH.out.1, HH.out.2.1⟩, HH.out.2.2, A1.out, A2.out, A3.out⟩
  case round =>
    obtain ⟨f, M, y, hf, hh, hy, kb, kr, hbr⟩ := hrel
    have KB := Lib.hid kb
    have KR := Lib.hid kr
    have HBR := Lib.hid hbr
    clear kb kr hbr A1 A2 A3 P HH m0 m1 m2 m3 m4 m5 m6 n0 n1 n2 n3 n4 n5 n6
    obtain ⟨c0, c1, c2, c3, c4, c5, c6⟩ := c7 KB.out
    by_cases h32 : 32 ≤ y.size
    · have h32i : (32 : Int) ≤ (y.size : Int) := by omega
      obtain ⟨f', rfl⟩ : ∃ f', f = f' + 1 := ⟨f - 1, by omega⟩
      obtain ⟨h1, h2⟩ := hh.out
      rw [tb_32 f' M _ h32, mixL_take, ← tail_list] at h1
      rw [tl_32 f' _ h32, ← tail_list] at h2
      have he : (y.extract 32 y.size).size = y.size - 32 := by rw [ByteArray.size_extract, Nat.min_self]
      have hM := fun u => rtake_any M y hy h32 u
      generalize mixL M y.data.toList = Q at *
      have G := Lib.hid (And.intro h1 h2)
      have hc5 := c5
      clear h1 h2 hh
      go_wp2_with (go_at_call 29; (with_reducible refine (hM _).mono ?_); rintro r w2 ⟨rfl, hb1⟩; have J := Lib.hid (blk_next KB.out hb1); have JR := Lib.hid (blk_next KR.out hb1); obtain ⟨e0, e1, e2, e3, e4, e5, e6⟩ := c7 J.out; obtain ⟨b0, b1, b2, b3, b4, b5, b6, _⟩ := z7 J.out)
      go_roundw
      case rel => exact ⟨f', Q, y.extract 32 y.size, by omega, G.out, by omega, set75 (set70 J.out _ _ _ _) _, blk_far (far4 JR.out hne _ _ _ _) hne _, ((((below_call HBR.out hb1).setCell (Nat.le_refl _) _ |>.setCell (Nat.le_refl _) _).setCell (Nat.le_refl _) _).setCell (Nat.le_refl _) _).setCell (Nat.le_refl _) _⟩
      case measure =>
        have hw := blk_cell (set75 (set70 J.out (.int .u64 Q.a) (.int .u64 Q.b) (.int .u64 Q.c) (.int .u64 Q.d)) (.string (y.extract 32 y.size))) 5
        rw [hw, hc5]
        show (y.extract 32 y.size).size < y.size
        omega
    · have h32i : ¬ (32 : Int) ≤ (y.size : Int) := by omega
      obtain ⟨h1, h2⟩ := hh.out
      rw [tb_end _ _ _ (show ¬ 32 ≤ y.data.toList.length from h32)] at h1
      rw [tl_end _ _ (show ¬ 32 ≤ y.data.toList.length from h32)] at h2
      have h3 : y = z := by rw [← ba_list y, h2, ba_list]
      subst h1 h3
      clear h2 hh
      obtain ⟨e0, e1, e2, e3, e4, e5, e6⟩ := c7 KR.out
      obtain ⟨b0, b1, b2, b3, b4, b5, b6, _⟩ := z7 KR.out
      go_wp2_with fail
      obtain ⟨y0, y1, y2, y3, y4, y5, y6⟩ := c7 (set7 KR.out (.int .u64 M.a) (.int .u64 M.b) (.int .u64 M.c) (.int .u64 M.d) (.int .i64 T2) (.string y) (.int .u64 e))
      exact bodyPost_ret (v := .tuple #[.agg #[.int .u64 M.a, .int .u64 M.b, .int .u64 M.c, .int .u64 M.d, .int .i64 T2, .string y, .int .u64 e], .int .i64 0]) (by simp [results, Try.results17, go_sem, y0, y1, y2, y3, y4, y5, y6]) rfl ⟨rfl, below7 HBR.out (by omega) _ _ _ _ _ _ _⟩

theorem radd_any (a b c d T : Int) (s : ByteArray) (e : Int) (t : ByteArray) (ht : t.size ≤ 1000000000) (w : World) :
    Calls Try.prog 17 #[.agg #[.int .u64 a, .int .u64 b, .int .u64 c, .int .u64 d, .int .i64 T, .string s, .int .u64 e], .string t] w fun r w' => r = .returned (.tuple #[adV a b c d T s e t, .int .i64 (adR a b c d T s e t)]) ∧ Below w.heap.size w w' := by
  have hC := fun u => rcheck_any a b c d T s e u
  unfold adV adR
  by_cases h : vldOk a b c d T s e
  · rw [if_pos h] at hC
    rw [if_pos h, if_pos h]
    obtain ⟨h0, h1, h2, _⟩ := h
    by_cases hl : (t.size : Int) ≤ 1099511627776 - T
    · rw [if_pos hl, if_pos hl]
      exact radd_ok ⟨a, b, c, d⟩ T s e t (by omega) h0 (by omega) w hC
    · rw [if_neg hl, if_neg hl]
      exact radd_err a b c d T s e t 0 2 (.inr ⟨rfl, rfl, h1, h0, by omega⟩) w hC
  · rw [if_neg h] at hC
    rw [if_neg h, if_neg h]
    exact radd_err a b c d T s e t 10 10 (.inl ⟨rfl, rfl⟩) w hC
theorem oadd_any (a b c d T : Int) (s : ByteArray) (e : Int) (t : ByteArray) (ht : t.size ≤ 1000000000) (w : World) :
    Calls Try.prog 16 #[.agg #[.int .u64 a, .int .u64 b, .int .u64 c, .int .u64 d, .int .i64 T, .string s, .int .u64 e], .string t] w fun r w' => r = .returned (.tuple #[adV a b c d T s e t, .int .i64 (adR a b c d T s e t)]) ∧ Below w.heap.size w w' := by
  unfold adV adR
  by_cases h : vldOk a b c d T s e
  · rw [if_pos h, if_pos h]
    by_cases hl : (t.size : Int) ≤ 1099511627776 - T
    · rw [if_pos hl, if_pos hl]
      have h0 := h.1
      have h2 := h.2.2.1
      exact add_ok ⟨a, b, c, d⟩ T s e t h (by omega) (by omega) w
    · rw [if_neg hl, if_neg hl]
      exact add_long a b c d T s e t h (by omega) w
  · rw [if_neg h, if_neg h]
    exact add_bad a b c d T s e t h w
end Go.Proofs.Ytgiihdgkejhbeaa
