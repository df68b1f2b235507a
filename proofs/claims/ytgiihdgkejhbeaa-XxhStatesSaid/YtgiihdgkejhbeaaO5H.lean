/-
  The project's taker: all blocks, and what is left.
-/
import Derived.Test.YtgiihdgkejhbeaaO5F
import Derived.Test.YtgiihdgkejhbeaaGrow
import Derived.StillTailTactics
import Derived.Deep.RegionWith
namespace Go.Proofs.Ytgiihdgkejhbeaa
open Go.ChangeShapes Go.WideShapes Go.ChangeAt Go.RowKit
set_option linter.unusedVariables false

/-- the lanes behind all blocks, and the bytes that are left -/
def tb : Nat → L4 → List UInt8 → L4
  | 0, L, _ => L
  | f + 1, L, l => if 32 ≤ l.length then tb f (mixL L (l.take 32)) (l.drop 32) else L
def tl : Nat → List UInt8 → List UInt8
  | 0, l => l
  | f + 1, l => if 32 ≤ l.length then tl f (l.drop 32) else l

/-- a taker's eight cells -/
theorem c8 {w : World} {g : Nat} {t : TypeId} {v0 v1 v2 v3 v4 v5 v6 v7 : Value} (h : Blk w g t #[v0, v1, v2, v3, v4, v5, v6, v7]) :
    w.cell? ⟨g, 0, none⟩ = some v0 ∧ w.cell? ⟨g, 1, none⟩ = some v1 ∧ w.cell? ⟨g, 2, none⟩ = some v2 ∧ w.cell? ⟨g, 3, none⟩ = some v3 ∧ w.cell? ⟨g, 4, none⟩ = some v4 ∧ w.cell? ⟨g, 5, none⟩ = some v5 ∧ w.cell? ⟨g, 6, none⟩ = some v6 ∧ w.cell? ⟨g, 7, none⟩ = some v7 :=
  ⟨blk_cell h 0, blk_cell h 1, blk_cell h 2, blk_cell h 3, blk_cell h 4, blk_cell h 5, blk_cell h 6, blk_cell h 7⟩
theorem set4 {w : World} {g : Nat} {t : TypeId} {v0 v1 v2 v3 v4 v5 v6 v7 : Value} (h : Blk w g t #[v0, v1, v2, v3, v4, v5, v6, v7]) (u0 u1 u2 u3 : Value) :
    Blk ((((w.setCell ⟨g, 0, none⟩ u0).setCell ⟨g, 1, none⟩ u1).setCell ⟨g, 2, none⟩ u2).setCell ⟨g, 3, none⟩ u3) g t #[u0, u1, u2, u3, v4, v5, v6, v7] := by
  have h0 : Blk _ g t #[u0, v1, v2, v3, v4, v5, v6, v7] := blk_set h 0 u0
  have h1 : Blk _ g t #[u0, u1, v2, v3, v4, v5, v6, v7] := blk_set h0 1 u1
  have h2 : Blk _ g t #[u0, u1, u2, v3, v4, v5, v6, v7] := blk_set h1 2 u2
  exact blk_set h2 3 u3

theorem set84 {w : World} {g : Nat} {t : TypeId} {v0 v1 v2 v3 v4 v5 v6 v7 : Value} (h : Blk w g t #[v0, v1, v2, v3, v4, v5, v6, v7]) (u : Value) :
    Blk (w.setCell ⟨g, 4, none⟩ u) g t #[v0, v1, v2, v3, u, v5, v6, v7] := blk_set h 4 u
theorem set85 {w : World} {g : Nat} {t : TypeId} {v0 v1 v2 v3 v4 v5 v6 v7 : Value} (h : Blk w g t #[v0, v1, v2, v3, v4, v5, v6, v7]) (u : Value) :
    Blk (w.setCell ⟨g, 5, none⟩ u) g t #[v0, v1, v2, v3, v4, u, v6, v7] := blk_set h 5 u
theorem set87 {w : World} {g : Nat} {t : TypeId} {v0 v1 v2 v3 v4 v5 v6 v7 : Value} (h : Blk w g t #[v0, v1, v2, v3, v4, v5, v6, v7]) (u : Value) :
    Blk (w.setCell ⟨g, 7, none⟩ u) g t #[v0, v1, v2, v3, v4, v5, v6, u] := blk_set h 7 u

theorem ba_list (x : ByteArray) : (⟨x.data.toList.toArray⟩ : ByteArray) = x := by cases x; simp
theorem cat_list (s t : ByteArray) : (s ++ t).data.toList = s.data.toList ++ t.data.toList := by simp
theorem cut_front (t : ByteArray) (n : Nat) : (t.extract 0 n).data.toList = t.data.toList.take n := by
  rw [ByteArray.data_extract, Array.toList_extract]
  simp only [List.extract, List.drop_zero, Nat.sub_zero]
theorem block_list (s t : ByteArray) (n : Nat) (h : s.size + n = 32) : (s ++ t.extract 0 n).data.toList = (s.data.toList ++ t.data.toList).take 32 := by
  have hl : s.data.toList.length = s.size := rfl
  rw [cat_list, cut_front, List.take_append, hl, List.take_of_length_le (l := s.data.toList) (by rw [hl]; omega), show 32 - s.size = n by omega]
theorem rest_list (s t : ByteArray) (n : Nat) (h : s.size + n = 32) (hn : n ≤ t.size) : (t.extract n t.size).data.toList = (s.data.toList ++ t.data.toList).drop 32 := by
  have hl : s.data.toList.length = s.size := rfl
  rw [tail_list, List.drop_append, hl, List.drop_of_length_le (l := s.data.toList) (by rw [hl]; omega), show 32 - s.size = n by omega, List.nil_append]
theorem tb_32 (f : Nat) (L : L4) (l : List UInt8) (h : 32 ≤ l.length) : tb (f + 1) L l = tb f (mixL L (l.take 32)) (l.drop 32) := by rw [tb, if_pos h]
theorem tl_32 (f : Nat) (l : List UInt8) (h : 32 ≤ l.length) : tl (f + 1) l = tl f (l.drop 32) := by rw [tl, if_pos h]
theorem tb_end (f : Nat) (L : L4) (l : List UInt8) (h : ¬ 32 ≤ l.length) : tb f L l = L := by cases f with
  | zero => rfl
  | succ f => rw [tb, if_neg h]
theorem tl_end (f : Nat) (l : List UInt8) (h : ¬ 32 ≤ l.length) : tl f l = l := by cases f with
  | zero => rfl
  | succ f => rw [tl, if_neg h]

/-- what a round of the taker keeps -/
def Tkr (w wr : World) (g : Nat) (T e : Int) (R : L4) (RT : List UInt8) (f : Nat) (a b c d : Int) (s t : ByteArray) : Prop :=
  s.size < 32 ∧ s.size + t.size ≤ 1099511627776 ∧ s.size + t.size ≤ f ∧ tb f ⟨a, b, c, d⟩ (s.data.toList ++ t.data.toList) = R ∧ tl f (s.data.toList ++ t.data.toList) = RT ∧
  Blk wr g 51 #[.int .u64 a, .int .u64 b, .int .u64 c, .int .u64 d, .int .i64 T, .string s, .int .u64 e, .string t] ∧ w.grownBy wr (some g)

set_option maxRecDepth 100000 in
set_option maxHeartbeats 2000000 in
theorem take_any (g : Nat) (a b c d T : Int) (s t : ByteArray) (e : Int) (hs : s.size < 32) (hst : s.size + t.size ≤ 1099511627776) (hT0 : 0 ≤ T) (hT1 : T ≤ 1099511627776) (w : World)
    (hb : Blk w g 51 #[.int .u64 a, .int .u64 b, .int .u64 c, .int .u64 d, .int .i64 T, .string s, .int .u64 e, .string t]) :
    Calls Try.prog 26 #[.pointer (some ⟨g, 0, none⟩)] w fun r w' => r = .returned (.tuple #[]) ∧
      (∃ t', Blk w' g 51 #[.int .u64 (tb (s.size + t.size) ⟨a, b, c, d⟩ (s.data.toList ++ t.data.toList)).a, .int .u64 (tb (s.size + t.size) ⟨a, b, c, d⟩ (s.data.toList ++ t.data.toList)).b, .int .u64 (tb (s.size + t.size) ⟨a, b, c, d⟩ (s.data.toList ++ t.data.toList)).c, .int .u64 (tb (s.size + t.size) ⟨a, b, c, d⟩ (s.data.toList ++ t.data.toList)).d,
        .int .i64 (T + t.size), .string ⟨(tl (s.size + t.size) (s.data.toList ++ t.data.toList)).toArray⟩, .int .u64 e, .string t']) ∧ w.grownBy w' (some g) := by
  obtain ⟨R, hR⟩ : ∃ R, tb (s.size + t.size) ⟨a, b, c, d⟩ (s.data.toList ++ t.data.toList) = R := ⟨_, rfl⟩
  obtain ⟨RT, hRT⟩ : ∃ RT, tl (s.size + t.size) (s.data.toList ++ t.data.toList) = RT := ⟨_, rfl⟩
  obtain ⟨T2, hT2⟩ : ∃ T2, T + (t.size : Int) = T2 := ⟨_, rfl⟩
  have hsum : wrap64 (T + t.size) = T2 := by rw [IntWalk.wrap64_in _ ⟨by omega, by omega⟩, hT2]
  rw [hR, hRT, hT2]
  clear hT2
  have hl := blk_lt hb
  have HB := Lib.hid hb
  have HH := Lib.hid (And.intro hs (And.intro hst (And.intro hR hRT)))
  obtain ⟨c0, c1, c2, c3, c4, c5, c6, c7⟩ := c8 hb
  have f4 := blk_frozen hb 4
  clear hb hR hRT hst hs
  go_enter Try.func26, Try.ntmps26
  go_upto_region 0 with fail
  go_cut [] from 3 to 95 (fun wx => Tkr w wx g (wrap64 (T + t.size)) e R RT (s.size + t.size) a b c d s t)
  case first =>
    go_still_tail 16, (by kernel_rfl)
    go_wp2_with fail
    go_meet
    exact ⟨HH.out.1, HH.out.2.1, Nat.le_refl _, HH.out.2.2.1, HH.out.2.2.2, blk_drew (set84 HB.out _), grown_drew (grown_set (grown_refl _ _) _ _)⟩
  case rest =>
    rw [hsum] at hcut
    have H0 := Lib.hid hcut
    clear hcut hsum c0 c1 c2 c3 c4 c5 c6 c7 f4 HB HH hT0 hT1
    go_wp2_with fail
    go_loopw [2] (fun n wr => ∃ (f : Nat) (a b c d : Int) (s t : ByteArray), Tkr w wr g T2 e R RT f a b c d s t) (fun n wr => szOf ((wr.cell? ⟨g, 7, none⟩).getD undef))
    case atStart => exact ⟨_, _, _, _, _, _, _, H0.out⟩
    case round =>
      clear H0
      obtain ⟨f, a, b, c, d, s, t, hr⟩ := hrel
      have HR := Lib.hid hr
      obtain ⟨r1, r2, r3, r4, r5, r6, r7⟩ := hr
      have hl2 := blk_lt r6
      obtain ⟨c0, c1, c2, c3, c4, c5, c6, c7⟩ := c8 r6
      have s1 : wrap64 ((s.size : Int) + t.size) = (s.size : Int) + t.size := IntWalk.wrap64_in _ ⟨by omega, by omega⟩
      clear r4 r5 r6 r7
      by_cases h32 : 32 ≤ s.size + t.size
      · have h32i : (32 : Int) ≤ (s.size : Int) + t.size := by omega
        obtain ⟨n, hn⟩ : ∃ n, s.size + n = 32 := ⟨32 - s.size, by omega⟩
        have hni : (32 : Int) - s.size = n := by omega
        have s2 : wrap64 ((32 : Int) - s.size) = n := by rw [hni, IntWalk.wrap64_in _ ⟨by omega, by omega⟩]
        go_wp2_with fail
        go_quiet (fail)
        go_upto_region 3 with fail
        have hbl : s.data.toList.length = s.size := rfl
        have hcs : ¬ 9223372036854775807 < s.size + (t.extract 0 n).size := by
          have := ext_le t 0 n
          omega
        have hbs : (s ++ t.extract 0 n).size = 32 := by
          rw [ByteArray.size_append, ByteArray.size_extract]; omega
        obtain ⟨M, hMd⟩ : ∃ M, mixL ⟨a, b, c, d⟩ (s ++ t.extract 0 n).data.toList = M := ⟨_, rfl⟩
        have hM := fun u => mixed_any ⟨a, b, c, d⟩ (s ++ t.extract 0 n) (by rw [hbs]; decide) (by omega) u
        rw [hMd] at hM
        have hB8 := Lib.hid HR.out.2.2.2.2.2.1
        have hG8 := Lib.hid HR.out.2.2.2.2.2.2
        go_cut [2] from 19 to 79 (fun n' wx => n' = .int .i64 n ∧ Blk wx g 51 #[.int .u64 M.a, .int .u64 M.b, .int .u64 M.c, .int .u64 M.d, .int .i64 T2, .string s, .int .u64 e, .string t] ∧ w.grownBy wx (some g))
        case first =>
          go_region_with (go_at_call 34; (with_reducible refine (hM _).mono ?_); rintro r w1 ⟨rfl, hb1⟩; have K := Lib.hid (blk_next (blk_drew (blk_drewN hB8.out _)) hb1); obtain ⟨p0, p1, p2, p3, p4, p5, p6, p7⟩ := c8 K.out; have q0 := blk_frozen K.out 0; have q1 := blk_frozen K.out 1; have q2 := blk_frozen K.out 2; have q3 := blk_frozen K.out 3)
          all_goals
            go_wp2_with fail
            go_meet
            exact ⟨rfl, set4 K.out _ _ _ _, grown_set (grown_set (grown_set (grown_set (grown_trans (grown_drew (grown_drewN hG8.out _)) (grown_below hb1 _)) _ _) _ _) _ _) _ _⟩
        case rest =>
          have hc7 := c7
          clear c0 c1 c2 c3 c4 c5 c6 c7
          obtain ⟨rfl, hb, hg⟩ := hcut
          have HB2 := Lib.hid hb
          have HG2 := Lib.hid hg
          obtain ⟨c0, c1, c2, c3, c4, c5, c6, c7⟩ := c8 hb
          have q5 := blk_frozen hb 5
          have q7 := blk_frozen hb 7
          have hnt : (n : Int) ≤ (t.size : Int) := by omega
          obtain ⟨f', rfl⟩ : ∃ f', f = f' + 1 := ⟨f - 1, by omega⟩
          have hlen : 32 ≤ (s.data.toList ++ t.data.toList).length := by rw [List.length_append]; exact h32
          have g1 := HR.out.2.2.2.1
          have g2 := HR.out.2.2.2.2.1
          rw [tb_32 f' _ _ hlen, ← block_list s t n hn, hMd, ← rest_list s t n hn (by omega)] at g1
          rw [tl_32 f' _ hlen, ← rest_list s t n hn (by omega)] at g2
          have he : (t.extract n t.size).size = t.size - n := by rw [ByteArray.size_extract, Nat.min_self]
          have G := Lib.hid (And.intro g1 g2)
          clear hb hg g1 g2 hM hMd HR hB8 hG8
          go_wp2_with fail
          go_region_with (fail)
          all_goals
            go_wp2_with fail
            go_roundw
            case rel => exact ⟨f', M.a, M.b, M.c, M.d, ⟨#[]⟩, t.extract n t.size, Nat.zero_lt_succ _, by rw [he]; show 0 + (t.size - n) ≤ _; omega, by rw [he]; show 0 + (t.size - n) ≤ _; omega, G.out.1, G.out.2, blk_drew (set87 (set85 HB2.out _) _), grown_drew (grown_set (grown_set HG2.out _ _) _ _)⟩
            case measure =>
              have hw := (blk_cell (blk_drew (set87 (set85 HB2.out (.string ⟨#[]⟩)) (.string (t.extract n t.size)))) 7)
              rw [hw, hc7]
              show (t.extract n t.size).size < t.size
              omega
      · have h32i : ¬ (32 : Int) ≤ (s.size : Int) + t.size := by omega
        have hcs : ¬ 9223372036854775807 < s.size + t.size := by omega
        have hC := fun u => clone_any t u (by omega)
        have hlen : ¬ 32 ≤ (s.data.toList ++ t.data.toList).length := by rw [List.length_append]; exact h32
        have g1 := HR.out.2.2.2.1
        have g2 := HR.out.2.2.2.2.1
        rw [tb_end f _ _ hlen] at g1
        rw [tl_end f _ hlen, ← cat_list] at g2
        have hB8 := Lib.hid HR.out.2.2.2.2.2.1
        have hG8 := Lib.hid HR.out.2.2.2.2.2.2
        have G := Lib.hid (And.intro g1 g2)
        clear g1 g2 HR
        go_wp2_with fail
        go_quiet (fail)
        go_wp2_with fail
        go_region_with (go_at_call 35; (with_reducible refine (hC _).mono ?_); rintro r w1 ⟨rfl, hb1⟩; have K := Lib.hid (blk_next (blk_drew (blk_drewN hB8.out _)) hb1); have q5 := blk_frozen K.out 5; obtain ⟨p0, p1, p2, p3, p4, p5, p6, p7⟩ := c8 K.out)
        all_goals
          go_wp2_with fail
          go_end0
          refine ⟨rfl, ⟨t, ?_⟩, grown_set (grown_trans (grown_drew (grown_drewN hG8.out _)) (grown_below hb1 _)) _ _⟩
          rw [← G.out.1, ← G.out.2, ba_list]
          exact set85 K.out _
end Go.Proofs.Ytgiihdgkejhbeaa
