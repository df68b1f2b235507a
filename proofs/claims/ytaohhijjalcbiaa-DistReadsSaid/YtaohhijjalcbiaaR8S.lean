/-
  The reference of package dist: a list of probabilities read.
-/
import Derived.Test.YtaohhijjalcbiaaR8R
import Derived.Test.YtaohhijjalcbiaaApn
import Derived.Deep.CutRange
namespace Go.Proofs.Ytaohhijjalcbiaa
open Go.ChangeShapes Go.WideShapes Go.ChangeAt Go.RowKit
set_option linter.unusedVariables false
set_option linter.unusedSimpArgs false

theorem grown_below_row {w w' : World} {base : Nat} {v : Value} {r : Option Nat} (h : w.grownBy w' r) (hr : ∀ k, r = some k → base ≤ k) (hb : base ≤ w.heap.size) : Below base w w' :=
  ⟨h.os, h.tape, h.output, h.size, fun k hk => h.block k (by omega) (fun e => by have := hr k e.symm; omega)⟩
theorem rep_own {w : World} {base : Nat} {v : Value} {xs : List Int} {k : Nat} {x : Int} (h : w.ownsRow base 3 1 v (xs.length + k + 1) ((xs ++ List.replicate k x ++ [x]).map (Value.int .i64))) : w.ownsRow base 3 1 v (xs.length + (k + 1)) ((xs ++ List.replicate (k + 1) x).map (Value.int .i64)) := by
  rw [List.append_assoc, ← List.replicate_succ'] at h
  exact h
theorem rep_below {w wr w1 : World} {base n : Nat} {v : Value} {xs : List Value} {o : Obj} (hB : Below base w wr) (hs : base ≤ wr.heap.size) (ho : wr.ownsRow base 3 1 v n xs) (h : (wr.alloc o).grownBy w1 v.ownBlock) : Below base w w1 := by
  have hb : Below base w (wr.alloc o) := hB.alloc hs o
  exact ⟨h.os.trans hb.os, h.tape.trans hb.tape, h.output.trans hb.output, Nat.le_trans hb.size h.size, fun k hk => (h.block k (by simp; omega) (fun e => by have := (ho.lt k e.symm).1; omega)).trans (hb.block k hk)⟩
theorem rep_size {wr w1 : World} {base : Nat} {o : Obj} {r : Option Nat} (hs : base ≤ wr.heap.size) (h : (wr.alloc o).grownBy w1 r) : base ≤ w1.heap.size := by
  have := h.size
  simp at this
  omega
theorem times_c (base : Nat) (v : Value) (xs : List Int) (n : Nat) (x : Int) (hx : xs.length ≤ 1000) (hn : n ≤ 100) (w : World) (hb : base ≤ w.heap.size) (h : w.ownsRow base 3 1 v xs.length (xs.map (Value.int .i64))) :
    Calls Try.prog 38 #[v, .int .i64 (n : Int), .int .i64 x] w fun r w' => ∃ v', r = .returned v' ∧ w'.ownsRow base 3 1 v' (xs.length + n) ((xs ++ List.replicate n x).map (Value.int .i64)) ∧ Below base w w' := by
  have HO := Lib.hid h
  clear h
  go_enter Try.func38, Try.ntmps38
  go_wp2
  go_loopw [0, 7] (fun u i wr => ∃ k : Nat, k ≤ n ∧ i = .int .i64 (k : Int) ∧ Hid (wr.ownsRow base 3 1 u (xs.length + k) ((xs ++ List.replicate k x).map (Value.int .i64))) ∧ base ≤ wr.heap.size ∧ Hid (Below base w wr)) (fun _ i _ => n - (intOf i).toNat)
  case atStart => exact ⟨0, by omega, rfl, Lib.hid (by simpa using HO.out), hb, Lib.hid (Below.refl _ _)⟩
  case round =>
    rename_i u _
    obtain ⟨k, hk, rfl, hown, hbs, hbl⟩ := hrel
    by_cases hlt : k < n
    · go_wp2_with (at_builtin; refine append_one rfl (.tmp 13) (.tmp 15) rfl base _ (xs.length + k) (xs ++ List.replicate k x) x rfl hown.out rfl (by omega) hbs ?_; intro v' w1 h1 h2; have H1 := Lib.hid (rep_own h1); have H2 := Lib.hid (rep_below hbl.out hbs hown.out h2); have H3 := rep_size hbs h2; clear h1 h2)
      go_roundw
      case rel => exact ⟨k + 1, by omega, by go_num, H1, H3, H2⟩
      case measure => simp [intOf]; omega
    · obtain rfl : k = n := by omega
      go_wp2
      go_ret
      exact ⟨_, rfl, hown.out, hbl.out⟩

/-- how many elements a slice has -/
def lenV (v : Value) : Nat := match v with
  | .slice _ n _ => n
  | _ => 0
theorem own_len {w : World} {base n : Nat} {v : Value} {xs : List Value} (h : w.ownsRow base 3 1 v n xs) : lenV v = n := by
  rcases h.2 with ⟨rfl, rfl⟩ | ⟨g, cap, cur, rfl, _⟩ <;> rfl
theorem own_slice {w : World} {base n : Nat} {v : Value} {xs : List Value} (h : w.ownsRow base 3 1 v n xs) : ∃ A c, v = .slice A n c := by
  rcases h.2 with ⟨rfl, rfl⟩ | ⟨g, cap, cur, rfl, _⟩
  · exact ⟨none, 0, rfl⟩
  · exact ⟨_, _, rfl⟩
/-- the reference's reader with a list -/
structure Rq (w : World) (base g : Nat) (S : ByteArray) (B : Nat) (v : Value) (xs : List Int) : Prop where
  a : Blk w g 78 (rrA S (B : Int) 0)
  o : w.ownsRow base 3 1 v xs.length (xs.map (Value.int .i64))
  l : g < base
  s : base ≤ w.heap.size
theorem rq_own {w w' : World} {base g : Nat} {v : Value} {xs : List Int} (h : w.ownsRow base 3 1 v xs.length (xs.map (Value.int .i64))) (hl : g < base) (hg : w.grownBy w' (some g)) : w'.ownsRow base 3 1 v xs.length (xs.map (Value.int .i64)) := Rd.own h hl hg
theorem Rq.next {w w' : World} {base g : Nat} {S : ByteArray} {B B' : Nat} {v : Value} {xs : List Int} (h : Rq w base g S B v xs) (hb : Blk w' g 78 (rrA S (B' : Int) 0)) (hg : w.grownBy w' (some g)) : Rq w' base g S B' v xs :=
  ⟨hb, Rd.own h.o h.l hg, h.l, Nat.le_trans h.s hg.size⟩
theorem Rq.more {w w' : World} {base g : Nat} {S : ByteArray} {B : Nat} {v v' : Value} {xs ys : List Int} (h : Rq w base g S B v xs) (ho : w'.ownsRow base 3 1 v' ys.length (ys.map (Value.int .i64))) (hb : Below base w w') : Rq w' base g S B v' ys :=
  ⟨(hb.block g h.l).trans h.a, ho, h.l, Nat.le_trans h.s hb.size⟩
theorem Rq.alloc {w : World} {base g : Nat} {S : ByteArray} {B : Nat} {v : Value} {xs : List Int} (h : Rq w base g S B v xs) (o : Obj) : Rq (w.alloc o) base g S B v xs := ⟨blk_alloc h.a o, h.o.alloc o, h.l, by have := h.s; simp; omega⟩
/-- what reading a list leaves -/
def PrLeft (base g : Nat) (S : ByteArray) (R : Option (List Int × Nat)) (w : World) (r : Ending) (w' : World) : Prop :=
  w.grownBy w' (some g) ∧ ((∃ l B v, R = some (l, B) ∧ r = .returned v ∧ Rq w' base g S B v l) ∨ (R = none ∧ r = .returned (.slice none 0 0) ∧ ∃ B : Int, Blk w' g 78 (rrA S B 23)))

theorem pt1_c (p : Int) (hp : -1 ≤ p ∧ p ≤ 4096) (w : World) : Calls Try.prog 30 #[.slice (some ⟨w.heap.size, 0, none⟩) 1 1] (w.alloc (.cells #[.int .i64 p] 3)) fun e w' => e = .returned (.int .i64 (pt p)) ∧ w.alloc (.cells #[.int .i64 p] 3) = w' := by
  have k := points_c (some ⟨w.heap.size, 0, none⟩) 1 1 (w.alloc (.cells #[.int .i64 p] 3)).heap.size [p] (w.alloc (.cells #[.int .i64 p] 3)) rfl (by omega) (fun q hq => by rw [List.mem_singleton.1 hq]; exact hp) (fun _ => ⟨w.heap.size, 0, rfl, by simp, fun j hj => by
    obtain rfl : j = 0 := by simpa using hj
    exact blk_cell (blk_new w 3 #[.int .i64 p]) 0⟩)
  rw [show pts [p] = pt p by simp [pts]] at k
  exact k
/-- behind a probability -/
def IN (R : Option (List Int × Nat)) (S : ByteArray) (sym base g k lo : Nat) (left : Int) (ag v : Value) (w : World) : Prop :=
  ∃ (acc : List Int) (B : Nat), lo < acc.length ∧ acc.length ≤ sym ∧ B ≤ 8 * S.size ∧ Rq w base g S B v acc ∧ ((ag = .bool true ∧ RZ S sym k left (rdZ S sym acc B) = R) ∨ (ag = .bool false ∧ rdL S sym k left acc B = R))
def mesI (sym : Nat) (v ag : Value) : Nat := match ag with
  | .bool true => sym + 2 - lenV v
  | _ => 0
theorem app_below {w w3 : World} {base n : Nat} {v : Value} {xs : List Value} {o : Obj} (ho : w.ownsRow base 3 1 v n xs) (hs : base ≤ w.heap.size) (h : (w.alloc o).grownBy w3 v.ownBlock) : Below base w w3 := rep_below (Below.refl _ _) hs ho h
theorem grown_low {w w2 w3 : World} {base g : Nat} (hB : w.grownBy w2 (some g)) (hb : Below base w2 w3) (hw : base = w.heap.size) : w.grownBy w3 (some g) :=
  ⟨hb.os.trans hB.os, hb.tape.trans hB.tape, hb.output.trans hB.output, Nat.le_trans hB.size hb.size, fun k hk hne => (hb.block k (by omega)).trans (hB.block k hk hne)⟩
theorem app_low {w w2 w3 : World} {base g : Nat} (hB : w.grownBy w2 (some g)) (hb : Below base w2 w3) (hw : base = w.heap.size) (o : Obj) : w.grownBy (w3.alloc o) (some g) := grown_alloc (grown_low hB hb hw) o
theorem in_next {R : Option (List Int × Nat)} {S : ByteArray} {sym base g k lo B y : Nat} {left : Int} {acc : List Int} {v : Value} {w : World} (hy : y < 2 ^ 2) (h1 : lo < acc.length) (h2 : acc.length ≤ sym) (h3 : acc.length + y ≤ sym) (h4 : B + 2 ≤ 8 * S.size) (hq : Rq w base g S (B + 2) v (acc ++ List.replicate y 0))
    (hR : RZ S sym k left (if y = 3 then rdZ S sym (acc ++ List.replicate y 0) (B + 2) else some (acc ++ List.replicate y 0, B + 2)) = R) : IN R S sym base g k lo left (.bool ((y : Int) == 3)) v w := by
  refine ⟨acc ++ List.replicate y 0, B + 2, by simp; omega, by simp; omega, h4, hq, ?_⟩
  by_cases h : y = 3
  · rw [if_pos h] at hR
    exact .inl ⟨by rw [h]; rfl, hR⟩
  · rw [if_neg h] at hR
    have e : ((y : Int) == 3) = false := beq_eq_false_iff_ne.2 (by omega)
    exact .inr ⟨by rw [e], hR⟩
theorem in_less {sym y n : Nat} {v : Value} (hl : lenV v = n + y) (hy : y < 2 ^ 2) (hn : n ≤ sym) {A : Option Addr} {c : Nat} : mesI sym v (.bool ((y : Int) == 3)) < mesI sym (.slice A n c) (.bool true) := by
  by_cases h : y = 3
  · subst h
    show sym + 2 - lenV v < sym + 2 - n
    omega
  · have e : ((y : Int) == 3) = false := beq_eq_false_iff_ne.2 (by omega)
    rw [e]
    show 0 < sym + 2 - n
    omega
set_option maxHeartbeats 4000000 in
set_option maxRecDepth 100000 in
theorem rprobs_c (base g : Nat) (S : ByteArray) (sym : Nat) (left0 : Int) (B0 : Nat) (hS : S.size ≤ 1048576) (hs : sym ≤ 256) (h0 : 0 ≤ left0) (h1 : left0 ≤ 4096) (hB0 : B0 ≤ 8 * S.size) (w : World) (hbase : base = w.heap.size) (h : Rq w base g S B0 (.slice none 0 0) []) :
    Calls Try.prog 45 #[.pointer (some ⟨g, 0, none⟩), .int .i64 left0, .int .i64 (sym : Int)] w (PrLeft base g S (rdL S sym 300 left0 [] B0) w) := by
  obtain ⟨R, hR⟩ : ∃ R, rdL S sym 300 left0 [] B0 = R := ⟨_, rfl⟩
  rw [hR]
  have HR0 := Lib.hid hR
  have HBS := Lib.hid hbase
  have HQ0 := Lib.hid h
  have hgl := blk_lt h.a
  clear hR h hbase
  go_enter Try.func45, Try.ntmps45
  go_wp2
  go_loopw [1, 7] (fun l v wr => ∃ (f B : Nat) (left : Int) (acc : List Int), l = .int .i64 left ∧ 0 ≤ left ∧ left ≤ 4096 ∧ acc.length ≤ sym ∧ sym + 2 ≤ f + acc.length ∧ B ≤ 8 * S.size ∧ Hid (Rq wr base g S B v acc) ∧ Hid (rdL S sym f left acc B = R) ∧ Hid (w.grownBy wr (some g))) (fun _ v _ => sym + 1 - lenV v)
  case atStart => exact ⟨300, B0, left0, [], rfl, h0, h1, by simp, by simp; omega, hB0, HQ0, HR0, Lib.hid (grown_refl w (some g))⟩
  case round =>
    rename_i v _
    obtain ⟨f, B, left, acc, rfl, l1, l2, l3, l4, l5, hq, hR, hbw⟩ := hrel
    obtain ⟨A, cp, rfl⟩ := own_slice hq.out.o
    obtain ⟨⟨c0, c1, c2⟩, f0, f1, f2⟩ := rr_cells hq.out.a
    obtain ⟨k, rfl⟩ : ∃ k, f = k + 1 := ⟨f - 1, by omega⟩
    by_cases hl0 : left ≤ 0
    · have e := hR.out
      rw [rdL, if_pos hl0] at e
      have HE := Lib.hid e
      clear e hR
      go_wp2
      go_ret
      exact ⟨hbw.out, .inl ⟨acc, B, _, HE.out.symm, rfl, hq.out⟩⟩
    · have e := hR.out
      rw [rdL, if_neg hl0] at e
      have hv := rvalue_c g S B left hS (by omega) l2 l5 _ hq.out.a
      unfold ValLeft at hv
      have HV := Lib.hid hv
      clear hv hR
      go_upto_region 4 with (go_at_call 65; (with_reducible refine HV.out.mono ?_); rintro e w2 ⟨x, rfl, x0, x1, hg2, hc2⟩)
      rcases hc2 with ⟨hp, B2, q2⟩ | ⟨B', hp, q2⟩
      · obtain ⟨⟨d0, d1, d2⟩, z0, z1, z2⟩ := rr_cells q2
        rw [hp] at e
        have HE := Lib.hid (show R = none from e.symm)
        have hl2 := Lib.hid (grown_trans hbw.out hg2)
        have HQ2 := Lib.hid q2
        clear e q2 hg2 hp
        go_wp2
        go_ret
        exact ⟨hl2.out, .inr ⟨HE.out, rfl, _, HQ2.out⟩⟩
      · obtain ⟨i1, i2, i3, i4, i5⟩ := rdP_in (by omega) l2 hp
        have hpp := pt_pos i1
        have hpb : pt (x - 1) ≤ left := by unfold pt; split <;> omega
        have HQ2 := Lib.hid (hq.out.next q2 hg2)
        have hl2 := Lib.hid (grown_trans hbw.out hg2)
        obtain ⟨⟨d0, d1, d2⟩, z0, z1, z2⟩ := rr_cells q2
        rw [hp] at e
        simp only at e
        have hpt := fun u => pt1_c (x - 1) (by omega) u
        clear q2 hg2 hp hq hbw c0 c1 c2 f0 f1 f2
        by_cases hfull : acc.length = sym
        · rw [if_pos hfull] at e
          have HE := Lib.hid (show R = none from e.symm)
          have hfb : ((acc.length : Int) == (sym : Int)) = true := beq_iff_eq.2 (by omega)
          have hk := Lib.hid (blk_set HQ2.out.a 2 (.int .i64 23))
          have hl3 := Lib.hid (grown_set hl2.out 2 (.int .i64 23))
          clear e hfull hpp
          go_wp2
          go_ret
          exact ⟨hl3.out, .inr ⟨HE.out, rfl, _, hk.out⟩⟩
        · rw [if_neg hfull] at e
          have hfb : ((acc.length : Int) == (sym : Int)) = false := beq_eq_false_iff_ne.2 (by omega)
          have HE := Lib.hid e
          have hltf : acc.length < sym := by omega
          have hle3 : left - pt (x - 1) ≤ 4096 := by omega
          have hle4 : 0 ≤ left - pt (x - 1) := by omega
          have hpz := Lib.hid (show x - 1 = 0 → pt (x - 1) = 0 from fun h => by rw [h]; rfl)
          clear e hfull hpp hpb
          generalize hpp2 : pt (x - 1) = q at *
          clear hpp2
          go_wp2_with (first
            | (at_builtin; refine append_one rfl (.tmp 36) (.tmp 38) rfl base (.slice A acc.length cp) acc.length acc (x - 1) rfl HQ2.out.o rfl (by omega) HQ2.out.s ?_; intro v' w3 h1 h2; have hbb := Lib.hid (app_below HQ2.out.o HQ2.out.s h2); have hq3 := Lib.hid ((HQ2.out.more (ys := acc ++ [x - 1]) (by simpa using h1) hbb.out).alloc (.cells #[.int .i64 (x - 1)] 3)); have hl4 := Lib.hid (app_low hl2.out hbb.out HBS.out (.cells #[.int .i64 (x - 1)] 3)); clear h1 h2)
            | (go_at_call 30; (with_reducible refine (hpt _).mono ?_); rintro e w4 ⟨rfl, rfl⟩))
          generalize w3.alloc (.cells #[.int .i64 (x - 1)] 3) = W at *
          have hin : IN R S sym base g k acc.length (left - q) (.bool (x - 1 == 0)) v' W := by
            have e := HE.out
            by_cases hx : x - 1 = 0
            · rw [if_pos hx] at e
              have hq0 := hpz.out hx
              have e3 : (x - 1 == 0) = true := beq_iff_eq.2 hx
              refine ⟨acc ++ [x - 1], B', by simp, by simp; omega, i5, hq3.out, .inl ⟨by rw [e3], ?_⟩⟩
              rw [hq0, Int.sub_zero, hx]
              exact e
            · rw [if_neg hx] at e
              have e3 : (x - 1 == 0) = false := beq_eq_false_iff_ne.2 hx
              exact ⟨acc ++ [x - 1], B', by simp, by simp; omega, i5, hq3.out, .inr ⟨by rw [e3], e⟩⟩
          have HIN := Lib.hid hin
          clear hin HE hq3 hpt hpz hbb HQ2 hl2
          go_loopw [7, 9] (fun v ag wy => Hid (IN R S sym base g k acc.length (left - q) ag v wy) ∧ Hid (w.grownBy wy (some g))) (fun v ag _ => mesI sym v ag)
          case atStart => exact ⟨HIN, hl4⟩
          case round =>
            rename_i v2 ag2 _
            obtain ⟨hin, hl5⟩ := hrel
            obtain ⟨acc2, B2, j1, j2, j3, j4, j5⟩ := hin.out
            obtain ⟨A2, cp2, rfl⟩ := own_slice j4.o
            obtain ⟨⟨d0, d1, d2⟩, z0, z1, z2⟩ := rr_cells j4.a
            have J4 := Lib.hid j4
            rcases j5 with ⟨rfl, hRR⟩ | ⟨rfl, hRR⟩
            · have htk : Calls Try.prog 44 #[.pointer (some ⟨g, 0, none⟩), .int .i64 2] _ _ := rtake_st g S B2 2 hS (by omega) j3 _ j4.a
              have HTK := Lib.hid htk
              clear htk j4 hin
              go_upto_region 14 with (go_at_call 44; (with_reducible refine HTK.out.mono ?_); rintro e w5 ⟨y, rfl, hg5, hc5⟩)
              have hl6 := Lib.hid (grown_trans hl5.out hg5)
              rw [rdZ] at hRR
              rcases hc5 with ⟨k1, rfl, k3⟩ | ⟨k1, rfl, k3⟩
              · rw [dif_pos k1] at hRR
                have HE := Lib.hid (show R = none from hRR.symm)
                obtain ⟨⟨d0, d1, d2⟩, z0, z1, z2⟩ := rr_cells k3
                have HK3 := Lib.hid k3
                clear hRR k3 hg5
                go_wp2
                go_ret
                exact ⟨hl6.out, .inr ⟨HE.out, rfl, _, HK3.out⟩⟩
              · have hy4 := numB_lt S B2 2
                rw [dif_neg (by omega)] at hRR
                have HQ5 := Lib.hid (J4.out.next k3 hg5)
                obtain ⟨⟨d0, d1, d2⟩, z0, z1, z2⟩ := rr_cells k3
                clear k3 hg5 HTK J4
                generalize numB S B2 2 = y at *
                by_cases hbig : sym < acc2.length + y
                · rw [if_pos hbig] at hRR
                  have HE := Lib.hid (show R = none from hRR.symm)
                  have hk := Lib.hid (blk_set HQ5.out.a 2 (.int .i64 23))
                  have hl7 := Lib.hid (grown_set hl6.out 2 (.int .i64 23))
                  clear hRR
                  go_wp2
                  go_ret
                  exact ⟨hl7.out, .inr ⟨HE.out, rfl, _, hk.out⟩⟩
                · rw [if_neg hbig] at hRR
                  have HRR := Lib.hid hRR
                  have htm := Lib.hid (times_c base (.slice A2 acc2.length cp2) acc2 y 0 (by omega) (by omega) _ HQ5.out.s HQ5.out.o)
                  clear hRR
                  go_wp2_with (go_at_call 38; (with_reducible refine htm.out.mono ?_); rintro e w6 ⟨v6, rfl, o6, b6⟩; have HQ6 := Lib.hid (HQ5.out.more (xs := acc2) (ys := acc2 ++ List.replicate y 0) (by simpa using o6) b6); have hl8 := Lib.hid (grown_low hl6.out b6 HBS.out); have hlv := own_len o6; clear o6 b6)
                  go_roundw
                  case rel => exact ⟨Lib.hid (in_next hy4 j1 j2 (by omega) (by omega) HQ6.out HRR.out), hl8⟩
                  case measure => exact in_less hlv hy4 (by omega)
            · have HRR := Lib.hid hRR
              clear hRR j4 hin
              go_wp2
              go_roundw
              case rel => exact ⟨k, B2, left - q, acc2, rfl, by omega, by omega, j2, by omega, j3, J4, HRR, hl5⟩
              case measure =>
                have := own_len J4.out.o
                show sym + 1 - acc2.length < sym + 1 - acc.length
                omega
end Go.Proofs.Ytaohhijjalcbiaa
