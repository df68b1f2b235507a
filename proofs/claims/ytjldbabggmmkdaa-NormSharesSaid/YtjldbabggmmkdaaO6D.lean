/-
  The first of the symbols with the greatest rank.
-/
import Derived.Laws.EntriesVeiled
import Derived.Deep.QuietTactic
import Derived.BigQuiet
import Derived.Test.YtjldbabggmmkdaaO6C
import Derived.Test.YtjldbabggmmkdaaO6R
namespace Go.Proofs.Ytjldbabggmmkdaa
open Go.ChangeShapes Go.WideShapes Go.ChangeAt Go.RowKit Go.Shelf
set_option linter.unusedVariables false
set_option linter.unusedSimpArgs false
attribute [local go_sem] Oper.semAt_some

def rk40 (p : Nat × Int) : Int := (p.1 : Int)
def rk41 (p : Nat × Int) : Int := p.2
theorem rank40 (x : Nat × Int) (w : World) : Calls Try.prog 56 #[.int .i64 (x.1 : Int), .int .i64 x.2] w fun r w' => r = .returned (.int .i64 (rk40 x)) ∧ w' = w := by
  unfold rk40
  go_enter Try.func56, Try.ntmps56
  go_wp2
  go_ret
  exact ⟨rfl, rfl⟩
/-- contest's state behind some symbols -/
def fld (rk : Nat × Int → Int) (pre : List (Nat × Int)) : Int × Int := pre.foldl (fun s p => cst s ((p.1 : Int), rk p)) (0, -1)
theorem fld_snoc (rk : Nat × Int → Int) (pre : List (Nat × Int)) (x : Nat × Int) : fld rk (pre ++ [x]) = cst (fld rk pre) ((x.1 : Int), rk x) := by simp [fld]
def symP (rk : Nat × Int → Int) (pre : List (Nat × Int)) : Int := if pre = [] then 0 else (fld rk pre).1
def errP (pre : List (Nat × Int)) : Int := if pre = [] then 7 else 0
theorem symP_snoc (rk : Nat × Int → Int) (pre : List (Nat × Int)) (x : Nat × Int) : symP rk (pre ++ [x]) = (cst (fld rk pre) ((x.1 : Int), rk x)).1 := by
  unfold symP; rw [if_neg (by simp), fld_snoc]
theorem errP_snoc (pre : List (Nat × Int)) (x : Nat × Int) : errP (pre ++ [x]) = 0 := by unfold errP; rw [if_neg (by simp)]

theorem contest_b (F : Fence) (n : Nat) (h46 : F.fn 61) (hro : F.round = none) (w : World) :
    CallsIn F n Try.prog 61 #[] w fun e w' => e = .returned (.func (.func 64) #[] #[.pointer (some ⟨w.heap.size + 1, 0, none⟩), .pointer (some ⟨w.heap.size, 0, none⟩)]) ∧
      Boxed w' w.heap.size 3 (.int .i64 0) ∧ Boxed w' (w.heap.size + 1) 3 (.int .i64 (-1)) ∧ Below w.heap.size w w' :=
  (contest_in F n h46 hro w).mono fun e w' ⟨he, hw⟩ => by
    subst hw
    refine ⟨he, (Boxed.new w 3 _).alloc _, ?_, ((Below.refl _ w).alloc (Nat.le_refl _) _).alloc (by simp) _⟩
    have k := Boxed.new (w.alloc (.cells #[.int .i64 0] 3)) 3 (.int .i64 (-1))
    rw [World.size_alloc] at k
    exact k

theorem _root_.Go.Boxed.next {W W' : World} {B : Nat} {t : TypeId} {v : Value} (h : Boxed W B t v) (hb : Below W.heap.size W W') : Boxed W' B t v := (hb.block B h.lt).trans h
/-- behind a call of contest's function -/
structure Shw (n₀ b3 b7 b8 gw gg b9 g : Nat) (rk : Nat × Int → Int) (pre : List (Nat × Int)) (x : Nat × Int) (u W : World) : Prop where
  k3 : Boxed W b3 39 (.func (.func g) #[] #[])
  k7 : Boxed W b7 3 (.int .i64 (symP rk pre))
  k8 : Boxed W b8 26 (.int .i64 (errP pre))
  kw : Boxed W gw 3 (.int .i64 (fld rk (pre ++ [x])).1)
  kg : Boxed W gg 3 (.int .i64 (fld rk (pre ++ [x])).2)
  k9 : Boxed W b9 39 (.func (.func 64) #[] #[.pointer (some ⟨gg, 0, none⟩), .pointer (some ⟨gw, 0, none⟩)])
  ko : KeepsOthers u W
  kb : Below n₀ u W

/-- what the loop holds -/
structure Bst (w : World) (b3 b7 b8 gw gg b9 g : Nat) (rk : Nat × Int → Int) (pre : List (Nat × Int)) (W : World) : Prop where
  k3 : Boxed W b3 39 (.func (.func g) #[] #[])
  k7 : Boxed W b7 3 (.int .i64 (symP rk pre))
  k8 : Boxed W b8 26 (.int .i64 (errP pre))
  kw : Boxed W gw 3 (.int .i64 (fld rk pre).1)
  kg : Boxed W gg 3 (.int .i64 (fld rk pre).2)
  k9 : Boxed W b9 39 (.func (.func 64) #[] #[.pointer (some ⟨gg, 0, none⟩), .pointer (some ⟨gw, 0, none⟩)])
theorem show_b {w W : World} {b3 b7 b8 gw gg b9 g n₀ : Nat} {rk : Nat × Int → Int} {pre : List (Nat × Int)} (x : Nat × Int) (hs : Bst w b3 b7 b8 gw gg b9 g rk pre W)
    (h3 : b3 < b7) (h37 : b7 < b8) (h78 : b8 < gw) (hwg : gw < gg) (hg9 : gg < b9) (hn : n₀ ≤ b3) (u : World) (hu : u.heap = W.heap) :
    Calls Try.prog 64 #[.int .i64 (x.1 : Int), .int .i64 (rk x), .pointer (some ⟨gg, 0, none⟩), .pointer (some ⟨gw, 0, none⟩)] u fun e w' => e = .returned (.int .i64 (symP rk (pre ++ [x]))) ∧ Shw n₀ b3 b7 b8 gw gg b9 g rk pre x u w' := by
  have t : ∀ {B : Nat} {T : TypeId} {v : Value}, Boxed W B T v → Boxed u B T v := fun h => by unfold Boxed; rw [hu]; exact h
  refine (show_c (x.1 : Int) (rk x) (fld rk pre).1 (fld rk pre).2 gw gg (by omega) u (t hs.kw) (t hs.kg)).mono fun e w' ⟨he, hw⟩ => ?_
  refine ⟨by rw [he, symP_snoc], ?_⟩
  by_cases h : (fld rk pre).2 < rk x
  · rw [if_pos h] at hw
    subst hw
    have e : fld rk (pre ++ [x]) = ((x.1 : Int), rk x) := by rw [fld_snoc]; unfold cst; rw [if_pos h]
    exact ⟨((t hs.k3).other (by omega) _).other (by omega) _, ((t hs.k7).other (by omega) _).other (by omega) _, ((t hs.k8).other (by omega) _).other (by omega) _,
      by rw [e]; exact ((t hs.kw).set _).other (by omega) _, by rw [e]; exact ((t hs.kg).other (by omega) _).set _, ((t hs.k9).other (by omega) _).other (by omega) _,
      (KeepsOthers.setCell _ _ _).trans (KeepsOthers.setCell _ _ _), ((Below.refl _ _).setCell (p := ⟨gw, 0, none⟩) (by show n₀ ≤ gw; omega) _).setCell (p := ⟨gg, 0, none⟩) (by show n₀ ≤ gg; omega) _⟩
  · rw [if_neg h] at hw
    subst hw
    have e : fld rk (pre ++ [x]) = fld rk pre := by rw [fld_snoc]; unfold cst; rw [if_neg h]
    exact ⟨t hs.k3, t hs.k7, t hs.k8, by rw [e]; exact t hs.kw, by rw [e]; exact t hs.kg, t hs.k9, KeepsOthers.refl _, Below.refl _ _⟩
theorem round_b {w W u w' V : World} {b3 b7 b8 gw gg b9 g n₀ : Nat} {rk : Nat × Int → Int} {pre : List (Nat × Int)} {x : Nat × Int} (hb : Shw n₀ b3 b7 b8 gw gg b9 g rk pre x u w')
    (h3 : b3 < b7) (h37 : b7 < b8) (h78 : b8 < gw) (hwg : gw < gg) (hg9 : gg < b9) (hu : u.heap = W.heap)
    (hV : V.heap = ((w'.setCell ⟨b7, 0, none⟩ (.int .i64 (symP rk (pre ++ [x])))).setCell ⟨b8, 0, none⟩ (.int .i64 0)).heap) :
    KeepsOthers W V ∧ Bst w b3 b7 b8 gw gg b9 g rk (pre ++ [x]) V := by
  have t : ∀ {B : Nat} {T : TypeId} {v : Value}, Boxed ((w'.setCell ⟨b7, 0, none⟩ (.int .i64 (symP rk (pre ++ [x])))).setCell ⟨b8, 0, none⟩ (.int .i64 0)) B T v → Boxed V B T v := fun h => by unfold Boxed; rw [hV]; exact h
  refine ⟨?_, t ((hb.k3.other (by omega) _).other (by omega) _), t ((hb.k7.set _).other (by omega) _), by rw [errP_snoc]; exact t ((hb.k8.other (by omega) _).set _), t ((hb.kw.other (by omega) _).other (by omega) _), t ((hb.kg.other (by omega) _).other (by omega) _), t ((hb.k9.other (by omega) _).other (by omega) _)⟩
  have k := hb.ko.trans ((KeepsOthers.setCell w' ⟨b7, 0, none⟩ (.int .i64 (symP rk (pre ++ [x])))).trans (KeepsOthers.setCell _ ⟨b8, 0, none⟩ (.int .i64 0)))
  exact ⟨by rw [← hu, hV]; exact k.size, fun i o hi ho => by rw [hV]; exact k.same i o (by rw [hu]; exact hi) ho⟩
theorem bst_own (w : World) (b3 b7 b8 gw gg b9 g : Nat) (rk : Nat × Int → Int) : Own (fun pre W => Bst w b3 b7 b8 gw gg b9 g rk pre W) := fun pre X Y row hs hg hr =>
  ⟨boxed_own b3 39 (fun _ : List (Nat × Int) => .func (.func g) #[] #[]) pre X Y row hs.k3 hg hr,
   boxed_own b7 3 (fun pre : List (Nat × Int) => .int .i64 (symP rk pre)) pre X Y row hs.k7 hg hr,
   boxed_own b8 26 (fun pre : List (Nat × Int) => .int .i64 (errP pre)) pre X Y row hs.k8 hg hr,
   boxed_own gw 3 (fun pre : List (Nat × Int) => .int .i64 (fld rk pre).1) pre X Y row hs.kw hg hr,
   boxed_own gg 3 (fun pre : List (Nat × Int) => .int .i64 (fld rk pre).2) pre X Y row hs.kg hg hr,
   boxed_own b9 39 (fun _ : List (Nat × Int) => .func (.func 64) #[] #[.pointer (some ⟨gg, 0, none⟩), .pointer (some ⟨gw, 0, none⟩)]) pre X Y row hs.k9 hg hr⟩

set_option maxRecDepth 100000 in
set_option maxHeartbeats 4000000 in
theorem best_40 {A : Option Addr} {n : Nat} {zs : List Int} (cap : Nat) {w : World} (h : Cts w A n zs) (h0 : chk zs = 0) :
    Calls Try.prog 55 #[.slice A n cap, .func (.func 56) #[] #[]] w fun r w' => r = .returned (.tuple #[.int .i64 (symP rk40 (occ zs n)), .int .i64 (errP (occ zs n))]) ∧ Below w.heap.size w w' := by
  have hck := check_c cap (h.below ((Below.refl _ w).alloc (Nat.le_refl _) (.cells #[.func (.func 56) #[] #[]] 39)))
  rw [h0] at hck
  have g1 := (good_of h0).1
  have hl := h.1
  subst hl
  refine (callsIn_wide (n := 3)).1 ?_
  refine callsIn_of_wp_marks Try.func55 rfl trivial ?_ rfl
  simp only [Try.ntmps55, List.size_toArray, List.length_cons, List.length_nil, Nat.reduceAdd, Nat.reduceSub, Array.replicate_succ, Array.replicate_zero, List.push_toArray, List.append_toArray, List.nil_append, List.cons_append]
  gi_wp2_with (first
    | (refine ⟨trivial, ?_⟩; gi_at_call 48; refine (callsIn_wide.2 hck).mono ?_; rintro e w1 ⟨rfl, hb1⟩)
    | (refine ⟨trivial, ?_⟩; gi_at_call 61; refine (contest_b Fence.wide _ trivial rfl _).mono ?_; rintro e w2 ⟨rfl, hw2⟩; have kw := hw2.1; have kg := hw2.2.1; have hb2 := hw2.2.2; clear hw2)
    | (refine ⟨trivial, ?_⟩; gi_at_call 62; refine (occurring_in Fence.wide _ trivial rfl _ _ _ _).mono ?_; rintro e w' ⟨rfl, rfl⟩))
  simp only [World.size_alloc] at kw kg
  have bx := (Boxed.new w 39 (.func (.func 56) #[] #[])).next hb1
  have b3 := (((((bx.alloc (.cells #[.int .i64 0] 3)).alloc (.cells #[.int .i64 7] 26)).next hb2).alloc (.cells #[.func (.func 64) #[] #[.pointer (some ⟨w1.heap.size + 1 + 1 + 1, 0, none⟩), .pointer (some ⟨w1.heap.size + 1 + 1, 0, none⟩)]] 39)).alloc (.cells #[.slice A zs.length cap] 23))
  have b7 := (((((Boxed.new w1 3 (.int .i64 0)).alloc (.cells #[.int .i64 7] 26)).next hb2).alloc (.cells #[.func (.func 64) #[] #[.pointer (some ⟨w1.heap.size + 1 + 1 + 1, 0, none⟩), .pointer (some ⟨w1.heap.size + 1 + 1, 0, none⟩)]] 39)).alloc (.cells #[.slice A zs.length cap] 23))
  have b8 := ((((Boxed.new (w1.alloc (.cells #[.int .i64 0] 3)) 26 (.int .i64 7)).next hb2).alloc (.cells #[.func (.func 64) #[] #[.pointer (some ⟨w1.heap.size + 1 + 1 + 1, 0, none⟩), .pointer (some ⟨w1.heap.size + 1 + 1, 0, none⟩)]] 39)).alloc (.cells #[.slice A zs.length cap] 23))
  have b9 := (Boxed.new w2 39 (.func (.func 64) #[] #[.pointer (some ⟨w1.heap.size + 1 + 1 + 1, 0, none⟩), .pointer (some ⟨w1.heap.size + 1 + 1, 0, none⟩)])).alloc (.cells #[.slice A zs.length cap] 23)
  have bN := Boxed.new (w2.alloc (.cells #[.func (.func 64) #[] #[.pointer (some ⟨w1.heap.size + 1 + 1 + 1, 0, none⟩), .pointer (some ⟨w1.heap.size + 1 + 1, 0, none⟩)]] 39)) 23 (.slice A zs.length cap)
  have kw' := (kw.alloc (.cells #[.func (.func 64) #[] #[.pointer (some ⟨w1.heap.size + 1 + 1 + 1, 0, none⟩), .pointer (some ⟨w1.heap.size + 1 + 1, 0, none⟩)]] 39)).alloc (.cells #[.slice A zs.length cap] 23)
  have kg' := (kg.alloc (.cells #[.func (.func 64) #[] #[.pointer (some ⟨w1.heap.size + 1 + 1 + 1, 0, none⟩), .pointer (some ⟨w1.heap.size + 1 + 1, 0, none⟩)]] 39)).alloc (.cells #[.slice A zs.length cap] 23)
  have hB0 : Below w.heap.size w ((w2.alloc (.cells #[.func (.func 64) #[] #[.pointer (some ⟨w1.heap.size + 1 + 1 + 1, 0, none⟩), .pointer (some ⟨w1.heap.size + 1 + 1, 0, none⟩)]] 39)).alloc (.cells #[.slice A zs.length cap] 23)) :=
    below_box (below_box (below_call (below_box (below_box (below_call (below_box (Below.refl _ _) _) hb1) _) _) hb2) _) _
  have hsz1 := hb1.size
  have hsz2 := hb2.size
  have hkl := kg.lt
  simp only [World.size_alloc] at hsz1 hsz2 b8 bN
  have hI := h.2.2.below hB0
  generalize hWz : ((w2.alloc (.cells #[.func (.func 64) #[] #[.pointer (some ⟨w1.heap.size + 1 + 1 + 1, 0, none⟩), .pointer (some ⟨w1.heap.size + 1 + 1, 0, none⟩)]] 39)).alloc (.cells #[.slice A zs.length cap] 23)) = Wz at *
  have hszz : Wz.heap.size = w2.heap.size + 1 + 1 := by rw [← hWz, World.size_alloc, World.size_alloc]
  clear hWz bx kw kg hb1 hb2 hck
  generalize w1.heap.size = p at *
  generalize w2.heap.size = q at *
  clear w1 w2
  have hlt : p + 1 + 1 + 1 < q := by omega
  refine wpIn_rangeFunc_ownG rfl (by omega) (gf := 65) (lb := #[.pointer (some ⟨q + 1, 0, none⟩)]) rfl trivial (enters_of Try.func65 (by kernel_rfl) rfl)
    (occurring_stops Fence.wide _ trivial rfl (by omega) (q + 1) w.heap.size A cap zs g1 _ (by omega) (by omega) bN.cell hI) belowK_t (belowK_b (by omega)) (Below.refl _ _) (fun _ => rfl)
    (fun pre W => Bst w w.heap.size p (p + 1) (p + 1 + 1) (p + 1 + 1 + 1) q 56 rk40 pre W ∧ Below w.heap.size w W)
    (fun _ _ _ => False)
    (OwnFrom.and (Own.from (bst_own w _ _ _ _ _ _ _ _) _) (ownFrom_below (Nat.le_refl _) (by omega)))
    (fun _ _ _ _ _ hs _ _ => hs)
    ⟨⟨b3, b7, b8, kw', kg', b9⟩, hB0⟩
    (fun x => { tmps := #[.slice A zs.length cap, .func (.func 56) #[] #[], undef, .pointer (some ⟨w.heap.size, 0, none⟩), .int .i64 0, .int .i64 0, .int .i64 0, .pointer (some ⟨p, 0, none⟩), .pointer (some ⟨p + 1, 0, none⟩), .pointer (some ⟨q, 0, none⟩), .int .i64 (x.1 : Int), .int .i64 x.2, .slice A zs.length cap, .int .i64 0, .int .i64 0, .bool false, undef,
          .func (.func 64) #[] #[.pointer (some ⟨p + 1 + 1 + 1, 0, none⟩), .pointer (some ⟨p + 1 + 1, 0, none⟩)], .slice A zs.length cap, .func (.func 65) #[] #[.pointer (some ⟨q + 1, 0, none⟩)], .int .i64 (x.1 : Int), .int .i64 x.2, undef, undef, undef, undef, undef, undef, undef, undef, undef], defers := [] }) ?assign ?body ?done ?stop
  case assign =>
    intro l x W K hK
    gi_wp2
    exact hK
  case body =>
    rintro l pre x W ⟨hs, hB⟩ _
    have hmx : Try.prog.follows .mixedOrders = true := by kernel_rfl
    have HS := Lib.hid hs
    have y3 := hs.k3.cell
    have y7 := hs.k7.cell
    have y8 := hs.k8.cell
    have y9 := hs.k9.cell
    have z7 := hs.k7.frozen
    have z8 := hs.k8.frozen
    have hsh := fun u (hu : u.heap = W.heap) => show_b (n₀ := w.heap.size) x hs (by omega) (by omega) (by omega) (by omega) (by omega) (Nat.le_refl _) u hu
    have hu : W.drew.heap = W.heap := rfl
    have hBd : Below w.heap.size w W.drew := hB.drew
    have hBe : Below w.heap.size W W.drew := (Below.refl _ _).drew
    refine wpIn_block ?_
    refine region_round 6 hmx (by kernel_rfl) (by kernel_rfl) (fun ⟨a, w, h⟩ => h) ?_
    change wpStill _ _ W.drew _ _ _
    simp only [List.take_succ_cons, List.take_zero, List.drop_succ_cons, List.drop_zero]
    have y3' : W.drew.cell? ⟨w.heap.size, 0, none⟩ = some (.func (.func 56) #[] #[]) := y3
    have y9' : W.drew.cell? ⟨q, 0, none⟩ = some (.func (.func 64) #[] #[.pointer (some ⟨p + 1 + 1 + 1, 0, none⟩), .pointer (some ⟨p + 1 + 1, 0, none⟩)]) := y9
    have hsd := hsh W.drew rfl
    clear hsh y3 y9 hs y7 y8 z7 z8
    still_step
    still_step
    still_step
    still_step
    still_step
    still_call (rank40 x _)
    refine wpStill_nil ?_
    change wpList _ _ _ _ _ W.drew
    generalize W.drew = w5 at *
    generalize hsy : symP rk40 (pre ++ [x]) = sy at hsd
    go_wp2_with (go_at_call 64; (with_reducible refine hsd.mono ?_); rintro e w6 ⟨rfl, hr⟩; have HR := Lib.hid hr; have v7 := hr.k7.cell; have v8 := hr.k8.cell; have f7 := hr.k7.frozen; have f8 := hr.k8.frozen; clear hr)
    subst hsy
    have R := round_b (w := w) (V := (w6.setCell ⟨p, 0, none⟩ (.int .i64 (symP rk40 (pre ++ [x])))).setCell ⟨p + 1, 0, none⟩ (.int .i64 0)) HR.out (by omega) (by omega) (by omega) (by omega) (by omega) hu rfl
    have hb6 := hBe.trans HR.out.kb
    exact ⟨R.1.from _, (hb6.setCell (p := ⟨p, 0, none⟩) (show w.heap.size ≤ p by omega) _).setCell (p := ⟨p + 1, 0, none⟩) (show w.heap.size ≤ p + 1 by omega) _, R.2, ((hB.trans hb6).setCell (p := ⟨p, 0, none⟩) (show w.heap.size ≤ p by omega) _).setCell (p := ⟨p + 1, 0, none⟩) (show w.heap.size ≤ p + 1 by omega) _⟩
  case done =>
    rintro D ys W hD rfl ⟨hs, hB⟩ hK
    have y7 := hs.k7.cell
    have y8 := hs.k8.cell
    gi_wp2
    refine wpIn_wide.2 ?_
    go_quiet (fail)
    gi_wp2
    refine ⟨by simp, .inl ⟨_, _, rfl, run_takeDeferred hK, ?_⟩⟩
    exact ⟨_, results_tmp2 rfl _ _ _, rfl, (Below.drewN' hB _).trans (belowK_b (w := w) (Nat.le_refl _) (W.drewN _) D _ _ (by omega) hK rfl rfl)⟩
  case stop =>
    rintro D c pre W _ _ h _
    exact h.elim

end Go.Proofs.Ytjldbabggmmkdaa
