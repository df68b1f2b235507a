/-
  For all numbers x, y, z and lists l, m of Go's int, IntsLaws(x, y, z, l, m) returns true and changes no argument: sums and products do not depend on the order, a product of a sum is the sum of the products, and the sum of two lists is that of both. No condition.
-/
import Derived.Test.YtjflkjkkamapdaaRows
import Derived.Test.YtjflkjkkamapdaaLaws
import Derived.WalkKit
import Derived.ProofKit
import Derived.OpenShut
import Derived.ShutString
import Derived.ChangeOld
import Derived.Below
namespace Go.Proofs.Ytjflkjkkamapdaa.intsLaws
open Go.ChangeShapes Go.WideShapes Go.ChangeAt Go.RowKit
open Go.ChangeMaps (open_string shut_string)
set_option linter.unusedVariables false

theorem own : ownKnob Try.prog.godebug = none := by kernel_rfl
theorem laidOut : laidOutB Try.prog = true := by kernel_rfl

def IsRow (k : IntKind) (w : World) (a : Option Addr) (len cap : Nat) (zs : List Int) : Prop :=
  (a = none ∧ len = 0 ∧ cap = 0 ∧ zs = []) ∨
  ∃ x, a = some x ∧ len ≤ cap ∧ cap ≤ maxLen ∧ zs.length = cap ∧ (∀ i, i < zs.length → w.cell? (x.add i) = some (.int k (zs.getD i 0))) ∧ ∀ n ∈ zs, (Lit.int k n).wf = true

theorem ints_of_row {w : World} {A : Option Addr} {len cap : Nat} {zs : List Int} (h : IsRow .i64 w A len cap zs) :
    ∃ xs : List Int, xs.length = len ∧ IntsAt w w.heap.size A xs ∧ (∀ x ∈ xs, (Lit.int .i64 x).wf = true) ∧ ((A = none ∧ len = 0 ∧ cap = 0) ∨ ∃ a, A = some a ∧ ∀ i, i < xs.length → w.cell? (a.add i) = some (.int .i64 (xs.getD i 0))) := by
  rcases h with ⟨rfl, rfl, rfl, rfl⟩ | ⟨a, rfl, hl, hm, hz, hc, hw⟩
  · exact ⟨[], rfl, fun h => absurd h (by decide), fun x hx => absurd hx (by simp), .inl ⟨rfl, rfl, rfl⟩⟩
  · have hc' : ∀ i, i < (zs.take len).length → w.cell? (a.add i) = some (.int .i64 ((zs.take len).getD i 0)) := fun i hi => by
      have hi' : i < len := by rw [List.length_take] at hi; omega
      rw [hc i (by omega)]
      simp [List.getD, hi']
    refine ⟨zs.take len, by simp; omega, fun h0 => ?_, fun x hx => hw x (List.mem_of_mem_take hx), .inr ⟨a, rfl, hc'⟩⟩
    have h0' := hc' 0 h0
    obtain ⟨b, off, spot⟩ := a
    have hspot : spot = none := by simpa [Addr.add] using World.cell?_spot h0'
    subst hspot
    refine ⟨b, off, rfl, by simpa [Addr.add] using cell_lt h0', fun k hk => ?_⟩
    rw [← add_plain]
    exact hc' k hk

theorem i64_range {a : Int} (h : (Lit.int .i64 a).wf = true) : -9223372036854775808 ≤ a ∧ a ≤ 9223372036854775807 := by
  simpa [Lit.wf, IntKind.min, IntKind.max, IntKind.signed, IntKind.bits] using h

theorem prod_le {a b : Int} (a0 : 0 ≤ a) (a1 : a ≤ 1048576) (b0 : 0 ≤ b) (b1 : b ≤ 1048576) : 0 ≤ a * b ∧ a * b ≤ 1099511627776 := by
  have h := Int.mul_le_mul a1 b1 b0 (by omega)
  exact ⟨Int.mul_nonneg a0 b0, by omega⟩

theorem mulR_ok {a b : Int} (a0 : 0 ≤ a) (a1 : a ≤ 1048576) (b0 : 0 ≤ b) (b1 : b ≤ 1048576) : mulR a b = some (a * b) := by
  have h := prod_le a0 a1 b0 b1
  unfold mulR
  rw [if_pos ⟨a0, by omega, b0, by omega, fun hp => (Int.le_ediv_iff_mul_le hp).2 (by rw [Int.mul_comm]; exact h.2)⟩]

theorem plus_is {a b s : Int} (h : addR a b = some s) (u : World) : Calls Try.prog 24 #[.int .i64 a, .int .i64 b] u fun e w' => e = .returned (.tuple #[.int .i64 s, .int .i64 0]) ∧ Below u.heap.size u w' := by
  have hr := plus_any a b u
  rw [h] at hr
  exact hr
theorem times_is {a b s : Int} (h : mulR a b = some s) (u : World) : Calls Try.prog 26 #[.int .i64 a, .int .i64 b] u fun e w' => e = .returned (.tuple #[.int .i64 s, .int .i64 0]) ∧ u = w' := by
  have hr := times_any a b u
  rw [h] at hr
  exact hr

theorem row_len {w : World} {A : Option Addr} {len cap : Nat} {zs : List Int} (h : IsRow .i64 w A len cap zs) : len ≤ 9223372036854775807 := by
  rcases h with ⟨_, h, _, _⟩ | ⟨_, _, h1, h2, _⟩
  · omega
  · unfold maxLen at h2; omega

theorem getD_wf {xs : List Int} (h : ∀ x ∈ xs, (Lit.int .i64 x).wf = true) (k : Nat) (hk : k < xs.length) : (Lit.int .i64 (xs.getD k 0)).wf = true := by
  have e : xs.getD k 0 = xs[k] := by simp [List.getD, hk]
  rw [e]
  exact h _ (List.getElem_mem hk)

theorem walk (a0 : Int) (a1 : Int) (a2 : Int) (a3 : Option Addr) (len3 cap3 : Nat) (z3 : List Int) (a4 : Option Addr) (len4 cap4 : Nat) (z4 : List Int) (w : World) (w0 : (Lit.int .i64 a0).wf = true) (w1 : (Lit.int .i64 a1).wf = true) (w2 : (Lit.int .i64 a2).wf = true) (w3 : IsRow .i64 w a3 len3 cap3 z3) (w4 : IsRow .i64 w a4 len4 cap4 z4) :
    Calls Try.prog 9 #[.int .i64 a0, .int .i64 a1, .int .i64 a2, .slice a3 len3 cap3, .slice a4 len4 cap4] w fun e w' => e = .returned (.bool true) ∧ Below w.heap.size w w' := by
  obtain ⟨hx0, hx1⟩ := i64_range w0
  obtain ⟨hy0, hy1⟩ := i64_range w1
  obtain ⟨hz0, hz1⟩ := i64_range w2
  have hn := row_len w3
  have hn' := row_len w4
  obtain ⟨xs, hl, hat, hwf, _⟩ := ints_of_row w3
  obtain ⟨xs', hl', hat', hwf', _⟩ := ints_of_row w4
  have hM1 := fun u => mod_any a0 1048576 hx0 hx1 (by omega) (by omega) u
  have hM2 := fun u => mod_any a1 524288 hy0 hy1 (by omega) (by omega) u
  have hM3 := fun u => mod_any a2 524288 hz0 hz1 (by omega) (by omega) u
  have x0 : 0 ≤ a0 % 1048576 ∧ a0 % 1048576 < 1048576 := by omega
  have y0 : 0 ≤ a1 % 524288 ∧ a1 % 524288 < 524288 := by omega
  have z0 : 0 ≤ a2 % 524288 ∧ a2 % 524288 < 524288 := by omega
  generalize a0 % 1048576 = X at hM1 x0
  generalize a1 % 524288 = Y at hM2 y0
  generalize a2 % 524288 = Z at hM3 z0
  have p1 := prod_le (a := X) (b := Y + Z) (by omega) (by omega) (by omega) (by omega)
  have p2 := prod_le (a := X) (b := Y) (by omega) (by omega) (by omega) (by omega)
  have p3 := prod_le (a := Z) (b := X) (by omega) (by omega) (by omega) (by omega)
  have e : Z * X + X * Y = X * (Y + Z) := by rw [Int.mul_add, Int.mul_comm Z X, Int.add_comm]
  have q1 := mods_small xs 10
  have q2 := mods_small xs' 10
  have r1 := mods_length xs 10
  have r2 := mods_length xs' 10
  have t1 := tot_small _ q1
  have t2 := tot_small _ q2
  have hS1 := sumUp_small (mods xs 10) 0 (by omega) q1 (by omega)
  have hS2 := sumUp_small (mods xs' 10) 0 (by omega) q2 (by omega)
  have hS3 := sumUp_small (mods xs 10 ++ mods xs' 10) 0 (by omega) (fun y hy => (List.mem_append.1 hy).elim (q1 y) (q2 y)) (by rw [List.length_append]; omega)
  rw [tot_append] at hS3
  rw [Int.zero_add] at hS1 hS2 hS3
  refine laws_walk a0 a1 a2 X Y Z (Y + Z) (X * (Y + Z)) (X * Y) (Z * X) _ _ _ a3 a4 len3 cap3 len4 cap4 xs xs' w hM1 hM2 hM3
    (plus_is (addR_ok (by omega))) (times_is (mulR_ok (by omega) (by omega) (by omega) (by omega))) (times_is (mulR_ok (by omega) (by omega) (by omega) (by omega))) (times_is (mulR_ok (by omega) (by omega) (by omega) (by omega)))
    (plus_is (by rw [addR_ok (by omega), e])) (plus_is (by rw [addR_ok (by omega), Int.add_comm]))
    (fun k hk u => ?_) (fun k hk u => ?_) hl hl' hn hn' hat hat' hS1 hS2 hS3
  · obtain ⟨h0, h1⟩ := i64_range (getD_wf hwf k hk)
    exact mod_any _ 1048576 h0 h1 (by omega) (by omega) u
  · obtain ⟨h0, h1⟩ := i64_range (getD_wf hwf' k hk)
    exact mod_any _ 1048576 h0 h1 (by omega) (by omega) u

set_option maxRecDepth 100000 in
theorem lifted (os : Os) (started : os.Started) (H : Type) (enc : TypeId × Value → H) :
    ReturnsInHanded {} Try.checked os 9 .any (Rows.intsLawsSpec.pre6 enc Try.prog Try.f9 Rows.intsLawsRow.domain false) (Rows.intsLawsSpec.post enc Try.prog Try.f9 false true false false) := by
  refine returnsInHanded_of_change (C := Try.checked) own started (by kernel_rfl) Try.func9
    (ChangeSpec.witness6 (enc := enc) (C := Try.checked) false ⟨#[], #[.int .i64 0, .int .i64 0, .int .i64 0, .slice none 0 0, .slice none 0 0], []⟩ 8 (by kernel_rfl) (by kernel_rfl) (by kernel_rfl) (by kernel_rfl)) ?_
  intro W base args ds gs before hval0 hW hcnd _
  have hval : ∀ (j : Nat) t v, Try.f9.params[j]? = some t → args[j]? = some v → Value.okWide Try.prog W .any base t v := hval0
  have hW' := hW
  obtain ⟨p, q, hA0, hV, rfl, hfz, hnd⟩ := hW
  have hA : DataW.TrodAll enc Try.prog W 0 (fun _ => true) true Try.f9.params.toList args.toList ds p := hA0
  rw [Try.params9] at hA hval
  obtain ⟨v0, vs0, d0, ds0, p0, q0, hargs, rfl, rfl, h0, r0⟩ := trodAll_cons hA
  obtain ⟨v1, vs1, d1, ds1, p1, q1, rfl, rfl, rfl, h1, r1⟩ := trodAll_cons r0
  obtain ⟨v2, vs2, d2, ds2, p2, q2, rfl, rfl, rfl, h2, r2⟩ := trodAll_cons r1
  obtain ⟨v3, vs3, d3, ds3, p3, q3, rfl, rfl, rfl, h3, r3⟩ := trodAll_cons r2
  obtain ⟨v4, vs4, d4, ds4, p4, q4, rfl, rfl, rfl, h4, r4⟩ := trodAll_cons r3
  obtain ⟨rfl, rfl, rfl⟩ := trodAll_nil r4
  obtain rfl : args = #[v0, v1, v2, v3, v4] := by cases args; simp_all
  obtain ⟨rfl, rfl⟩ := trodVars_none hV
  obtain ⟨a0, rfl, rfl, rfl, w0⟩ := open_int Try.underlying3 (hval 0 3 v0 rfl rfl) h0
  obtain ⟨a1, rfl, rfl, rfl, w1⟩ := open_int Try.underlying3 (hval 1 3 v1 rfl rfl) h1
  obtain ⟨a2, rfl, rfl, rfl, w2⟩ := open_int Try.underlying3 (hval 2 3 v2 rfl rfl) h2
  obtain ⟨a3, len3, cap3, rfl⟩ := okWide_slice Try.underlying36 (hval 3 36 v3 rfl rfl)
  have k3 := h3
  have lt3 : ∀ x ∈ p3, x.block < W.heap.size := by obtain ⟨m, hm⟩ := k3; exact DataW.trod_lt m _ _ _ hm
  obtain ⟨z3, w3⟩ : ∃ zs, IsRow .i64 W a3 len3 cap3 zs := by
    obtain ⟨fuel, hf⟩ := h3
    rcases open_ints Try.underlying36 Try.underlying3 (by kernel_rfl) hf with ⟨hcs, _⟩ | ⟨x, l, c, zs, hcs, _, hl, hm, hz, _, hcell, hwz⟩
    · simp [Value.cells] at hcs
      obtain ⟨rfl, rfl, rfl⟩ := hcs
      exact ⟨[], .inl ⟨rfl, rfl, rfl, rfl⟩⟩
    · simp [Value.cells] at hcs
      obtain ⟨rfl, rfl, rfl⟩ := hcs
      exact ⟨zs, .inr ⟨_, rfl, hl, hm, by simpa using hz, hcell, hwz⟩⟩
  obtain ⟨a4, len4, cap4, rfl⟩ := okWide_slice Try.underlying36 (hval 4 36 v4 rfl rfl)
  have k4 := h4
  have lt4 : ∀ x ∈ p4, x.block < W.heap.size := by obtain ⟨m, hm⟩ := k4; exact DataW.trod_lt m _ _ _ hm
  obtain ⟨z4, w4⟩ : ∃ zs, IsRow .i64 W a4 len4 cap4 zs := by
    obtain ⟨fuel, hf⟩ := h4
    rcases open_ints Try.underlying36 Try.underlying3 (by kernel_rfl) hf with ⟨hcs, _⟩ | ⟨x, l, c, zs, hcs, _, hl, hm, hz, _, hcell, hwz⟩
    · simp [Value.cells] at hcs
      obtain ⟨rfl, rfl, rfl⟩ := hcs
      exact ⟨[], .inl ⟨rfl, rfl, rfl, rfl⟩⟩
    · simp [Value.cells] at hcs
      obtain ⟨rfl, rfl, rfl⟩ := hcs
      exact ⟨zs, .inr ⟨_, rfl, hl, hm, by simpa using hz, hcell, hwz⟩⟩
  clear hA0 hval0
  refine (walk a0 a1 a2 a3 len3 cap3 z3 a4 len4 cap4 z4 W w0 w1 w2 w3 w4).mono fun e W' ⟨he, bel⟩ => ?_
  subst he
  exact ⟨_, rfl, _, _, _, [], _, [], hW', trodAll_mk1 (shut_bool Try.underlying4 _), (trodAll_cons_mk (shut_int Try.underlying3 w0) (trodAll_cons_mk (shut_int Try.underlying3 w1) (trodAll_cons_mk (shut_int Try.underlying3 w2) (trodAll_cons_mk (Below.trod laidOut (by kernel_rfl) (of_decide_eq_true (by kernel_rfl)) k3 bel lt3) (trodAll_cons_mk (Below.trod laidOut (by kernel_rfl) (of_decide_eq_true (by kernel_rfl)) k4 bel lt4) trodAll_mk0))))), rfl, bel.frame _, fun h => by cases h⟩

theorem over : Rows.intsLawsRow.holds Try.pinned (OpenSpec.ofChange Rows.intsLawsSpec) :=
  OpenClaim.holds_of_wide 9 Try.f9 rfl rfl rfl rfl rfl rfl rfl ⟨rfl, rfl, rfl, rfl, rfl⟩ rfl rfl rfl rfl rfl (by kernel_rfl) Try.func9 (by kernel_rfl)
    (of_decide_eq_true (by kernel_rfl)) (by unfold Func.isWrapper; first | (rw [if_pos (by decide +kernel)]; kernel_rfl) | (rw [if_neg (by decide +kernel)]; exact ⟨rfl, rfl⟩))
    (fun os started H enc _ => lifted os started H enc)

theorem proved : Rows.IntsLawsSaid := over
end Go.Proofs.Ytjflkjkkamapdaa.intsLaws
