/-
  For all numbers x, y and lists l of Go's int, IntsSums(x, y, l) returns true and changes no argument: Plus, Times and Sum of layer 1 answer as the reference does, errors too. No condition.
-/
import Derived.Test.YtjflkjkkamapdaaRows
import Derived.Test.YtjflkjkkamapdaaAwake
import Derived.Test.YtjflkjkkamapdaaSums2
import Derived.Test.YtjflkjkkamapdaaSame
import Derived.WalkKit
import Derived.ProofKit
import Derived.OpenShut
import Derived.ShutString
import Derived.ChangeOld
import Derived.Below
namespace Go.Proofs.Ytjflkjkkamapdaa.intsSums
open Go.ChangeShapes Go.WideShapes Go.ChangeAt Go.RowKit
open Go.ChangeMaps (open_string shut_string)
set_option linter.unusedVariables false

theorem own : ownKnob Try.prog.godebug = none := by kernel_rfl
theorem laidOut : laidOutB Try.prog = true := by kernel_rfl

def IsRow (k : IntKind) (w : World) (a : Option Addr) (len cap : Nat) (zs : List Int) : Prop :=
  (a = none ∧ len = 0 ∧ cap = 0 ∧ zs = []) ∨
  ∃ x, a = some x ∧ len ≤ cap ∧ cap ≤ maxLen ∧ zs.length = cap ∧ (∀ i, i < zs.length → w.cell? (x.add i) = some (.int k (zs.getD i 0))) ∧ ∀ n ∈ zs, (Lit.int k n).wf = true

theorem ints_of_row {w : World} {A : Option Addr} {len cap : Nat} {zs : List Int} (h : IsRow .i64 w A len cap zs) :
    ∃ xs : List Int, xs.length = len ∧ IntsAt w w.heap.size A xs ∧ (∀ x ∈ xs, (Lit.int .i64 x).wf = true) ∧ ((A = none ∧ len = 0 ∧ cap = 0) ∨ ∃ a, A = some a ∧ ∀ i, i < xs.length → w.cell? (a.add i) = some (.int .i64 (xs.getD i 0))) := by
  rcases h with ⟨rfl, rfl, rfl, rfl⟩ | ⟨a, rfl, hl, hm, hz, hc, hw⟩
  · exact ⟨[], rfl, fun h => absurd h (by decide), fun x hx => absurd hx (by simp), .inl ⟨rfl, rfl, rfl⟩⟩
  · have hc' : ∀ i, i < (zs.take len).length → w.cell? (a.add i) = some (.int .i64 ((zs.take len).getD i 0)) := fun i hi => by
      have hi' : i < len := by rw [List.length_take] at hi; omega
      rw [hc i (by omega)]
      simp [List.getD, hi']
    refine ⟨zs.take len, by simp; omega, fun h0 => ?_, fun x hx => hw x (List.mem_of_mem_take hx), .inr ⟨a, rfl, hc'⟩⟩
    have h0' := hc' 0 h0
    obtain ⟨b, off, spot⟩ := a
    have hspot : spot = none := by simpa [Addr.add] using World.cell?_spot h0'
    subst hspot
    refine ⟨b, off, rfl, by simpa [Addr.add] using cell_lt h0', fun k hk => ?_⟩
    rw [← add_plain]
    exact hc' k hk

theorem own_any {w : World} {A : Option Addr} {len cap : Nat} {zs : List Int} (h30 : len ≤ 30) (h : IsRow .i64 w A len cap zs) :
    ∃ xs : List Int, xs.length = len ∧ IntsAt w w.heap.size A xs ∧ Calls Try.prog 23 #[.slice A len cap] w (OwnP w xs) := by
  obtain ⟨xs, hl, hat, _, h1 | ⟨a, rfl, hc⟩⟩ := ints_of_row h
  · obtain ⟨rfl, rfl, rfl⟩ := h1
    obtain rfl : xs = [] := List.eq_nil_of_length_eq_zero hl
    exact ⟨[], rfl, hat, own_nil w⟩
  · exact ⟨xs, hl, hat, own_some a len cap xs w (by omega) hl hc⟩

theorem long_side (x y : Int) (A : Option Addr) (len cap : Nat) (w : World) (hs : len ≤ 9223372036854775807) (h : 30 < len) :
    Calls Try.prog 5 #[.int .i64 x, .int .i64 y, .slice A len cap] w fun e w' => e = .returned (.bool true) ∧ Below w.heap.size w w' := by
  go_enter Try.func5, Try.ntmps5
  go_wp2_with (go_at_call 18; (with_reducible refine (awake_any _).mono ?_); rintro e w1 ⟨rfl, hb⟩)
  go_ret
  exact ⟨rfl, hb⟩

theorem inner (x y p1 p2 q1 q2 r1 r2 : Int) (A : Option Addr) (len cap : Nat) (xs : List Int) (w : World) (h30 : len ≤ 30) (hl : xs.length = len) (hat : IntsAt w w.heap.size A xs)
    (hown : Calls Try.prog 23 #[.slice A len cap] w (OwnP w xs))
    (hp : resOf (addR x y) = .tuple #[.int .i64 p1, .int .i64 p2]) (hq : resOf (mulR x y) = .tuple #[.int .i64 q1, .int .i64 q2]) (hr : resOf (sumUp 0 xs) = .tuple #[.int .i64 r1, .int .i64 r2]) :
    Calls Try.prog 5 #[.int .i64 x, .int .i64 y, .slice A len cap] w fun e w' => e = .returned (.bool true) ∧ Below w.heap.size w w' := by
  have hP := fun u => plus_any x y u
  have hP' := fun u => refPlus_any x y u
  have hT := fun u => times_any x y u
  have hT' := fun u => refTimes_any x y u
  rw [hp] at hP hP'
  rw [hq] at hT hT'
  have hS := fun (A : Option Addr) (c B : Nat) (u : World) (h : IntsAt u B A xs) => sum_any A len c B xs u hl (by omega) h
  have hS' := fun (A : Option Addr) (c B : Nat) (u : World) (h : IntsAt u B A xs) => refSum_any A len c B xs u hl (by omega) h
  rw [hr] at hS hS'
  have hE := fun (A A' : Option Addr) (c c' B B' : Nat) (u : World) (h : IntsAt u B A xs) (h' : IntsAt u B' A' xs) => same_any A A' c c' B B' xs u (by omega) h h'
  rw [hl] at hE
  have hown' : Calls Try.prog 23 #[.slice A len cap] w fun e w' => ∃ A' c, e = .returned (.slice A' len c) ∧ Hid (IntsAt w' w'.heap.size A' xs) ∧ Below w.heap.size w w' :=
    hown.mono fun e w' ⟨A', c, he, h1, h2⟩ => ⟨A', c, by rw [he, hl], h1, h2⟩
  have HAT := Lib.hid hat
  have HL := Lib.hid hl
  clear hp hq hr hown hat hl
  go_enter Try.func5, Try.ntmps5
  go_wp2_with (first
    | (go_at_call 23; (with_reducible refine hown'.mono ?_); rintro e w1 ⟨A', c', rfl, hat1, hb1⟩)
    | (go_at_call 24; (with_reducible refine (hP _).mono ?_); rintro e w2 ⟨rfl, hb2⟩)
    | (go_at_call 25; (with_reducible refine (hP' _).mono ?_); rintro e w' ⟨rfl, rfl⟩)
    | (go_at_call 26; (with_reducible refine (hT _).mono ?_); rintro e w' ⟨rfl, rfl⟩)
    | (go_at_call 27; (with_reducible refine (hT' _).mono ?_); rintro e w' ⟨rfl, rfl⟩)
    | (go_at_call 28; have a1 := hat1.out.below hb2; (with_reducible refine (hS _ _ _ _ a1).mono ?_); rintro e w' ⟨rfl, rfl⟩; clear a1)
    | (go_at_call 29; have a2 := HAT.out.below (hb1.trans (hb2.mono hb1.size)); (with_reducible refine (hS' _ _ _ _ a2).mono ?_); rintro e w' ⟨rfl, rfl⟩; clear a2)
    | (go_at_call 30; have a1 := hat1.out.below hb2; have a2 := HAT.out.below (hb1.trans (hb2.mono hb1.size)); (with_reducible refine (hE _ _ _ _ _ _ _ a1 a2).mono ?_); rintro e w3 ⟨rfl, hb3⟩; clear a1 a2)
    | (go_at_call 18; (with_reducible refine (awake_any _).mono ?_); rintro e w4 ⟨rfl, hb4⟩))
  go_ret
  exact ⟨rfl, ((hb1.trans (hb2.mono hb1.size)).trans (hb3.mono (by have := hb1.size; have := hb2.size; omega))).trans (hb4.mono (by have := hb1.size; have := hb2.size; have := hb3.size; omega))⟩

theorem walk (a0 : Int) (a1 : Int) (a2 : Option Addr) (len2 cap2 : Nat) (z2 : List Int) (w : World) (w0 : (Lit.int .i64 a0).wf = true) (w1 : (Lit.int .i64 a1).wf = true) (w2 : IsRow .i64 w a2 len2 cap2 z2) :
    Calls Try.prog 5 #[.int .i64 a0, .int .i64 a1, .slice a2 len2 cap2] w fun e w' => e = .returned (.bool true) ∧ Below w.heap.size w w' := by
  by_cases hl : 30 < len2
  · refine long_side a0 a1 a2 len2 cap2 w ?_ hl
    rcases w2 with ⟨_, h, _, _⟩ | ⟨_, _, h1, h2, _⟩
    · omega
    · unfold maxLen at h2; omega
  · obtain ⟨xs, hx, hat, hown⟩ := own_any (by omega) w2
    obtain ⟨p1, p2, hp⟩ := resOf_form (addR a0 a1)
    obtain ⟨q1, q2, hq⟩ := resOf_form (mulR a0 a1)
    obtain ⟨r1, r2, hr⟩ := resOf_form (sumUp 0 xs)
    exact inner a0 a1 p1 p2 q1 q2 r1 r2 a2 len2 cap2 xs w (by omega) hx hat hown hp hq hr

set_option maxRecDepth 100000 in
theorem lifted (os : Os) (started : os.Started) (H : Type) (enc : TypeId × Value → H) :
    ReturnsInHanded {} Try.checked os 5 .any (Rows.intsSumsSpec.pre6 enc Try.prog Try.f5 Rows.intsSumsRow.domain false) (Rows.intsSumsSpec.post enc Try.prog Try.f5 false true false false) := by
  refine returnsInHanded_of_change (C := Try.checked) own started (by kernel_rfl) Try.func5
    (ChangeSpec.witness6 (enc := enc) (C := Try.checked) false ⟨#[], #[.int .i64 0, .int .i64 0, .slice none 0 0], []⟩ 8 (by kernel_rfl) (by kernel_rfl) (by kernel_rfl) (by kernel_rfl)) ?_
  intro W base args ds gs before hval0 hW hcnd _
  have hval : ∀ (j : Nat) t v, Try.f5.params[j]? = some t → args[j]? = some v → Value.okWide Try.prog W .any base t v := hval0
  have hW' := hW
  obtain ⟨p, q, hA0, hV, rfl, hfz, hnd⟩ := hW
  have hA : DataW.TrodAll enc Try.prog W 0 (fun _ => true) true Try.f5.params.toList args.toList ds p := hA0
  rw [Try.params5] at hA hval
  obtain ⟨v0, vs0, d0, ds0, p0, q0, hargs, rfl, rfl, h0, r0⟩ := trodAll_cons hA
  obtain ⟨v1, vs1, d1, ds1, p1, q1, rfl, rfl, rfl, h1, r1⟩ := trodAll_cons r0
  obtain ⟨v2, vs2, d2, ds2, p2, q2, rfl, rfl, rfl, h2, r2⟩ := trodAll_cons r1
  obtain ⟨rfl, rfl, rfl⟩ := trodAll_nil r2
  obtain rfl : args = #[v0, v1, v2] := by cases args; simp_all
  obtain ⟨rfl, rfl⟩ := trodVars_none hV
  obtain ⟨a0, rfl, rfl, rfl, w0⟩ := open_int Try.underlying3 (hval 0 3 v0 rfl rfl) h0
  obtain ⟨a1, rfl, rfl, rfl, w1⟩ := open_int Try.underlying3 (hval 1 3 v1 rfl rfl) h1
  obtain ⟨a2, len2, cap2, rfl⟩ := okWide_slice Try.underlying36 (hval 2 36 v2 rfl rfl)
  have k2 := h2
  have lt2 : ∀ x ∈ p2, x.block < W.heap.size := by obtain ⟨m, hm⟩ := k2; exact DataW.trod_lt m _ _ _ hm
  obtain ⟨z2, w2⟩ : ∃ zs, IsRow .i64 W a2 len2 cap2 zs := by
    obtain ⟨fuel, hf⟩ := h2
    rcases open_ints Try.underlying36 Try.underlying3 (by kernel_rfl) hf with ⟨hcs, _⟩ | ⟨x, l, c, zs, hcs, _, hl, hm, hz, _, hcell, hwz⟩
    · simp [Value.cells] at hcs
      obtain ⟨rfl, rfl, rfl⟩ := hcs
      exact ⟨[], .inl ⟨rfl, rfl, rfl, rfl⟩⟩
    · simp [Value.cells] at hcs
      obtain ⟨rfl, rfl, rfl⟩ := hcs
      exact ⟨zs, .inr ⟨_, rfl, hl, hm, by simpa using hz, hcell, hwz⟩⟩
  clear hA0 hval0
  refine (walk a0 a1 a2 len2 cap2 z2 W w0 w1 w2).mono fun e W' ⟨he, bel⟩ => ?_
  subst he
  exact ⟨_, rfl, _, _, _, [], _, [], hW', trodAll_mk1 (shut_bool Try.underlying4 _), (trodAll_cons_mk (shut_int Try.underlying3 w0) (trodAll_cons_mk (shut_int Try.underlying3 w1) (trodAll_cons_mk (Below.trod laidOut (by kernel_rfl) (of_decide_eq_true (by kernel_rfl)) k2 bel lt2) trodAll_mk0))), rfl, bel.frame _, fun h => by cases h⟩

theorem over : Rows.intsSumsRow.holds Try.pinned (OpenSpec.ofChange Rows.intsSumsSpec) :=
  OpenClaim.holds_of_wide 5 Try.f5 rfl rfl rfl rfl rfl rfl rfl ⟨rfl, rfl, rfl, rfl, rfl⟩ rfl rfl rfl rfl rfl (by kernel_rfl) Try.func5 (by kernel_rfl)
    (of_decide_eq_true (by kernel_rfl)) (by unfold Func.isWrapper; first | (rw [if_pos (by decide +kernel)]; kernel_rfl) | (rw [if_neg (by decide +kernel)]; exact ⟨rfl, rfl⟩))
    (fun os started H enc _ => lifted os started H enc)

theorem proved : Rows.IntsSumsSaid := over
end Go.Proofs.Ytjflkjkkamapdaa.intsSums
