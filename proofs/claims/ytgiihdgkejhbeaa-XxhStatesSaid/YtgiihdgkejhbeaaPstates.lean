/-
  On every state whose tail is short and every short string: which states are valid, what a state is behind some bytes, its checksum, and which errors: the package's answers are the reference's.
-/
import Derived.Test.YtgiihdgkejhbeaaRows
import Derived.Test.YtgiihdgkejhbeaaStates
import Derived.WalkKit
import Derived.ProofKit
import Derived.OpenShut
import Derived.ShutString
import Derived.ChangeOld
import Derived.Below
import Derived.Laws.IdiomArrays
import Derived.Lib.SmallJoins
import Derived.Deep.Strs
namespace Go.Proofs.Ytgiihdgkejhbeaa.xxhStates
open Go.ChangeShapes Go.WideShapes Go.ChangeAt Go.RowKit
open Go.ChangeMaps (open_string shut_string)
set_option linter.unusedVariables false

theorem own : ownKnob Try.prog.godebug = none := by kernel_rfl
theorem laidOut : laidOutB Try.prog = true := by kernel_rfl

theorem array7 {α : Type} {cs : Array α} (h : cs.size = 7) : ∃ c0 c1 c2 c3 c4 c5 c6, cs = #[c0, c1, c2, c3, c4, c5, c6] := by
  obtain ⟨l⟩ := cs
  match l, h with
  | [c0, c1, c2, c3, c4, c5, c6], _ => exact ⟨c0, c1, c2, c3, c4, c5, c6, rfl⟩

theorem open_hash {H : Type} {enc : TypeId × Value → H} {w : World} {base : Nat} {spare : Nat → Bool} {held : Bool} {r : Reach} {b0 : Nat} {v : Value} {d : DataW H} {p : List MemPlace}
    (hv : Value.okWide Try.prog w r b0 32 v) (h : DataW.Trod enc Try.prog w base spare held 32 v d p) :
    ∃ (A B C D T : Int) (S : ByteArray) (E : Int), v = .agg #[.int .u64 A, .int .u64 B, .int .u64 C, .int .u64 D, .int .i64 T, .string S, .int .u64 E] ∧ (Lit.int .u64 A).wf = true ∧ (Lit.int .u64 B).wf = true ∧ (Lit.int .u64 C).wf = true ∧ (Lit.int .u64 D).wf = true ∧ (Lit.int .i64 T).wf = true ∧ S.size ≤ maxLen ∧ (Lit.int .u64 E).wf = true := by
  have k7 : Try.prog.cellsOf 32 = 7 := by kernel_rfl
  have k4 : Try.prog.cellsOf 30 = 4 := by kernel_rfl
  have k9 : Try.prog.cellsOf 9 = 1 := by kernel_rfl
  have k3 : Try.prog.cellsOf 3 = 1 := by kernel_rfl
  have k22 : Try.prog.cellsOf 22 = 1 := by kernel_rfl
  obtain ⟨cs, rfl, hsz⟩ := okWide_struct Try.underlying32 hv
  obtain ⟨c0, c1, c2, c3, c4, c5, c6, rfl⟩ := array7 (hsz.trans k7)
  obtain ⟨fuel, hf⟩ := h
  obtain ⟨y0, y1, y2, y3, n, _, _, e0, e1, e2, e3⟩ := Joins.trod_struct4 Try.underlying32 hf
  have e0' : DataW.trod enc Try.prog w base spare held n 30 [c0, c1, c2, c3] = some y0 := by simpa [Value.cells, k4] using e0
  have e1' : DataW.trod enc Try.prog w base spare held n 3 [c4] = some y1 := by simpa [Value.cells, k3] using e1
  have e2' : DataW.trod enc Try.prog w base spare held n 9 [c5] = some y2 := by simpa [Value.cells, k9] using e2
  have e3' : DataW.trod enc Try.prog w base spare held n 22 [c6] = some y3 := by simpa [Value.cells, k22] using e3
  obtain ⟨z0, z1, z2, z3, m, _, g0, g1, g2, g3⟩ := trod_array4 Try.underlying30 k22 e0'
  obtain ⟨A, hc0, _, w0⟩ := DataW.trod_int Try.underlying22 g0
  obtain ⟨B, hc1, _, w1⟩ := DataW.trod_int Try.underlying22 g1
  obtain ⟨C, hc2, _, w2⟩ := DataW.trod_int Try.underlying22 g2
  obtain ⟨D, hc3, _, w3⟩ := DataW.trod_int Try.underlying22 g3
  obtain ⟨T, hc4, _, w4⟩ := DataW.trod_int Try.underlying3 e1'
  obtain ⟨S, hc5, _, w5⟩ := DataW.trod_string Try.underlying9 e2'
  obtain ⟨E, hc6, _, w6⟩ := DataW.trod_int Try.underlying22 e3'
  exact ⟨A, B, C, D, T, S, E, by simp_all, w0, w1, w2, w3, w4, w5, w6⟩

theorem walk (a0_0 : Int) (a0_1 : Int) (a0_2 : Int) (a0_3 : Int) (a0_4 : Int) (a0_5 : ByteArray) (a0_6 : Int) (a1 : ByteArray) (w : World) (w0_0 : (Lit.int .u64 a0_0).wf = true) (w0_1 : (Lit.int .u64 a0_1).wf = true) (w0_2 : (Lit.int .u64 a0_2).wf = true) (w0_3 : (Lit.int .u64 a0_3).wf = true) (w0_4 : (Lit.int .i64 a0_4).wf = true) (w0_5 : a0_5.size ≤ maxLen) (w0_6 : (Lit.int .u64 a0_6).wf = true) (w1 : a1.size ≤ maxLen) :
    Calls Try.prog 4 #[.agg #[.int .u64 a0_0, .int .u64 a0_1, .int .u64 a0_2, .int .u64 a0_3, .int .i64 a0_4, .string a0_5, .int .u64 a0_6], .string a1] w fun e w' => e = .returned (.bool true) ∧ Below w.heap.size w w' := by
  exact states_any a0_0 a0_1 a0_2 a0_3 a0_4 a0_5 a0_6 a1 w

set_option maxRecDepth 100000 in
theorem lifted (os : Os) (started : os.Started) (H : Type) (enc : TypeId × Value → H) :
    ReturnsInHanded {} Try.checked os 4 .any (Rows.xxhStatesSpec.pre6 enc Try.prog Try.f4 Rows.xxhStatesRow.domain false) (Rows.xxhStatesSpec.post enc Try.prog Try.f4 false true false false) := by
  refine returnsInHanded_of_change (C := Try.checked) own started (by kernel_rfl) Try.func4
    (ChangeSpec.witness6 (enc := enc) (C := Try.checked) false ⟨#[], #[.agg #[.int .u64 0, .int .u64 0, .int .u64 0, .int .u64 0, .int .i64 0, .string ByteArray.empty, .int .u64 0], .string ByteArray.empty], []⟩ 8 (by kernel_rfl) (by kernel_rfl) (by kernel_rfl) (by kernel_rfl)) ?_
  intro W base args ds gs before hval0 hW hcnd _
  have hval : ∀ (j : Nat) t v, Try.f4.params[j]? = some t → args[j]? = some v → Value.okWide Try.prog W .any base t v := hval0
  have hW' := hW
  obtain ⟨p, q, hA0, hV, rfl, hfz, hnd⟩ := hW
  have hA : DataW.TrodAll enc Try.prog W 0 (fun _ => true) true Try.f4.params.toList args.toList ds p := hA0
  rw [Try.params4] at hA hval
  obtain ⟨v0, vs0, d0, ds0, p0, q0, hargs, rfl, rfl, h0, r0⟩ := trodAll_cons hA
  obtain ⟨v1, vs1, d1, ds1, p1, q1, rfl, rfl, rfl, h1, r1⟩ := trodAll_cons r0
  obtain ⟨rfl, rfl, rfl⟩ := trodAll_nil r1
  obtain rfl : args = #[v0, v1] := by cases args; simp_all
  obtain ⟨rfl, rfl⟩ := trodVars_none hV
  have k0 := h0
  have lt0 : ∀ x ∈ p0, x.block < W.heap.size := by obtain ⟨m, hm⟩ := k0; exact DataW.trod_lt m _ _ _ hm
  obtain ⟨a0_0, a0_1, a0_2, a0_3, a0_4, a0_5, a0_6, rfl, w0_0, w0_1, w0_2, w0_3, w0_4, w0_5, w0_6⟩ := open_hash (hval 0 32 v0 rfl rfl) h0
  obtain ⟨a1, rfl, rfl, rfl, w1⟩ := open_string Try.underlying9 (hval 1 9 v1 rfl rfl) h1
  clear hA0 hval0
  refine (walk a0_0 a0_1 a0_2 a0_3 a0_4 a0_5 a0_6 a1 W w0_0 w0_1 w0_2 w0_3 w0_4 w0_5 w0_6 w1).mono fun e W' ⟨he, bel⟩ => ?_
  subst he
  exact ⟨_, rfl, _, _, _, [], _, [], hW', trodAll_mk1 (shut_bool Try.underlying4 _), (trodAll_cons_mk (Below.trod laidOut (by kernel_rfl) (of_decide_eq_true (by kernel_rfl)) k0 bel lt0) (trodAll_cons_mk (shut_string Try.underlying9 w1) trodAll_mk0)), rfl, bel.frame _, fun h => by cases h⟩

theorem over : Rows.xxhStatesRow.holds Try.pinned (OpenSpec.ofChange Rows.xxhStatesSpec) :=
  OpenClaim.holds_of_wide 4 Try.f4 rfl rfl rfl rfl rfl rfl rfl ⟨rfl, rfl, rfl, rfl, rfl⟩ rfl rfl rfl rfl rfl (by kernel_rfl) Try.func4 (by kernel_rfl)
    (of_decide_eq_true (by kernel_rfl)) (by unfold Func.isWrapper; first | (rw [if_pos (by decide +kernel)]; kernel_rfl) | (rw [if_neg (by decide +kernel)]; exact ⟨rfl, rfl⟩))
    (fun os started H enc _ => lifted os started H enc)

theorem proved : Rows.XxhStatesSaid :=
  over
end Go.Proofs.Ytgiihdgkejhbeaa.xxhStates
