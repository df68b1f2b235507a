/-
  The project's cursors: the deferred closure, and passing a field.
-/
import Derived.Test.YtipigfngeiodlaaO4B
import Derived.Defers
import Derived.Deep.RegionWith
namespace Go.Proofs.Ytipigfngeiodlaa
open Go.ChangeShapes Go.WideShapes Go.ChangeAt Go.RowKit
set_option linter.unusedVariables false

theorem keep_any (g : Nat) (S : ByteArray) (A E F e f : Int) (w : World) (hb : Blk w g 53 (at4 S A E F)) :
    Calls Try.prog 40 #[.pointer (some ⟨g, 0, none⟩), .agg #[.int .i64 e, .int .i64 f]] w fun x w' =>
      x = .returned (.tuple #[]) ∧ Blk w' g 53 (at4 S A (if E = 0 then e else E) (if E = 0 then f else F)) ∧ w.grownBy w' (some g) := by
  by_cases h : E = 0
  · rw [if_pos h, if_pos h]
    subst h
    exact keep_free g S A e f F w hb
  · rw [if_neg h, if_neg h]
    exact keep_had g S A E F e f h w hb

theorem closure_walk (a f g : Nat) (S : ByteArray) (A E F e x P Q : Int) (u : FrameMode) (w : World)
    (ha : w.cell? ⟨a, 0, none⟩ = some (.pointer (some ⟨g, 0, none⟩))) (hf : Blk w f 24 #[.int .i64 e, .int .i64 x]) (hb : Blk w g 53 (at4 S A E F))
    (hK : ∀ v, Blk v g 53 (at4 S A E F) → Calls Try.prog 40 #[.pointer (some ⟨g, 0, none⟩), .agg #[.int .i64 e, .int .i64 x]] v fun x w' => x = .returned (.tuple #[]) ∧ Blk w' g 53 (at4 S A P Q) ∧ v.grownBy w' (some g)) :
    CallsD Try.prog 42 #[.pointer (some ⟨a, 0, none⟩), .pointer (some ⟨f, 0, none⟩)] u w fun r u' w' =>
      u' = u ∧ (r = .returned (.tuple #[]) ∧ Blk w' g 53 (at4 S A P Q) ∧ w.grownBy w' (some g)) := by
  have HB := Lib.hid hb
  have hl := blk_lt hb
  have f0 := blk_cell hf 0
  have f1 := blk_cell hf 1
  clear hb hf
  go_enter_d Try.func42, Try.ntmps42
  go_region_with ((go_at_call 40; (with_reducible refine (hK _ (blk_drew HB.out)).mono ?_); rintro r w1 ⟨rfl, hb1, hg1⟩))
  all_goals (go_wp2_with fail; go_end0; exact ⟨rfl, hb1, grown_trans (grown_drew (grown_refl _ _)) hg1⟩)

theorem closure_any (a f g : Nat) (S : ByteArray) (A E F e x : Int) (u : FrameMode) (w : World)
    (ha : w.cell? ⟨a, 0, none⟩ = some (.pointer (some ⟨g, 0, none⟩))) (hf : Blk w f 24 #[.int .i64 e, .int .i64 x]) (hb : Blk w g 53 (at4 S A E F)) :
    CallsD Try.prog 42 #[.pointer (some ⟨a, 0, none⟩), .pointer (some ⟨f, 0, none⟩)] u w fun r u' w' =>
      u' = u ∧ (r = .returned (.tuple #[]) ∧ Blk w' g 53 (at4 S A (if E = 0 then e else E) (if E = 0 then x else F)) ∧ w.grownBy w' (some g)) :=
  closure_walk a f g S A E F e x _ _ u w ha hf hb (fun v hv => keep_any g S A E F e x v hv)

/-- at the door: the reader's block and the fault that was found -/
theorem pass_leaves (w wd : World) (g : Nat) (S s : ByteArray) (A E F e x : Int) (tmps : Array Value) (P Q : Int) (hP : (if E = 0 then e else E) = P) (hQ : (if E = 0 then x else F) = Q) (hg : g < w.heap.size) (htmp : tmps.getD 6 undef = .string s)
    (ha : wd.cell? ⟨w.heap.size, 0, none⟩ = some (.pointer (some ⟨g, 0, none⟩))) (hf : Blk wd (w.heap.size + 1) 24 #[.int .i64 e, .int .i64 x]) (hb : Blk wd g 53 (at4 S A E F)) (hw : w.grownBy wd (some g)) :
    Leaves Try.prog Try.f37 tmps (fun r w' => r = .returned (.string s) ∧ Blk w' g 53 (at4 S A P Q) ∧ w.grownBy w' (some g))
      [{ target := .fn (.func 42) #[.pointer (some ⟨w.heap.size, 0, none⟩), .pointer (some ⟨w.heap.size + 1, 0, none⟩)], args := #[] }] .returning wd := by
  subst hP hQ
  refine leaves_cons (f := 42) (args := #[.pointer (some ⟨w.heap.size, 0, none⟩), .pointer (some ⟨w.heap.size + 1, 0, none⟩)]) (by simp) (by simp [go_sem]) ?_
  refine (closure_any w.heap.size (w.heap.size + 1) g S A E F e x .returning wd ha hf hb).mono ?_
  rintro r u' w2 ⟨rfl, rfl, hb2, hg2⟩
  exact ⟨_, results_tmp rfl _ _ _, by rw [htmp], hb2, grown_trans hw hg2⟩
end Go.Proofs.Ytipigfngeiodlaa
