/-
  The project's writer of bits: its result.
-/
import Derived.Test.YtaohhijjalcbiaaO2T2
import Derived.BigRegion
import Derived.StillTailTactics
namespace Go.Proofs.Ytaohhijjalcbiaa
open Go.ChangeShapes Go.WideShapes Go.ChangeAt Go.RowKit
set_option linter.unusedVariables false

theorem result_bad (g : Nat) (S : ByteArray) (P N c : Int) (w : World) (hc : c ≠ 0) (hb : Blk w g 109 (at4 S P N c)) :
    Calls Try.prog 76 #[.pointer (some ⟨g, 0, none⟩)] w fun e w' => e = .returned (.tuple #[.agg #[.string ⟨#[]⟩, .int .i64 0, .int .i64 0], .int .i64 c]) ∧ Below w.heap.size w w' := by
  have t2 : (c != 0) = true := by simp [hc]
  have hg := blk_lt hb
  obtain ⟨⟨c0, c1, c2, c3⟩, _⟩ := blk4 hb
  clear hb hc
  go_enter Try.func76, Try.ntmps76
  go_wp2
  go_region
  go_wp2
  exact bodyPost_ret (v := .tuple #[.agg #[.string ⟨#[]⟩, .int .i64 0, .int .i64 0], .int .i64 c]) (by simp [results, Try.results76, go_sem]) rfl ⟨rfl, (by repeat (first | exact Below.refl _ _ | refine Below.drew ?_ | refine Below.setCell ?_ (by simp) _ | refine Below.alloc ?_ (by simp) _))⟩

theorem result_good (g : Nat) (S : ByteArray) (P N : Int) (w : World) (hb : Blk w g 109 (at4 S P N 0)) :
    Calls Try.prog 76 #[.pointer (some ⟨g, 0, none⟩)] w fun e w' => e = .returned (.tuple #[.agg #[.string S, .int .i64 P, .int .i64 N], .int .i64 0]) ∧ Below w.heap.size w w' := by
  have hg := blk_lt hb
  obtain ⟨⟨c0, c1, c2, c3⟩, _⟩ := blk4 hb
  clear hb
  go_enter Try.func76, Try.ntmps76
  go_wp2
  exact bodyPost_ret (v := .tuple #[.agg #[.string S, .int .i64 P, .int .i64 N], .int .i64 0]) (by simp [results, Try.results76, go_sem]) rfl ⟨rfl, (Below.refl _ _).alloc (Nat.le_refl _) _⟩

end Go.Proofs.Ytaohhijjalcbiaa
