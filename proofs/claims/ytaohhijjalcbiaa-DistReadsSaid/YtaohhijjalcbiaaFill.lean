/-
  A row of bytes turned into a string.
-/
import Derived.Test.YtaohhijjalcbiaaProg
import Derived.Test.YtaohhijjalcbiaaMem
import Derived.Laws.IdiomStrings
namespace Go.Proofs.Ytaohhijjalcbiaa
open Go.ChangeShapes Go.WideShapes Go.ChangeAt Go.RowKit
set_option linter.unusedVariables false

theorem infoByte : (Try.prog.info? 5).map (fun i => (i.zero, i.size, i.bytes)) = some (some (.int .u8 0), 1, 1) := by kernel_rfl
theorem fill_string (w : World) (g T k : Nat) (h : Blk w g 5 (fillB T k k)) : (convert 128 9 (.slice (some ⟨g, 0, none⟩) k k)).run Try.prog w = .ok (.string ⟨(leB T k).toArray⟩) w := by
  have hl := leB_length T k
  have h1 := run_convert_bytes_back (P := Try.prog) w 128 9 5 ⟨g, 0, none⟩ k (leB T k) Try.underlying128 Try.underlying5 Try.underlying9 (fun j hj => by
    have hj' : j < k := by rw [hl] at hj; exact hj
    rw [add_plain, Nat.zero_add, blk_cell h, fillB_get T k k j hj', if_pos hj', leB_get]
    simp)
  rw [hl] at h1
  exact h1

end Go.Proofs.Ytaohhijjalcbiaa
