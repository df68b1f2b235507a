/-
  A slice of one byte turned into a string.
-/
import Derived.Test.YtaohhijjalcbiaaProg
import Derived.Test.YtaohhijjalcbiaaAid
import Derived.Laws.IdiomStrings
namespace Go.Proofs.Ytaohhijjalcbiaa
open Go.ChangeShapes Go.WideShapes Go.ChangeAt Go.RowKit
set_option linter.unusedVariables false

theorem one_back (u : World) (c : Int) (h0 : 0 ≤ c) (h1 : c < 256) : (convert 128 9 (.slice (some ⟨u.heap.size, 0, none⟩) 1 1)).run Try.prog (u.alloc (.cells #[.int .u8 c] 5)) =
    .ok (.string ⟨[UInt8.ofNat c.toNat].toArray⟩) (u.alloc (.cells #[.int .u8 c] 5)) := by
  have h := run_convert_bytes_back (P := Try.prog) (u.alloc (.cells #[.int .u8 c] 5)) 128 9 5 ⟨u.heap.size, 0, none⟩ 1 [UInt8.ofNat c.toNat] Try.underlying128 Try.underlying5 Try.underlying9 (fun j hj => by
    have hj' : j = 0 := by simpa using hj
    subst hj'
    rw [add_plain, World.cell?_alloc_at _ _ _ _ rfl]
    simp
    omega)
  exact h

end Go.Proofs.Ytaohhijjalcbiaa
