/-
  The reference of package counts: Halve.
-/
import Derived.Test.YtjldbabggmmkdaaApn
import Derived.Test.YtjldbabggmmkdaaO6T
import Derived.Test.YtjldbabggmmkdaaR6A
namespace Go.Proofs.Ytjldbabggmmkdaa
open Go.ChangeShapes Go.WideShapes Go.ChangeAt Go.RowKit Go.Shelf
set_option linter.unusedVariables false
set_option linter.unusedSimpArgs false

theorem hlv_snoc {zs : List Int} {k : Nat} (h : k < zs.length) (g : ∀ z ∈ zs, 0 ≤ z ∧ z ≤ 1099511627776) : hlv (zs.take (k + 1)) = hlv (zs.take k) ++ [(zs.getD k 0 + 1) / 2] := by
  rw [take_snoc h]
  unfold hlv
  rw [List.map_append]
  have e : zs.getD k 0 = zs[k] := by simp [List.getD, h]
  have hk := g _ (List.getElem_mem h)
  rw [← e] at hk
  have e2 : zs.getD k 0 - zs.getD k 0 / 2 = (zs.getD k 0 + 1) / 2 := by omega
  simp only [List.map_cons, List.map_nil, e2]

/-- halved counts, or nothing -/
def halL (zs : List Int) : List Int := if chk zs = 0 then hlv zs else []
end Go.Proofs.Ytjldbabggmmkdaa
