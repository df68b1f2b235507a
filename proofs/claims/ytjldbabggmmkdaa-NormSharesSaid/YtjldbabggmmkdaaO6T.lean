/-
  Tables of counts: Bytes and Symbols, of the program and of the reference.
-/
import Derived.OwnWalk
import Derived.Deep.OwnRows
import Derived.Test.YtjldbabggmmkdaaO6W
import Derived.Test.YtjldbabggmmkdaaAid
namespace Go.Proofs.Ytjldbabggmmkdaa
open Go.ChangeShapes Go.WideShapes Go.ChangeAt Go.RowKit Go.Shelf
set_option linter.unusedVariables false
set_option linter.unusedSimpArgs false

/-- numbers as cells -/
def tab (xs : List Int) : Array Value := (xs.map (Value.int .i64)).toArray
theorem tab_size (xs : List Int) : (tab xs).size = xs.length := by simp [tab]
theorem tab_getD {xs : List Int} {k : Nat} (h : k < xs.length) : (tab xs)[k]? = some (.int .i64 (xs.getD k 0)) := by simp [tab, List.getD, h]
theorem tab_cell {w : World} {g : Nat} {t : TypeId} {xs : List Int} (h : Blk w g t (tab xs)) {k : Nat} (hk : k < xs.length) : w.cell? ⟨g, k, none⟩ = some (.int .i64 (xs.getD k 0)) := (blk_cell h k).trans (tab_getD hk)
theorem tab_set {xs : List Int} (k : Nat) (v : Int) : (tab xs).setIfInBounds k (.int .i64 v) = tab (xs.set k v) := by
  apply Array.ext'
  simp [tab, List.map_set]
theorem tab_store {w : World} {g : Nat} {t : TypeId} {xs : List Int} (h : Blk w g t (tab xs)) (k : Nat) (v : Int) : Blk (w.setCell ⟨g, k, none⟩ (.int .i64 v)) g t (tab (xs.set k v)) := by
  have k := blk_set h k (.int .i64 v)
  rw [tab_set] at k
  exact k
theorem tab_ints {w : World} {g : Nat} {t : TypeId} {xs : List Int} (h : Blk w g t (tab xs)) (n : Nat) (hn : n ≤ xs.length) : IntsAt w (g + 1) (some ⟨g, 0, none⟩) (xs.take n) := fun _ =>
  ⟨g, 0, rfl, Nat.lt_succ_self _, fun k hk => by
    have hk' : k < n := by rw [List.length_take] at hk; omega
    rw [Nat.zero_add, tab_cell h (by omega)]
    simp [List.getD, List.getElem?_take, hk']⟩
theorem tab_zero (N : Nat) : tab (ctab N []) = Array.replicate N (.int .i64 0) := by
  rw [ctab_nil]
  apply Array.ext'
  simp [tab]

/-- a list of counts and an error, in memory of the call's own -/
def ResP (w : World) (out : List Int) (err : Int) (e : Ending) (w' : World) : Prop :=
  ∃ A c, e = .returned (.tuple #[.slice A out.length c, .int .i64 err]) ∧ IntsAt w' w'.heap.size A out ∧ Below w.heap.size w w'
end Go.Proofs.Ytjldbabggmmkdaa
