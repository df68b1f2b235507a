/-
  OwnInts copies a list into new memory.
-/
import Derived.Test.YtaohhijjalcbiaaPlus

import Derived.Laws.AppendOwnNone
namespace Go.Proofs.Ytaohhijjalcbiaa
open Go.ChangeShapes Go.WideShapes Go.ChangeAt Go.RowKit
set_option linter.unusedVariables false

theorem info3 : (Try.prog.info? 3).map (fun i => (i.zero, i.size, i.bytes)) = some (some (.int .i64 0), 1, 8) := by kernel_rfl

/-- a list in memory: a slice value that reads as xs -/
def OwnP (w : World) (xs : List Int) (e : Ending) (w' : World) : Prop :=
  ∃ A c, e = .returned (.slice A xs.length c) ∧ IntsAt w' w'.heap.size A xs ∧ Below w.heap.size w w'

theorem own_nil (w : World) : Calls Try.prog 28 #[.slice none 0 0] w (OwnP w []) := by
  obtain ⟨i0, hi, hz0, hz1, hz2⟩ := info_parts info3
  have hown : (w.alloc (.cells #[] 3)).ownsRow w.heap.size 3 1 (.slice (some ⟨w.heap.size, 0, none⟩) 0 0) 0 [] := World.ownsRow_made w #[] 0 (Nat.le_refl _) (by decide) rfl
  go_enter Try.func28, Try.ntmps28
  go_wp2_with (at_builtin; refine wpList_append_own_none rfl _ _ 22 rfl w.heap.size 3 i0 1 Try.underlying22 hi _ 0 [] rfl hown rfl ?_)
  go_ret
  exact ⟨_, _, rfl, fun h => absurd h (by decide), (Below.refl _ _).alloc (Nat.le_refl _) _⟩

theorem ints_of_own {w : World} {base n : Nat} {v : Value} {xs : List Int} (h : w.ownsRow base 3 1 v n (xs.map (Value.int .i64))) : ∃ A c, v = .slice A xs.length c ∧ IntsAt w w.heap.size A xs := by
  have hn : xs.length = n := by simpa using h.1
  subst hn
  rcases h.2 with ⟨rfl, h0⟩ | ⟨g, cap, cur, rfl, _, hg, _, _, _, _⟩
  · exact ⟨none, 0, by rw [h0], fun h1 => absurd h1 (by omega)⟩
  · refine ⟨_, _, rfl, fun _ => ⟨g, 0, rfl, ?_, fun k hk => ?_⟩⟩
    · rcases Nat.lt_or_ge g w.heap.size with hlt | hge
      · exact hlt
      · rw [Array.getElem?_eq_none hge] at hg; cases hg
    · rw [Nat.zero_add, h.cellAt k (by omega)]
      simp [List.getD, hk]

theorem cell_lt {w : World} {a : Addr} {v : Value} (h : w.cell? a = some v) : a.block < w.heap.size := by
  rcases Nat.lt_or_ge a.block w.heap.size with hlt | hge
  · exact hlt
  · have hn : w.heap[a.block]? = none := Array.getElem?_eq_none hge
    simp [World.cell?, hn] at h

theorem own_some (A : Addr) (len cap : Nat) (xs : List Int) (w : World) (h30 : len ≤ 1000000) (hl : xs.length = len) (hc : ∀ i, i < xs.length → w.cell? (A.add i) = some (.int .i64 (xs.getD i 0))) :
    Calls Try.prog 28 #[.slice (some A) len cap] w (OwnP w xs) := by
  obtain ⟨i0, hi, hz0, hz1, hz2⟩ := info_parts info3
  have hown : (w.alloc (.cells #[] 3)).ownsRow w.heap.size 3 1 (.slice (some ⟨w.heap.size, 0, none⟩) 0 0) 0 [] := World.ownsRow_made w #[] 0 (Nat.le_refl _) (by decide) rfl
  have hnews : ∀ j u, (xs.map (Value.int .i64))[j]? = some u → (w.alloc (.cells #[] 3)).cell? (A.add j) = some u := fun j u hj => by
    have hj' : j < xs.length := by
      have := (List.getElem?_eq_some_iff.1 hj).1
      simpa using this
    have hcj := hc j hj'
    rw [World.cell?_alloc_lt _ _ _ (cell_lt hcj), hcj]
    simp [List.getElem?_eq_getElem hj'] at hj
    rw [← hj]
    simp [List.getD, hj']
  generalize hys : xs.map (Value.int .i64) = ys at hnews
  have hy1 : ys.length = len * 1 := by rw [← hys]; simp; omega
  have hy2 : ∀ u ∈ ys, u.oneCell' = true := fun u hu => by
    rw [← hys] at hu
    obtain ⟨z, _, rfl⟩ := List.mem_map.1 hu
    rfl
  have HY := Lib.hid hys
  have HL := Lib.hid hl
  have HL1 := Lib.hid hy1
  clear hys hl hc hy1
  go_enter Try.func28, Try.ntmps28
  go_wp2_with (at_builtin; refine wpList_append_own _ rfl _ _ 22 rfl w.heap.size 3 i0 (.int .i64 0) 1 8 Try.underlying22 hi hz0 hz1 hz2 rfl (by decide) _ 0 [] rfl hown A len cap ys rfl ?c1 hnews hy2 ?c3 ?c4 ?c5 ?_)
  case c1 => exact HL1.out
  case c3 => unfold maxLen; omega
  case c4 => omega
  case c5 => simp
  intro v' w1 hown' hg _
  go_wp2
  go_ret
  rw [← HY.out] at hown'
  obtain ⟨A', c', hv, hat⟩ := ints_of_own (xs := xs) (by simpa using hown')
  exact ⟨A', c', by rw [← hv]; rfl, hat, ((Below.refl _ _).alloc (Nat.le_refl _) _).grown hg (by simp) (fun k hk => by simp [Value.ownBlock] at hk; omega)⟩
end Go.Proofs.Ytaohhijjalcbiaa
