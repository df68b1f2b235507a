/-
  A list of truth values copied into new memory.
-/
import Derived.Test.YtpmabmjfininoaaR6C
import Derived.Test.YtpmabmjfininoaaOf
namespace Go.Proofs.Ytpmabmjfininoaa
open Go.ChangeShapes Go.WideShapes Go.ChangeAt Go.RowKit Go.Shelf
set_option linter.unusedVariables false
set_option linter.unusedSimpArgs false

theorem info4 : (Try.prog.info? 4).map (fun i => (i.zero, i.size, i.bytes)) = some (some (.bool false), 1, 1) := by kernel_rfl
theorem bools_of_own {w : World} {base n : Nat} {v : Value} {xs : List Bool} (h : w.ownsRow base 4 1 v n (xs.map Value.bool)) : ∃ A c, v = .slice A xs.length c ∧ BoolsAt w w.heap.size A xs := by
  have hn : xs.length = n := by simpa using h.1
  subst hn
  rcases h.2 with ⟨rfl, h0⟩ | ⟨g, cap, cur, rfl, _, hg, _, _, _, _⟩
  · exact ⟨none, 0, by rw [h0], fun h1 => absurd h1 (by omega)⟩
  · refine ⟨_, _, rfl, fun _ => ⟨g, 0, rfl, ?_, fun k hk => ?_⟩⟩
    · rcases Nat.lt_or_ge g w.heap.size with hlt | hge
      · exact hlt
      · rw [Array.getElem?_eq_none hge] at hg; cases hg
    · rw [Nat.zero_add, h.cellAt k (by omega)]
      simp [List.getD, hk]
theorem append_bools {w : World} {ops : Array Oper} {rest : List Oper} {o : Oper} {a : Act} {Q : Exit → Act → World → Prop} (hgd : o.guard = none) (s x : Operand)
    (ho : o.op = .call { callee := .builtin .append, args := #[s, x], argTypes := #[23, 23] })
    (A : Option Addr) (m cap : Nat) (hs : List Bool) (h : Bls w A m hs) (hN : A = none → m = 0 ∧ cap = 0) (hm : m ≤ 1000000)
    (es : a.eval s = .slice (some ⟨w.heap.size, 0, none⟩) 0 0) (ex : a.eval x = .slice A m cap)
    (hK : ∀ A' c w', BoolsAt w' w'.heap.size A' hs → Below w.heap.size w w' → wpList Try.prog ops Q rest (a.put o.dst (.slice A' hs.length c)) w') : wpList Try.prog ops Q (o :: rest) a (w.alloc (.cells #[] 4)) := by
  obtain ⟨i0, hi, hz0, hz1, hz2⟩ := info_parts info4
  have hown : (w.alloc (.cells #[] 4)).ownsRow w.heap.size 4 1 (.slice (some ⟨w.heap.size, 0, none⟩) 0 0) 0 [] := World.ownsRow_made w #[] 0 (Nat.le_refl _) (by decide) rfl
  obtain ⟨hl, hn, hI⟩ := h
  cases A with
  | none =>
    obtain ⟨rfl, rfl⟩ := hN rfl
    obtain rfl : hs = [] := List.eq_nil_of_length_eq_zero hl
    refine wpList_append_own_none hgd s x 23 ho w.heap.size 4 i0 1 Try.underlying23 hi _ 0 [] es hown ex ?_
    exact hK (some ⟨w.heap.size, 0, none⟩) 0 _ (fun h => absurd h (by decide)) (below_box (Below.refl _ _) _)
  | some ad =>
    have hc : ∀ i, i < hs.length → w.cell? (ad.add i) = some (.bool (hs.getD i false)) := fun i hi => by
      obtain ⟨b, off, hA, _, hc⟩ := hI (by omega)
      obtain rfl : ad = ⟨b, off, none⟩ := by simpa using hA
      rw [add_at]; exact hc i hi
    have hnews : ∀ j u, (hs.map Value.bool)[j]? = some u → (w.alloc (.cells #[] 4)).cell? (ad.add j) = some u := fun j u hj => by
      have hj' : j < hs.length := by
        have := (List.getElem?_eq_some_iff.1 hj).1
        simpa using this
      have hcj := hc j hj'
      rw [World.cell?_alloc_lt _ _ _ (cell_lt hcj), hcj]
      simp [List.getElem?_eq_getElem hj'] at hj
      rw [← hj]
      simp [List.getD, hj']
    refine wpList_append_own _ hgd s x 23 ho w.heap.size 4 i0 (.bool false) 1 1 Try.underlying23 hi hz0 hz1 hz2 rfl (by decide) _ 0 [] es hown ad m cap (hs.map Value.bool) ex (by simp; omega) hnews (fun u hu => ?_) (by unfold maxLen; omega) (by omega) (by simp) ?_
    · obtain ⟨z, _, rfl⟩ := List.mem_map.1 hu
      rfl
    · intro v' w1 hown' hg _
      obtain ⟨A', c', hv, hat⟩ := bools_of_own (xs := hs) (by simpa using hown')
      rw [hv]
      exact hK A' c' w1 hat ((below_box (Below.refl _ _) _).grown hg (by simp) (fun k hk => by simp [Value.ownBlock] at hk; omega))
end Go.Proofs.Ytpmabmjfininoaa
