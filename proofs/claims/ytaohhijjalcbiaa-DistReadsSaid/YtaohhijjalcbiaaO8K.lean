/-
  Package dist: the reader of descriptions: what it meets, takes and adds.
-/
import Derived.Test.YtaohhijjalcbiaaO8J
import Derived.Test.YtaohhijjalcbiaaD8R
import Derived.Test.YtaohhijjalcbiaaO2T8
import Derived.Test.YtaohhijjalcbiaaApn
namespace Go.Proofs.Ytaohhijjalcbiaa
open Go.ChangeShapes Go.WideShapes Go.ChangeAt Go.RowKit
set_option linter.unusedVariables false
set_option linter.unusedSimpArgs false

/-- what has grown but for a block, below another -/
structure Ex (base g : Nat) (w w' : World) : Prop where
  os : w'.os = w.os
  tape : w'.tape = w.tape
  output : w'.output = w.output
  size : w.heap.size ≤ w'.heap.size
  block : ∀ k, k < base → k ≠ g → w'.heap[k]? = w.heap[k]?
theorem Ex.refl (base g : Nat) (w : World) : Ex base g w w := ⟨rfl, rfl, rfl, Nat.le_refl _, fun _ _ _ => rfl⟩
theorem Ex.trans {base g : Nat} {a b c : World} (h : Ex base g a b) (k : Ex base g b c) : Ex base g a c :=
  ⟨k.os.trans h.os, k.tape.trans h.tape, k.output.trans h.output, Nat.le_trans h.size k.size, fun i hi hne => (k.block i hi hne).trans (h.block i hi hne)⟩
theorem Ex.of {base g : Nat} {w w' : World} (h : w.grownBy w' (some g)) (hb : base ≤ w.heap.size) : Ex base g w w' :=
  ⟨h.os, h.tape, h.output, h.size, fun k hk hne => h.block k (by omega) (fun e => hne (by simpa using e))⟩
theorem Ex.below {base g B : Nat} {a w w' : World} (h : Below B a w) (k : Ex base g w w') (hB : B ≤ base) (hg : B ≤ g) : Below B a w' :=
  ⟨k.os.trans h.os, k.tape.trans h.tape, k.output.trans h.output, Nat.le_trans h.size k.size, fun i hi => (k.block i (by omega) (by omega)).trans (h.block i hi)⟩
theorem Ex.blk {base g B : Nat} {w w' : World} {t : TypeId} {cs : Array Value} (h : Blk w B t cs) (k : Ex base g w w') (hB : B < base) (hg : B ≠ g) : Blk w' B t cs := (k.block B hB hg).trans h

/-- a reader in memory -/
structure Rd (w : World) (base g : Nat) (S : ByteArray) (B sym : Int) (v e : Value) (xs : List Int) : Prop where
  a : Blk w g 71 #[.string S, .int .i64 B, .int .i64 sym, v, e]
  o : w.ownsRow base 3 1 v xs.length (xs.map (Value.int .i64))
  l : g < base
  s : base ≤ w.heap.size
theorem rd_cells {w : World} {g : Nat} {S : ByteArray} {B sym : Int} {v e : Value} {t : TypeId} (h : Blk w g t #[.string S, .int .i64 B, .int .i64 sym, v, e]) :
    (w.cell? ⟨g, 0, none⟩ = some (.string S) ∧ w.cell? ⟨g, 1, none⟩ = some (.int .i64 B) ∧ w.cell? ⟨g, 2, none⟩ = some (.int .i64 sym) ∧ w.cell? ⟨g, 3, none⟩ = some v ∧ w.cell? ⟨g, 4, none⟩ = some e) ∧
    (w.frozen? ⟨g, 0, none⟩ = false ∧ w.frozen? ⟨g, 1, none⟩ = false ∧ w.frozen? ⟨g, 2, none⟩ = false ∧ w.frozen? ⟨g, 3, none⟩ = false ∧ w.frozen? ⟨g, 4, none⟩ = false) :=
  ⟨⟨blk_cell h 0, blk_cell h 1, blk_cell h 2, blk_cell h 3, blk_cell h 4⟩, blk_frozen h 0, blk_frozen h 1, blk_frozen h 2, blk_frozen h 3, blk_frozen h 4⟩
theorem Rd.own {w w' : World} {base g : Nat} {v : Value} {xs : List Int} (h : w.ownsRow base 3 1 v xs.length (xs.map (Value.int .i64))) (hl : g < base) (hg : w.grownBy w' (some g)) : w'.ownsRow base 3 1 v xs.length (xs.map (Value.int .i64)) := by
  refine h.kept hg ?_
  rcases hv : v.ownBlock with _ | k
  · exact .inl rfl
  · refine .inr (fun e => ?_)
    have := (h.lt k hv).1
    have : k = g := by simpa using e
    omega
theorem Rd.next {w w' : World} {base g : Nat} {S S' : ByteArray} {B B' sym : Int} {v e e' : Value} {xs : List Int} (h : Rd w base g S B sym v e xs) (hb : Blk w' g 71 #[.string S', .int .i64 B', .int .i64 sym, v, e']) (hg : w.grownBy w' (some g)) : Rd w' base g S' B' sym v e' xs :=
  ⟨hb, Rd.own h.o h.l hg, h.l, Nat.le_trans h.s hg.size⟩
theorem Rd.slice {w : World} {base g : Nat} {S : ByteArray} {B sym : Int} {v e : Value} {xs : List Int} (h : Rd w base g S B sym v e xs) : ∃ A c, v = .slice A xs.length c := by
  obtain ⟨A, c, hv, _⟩ := ints_of_own h.o
  exact ⟨A, c, hv⟩

theorem meet_c0 (g : Nat) (w : World) : Calls Try.prog 58 #[.pointer (some ⟨g, 0, none⟩), .int .i64 0] w fun r w' => r = .returned (.tuple #[]) ∧ w = w' := by
  go_enter Try.func58, Try.ntmps58
  go_wp2
  go_end0
  exact ⟨rfl, rfl⟩
theorem meet_old (g : Nat) (c d n : Int) (w : World) (he : w.cell? ⟨g, 4, none⟩ = some (spt d n)) : Calls Try.prog 58 #[.pointer (some ⟨g, 0, none⟩), .int .i64 c] w fun r w' => r = .returned (.tuple #[]) ∧ w = w' := by
  unfold spt at he
  by_cases hc : c = 0
  · subst hc; exact meet_c0 g w
  · have hcb : (c != 0) = true := by simpa using hc
    clear hc
    go_enter Try.func58, Try.ntmps58
    go_wp2
    go_end0
    exact ⟨rfl, rfl⟩
theorem meet_new (base g : Nat) (S : ByteArray) (B sym : Int) (v : Value) (xs : List Int) (c : Int) (hc : c ≠ 0) (w : World) (h : Rd w base g S B sym v .nilIface xs) :
    Calls Try.prog 58 #[.pointer (some ⟨g, 0, none⟩), .int .i64 c] w fun r w' => r = .returned (.tuple #[]) ∧ Rd w' base g S B sym v (spt c xs.length) xs ∧ w.grownBy w' (some g) := by
  have hcb : (c != 0) = true := by simpa using hc
  obtain ⟨A, cp, rfl⟩ := h.slice
  obtain ⟨⟨c0, c1, c2, c3, c4⟩, f0, f1, f2, f3, f4⟩ := rd_cells h.a
  have HN := Lib.hid (fun u (hu : u = w.setCell ⟨g, 4, none⟩ (spt c xs.length)) => (⟨hu ▸ h.next (blk_set h.a 4 (spt c xs.length)) (grown_set (grown_refl _ _) _ _), hu ▸ grown_set (grown_refl _ _) _ _⟩ : Rd u base g S B sym (.slice A xs.length cp) (spt c xs.length) xs ∧ w.grownBy u (some g)))
  clear hc h
  unfold spt at *
  go_enter Try.func58, Try.ntmps58
  go_wp2
  go_end0
  exact ⟨rfl, HN.out _ rfl⟩
end Go.Proofs.Ytaohhijjalcbiaa
